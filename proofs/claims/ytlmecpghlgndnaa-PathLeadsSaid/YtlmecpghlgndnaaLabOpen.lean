/-
  A list of lists of ints that came in, opened.
-/
import Derived.Test.YtlmecpghlgndnaaLabFroms
namespace Go.Proofs.Ytlmecpghlgndnaa
open Go.RowKit
set_option linter.unusedVariables false
set_option linter.unusedSimpArgs false

theorem open_grid {H : Type} {enc : TypeId × Value → H} {P : Program} {w : World} {t e e2 : TypeId} {a : Option Addr} {len cap : Nat} {d : DataW H} {ps : List MemPlace}
    (ht : P.underlying t = some (.slice e)) (he : P.underlying e = some (.slice e2)) (he2 : P.underlying e2 = some (.int .i64)) (hc : P.cellsOf e = 1) (hc2 : P.cellsOf e2 = 1) (h : DataW.Trod enc P w 0 (fun _ => true) true t (.slice a len cap) d ps) :
    ∃ nx : List (List Int), nx.length = len ∧ RdG w a nx ∧ nx.length ≤ maxLen ∧ ∀ i, (Lb.row nx i).length ≤ maxLen := by
  obtain ⟨fuel, hf⟩ := h
  rcases DataW.trod_slice ht hf with ⟨hcs, _⟩ | ⟨x, l, c, elems, rest, n, _, hcs, _, _, hl, hm, hlen, hel, _⟩
  · simp [Value.cells] at hcs
    obtain ⟨rfl, rfl, rfl⟩ := hcs
    exact ⟨[], rfl, ⟨[], Or.inl rfl, rfl, fun i x hx => by simp at hx⟩, by unfold maxLen; simp, fun i => by simp [Lb.row]⟩
  · simp [Value.cells] at hcs
    obtain ⟨rfl, rfl, rfl⟩ := hcs
    by_cases h0 : len = 0
    · subst h0
      exact ⟨[], rfl, ⟨[], Or.inl rfl, rfl, fun i x hx => by simp at hx⟩, by unfold maxLen; simp, fun i => by simp [Lb.row]⟩
    · have each : ∀ i, i < len → ∃ (row : List Int) (ra : Option Addr) (rc : Nat), w.cell? (x.add i) = some (.slice ra row.length rc) ∧ Reads w ra (row.map (Value.int .i64)) ∧ row.length ≤ maxLen := by
        intro i hi
        have h1 := hel i hi
        have h2 : elems[i]? = some (elems[i]'(by omega)) := List.getElem?_eq_getElem (by omega)
        rw [hc, Nat.mul_one] at h1
        generalize elems[i]'(by omega) = y at h2
        rw [h2, Option.bind_eq_some_iff] at h1
        obtain ⟨cs', hcs, hy⟩ := h1
        obtain ⟨u, hu⟩ : ∃ u, cs' = [u] := by
          exact List.length_eq_one_iff.1 (World.cells?_some hcs).2.1
        subst hu
        have hcell := Go.ChangeShapes.cell_of_cells?_one hcs
        have hT : ∃ (ra : Option Addr) (li ci : Nat), u = .slice ra li ci := by
          rcases Go.ChangeShapes.open_ints he he2 hc2 hy with ⟨h3, _⟩ | ⟨x', l', c', zs, h3, _⟩
          · simp at h3; exact ⟨_, _, _, h3⟩
          · simp at h3; exact ⟨_, _, _, h3⟩
        obtain ⟨ra, li, ci, rfl⟩ := hT
        obtain ⟨xs, h4, h5, _, h6⟩ := open_row (a := ra) (len := li) (cap := ci) (d := y.1) (ps := y.2) he he2 hc2 ⟨n, by simpa [Value.cells] using hy⟩
        exact ⟨xs, ra, ci, by rw [h4]; exact hcell, h5, h6⟩
      obtain ⟨b, off, spot⟩ := x
      obtain ⟨r0, ra0, rc0, hc0, _⟩ := each 0 (by omega)
      have hspot : spot = none := by simpa [Addr.add] using World.cell?_spot hc0
      subst hspot
      have hadd : ∀ i, (⟨b, off, none⟩ : Addr).add i = ⟨b, off + i, none⟩ := fun i => by unfold Addr.add; split <;> simp_all
      have each2 : ∀ i : Nat, ∃ p : List Int × Option Addr × Nat, i < len → w.cell? ⟨b, off + i, none⟩ = some (.slice p.2.1 p.1.length p.2.2) ∧ Reads w p.2.1 (p.1.map (Value.int .i64)) ∧ p.1.length ≤ maxLen := fun i => by
        by_cases hi : i < len
        · obtain ⟨r, ra, rc, h1, h2, h3⟩ := each i hi
          exact ⟨(r, ra, rc), fun _ => ⟨by rw [← hadd]; exact h1, h2, h3⟩⟩
        · exact ⟨([], none, 0), fun h => absurd h hi⟩
      obtain ⟨f, hf2⟩ := Classical.axiomOfChoice each2
      have hrow : ∀ i, i < len → Lb.row ((List.range len).map (fun i => (f i).1)) i = (f i).1 := fun i hi => by
        unfold Lb.row
        rw [List.getD_eq_getElem?_getD, List.getElem?_map, List.getElem?_range hi]; rfl
      refine ⟨(List.range len).map (fun i => (f i).1), by simp, ⟨(List.range len).map (fun i => .slice (f i).2.1 (f i).1.length (f i).2.2), Or.inr ⟨b, off, rfl, fun j hj => ?_⟩, by simp, fun i x hx => ?_⟩, by simp; omega, fun i => ?_⟩
      · have hj : j < len := by simpa using hj
        rw [(hf2 j hj).1, List.getElem?_map, List.getElem?_range hj]; rfl
      · have hi : i < len := by have := (List.getElem?_eq_some_iff.1 hx).1; simpa using this
        rw [List.getElem?_map, List.getElem?_range hi] at hx
        simp at hx
        rw [hrow i hi]
        exact ⟨_, _, hx.symm, (hf2 i hi).2.1⟩
      · by_cases hi : i < len
        · rw [hrow i hi]; exact (hf2 i hi).2.2
        · unfold Lb.row
          rw [List.getD_eq_getElem?_getD, List.getElem?_eq_none (by simp; omega)]; simp
/-- A list of truths that came in. -/
theorem open_bools {H : Type} {enc : TypeId × Value → H} {P : Program} {w : World} {t e : TypeId} {a : Option Addr} {len cap : Nat} {d : DataW H} {ps : List MemPlace}
    (ht : P.underlying t = some (.slice e)) (he : P.underlying e = some .bool) (hc : P.cellsOf e = 1) (h : DataW.Trod enc P w 0 (fun _ => true) true t (.slice a len cap) d ps) :
    ∃ xs : List Bool, xs.length = len ∧ Reads w a (xs.map Value.bool) ∧ xs.length ≤ maxLen := by
  obtain ⟨fuel, hf⟩ := h
  rcases DataW.trod_slice ht hf with ⟨hcs, _⟩ | ⟨x, l, c, elems, rest, n, _, hcs, _, _, hl, hm, hlen, hel, _⟩
  · simp [Value.cells] at hcs
    obtain ⟨rfl, rfl, rfl⟩ := hcs
    exact ⟨[], rfl, Or.inl rfl, by unfold maxLen; simp⟩
  · simp [Value.cells] at hcs
    obtain ⟨rfl, rfl, rfl⟩ := hcs
    by_cases h0 : len = 0
    · subst h0
      exact ⟨[], rfl, Or.inl rfl, by unfold maxLen; simp⟩
    · have each : ∀ i, i < len → ∃ b : Bool, w.cell? (x.add i) = some (.bool b) := by
        intro i hi
        have h1 := hel i hi
        have h2 : elems[i]? = some (elems[i]'(by omega)) := List.getElem?_eq_getElem (by omega)
        rw [hc, Nat.mul_one] at h1
        generalize elems[i]'(by omega) = y at h2
        rw [h2, Option.bind_eq_some_iff] at h1
        obtain ⟨cs', hcs, hy⟩ := h1
        obtain ⟨b, rfl, _⟩ := DataW.trod_bool he hy
        exact ⟨b, Go.ChangeShapes.cell_of_cells?_one hcs⟩
      obtain ⟨b, off, spot⟩ := x
      obtain ⟨r0, hc0⟩ := each 0 (by omega)
      have hspot : spot = none := by simpa [Addr.add] using World.cell?_spot hc0
      subst hspot
      have hadd : ∀ i, (⟨b, off, none⟩ : Addr).add i = ⟨b, off + i, none⟩ := fun i => by unfold Addr.add; split <;> simp_all
      have each2 : ∀ i : Nat, ∃ p : Bool, i < len → w.cell? ⟨b, off + i, none⟩ = some (.bool p) := fun i => by
        by_cases hi : i < len
        · obtain ⟨r, h1⟩ := each i hi
          exact ⟨r, fun _ => by rw [← hadd]; exact h1⟩
        · exact ⟨false, fun h => absurd h hi⟩
      obtain ⟨f, hf2⟩ := Classical.axiomOfChoice each2
      refine ⟨(List.range len).map f, by simp, Or.inr ⟨b, off, rfl, fun j hj => ?_⟩, by simp; omega⟩
      have hj : j < len := by simpa using hj
      rw [hf2 j hj, List.getElem?_map, List.getElem?_map, List.getElem?_range hj]; rfl
/-- How long a slice that came in is, as its datum says it. -/
theorem trod_len {H : Type} {enc : TypeId × Value → H} {P : Program} {w : World} {t e : TypeId} {a : Option Addr} {len cap : Nat} {d : DataW H} {ps : List MemPlace}
    (ht : P.underlying t = some (.slice e)) (h : DataW.Trod enc P w 0 (fun _ => true) true t (.slice a len cap) d ps) : len = 0 ∨ ∃ el sp, d = .slice el sp ∧ len = el.length := by
  obtain ⟨fuel, hf⟩ := h
  rcases DataW.trod_slice ht hf with ⟨hcs, _⟩ | ⟨x, l, c, elems, rest, n, _, hcs, hx, _, hl, hm, hlen, hel, _⟩
  · simp [Value.cells] at hcs
    exact Or.inl hcs.2.1
  · simp [Value.cells] at hcs
    simp only [Prod.mk.injEq] at hx
    exact Or.inr ⟨_, _, hx.1, by simp; omega⟩
end Go.Proofs.Ytlmecpghlgndnaa
