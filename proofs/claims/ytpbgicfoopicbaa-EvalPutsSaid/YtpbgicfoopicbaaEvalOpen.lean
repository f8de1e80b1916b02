/-
  Conditions and states that came in.
-/
import Derived.Test.YtpbgicfoopicbaaEvalAsk
import Derived.OpenShut
namespace Go.Proofs.Ytpbgicfoopicbaa
open Go.RowKit
set_option linter.unusedVariables false
set_option linter.unusedSimpArgs false

section
variable {H : Type} {enc : TypeId × Value → H} {w : World}
theorem ecells1i : Try.prog.cellsOf 3 = 1 := by kernel_rfl
theorem ecells1l : Try.prog.cellsOf 2 = 1 := by kernel_rfl
theorem ecells2v : Try.prog.cellsOf 68 = 2 := by kernel_rfl
theorem ecells7 : Try.prog.cellsOf 70 = 7 := by kernel_rfl
theorem ecells1s : Try.prog.cellsOf 58 = 1 := by kernel_rfl
theorem ecells5 : Try.prog.cellsOf 60 = 5 := by kernel_rfl
theorem trod_val {fuel : Nat} {c0 c1 : Value} {y : DataW H × List MemPlace} (h : DataW.trod enc Try.prog w 0 (fun _ => true) true fuel 68 [c0, c1] = some y) :
    ∃ (m n : Int), c0 = .int .i64 m ∧ c1 = .int .i64 n := by
  obtain ⟨xs, n, _, _, _, hl, hx⟩ := DataW.trod_struct Try.underlying68 h
  have hl : xs.length = 2 := hl
  have h0 : DataW.trod enc Try.prog w 0 (fun _ => true) true n 3 (([c0, c1].drop 0).take (Try.prog.cellsOf 3)) = xs[0]? := hx 0 _ rfl
  have h1 : DataW.trod enc Try.prog w 0 (fun _ => true) true n 2 (([c0, c1].drop 1).take (Try.prog.cellsOf 2)) = xs[1]? := hx 1 _ rfl
  rw [List.getElem?_eq_getElem (by omega)] at h0 h1
  rw [ecells1i] at h0
  rw [ecells1l] at h1
  obtain ⟨m, hm, _, _⟩ := DataW.trod_int Try.underlying3 h0
  obtain ⟨k, hk, _, _⟩ := DataW.trod_int Try.underlying2 h1
  simp at hm hk
  exact ⟨m, k, hm, hk⟩
theorem list7 {α : Type} {cs : List α} (h : cs.length = 7) : ∃ a b c d e f g, cs = [a, b, c, d, e, f, g] := by
  match cs, h with
  | [a, b, c, d, e, f, g], _ => exact ⟨a, b, c, d, e, f, g, rfl⟩
theorem trod_inst {fuel : Nat} {cs : List Value} {y : DataW H × List MemPlace} (h : DataW.trod enc Try.prog w 0 (fun _ => true) true fuel 70 cs = some y) :
    ∃ x : Ins, cs = x.cells ∧ True := by
  obtain ⟨xs, n, _, _, hcl, hl, hx⟩ := DataW.trod_struct Try.underlying70 h
  rw [ecells7] at hcl
  obtain ⟨c0, c1, c2, c3, c4, c5, c6, rfl⟩ := list7 hcl
  have hl : xs.length = 5 := hl
  have h0 : DataW.trod enc Try.prog w 0 (fun _ => true) true n 3 (([c0, c1, c2, c3, c4, c5, c6].drop 0).take (Try.prog.cellsOf 3)) = xs[0]? := hx 0 _ rfl
  have h1 : DataW.trod enc Try.prog w 0 (fun _ => true) true n 68 (([c0, c1, c2, c3, c4, c5, c6].drop 1).take (Try.prog.cellsOf 68)) = xs[1]? := hx 1 _ rfl
  have h2 : DataW.trod enc Try.prog w 0 (fun _ => true) true n 68 (([c0, c1, c2, c3, c4, c5, c6].drop 3).take (Try.prog.cellsOf 68)) = xs[2]? := hx 2 _ rfl
  have h3 : DataW.trod enc Try.prog w 0 (fun _ => true) true n 3 (([c0, c1, c2, c3, c4, c5, c6].drop 5).take (Try.prog.cellsOf 3)) = xs[3]? := hx 3 _ rfl
  have h4 : DataW.trod enc Try.prog w 0 (fun _ => true) true n 3 (([c0, c1, c2, c3, c4, c5, c6].drop 6).take (Try.prog.cellsOf 3)) = xs[4]? := hx 4 _ rfl
  rw [List.getElem?_eq_getElem (by omega)] at h0 h1 h2 h3 h4
  rw [ecells1i] at h0 h3 h4
  rw [ecells2v] at h1 h2
  obtain ⟨op, e0, _, _⟩ := DataW.trod_int Try.underlying3 h0
  obtain ⟨la, ln, e1, e2⟩ := trod_val (c0 := c1) (c1 := c2) h1
  obtain ⟨ra, rn, e3, e4⟩ := trod_val (c0 := c3) (c1 := c4) h2
  obtain ⟨k, e5, _, _⟩ := DataW.trod_int Try.underlying3 h3
  obtain ⟨us, e6, _, _⟩ := DataW.trod_int Try.underlying3 h4
  simp at e0 e5 e6
  subst e0 e1 e2 e3 e4 e5 e6
  exact ⟨⟨op, la, ln, ra, rn, k, us⟩, rfl, trivial⟩
theorem eadd_add (x : Addr) (m j : Nat) : (x.add m).add j = x.add (m + j) := by
  unfold Addr.add
  by_cases h1 : m = 0 <;> by_cases h2 : j = 0 <;> simp [h1, h2, Nat.add_assoc]
/-- Elements of several cells that came in (as in Item). -/
theorem eopen_recs {P : Program} {α : Type} {t e : TypeId} {a : Option Addr} {len cap k : Nat} {d : DataW H} {ps : List MemPlace} (cells : α → List Value) (Q : α → Prop)
    (hk : ∀ x, (cells x).length = k) (ht : P.underlying t = some (.slice e)) (hce : P.cellsOf e = k) (h0 : 0 < k)
    (hel : ∀ fuel cs y, DataW.trod enc P w 0 (fun _ => true) true fuel e cs = some y → ∃ x : α, cs = cells x ∧ Q x)
    (h : DataW.Trod enc P w 0 (fun _ => true) true t (.slice a len cap) d ps) :
    ∃ l : List α, l.length = len ∧ Reads w a (Rec.flat cells l) ∧ (∀ x ∈ l, Q x) ∧ l.length ≤ maxLen := by
  obtain ⟨fuel, hf⟩ := h
  rcases DataW.trod_slice ht hf with ⟨hcs, _⟩ | ⟨x, l, c, elems, rest, n, _, hcs, _, _, hl, hm, hlen, helm, _⟩
  · simp [Value.cells] at hcs
    obtain ⟨rfl, rfl, rfl⟩ := hcs
    exact ⟨[], rfl, Or.inl rfl, by simp, by simp⟩
  · simp [Value.cells] at hcs
    obtain ⟨rfl, rfl, rfl⟩ := hcs
    by_cases hl0 : len = 0
    · subst hl0
      exact ⟨[], rfl, Or.inl rfl, by simp, by simp⟩
    · have each : ∀ i, i < len → ∃ y : α, (∀ j, j < k → w.cell? (x.add (i * k + j)) = (cells y)[j]?) ∧ Q y := by
        intro i hi
        have h1 := helm i hi
        rw [hce, List.getElem?_eq_getElem (by omega), Option.bind_eq_some_iff] at h1
        obtain ⟨cs, hcs, hy⟩ := h1
        obtain ⟨y, hcy, hQ⟩ := hel _ _ _ hy
        refine ⟨y, fun j hj => ?_, hQ⟩
        have h2 := (World.cells?_some hcs).2.2 j hj
        rw [hcy] at h2
        rw [← h2]
        rw [eadd_add]
      obtain ⟨b, off, spot⟩ := x
      obtain ⟨y0, hc0, _⟩ := each 0 (by omega)
      have hspot : spot = none := by
        have h3 := hc0 0 h0
        rw [List.getElem?_eq_getElem (by rw [hk]; exact h0)] at h3
        have := World.cell?_spot h3
        simpa [Addr.add] using this
      subst hspot
      have hadd : ∀ i, (⟨b, off, none⟩ : Addr).add i = ⟨b, off + i, none⟩ := fun i => by unfold Addr.add; split <;> simp_all
      have each2 : ∀ i : Nat, ∃ y : α, i < len → (∀ j, j < k → w.cell? ⟨b, off + (i * k + j), none⟩ = (cells y)[j]?) ∧ Q y := fun i => by
        by_cases hi : i < len
        · obtain ⟨y, h1, h2⟩ := each i hi
          exact ⟨y, fun _ => ⟨fun j hj => by rw [← hadd]; exact h1 j hj, h2⟩⟩
        · exact ⟨y0, fun h => absurd h hi⟩
      obtain ⟨f, hf2⟩ := Classical.axiomOfChoice each2
      refine ⟨(List.range len).map f, by simp, Or.inr ⟨b, off, rfl, fun j hj => ?_⟩, fun y hy => ?_, by simp; omega⟩
      · rw [Rec.flat_len hk] at hj
        simp only [List.length_map, List.length_range] at hj
        have h1 : j / k < len := (Nat.div_lt_iff_lt_mul h0).2 hj
        have h2 : j = j / k * k + j % k := by rw [Nat.mul_comm]; exact (Nat.div_add_mod j k).symm
        conv => rhs; rw [h2, Rec.flat_at hk _ _ _ (by simpa using h1) (Nat.mod_lt _ h0)]
        have h3 := (hf2 _ h1).1 _ (Nat.mod_lt j h0)
        have h4 : j / k * k + j % k = j := h2.symm
        rw [h4] at h3
        rw [h3]
        simp
      · obtain ⟨i, hi, rfl⟩ := List.mem_map.1 hy
        exact (hf2 i (List.mem_range.1 hi)).2
theorem open_insts {a : Option Addr} {len cap : Nat} {d : DataW H} {ps : List MemPlace} (h : DataW.Trod enc Try.prog w 0 (fun _ => true) true 52 (.slice a len cap) d ps) :
    ∃ l : List Ins, l.length = len ∧ RdL w a l ∧ True ∧ l.length ≤ maxLen := by
  obtain ⟨l, h1, h2, _, h4⟩ := eopen_recs Ins.cells (fun _ => True) Ins.cells_len Try.underlying52 ecells7 (by omega) (fun _ _ _ h => trod_inst h) h
  exact ⟨l, h1, h2, trivial, h4⟩
theorem list5 {α : Type} {cs : List α} (h : cs.length = 5) : ∃ a b c d e, cs = [a, b, c, d, e] := by
  match cs, h with
  | [a, b, c, d, e], _ => exact ⟨a, b, c, d, e, rfl⟩
set_option maxRecDepth 100000 in
theorem open_state {r : Reach} {b0 : Nat} {v : Value} {d : DataW H} {ps : List MemPlace} (hv : Value.okWide Try.prog w r b0 60 v) (h : DataW.Trod enc Try.prog w 0 (fun _ => true) true 60 v d ps) :
    ∃ s : Sta, v = s.val ∧ RdV w s := by
  unfold Value.okWide at hv
  rw [Try.underlying60] at hv
  obtain ⟨cs, rfl, hsz, _⟩ := hv
  obtain ⟨cs⟩ := cs
  obtain ⟨fuel, hf⟩ := h
  have hf : DataW.trod enc Try.prog w 0 (fun _ => true) true fuel 60 cs = some (d, ps) := by simpa [Value.cells] using hf
  obtain ⟨xs, n, _, _, hcl, hl, hx⟩ := DataW.trod_struct Try.underlying60 hf
  rw [ecells5] at hcl
  obtain ⟨c0, c1, c2, c3, c4, rfl⟩ := list5 hcl
  have hl : xs.length = 5 := hl
  have h0 : DataW.trod enc Try.prog w 0 (fun _ => true) true n 58 (([c0, c1, c2, c3, c4].drop 0).take (Try.prog.cellsOf 58)) = xs[0]? := hx 0 _ rfl
  have h1 : DataW.trod enc Try.prog w 0 (fun _ => true) true n 3 (([c0, c1, c2, c3, c4].drop 1).take (Try.prog.cellsOf 3)) = xs[1]? := hx 1 _ rfl
  have h2 : DataW.trod enc Try.prog w 0 (fun _ => true) true n 3 (([c0, c1, c2, c3, c4].drop 2).take (Try.prog.cellsOf 3)) = xs[2]? := hx 2 _ rfl
  rw [List.getElem?_eq_getElem (by omega)] at h0 h1 h2
  rw [ecells1s] at h0
  rw [ecells1i] at h1 h2
  obtain ⟨op, e1, _, _⟩ := DataW.trod_int Try.underlying3 h1
  obtain ⟨dn, e2, _, _⟩ := DataW.trod_int Try.underlying3 h2
  simp at e1 e2
  have hform : ∃ a l c, c0 = .slice a l c := by
    rcases DataW.trod_slice Try.underlying58 h0 with ⟨hcs, _⟩ | ⟨x, l, c, _, _, _, _, hcs, _⟩
    · simp at hcs; exact ⟨_, _, _, hcs⟩
    · simp at hcs; exact ⟨_, _, _, hcs⟩
  obtain ⟨a, len, c, rfl⟩ := hform
  obtain ⟨vs, hvs, hr, _, hm⟩ : ∃ vs : List Int, vs.length = len ∧ Reads w a (vs.map (Value.int .i64)) ∧ (∀ x ∈ vs, (Lit.int .i64 x).wf = true) ∧ vs.length ≤ maxLen := open_row (len := len) (cap := c) (d := xs[0].1) (ps := xs[0].2) Try.underlying58 Try.underlying2 ecells1l ⟨n, by simpa [Value.cells] using h0⟩
  subst hvs e1 e2
  exact ⟨⟨vs, a, c, op, dn, c3, c4⟩, rfl, hr, hm⟩
end
theorem trod_len {H : Type} {enc : TypeId × Value → H} {P : Program} {w : World} {t e : TypeId} {a : Option Addr} {len cap : Nat} {d : DataW H} {ps : List MemPlace}
    (ht : P.underlying t = some (.slice e)) (h : DataW.Trod enc P w 0 (fun _ => true) true t (.slice a len cap) d ps) : len = 0 ∨ ∃ el sp, d = .slice el sp ∧ len = el.length := by
  obtain ⟨fuel, hf⟩ := h
  rcases DataW.trod_slice ht hf with ⟨hcs, _⟩ | ⟨x, l, c, elems, rest, n, _, hcs, hx, _, hl, hm, hlen, hel, _⟩
  · simp [Value.cells] at hcs
    exact Or.inl hcs.2.1
  · simp [Value.cells] at hcs
    simp only [Prod.mk.injEq] at hx
    exact Or.inr ⟨_, _, hx.1, by simp; omega⟩
end Go.Proofs.Ytpbgicfoopicbaa
