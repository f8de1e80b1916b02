/-
  Statements that came in, as they lie in memory.
-/
import Derived.Test.YtpbgicfoopicbaaNamPlain
import Derived.OpenShut
import Derived.Deep.MidRow
namespace Go.Proofs.Ytpbgicfoopicbaa
open Go.RowKit
set_option linter.unusedVariables false
set_option linter.unusedSimpArgs false

theorem list12 {α : Type} {cs : List α} (h : cs.length = 12) : ∃ a b c d e f g i j k l m, cs = [a, b, c, d, e, f, g, i, j, k, l, m] := by
  match cs, h with
  | [a, b, c, d, e, f, g, i, j, k, l, m], _ => exact ⟨a, b, c, d, e, f, g, i, j, k, l, m, rfl⟩
/-- It may be a statement of the program's. -/
structure St.fit (x : St) : Prop where
  kind : -9223372036854775808 ≤ x.kind ∧ x.kind ≤ 9223372036854775807
  name : x.name.size ≤ maxLen
  one : ∀ v ∈ x.cells, v.oneCell' = true
section
variable {H : Type} {enc : TypeId × Value → H} {w : World}
theorem sc1i : Try.prog.cellsOf 3 = 1 := by kernel_rfl
theorem sc1l : Try.prog.cellsOf 2 = 1 := by kernel_rfl
theorem sc1s : Try.prog.cellsOf 9 = 1 := by kernel_rfl
theorem sc1b : Try.prog.cellsOf 4 = 1 := by kernel_rfl
theorem sc2p : Try.prog.cellsOf 40 = 2 := by kernel_rfl
theorem sc1n : Try.prog.cellsOf 92 = 1 := by kernel_rfl
theorem sc1t : Try.prog.cellsOf 22 = 1 := by kernel_rfl
theorem sc12 : Try.prog.cellsOf 94 = 12 := by kernel_rfl
theorem strod_pos {fuel : Nat} {c0 c1 : Value} {y : DataW H × List MemPlace} (h : DataW.trod enc Try.prog w 0 (fun _ => true) true fuel 40 [c0, c1] = some y) :
    ∃ (m n : Int), c0 = .int .i64 m ∧ c1 = .int .i64 n := by
  obtain ⟨xs, n, _, _, _, hl, hx⟩ := DataW.trod_struct Try.underlying40 h
  have hl : xs.length = 2 := hl
  have h0 : DataW.trod enc Try.prog w 0 (fun _ => true) true n 3 (([c0, c1].drop 0).take (Try.prog.cellsOf 3)) = xs[0]? := hx 0 _ rfl
  have h1 : DataW.trod enc Try.prog w 0 (fun _ => true) true n 3 (([c0, c1].drop 1).take (Try.prog.cellsOf 3)) = xs[1]? := hx 1 _ rfl
  rw [List.getElem?_eq_getElem (by omega)] at h0 h1
  rw [sc1i] at h0 h1
  obtain ⟨m, hm, _, _⟩ := DataW.trod_int Try.underlying3 h0
  obtain ⟨k, hk, _, _⟩ := DataW.trod_int Try.underlying3 h1
  simp at hm hk
  exact ⟨m, k, hm, hk⟩
theorem slice_one {P : Program} {t e : TypeId} {fuel : Nat} {c : Value} {y : DataW H × List MemPlace} (ht : P.underlying t = some (.slice e)) (h : DataW.trod enc P w 0 (fun _ => true) true fuel t [c] = some y) : c.oneCell' = true := by
  rcases DataW.trod_slice ht h with ⟨hcs, _⟩ | ⟨x, l, cp, elems, rest, n, _, hcs, _⟩
  · simp at hcs; subst hcs; rfl
  · simp at hcs; subst hcs; rfl
set_option maxHeartbeats 1000000 in
theorem trod_stmt {fuel : Nat} {cs : List Value} {y : DataW H × List MemPlace} (h : DataW.trod enc Try.prog w 0 (fun _ => true) true fuel 94 cs = some y) :
    ∃ x : St, cs = x.cells ∧ x.fit := by
  obtain ⟨xs, n, _, _, hcl, hl, hx⟩ := DataW.trod_struct Try.underlying94 h
  rw [sc12] at hcl
  obtain ⟨c0, c1, c2, c3, c4, c5, c6, c7, c8, c9, c10, c11, rfl⟩ := list12 hcl
  have hl : xs.length = 11 := hl
  have h0 : DataW.trod enc Try.prog w 0 (fun _ => true) true n 3 (([c0, c1, c2, c3, c4, c5, c6, c7, c8, c9, c10, c11].drop 0).take (Try.prog.cellsOf 3)) = xs[0]? := hx 0 _ rfl
  have h1 : DataW.trod enc Try.prog w 0 (fun _ => true) true n 9 (([c0, c1, c2, c3, c4, c5, c6, c7, c8, c9, c10, c11].drop 1).take (Try.prog.cellsOf 9)) = xs[1]? := hx 1 _ rfl
  have h2 : DataW.trod enc Try.prog w 0 (fun _ => true) true n 40 (([c0, c1, c2, c3, c4, c5, c6, c7, c8, c9, c10, c11].drop 2).take (Try.prog.cellsOf 40)) = xs[2]? := hx 2 _ rfl
  have h3 : DataW.trod enc Try.prog w 0 (fun _ => true) true n 2 (([c0, c1, c2, c3, c4, c5, c6, c7, c8, c9, c10, c11].drop 4).take (Try.prog.cellsOf 2)) = xs[3]? := hx 3 _ rfl
  have h4 : DataW.trod enc Try.prog w 0 (fun _ => true) true n 92 (([c0, c1, c2, c3, c4, c5, c6, c7, c8, c9, c10, c11].drop 5).take (Try.prog.cellsOf 92)) = xs[4]? := hx 4 _ rfl
  have h5 : DataW.trod enc Try.prog w 0 (fun _ => true) true n 9 (([c0, c1, c2, c3, c4, c5, c6, c7, c8, c9, c10, c11].drop 6).take (Try.prog.cellsOf 9)) = xs[5]? := hx 5 _ rfl
  have h6 : DataW.trod enc Try.prog w 0 (fun _ => true) true n 9 (([c0, c1, c2, c3, c4, c5, c6, c7, c8, c9, c10, c11].drop 7).take (Try.prog.cellsOf 9)) = xs[6]? := hx 6 _ rfl
  have h7 : DataW.trod enc Try.prog w 0 (fun _ => true) true n 9 (([c0, c1, c2, c3, c4, c5, c6, c7, c8, c9, c10, c11].drop 8).take (Try.prog.cellsOf 9)) = xs[7]? := hx 7 _ rfl
  have h8 : DataW.trod enc Try.prog w 0 (fun _ => true) true n 3 (([c0, c1, c2, c3, c4, c5, c6, c7, c8, c9, c10, c11].drop 9).take (Try.prog.cellsOf 3)) = xs[8]? := hx 8 _ rfl
  have h9 : DataW.trod enc Try.prog w 0 (fun _ => true) true n 22 (([c0, c1, c2, c3, c4, c5, c6, c7, c8, c9, c10, c11].drop 10).take (Try.prog.cellsOf 22)) = xs[9]? := hx 9 _ rfl
  have h10 : DataW.trod enc Try.prog w 0 (fun _ => true) true n 4 (([c0, c1, c2, c3, c4, c5, c6, c7, c8, c9, c10, c11].drop 11).take (Try.prog.cellsOf 4)) = xs[10]? := hx 10 _ rfl
  rw [List.getElem?_eq_getElem (by omega)] at h0 h1 h2 h3 h4 h5 h6 h7 h8 h9 h10
  rw [sc1i] at h0 h8
  rw [sc1s] at h1 h5 h6 h7
  rw [sc2p] at h2
  rw [sc1l] at h3
  rw [sc1n] at h4
  rw [sc1t] at h9
  rw [sc1b] at h10
  obtain ⟨k, e0, _, w0⟩ := DataW.trod_int Try.underlying3 h0
  obtain ⟨nm, e1, _, z1⟩ := DataW.trod_string Try.underlying9 h1
  obtain ⟨li, co, e2, e3⟩ := strod_pos (c0 := c2) (c1 := c3) h2
  obtain ⟨i4, e4, _, _⟩ := DataW.trod_int Try.underlying2 h3
  have o5 := slice_one (c := c5) Try.underlying92 h4
  obtain ⟨s6, e6, _, _⟩ := DataW.trod_string Try.underlying9 h5
  obtain ⟨s7, e7, _, _⟩ := DataW.trod_string Try.underlying9 h6
  obtain ⟨s8, e8, _, _⟩ := DataW.trod_string Try.underlying9 h7
  obtain ⟨i9, e9, _, _⟩ := DataW.trod_int Try.underlying3 h8
  have o10 := slice_one (c := c10) Try.underlying22 h9
  obtain ⟨b11, e11, _⟩ := DataW.trod_bool Try.underlying4 h10
  simp at e0 e1 e4 e6 e7 e8 e9 e11
  subst e0 e1 e2 e3 e4 e6 e7 e8 e9 e11
  refine ⟨⟨k, nm, li, co, _, _, _, _, _, _, _, _⟩, rfl, ⟨bounds_i64 w0, z1, fun v hv => ?_⟩⟩
  simp only [St.cells, List.mem_cons, List.not_mem_nil, or_false] at hv
  rcases hv with rfl | rfl | rfl | rfl | rfl | rfl | rfl | rfl | rfl | rfl | rfl | rfl
  all_goals first | rfl | exact o5 | exact o10
theorem sadd_add (x : Addr) (m j : Nat) : (x.add m).add j = x.add (m + j) := by
  unfold Addr.add
  by_cases h1 : m = 0 <;> by_cases h2 : j = 0 <;> simp [h1, h2, Nat.add_assoc]
/-- Elements of several cells that came in. -/
theorem sopen_recs {P : Program} {α : Type} {t e : TypeId} {a : Option Addr} {len cap k : Nat} {d : DataW H} {ps : List MemPlace} (cells : α → List Value) (Q : α → Prop)
    (hk : ∀ x, (cells x).length = k) (ht : P.underlying t = some (.slice e)) (hce : P.cellsOf e = k) (h0 : 0 < k)
    (hel : ∀ fuel cs y, DataW.trod enc P w 0 (fun _ => true) true fuel e cs = some y → ∃ x : α, cs = cells x ∧ Q x)
    (h : DataW.Trod enc P w 0 (fun _ => true) true t (.slice a len cap) d ps) :
    ∃ l : List α, l.length = len ∧ Reads w a (Rec.flat cells l) ∧ (∀ x ∈ l, Q x) ∧ l.length ≤ maxLen := by
  obtain ⟨fuel, hf⟩ := h
  rcases DataW.trod_slice ht hf with ⟨hcs, _⟩ | ⟨x, l, c, elems, rest, n, _, hcs, _, _, hl, hm, hlen, helm, _⟩
  · simp [Value.cells] at hcs
    obtain ⟨rfl, rfl, rfl⟩ := hcs
    exact ⟨[], rfl, Or.inl rfl, by simp, by simp⟩
  · simp [Value.cells] at hcs
    obtain ⟨rfl, rfl, rfl⟩ := hcs
    by_cases hl0 : len = 0
    · subst hl0
      exact ⟨[], rfl, Or.inl rfl, by simp, by simp⟩
    · have each : ∀ i, i < len → ∃ y : α, (∀ j, j < k → w.cell? (x.add (i * k + j)) = (cells y)[j]?) ∧ Q y := by
        intro i hi
        have h1 := helm i hi
        rw [hce, List.getElem?_eq_getElem (by omega), Option.bind_eq_some_iff] at h1
        obtain ⟨cs, hcs, hy⟩ := h1
        obtain ⟨y, hcy, hQ⟩ := hel _ _ _ hy
        refine ⟨y, fun j hj => ?_, hQ⟩
        have h2 := (World.cells?_some hcs).2.2 j hj
        rw [hcy] at h2
        rw [← h2]
        rw [sadd_add]
      obtain ⟨b, off, spot⟩ := x
      obtain ⟨y0, hc0, _⟩ := each 0 (by omega)
      have hspot : spot = none := by
        have h3 := hc0 0 h0
        rw [List.getElem?_eq_getElem (by rw [hk]; exact h0)] at h3
        have := World.cell?_spot h3
        simpa [Addr.add] using this
      subst hspot
      have hadd : ∀ i, (⟨b, off, none⟩ : Addr).add i = ⟨b, off + i, none⟩ := fun i => by unfold Addr.add; split <;> simp_all
      have each2 : ∀ i : Nat, ∃ y : α, i < len → (∀ j, j < k → w.cell? ⟨b, off + (i * k + j), none⟩ = (cells y)[j]?) ∧ Q y := fun i => by
        by_cases hi : i < len
        · obtain ⟨y, h1, h2⟩ := each i hi
          exact ⟨y, fun _ => ⟨fun j hj => by rw [← hadd]; exact h1 j hj, h2⟩⟩
        · exact ⟨y0, fun h => absurd h hi⟩
      obtain ⟨f, hf2⟩ := Classical.axiomOfChoice each2
      refine ⟨(List.range len).map f, by simp, Or.inr ⟨b, off, rfl, fun j hj => ?_⟩, fun y hy => ?_, by simp; omega⟩
      · rw [Rec.flat_len hk] at hj
        simp only [List.length_map, List.length_range] at hj
        have h1 : j / k < len := (Nat.div_lt_iff_lt_mul h0).2 hj
        have h2 : j = j / k * k + j % k := by rw [Nat.mul_comm]; exact (Nat.div_add_mod j k).symm
        conv => rhs; rw [h2, Rec.flat_at hk _ _ _ (by simpa using h1) (Nat.mod_lt _ h0)]
        have h3 := (hf2 _ h1).1 _ (Nat.mod_lt j h0)
        have h4 : j / k * k + j % k = j := h2.symm
        rw [h4] at h3
        rw [h3]
        simp
      · obtain ⟨i, hi, rfl⟩ := List.mem_map.1 hy
        exact (hf2 i (List.mem_range.1 hi)).2
end
/-- A list of statements lies from there on. -/
def RdS (w : World) (a : Option Addr) (l : List St) : Prop := Reads w a (Rec.flat St.cells l)
theorem RdS.mono {w w' : World} {B : Nat} {a : Option Addr} {l : List St} (h : RdS w a l) (hb : Below B w w') (hB : w.heap.size ≤ B) : RdS w' a l := Reads.mono h hb hB
theorem RdS.at {w : World} {a : Option Addr} {l : List St} (h : RdS w a l) (hp : 0 < l.length) :
    ∃ b off, a = some ⟨b, off, none⟩ ∧ ∀ i (hi : i < l.length), w.rangeAt b (off + i * 12) l[i].cells := by
  obtain ⟨b, off, rfl, hc⟩ := Reads.at h (by rw [Rec.flat_len St.cells_len]; omega)
  refine ⟨b, off, rfl, fun i hi j v hv => ?_⟩
  have hj : j < 12 := by rw [← St.cells_len l[i]]; exact (List.getElem?_eq_some_iff.1 hv).1
  have := hc (i * 12 + j) (by rw [Rec.flat_len St.cells_len]; omega)
  rw [Rec.flat_at St.cells_len l i j hi hj] at this
  rw [Nat.add_assoc, this, hv]
theorem open_stmts {H : Type} {enc : TypeId × Value → H} {w : World} {a : Option Addr} {len cap : Nat} {d : DataW H} {ps : List MemPlace} (h : DataW.Trod enc Try.prog w 0 (fun _ => true) true 45 (.slice a len cap) d ps) :
    ∃ l : List St, l.length = len ∧ RdS w a l ∧ (∀ x ∈ l, x.fit) ∧ l.length ≤ maxLen :=
  sopen_recs St.cells St.fit St.cells_len Try.underlying45 sc12 (by omega) (fun _ _ _ h => trod_stmt h) h
theorem obel_alloc (w : World) (o : Obj) : Below w.heap.size w (w.alloc o) := (Below.refl _ _).alloc (Nat.le_refl _) o
/-- A copy of a statement, in a block of its own. -/
theorem copy_at (W : World) (x : St) : (W.alloc (.cells #[.int .i64 0, .string { data := #[] }, .int .i64 0, .int .i64 0, .int .i64 0, .slice none 0 0, .string { data := #[] }, .string { data := #[] }, .string { data := #[] }, .int .i64 0, .slice none 0 0, .bool false] 94)).there W.heap.size 0 12 ∧ ((W.alloc (.cells #[.int .i64 0, .string { data := #[] }, .int .i64 0, .int .i64 0, .int .i64 0, .slice none 0 0, .string { data := #[] }, .string { data := #[] }, .string { data := #[] }, .int .i64 0, .slice none 0 0, .bool false] 94)).setCells W.heap.size 0 x.cells).rangeAt W.heap.size 0 x.cells ∧ Below W.heap.size W ((W.alloc (.cells #[.int .i64 0, .string { data := #[] }, .int .i64 0, .int .i64 0, .int .i64 0, .slice none 0 0, .string { data := #[] }, .string { data := #[] }, .string { data := #[] }, .int .i64 0, .slice none 0 0, .bool false] 94)).setCells W.heap.size 0 x.cells) := by
  have th : (W.alloc (.cells #[.int .i64 0, .string { data := #[] }, .int .i64 0, .int .i64 0, .int .i64 0, .slice none 0 0, .string { data := #[] }, .string { data := #[] }, .string { data := #[] }, .int .i64 0, .slice none 0 0, .bool false] 94)).there W.heap.size 0 12 := fun j hj => by
    have h1 := heap_alloc_new W (.cells #[.int .i64 0, .string { data := #[] }, .int .i64 0, .int .i64 0, .int .i64 0, .slice none 0 0, .string { data := #[] }, .string { data := #[] }, .string { data := #[] }, .int .i64 0, .slice none 0 0, .bool false] 94)
    refine ⟨?_, ?_⟩
    · rw [cell_of_row _ _ _ _ _ _ h1, Nat.zero_add, Array.getElem?_eq_getElem (by simp; omega)]; rfl
    · unfold World.frozen?; rw [h1]; simp
  refine ⟨th, World.rangeAt_setCells_same _ _ _ _ (by rw [St.cells_len]; exact th), ?_⟩
  exact (obel_alloc W _).trans ((Keeps.setCells (S := fun j => j = W.heap.size) rfl x.cells 0 (W.alloc (.cells #[.int .i64 0, .string { data := #[] }, .int .i64 0, .int .i64 0, .int .i64 0, .slice none 0 0, .string { data := #[] }, .string { data := #[] }, .string { data := #[] }, .int .i64 0, .slice none 0 0, .bool false] 94))).below (fun k e => by rw [e]; exact Nat.le_refl _) (by simp))
end Go.Proofs.Ytpbgicfoopicbaa
