/-
  Items of formulas as they lie in memory, and a list of them that came in.
-/
import Derived.Test.YtbplkphjjfgkmaaDoorRec
import Derived.OpenShut
namespace Go.Proofs.YtbplkphjjfgkmaaDoor
open Go.RowKit
set_option linter.unusedVariables false
set_option linter.unusedSimpArgs false

structure It where
  op : Int
  ln : ByteArray
  lv : Int
  rn : ByteArray
  rv : Int
  nm : ByteArray
  us : ByteArray
  line : Int
  col : Int
def It.cells (x : It) : List Value := [.int .i64 x.op, .string x.ln, .int .i64 x.lv, .string x.rn, .int .i64 x.rv, .string x.nm, .string x.us, .int .i64 x.line, .int .i64 x.col]
theorem It.cells_len (x : It) : x.cells.length = 9 := rfl
def fits (n : Int) : Prop := -9223372036854775808 ≤ n ∧ n ≤ 9223372036854775807
/-- It may be a value of the program's. -/
structure It.ok (x : It) : Prop where
  op : fits x.op
  ln : x.ln.size ≤ maxLen
  lv : fits x.lv
  rn : x.rn.size ≤ maxLen
  rv : fits x.rv
  nm : x.nm.size ≤ maxLen
  us : x.us.size ≤ maxLen
  line : fits x.line
  col : fits x.col
theorem list9 {α : Type} {cs : List α} (h : cs.length = 9) : ∃ a b c d e f g i j, cs = [a, b, c, d, e, f, g, i, j] := by
  match cs, h with
  | [a, b, c, d, e, f, g, i, j], _ => exact ⟨a, b, c, d, e, f, g, i, j, rfl⟩
section
variable {H : Type} {enc : TypeId × Value → H} {w : World}
theorem cells1i : Tryd.prog.cellsOf 3 = 1 := by kernel_rfl
theorem cells1s : Tryd.prog.cellsOf 9 = 1 := by kernel_rfl
theorem cells1l : Tryd.prog.cellsOf 2 = 1 := by kernel_rfl
theorem cells2w : Tryd.prog.cellsOf 52 = 2 := by kernel_rfl
theorem cells2p : Tryd.prog.cellsOf 33 = 2 := by kernel_rfl
theorem cells9 : Tryd.prog.cellsOf 54 = 9 := by kernel_rfl
theorem trod_word {fuel : Nat} {c0 c1 : Value} {y : DataW H × List MemPlace} (h : DataW.trod enc Tryd.prog w 0 (fun _ => true) true fuel 52 [c0, c1] = some y) :
    ∃ (s : ByteArray) (n : Int), c0 = .string s ∧ c1 = .int .i64 n ∧ s.size ≤ maxLen ∧ fits n := by
  obtain ⟨xs, n, _, _, _, hl, hx⟩ := DataW.trod_struct Tryd.underlying52 h
  have hl : xs.length = 2 := hl
  have h0 : DataW.trod enc Tryd.prog w 0 (fun _ => true) true n 9 (([c0, c1].drop 0).take (Tryd.prog.cellsOf 9)) = xs[0]? := hx 0 _ rfl
  have h1 : DataW.trod enc Tryd.prog w 0 (fun _ => true) true n 2 (([c0, c1].drop 1).take (Tryd.prog.cellsOf 2)) = xs[1]? := hx 1 _ rfl
  rw [List.getElem?_eq_getElem (by omega)] at h0 h1
  rw [cells1s] at h0
  rw [cells1l] at h1
  obtain ⟨s, hs, _, hsz⟩ := DataW.trod_string Tryd.underlying9 h0
  obtain ⟨k, hk, _, hw⟩ := DataW.trod_int Tryd.underlying2 h1
  simp at hs hk
  exact ⟨s, k, hs, hk, hsz, bounds_i64 hw⟩
theorem trod_pos {fuel : Nat} {c0 c1 : Value} {y : DataW H × List MemPlace} (h : DataW.trod enc Tryd.prog w 0 (fun _ => true) true fuel 33 [c0, c1] = some y) :
    ∃ (m n : Int), c0 = .int .i64 m ∧ c1 = .int .i64 n ∧ fits m ∧ fits n := by
  obtain ⟨xs, n, _, _, _, hl, hx⟩ := DataW.trod_struct Tryd.underlying33 h
  have hl : xs.length = 2 := hl
  have h0 : DataW.trod enc Tryd.prog w 0 (fun _ => true) true n 3 (([c0, c1].drop 0).take (Tryd.prog.cellsOf 3)) = xs[0]? := hx 0 _ rfl
  have h1 : DataW.trod enc Tryd.prog w 0 (fun _ => true) true n 3 (([c0, c1].drop 1).take (Tryd.prog.cellsOf 3)) = xs[1]? := hx 1 _ rfl
  rw [List.getElem?_eq_getElem (by omega)] at h0 h1
  rw [cells1i] at h0 h1
  obtain ⟨m, hm, _, hw0⟩ := DataW.trod_int Tryd.underlying3 h0
  obtain ⟨k, hk, _, hw⟩ := DataW.trod_int Tryd.underlying3 h1
  simp at hm hk
  exact ⟨m, k, hm, hk, bounds_i64 hw0, bounds_i64 hw⟩
theorem trod_item {fuel : Nat} {cs : List Value} {y : DataW H × List MemPlace} (h : DataW.trod enc Tryd.prog w 0 (fun _ => true) true fuel 54 cs = some y) :
    ∃ x : It, cs = x.cells ∧ x.ok := by
  obtain ⟨xs, n, _, _, hcl, hl, hx⟩ := DataW.trod_struct Tryd.underlying54 h
  rw [cells9] at hcl
  obtain ⟨c0, c1, c2, c3, c4, c5, c6, c7, c8, rfl⟩ := list9 hcl
  have hl : xs.length = 6 := hl
  have h0 : DataW.trod enc Tryd.prog w 0 (fun _ => true) true n 3 (([c0, c1, c2, c3, c4, c5, c6, c7, c8].drop 0).take (Tryd.prog.cellsOf 3)) = xs[0]? := hx 0 _ rfl
  have h1 : DataW.trod enc Tryd.prog w 0 (fun _ => true) true n 52 (([c0, c1, c2, c3, c4, c5, c6, c7, c8].drop 1).take (Tryd.prog.cellsOf 52)) = xs[1]? := hx 1 _ rfl
  have h2 : DataW.trod enc Tryd.prog w 0 (fun _ => true) true n 52 (([c0, c1, c2, c3, c4, c5, c6, c7, c8].drop 3).take (Tryd.prog.cellsOf 52)) = xs[2]? := hx 2 _ rfl
  have h3 : DataW.trod enc Tryd.prog w 0 (fun _ => true) true n 9 (([c0, c1, c2, c3, c4, c5, c6, c7, c8].drop 5).take (Tryd.prog.cellsOf 9)) = xs[3]? := hx 3 _ rfl
  have h4 : DataW.trod enc Tryd.prog w 0 (fun _ => true) true n 9 (([c0, c1, c2, c3, c4, c5, c6, c7, c8].drop 6).take (Tryd.prog.cellsOf 9)) = xs[4]? := hx 4 _ rfl
  have h5 : DataW.trod enc Tryd.prog w 0 (fun _ => true) true n 33 (([c0, c1, c2, c3, c4, c5, c6, c7, c8].drop 7).take (Tryd.prog.cellsOf 33)) = xs[5]? := hx 5 _ rfl
  rw [List.getElem?_eq_getElem (by omega)] at h0 h1 h2 h3 h4 h5
  rw [cells1i] at h0
  rw [cells2w] at h1 h2
  rw [cells1s] at h3 h4
  rw [cells2p] at h5
  obtain ⟨op, e0, _, w0⟩ := DataW.trod_int Tryd.underlying3 h0
  obtain ⟨ln, lv, e1, e2, z1, w2⟩ := trod_word (c0 := c1) (c1 := c2) h1
  obtain ⟨rn, rv, e3, e4, z3, w4⟩ := trod_word (c0 := c3) (c1 := c4) h2
  obtain ⟨nm, e5, _, z5⟩ := DataW.trod_string Tryd.underlying9 h3
  obtain ⟨us, e6, _, z6⟩ := DataW.trod_string Tryd.underlying9 h4
  obtain ⟨li, co, e7, e8, w7, w8⟩ := trod_pos (c0 := c7) (c1 := c8) h5
  simp at e0 e5 e6
  subst e0 e1 e2 e3 e4 e5 e6 e7 e8
  exact ⟨⟨op, ln, lv, rn, rv, nm, us, li, co⟩, rfl, ⟨bounds_i64 w0, z1, w2, z3, w4, z5, z6, w7, w8⟩⟩
theorem add_add (x : Addr) (m j : Nat) : (x.add m).add j = x.add (m + j) := by
  unfold Addr.add
  by_cases h1 : m = 0 <;> by_cases h2 : j = 0 <;> simp [h1, h2, Nat.add_assoc]
/-- Elements of several cells that came in. -/
theorem open_recs {P : Program} {α : Type} {t e : TypeId} {a : Option Addr} {len cap k : Nat} {d : DataW H} {ps : List MemPlace} (cells : α → List Value) (Q : α → Prop)
    (hk : ∀ x, (cells x).length = k) (ht : P.underlying t = some (.slice e)) (hce : P.cellsOf e = k) (h0 : 0 < k)
    (hel : ∀ fuel cs y, DataW.trod enc P w 0 (fun _ => true) true fuel e cs = some y → ∃ x : α, cs = cells x ∧ Q x)
    (h : DataW.Trod enc P w 0 (fun _ => true) true t (.slice a len cap) d ps) :
    ∃ l : List α, l.length = len ∧ Reads w a (Rec.flat cells l) ∧ (∀ x ∈ l, Q x) ∧ l.length ≤ maxLen := by
  obtain ⟨fuel, hf⟩ := h
  rcases DataW.trod_slice ht hf with ⟨hcs, _⟩ | ⟨x, l, c, elems, rest, n, _, hcs, _, _, hl, hm, hlen, helm, _⟩
  · simp [Value.cells] at hcs
    obtain ⟨rfl, rfl, rfl⟩ := hcs
    exact ⟨[], rfl, Or.inl rfl, by simp, by simp⟩
  · simp [Value.cells] at hcs
    obtain ⟨rfl, rfl, rfl⟩ := hcs
    by_cases hl0 : len = 0
    · subst hl0
      exact ⟨[], rfl, Or.inl rfl, by simp, by simp⟩
    · have each : ∀ i, i < len → ∃ y : α, (∀ j, j < k → w.cell? (x.add (i * k + j)) = (cells y)[j]?) ∧ Q y := by
        intro i hi
        have h1 := helm i hi
        rw [hce, List.getElem?_eq_getElem (by omega), Option.bind_eq_some_iff] at h1
        obtain ⟨cs, hcs, hy⟩ := h1
        obtain ⟨y, hcy, hQ⟩ := hel _ _ _ hy
        refine ⟨y, fun j hj => ?_, hQ⟩
        have h2 := (World.cells?_some hcs).2.2 j hj
        rw [hcy] at h2
        rw [← h2]
        rw [add_add]
      obtain ⟨b, off, spot⟩ := x
      obtain ⟨y0, hc0, _⟩ := each 0 (by omega)
      have hspot : spot = none := by
        have h3 := hc0 0 h0
        rw [List.getElem?_eq_getElem (by rw [hk]; exact h0)] at h3
        have := World.cell?_spot h3
        simpa [Addr.add] using this
      subst hspot
      have hadd : ∀ i, (⟨b, off, none⟩ : Addr).add i = ⟨b, off + i, none⟩ := fun i => by unfold Addr.add; split <;> simp_all
      have each2 : ∀ i : Nat, ∃ y : α, i < len → (∀ j, j < k → w.cell? ⟨b, off + (i * k + j), none⟩ = (cells y)[j]?) ∧ Q y := fun i => by
        by_cases hi : i < len
        · obtain ⟨y, h1, h2⟩ := each i hi
          exact ⟨y, fun _ => ⟨fun j hj => by rw [← hadd]; exact h1 j hj, h2⟩⟩
        · exact ⟨y0, fun h => absurd h hi⟩
      obtain ⟨f, hf2⟩ := Classical.axiomOfChoice each2
      refine ⟨(List.range len).map f, by simp, Or.inr ⟨b, off, rfl, fun j hj => ?_⟩, fun y hy => ?_, by simp; omega⟩
      · rw [Rec.flat_len hk] at hj
        simp only [List.length_map, List.length_range] at hj
        have h1 : j / k < len := (Nat.div_lt_iff_lt_mul h0).2 hj
        have h2 : j = j / k * k + j % k := by rw [Nat.mul_comm]; exact (Nat.div_add_mod j k).symm
        conv => rhs; rw [h2, Rec.flat_at hk _ _ _ (by simpa using h1) (Nat.mod_lt _ h0)]
        have h3 := (hf2 _ h1).1 _ (Nat.mod_lt j h0)
        have h4 : j / k * k + j % k = j := h2.symm
        rw [h4] at h3
        rw [h3]
        simp
      · obtain ⟨i, hi, rfl⟩ := List.mem_map.1 hy
        exact (hf2 i (List.mem_range.1 hi)).2
end
/-- A list of items lies from there on. -/
def RdI (w : World) (a : Option Addr) (l : List It) : Prop := Reads w a (Rec.flat It.cells l)
theorem RdI.mono {w w' : World} {B : Nat} {a : Option Addr} {l : List It} (h : RdI w a l) (hb : Below B w w') (hB : w.heap.size ≤ B) : RdI w' a l := Reads.mono h hb hB
theorem RdI.at {w : World} {a : Option Addr} {l : List It} (h : RdI w a l) (hp : 0 < l.length) :
    ∃ b off, a = some ⟨b, off, none⟩ ∧ ∀ i (hi : i < l.length), w.rangeAt b (off + i * 9) l[i].cells := by
  obtain ⟨b, off, rfl, hc⟩ := Reads.at h (by rw [Rec.flat_len It.cells_len]; omega)
  refine ⟨b, off, rfl, fun i hi j v hv => ?_⟩
  have hj : j < 9 := by rw [← It.cells_len l[i]]; exact (List.getElem?_eq_some_iff.1 hv).1
  have := hc (i * 9 + j) (by rw [Rec.flat_len It.cells_len]; omega)
  rw [Rec.flat_at It.cells_len l i j hi hj] at this
  rw [Nat.add_assoc, this, hv]
theorem RdI.op {w : World} {b off : Nat} {x : It} {i : Nat} (h : w.rangeAt b (off + i * 9) x.cells) : w.cell? ⟨b, off + i * 9, none⟩ = some (.int .i64 x.op) := by
  have := h 0 (.int .i64 x.op) rfl
  simpa using this
theorem open_items {H : Type} {enc : TypeId × Value → H} {w : World} {a : Option Addr} {len cap : Nat} {d : DataW H} {ps : List MemPlace} (h : DataW.Trod enc Tryd.prog w 0 (fun _ => true) true 43 (.slice a len cap) d ps) :
    ∃ l : List It, l.length = len ∧ RdI w a l ∧ (∀ x ∈ l, x.ok) ∧ l.length ≤ maxLen :=
  open_recs It.cells It.ok It.cells_len Tryd.underlying43 cells9 (by omega) (fun _ _ _ h => trod_item h) h
end Go.Proofs.YtbplkphjjfgkmaaDoor
