/-
  Bind: an item's instruction: the program's.
-/
import Derived.Test.YtpbgicfoopicbaaBndVal
namespace Go.Proofs.Ytpbgicfoopicbaa
open Go.RowKit
set_option linter.unusedVariables false
set_option linter.unusedSimpArgs false

/-- An instruction's numbers. -/
structure In7 where
  a0 : Int
  a1 : Int
  a2 : Int
  a3 : Int
  a4 : Int
  a5 : Int
  a6 : Int
def In7.cells (x : In7) : List Value := [.int .i64 x.a0, .int .i64 x.a1, .int .i64 x.a2, .int .i64 x.a3, .int .i64 x.a4, .int .i64 x.a5, .int .i64 x.a6]
theorem In7.cells_len (x : In7) : x.cells.length = 7 := rfl
noncomputable def errI (NP : NPair) (x : It) : Int :=
  if 3 ≤ x.op ∧ x.op ≤ 8 then (if (valS NP x.ln x.lv).2 = 0 then (valS NP x.rn x.rv).2 else (valS NP x.ln x.lv).2)
  else if x.op = 9 then (NP x.nm 4).2 else if x.op = 10 then (NP x.nm 7).2 else if x.op = 11 then (NP x.nm 5).2
  else if x.op = 12 then (if (NP x.us 2).2 = 0 then (NP x.nm 5).2 else (NP x.us 2).2) else 0
noncomputable def insI (NP : NPair) (x : It) : In7 :=
  if 3 ≤ x.op ∧ x.op ≤ 8 then ⟨x.op, (valS NP x.ln x.lv).1.1, (valS NP x.ln x.lv).1.2, (valS NP x.rn x.rv).1.1, (valS NP x.rn x.rv).1.2, 0, 0⟩
  else if x.op = 9 then ⟨x.op, 0, 0, 0, 0, (NP x.nm 4).1, 0⟩ else if x.op = 10 then ⟨x.op, 0, 0, 0, 0, (NP x.nm 7).1, 0⟩ else if x.op = 11 then ⟨x.op, 0, 0, 0, 0, (NP x.nm 5).1, 0⟩
  else if x.op = 12 then ⟨x.op, 0, 0, 0, 0, (NP x.nm 5).1, (NP x.us 2).1⟩ else ⟨x.op, 0, 0, 0, 0, 0, 0⟩
def InsAns (NP : NPair) (x : It) (w : World) (e : Ending) (w' : World) : Prop :=
  ∃ y : In7, e = .returned (.tuple #[.agg #[.int .i64 y.a0, .int .i64 y.a1, .int .i64 y.a2, .int .i64 y.a3, .int .i64 y.a4, .int .i64 y.a5, .int .i64 y.a6], .int .i64 (errI NP x)]) ∧ (errI NP x = 0 → y = insI NP x) ∧ Below w.heap.size w w'
/-- While an item's instruction is made: the cells. -/
structure Wk (w W : World) (F : Nat) (x : It) (y : In7) : Prop where
  itm : W.heap[F]? = some (.cells #[.int .i64 x.op, .string x.ln, .int .i64 x.lv, .string x.rn, .int .i64 x.rv, .string x.nm, .string x.us, .int .i64 x.line, .int .i64 x.col] 42 (0, 0))
  res : W.heap[F + 1]? = some (.cells #[.int .i64 0, .int .i64 0, .int .i64 0, .int .i64 0, .int .i64 0, .int .i64 0, .int .i64 0] 70 (0, 0))
  cur : W.heap[F + 1 + 1]? = some (.cells #[.int .i64 y.a0, .int .i64 y.a1, .int .i64 y.a2, .int .i64 y.a3, .int .i64 y.a4, .int .i64 y.a5, .int .i64 y.a6] 70 (0, 0))
  bel : Below w.heap.size w W
  base : w.heap.size ≤ F
theorem Wk.still {w W W2 : World} {F : Nat} {x : It} {y : In7} (h : Wk w W F x y) (hb : Below W.heap.size W W2) : Wk w W2 F x y :=
  ⟨(hb.block _ (Array.getElem?_eq_some_iff.1 h.itm).1).trans h.itm, (hb.block _ (Array.getElem?_eq_some_iff.1 h.res).1).trans h.res, (hb.block _ (Array.getElem?_eq_some_iff.1 h.cur).1).trans h.cur, h.bel.trans (hb.mono h.bel.size), h.base⟩
theorem Wk.set {w W : World} {F : Nat} {x : It} {y : In7} (h : Wk w W F x y) (j : Nat) (u : Int) (y2 : In7) (hy : #[Value.int .i64 y.a0, .int .i64 y.a1, .int .i64 y.a2, .int .i64 y.a3, .int .i64 y.a4, .int .i64 y.a5, .int .i64 y.a6].setIfInBounds j (.int .i64 u) = #[Value.int .i64 y2.a0, .int .i64 y2.a1, .int .i64 y2.a2, .int .i64 y2.a3, .int .i64 y2.a4, .int .i64 y2.a5, .int .i64 y2.a6]) :
    Wk w (W.setCell ⟨F + 1 + 1, j, none⟩ (.int .i64 u)) F x y2 := by
  have h2 := heap_setCell_same W (F + 1 + 1) j _ _ (.int .i64 u) h.cur
  rw [hy] at h2
  have hb := h.base
  exact ⟨(Below.heap_setCell _ _ _ _ (by simp; omega)).trans h.itm, (Below.heap_setCell _ _ _ _ (by simp)).trans h.res, h2, h.bel.setCell (p := ⟨F + 1 + 1, j, none⟩) (by simp; omega) _, h.base⟩
theorem wk_cells {w W : World} {F : Nat} {x : It} {y : In7} (h : Wk w W F x y) :
    (W.cell? ⟨F, 0, none⟩ = some (.int .i64 x.op) ∧ W.cell? ⟨F, 1, none⟩ = some (.string x.ln) ∧ W.cell? ⟨F, 2, none⟩ = some (.int .i64 x.lv) ∧ W.cell? ⟨F, 3, none⟩ = some (.string x.rn) ∧ W.cell? ⟨F, 4, none⟩ = some (.int .i64 x.rv) ∧ W.cell? ⟨F, 5, none⟩ = some (.string x.nm) ∧ W.cell? ⟨F, 6, none⟩ = some (.string x.us)) ∧
    (W.cell? ⟨F + 1 + 1, 0, none⟩ = some (.int .i64 y.a0) ∧ W.cell? ⟨F + 1 + 1, 1, none⟩ = some (.int .i64 y.a1) ∧ W.cell? ⟨F + 1 + 1, 2, none⟩ = some (.int .i64 y.a2) ∧ W.cell? ⟨F + 1 + 1, 3, none⟩ = some (.int .i64 y.a3) ∧ W.cell? ⟨F + 1 + 1, 4, none⟩ = some (.int .i64 y.a4) ∧ W.cell? ⟨F + 1 + 1, 5, none⟩ = some (.int .i64 y.a5) ∧ W.cell? ⟨F + 1 + 1, 6, none⟩ = some (.int .i64 y.a6)) ∧
    (W.cell? ⟨F + 1, 0, none⟩ = some (.int .i64 0) ∧ W.cell? ⟨F + 1, 1, none⟩ = some (.int .i64 0) ∧ W.cell? ⟨F + 1, 2, none⟩ = some (.int .i64 0) ∧ W.cell? ⟨F + 1, 3, none⟩ = some (.int .i64 0) ∧ W.cell? ⟨F + 1, 4, none⟩ = some (.int .i64 0) ∧ W.cell? ⟨F + 1, 5, none⟩ = some (.int .i64 0) ∧ W.cell? ⟨F + 1, 6, none⟩ = some (.int .i64 0)) ∧
    (∀ j, W.frozen? ⟨F + 1 + 1, j, none⟩ = false) ∧ (∀ j, W.frozen? ⟨F + 1, j, none⟩ = false) :=
  ⟨⟨cell_of_row W _ 0 _ _ _ h.itm, cell_of_row W _ 1 _ _ _ h.itm, cell_of_row W _ 2 _ _ _ h.itm, cell_of_row W _ 3 _ _ _ h.itm, cell_of_row W _ 4 _ _ _ h.itm, cell_of_row W _ 5 _ _ _ h.itm, cell_of_row W _ 6 _ _ _ h.itm⟩,
   ⟨cell_of_row W _ 0 _ _ _ h.cur, cell_of_row W _ 1 _ _ _ h.cur, cell_of_row W _ 2 _ _ _ h.cur, cell_of_row W _ 3 _ _ _ h.cur, cell_of_row W _ 4 _ _ _ h.cur, cell_of_row W _ 5 _ _ _ h.cur, cell_of_row W _ 6 _ _ _ h.cur⟩,
   ⟨cell_of_row W _ 0 _ _ _ h.res, cell_of_row W _ 1 _ _ _ h.res, cell_of_row W _ 2 _ _ _ h.res, cell_of_row W _ 3 _ _ _ h.res, cell_of_row W _ 4 _ _ _ h.res, cell_of_row W _ 5 _ _ _ h.res, cell_of_row W _ 6 _ _ _ h.res⟩,
   fun j => by unfold World.frozen?; rw [h.cur]; simp, fun j => by unfold World.frozen?; rw [h.res]; simp⟩
/-- The answer, stored. -/
def stored (W : World) (F : Nat) (y : In7) : World := ((((((W.setCell ⟨F + 1, 0, none⟩ (.int .i64 y.a0)).setCell ⟨F + 1, 1, none⟩ (.int .i64 y.a1)).setCell ⟨F + 1, 2, none⟩ (.int .i64 y.a2)).setCell ⟨F + 1, 3, none⟩ (.int .i64 y.a3)).setCell ⟨F + 1, 4, none⟩ (.int .i64 y.a4)).setCell ⟨F + 1, 5, none⟩ (.int .i64 y.a5)).setCell ⟨F + 1, 6, none⟩ (.int .i64 y.a6)
theorem Wk.stored {w W : World} {F : Nat} {x : It} {y : In7} (h : Wk w W F x y) : (stored W F y).heap[F + 1]? = some (.cells #[.int .i64 y.a0, .int .i64 y.a1, .int .i64 y.a2, .int .i64 y.a3, .int .i64 y.a4, .int .i64 y.a5, .int .i64 y.a6] 70 (0, 0)) ∧ Below w.heap.size w (stored W F y) := by
  have hb := h.base
  refine ⟨heap_setCell_same _ _ 6 _ _ _ (heap_setCell_same _ _ 5 _ _ _ (heap_setCell_same _ _ 4 _ _ _ (heap_setCell_same _ _ 3 _ _ _ (heap_setCell_same _ _ 2 _ _ _ (heap_setCell_same _ _ 1 _ _ _ (heap_setCell_same _ _ 0 _ _ _ h.res)))))), ?_⟩
  unfold Go.Proofs.Ytpbgicfoopicbaa.stored
  exact ((((((h.bel.setCell (p := ⟨F + 1, 0, none⟩) (by simp; omega) _).setCell (p := ⟨F + 1, 1, none⟩) (by simp; omega) _).setCell (p := ⟨F + 1, 2, none⟩) (by simp; omega) _).setCell (p := ⟨F + 1, 3, none⟩) (by simp; omega) _).setCell (p := ⟨F + 1, 4, none⟩) (by simp; omega) _).setCell (p := ⟨F + 1, 5, none⟩) (by simp; omega) _).setCell (p := ⟨F + 1, 6, none⟩) (by simp; omega) _
theorem seven {W : World} {F : Nat} {t : TypeId} {a b c d e f g : Value} (h : W.heap[F]? = some (.cells #[a, b, c, d, e, f, g] t (0, 0))) : W.cell? ⟨F, 0, none⟩ = some a ∧ W.cell? ⟨F, 1, none⟩ = some b ∧ W.cell? ⟨F, 2, none⟩ = some c ∧ W.cell? ⟨F, 3, none⟩ = some d ∧ W.cell? ⟨F, 4, none⟩ = some e ∧ W.cell? ⟨F, 5, none⟩ = some f ∧ W.cell? ⟨F, 6, none⟩ = some g :=
  ⟨cell_of_row W _ 0 _ _ _ h, cell_of_row W _ 1 _ _ _ h, cell_of_row W _ 2 _ _ _ h, cell_of_row W _ 3 _ _ _ h, cell_of_row W _ 4 _ _ _ h, cell_of_row W _ 5 _ _ _ h, cell_of_row W _ 6 _ _ _ h⟩
theorem wk_start (w : World) (p : Nat) (x : It) : Wk w ((((w.alloc (.cells #[FV p] 107)).alloc (.cells #[.int .i64 x.op, .string x.ln, .int .i64 x.lv, .string x.rn, .int .i64 x.rv, .string x.nm, .string x.us, .int .i64 x.line, .int .i64 x.col] 42)).alloc (.cells #[.int .i64 0, .int .i64 0, .int .i64 0, .int .i64 0, .int .i64 0, .int .i64 0, .int .i64 0] 70)).alloc (.cells #[.int .i64 x.op, .int .i64 0, .int .i64 0, .int .i64 0, .int .i64 0, .int .i64 0, .int .i64 0] 70)) (w.heap.size + 1) x ⟨x.op, 0, 0, 0, 0, 0, 0⟩ ∧
    ((((w.alloc (.cells #[FV p] 107)).alloc (.cells #[.int .i64 x.op, .string x.ln, .int .i64 x.lv, .string x.rn, .int .i64 x.rv, .string x.nm, .string x.us, .int .i64 x.line, .int .i64 x.col] 42)).alloc (.cells #[.int .i64 0, .int .i64 0, .int .i64 0, .int .i64 0, .int .i64 0, .int .i64 0, .int .i64 0] 70)).alloc (.cells #[.int .i64 x.op, .int .i64 0, .int .i64 0, .int .i64 0, .int .i64 0, .int .i64 0, .int .i64 0] 70)).heap[w.heap.size]? = some (.cells #[FV p] 107 (0, 0)) := by
  generalize hW1 : w.alloc (.cells #[FV p] 107) = W1
  have f1 : W1.heap[w.heap.size]? = some (.cells #[FV p] 107 (0, 0)) := by rw [← hW1]; exact heap_alloc_new w _
  have z1 : W1.heap.size = w.heap.size + 1 := by rw [← hW1]; simp
  have b1 : Below w.heap.size w W1 := by rw [← hW1]; exact bbel_alloc w _
  clear hW1
  have f2 := heap_alloc_new W1 (.cells #[.int .i64 x.op, .string x.ln, .int .i64 x.lv, .string x.rn, .int .i64 x.rv, .string x.nm, .string x.us, .int .i64 x.line, .int .i64 x.col] 42)
  have b2 := bbel_alloc W1 (.cells #[.int .i64 x.op, .string x.ln, .int .i64 x.lv, .string x.rn, .int .i64 x.rv, .string x.nm, .string x.us, .int .i64 x.line, .int .i64 x.col] 42)
  have z2 : (W1.alloc (.cells #[.int .i64 x.op, .string x.ln, .int .i64 x.lv, .string x.rn, .int .i64 x.rv, .string x.nm, .string x.us, .int .i64 x.line, .int .i64 x.col] 42)).heap.size = w.heap.size + 1 + 1 := by simp [z1]
  generalize W1.alloc (.cells #[.int .i64 x.op, .string x.ln, .int .i64 x.lv, .string x.rn, .int .i64 x.rv, .string x.nm, .string x.us, .int .i64 x.line, .int .i64 x.col] 42) = W2 at *
  have f3 := heap_alloc_new W2 (.cells #[.int .i64 0, .int .i64 0, .int .i64 0, .int .i64 0, .int .i64 0, .int .i64 0, .int .i64 0] 70)
  have b3 := bbel_alloc W2 (.cells #[.int .i64 0, .int .i64 0, .int .i64 0, .int .i64 0, .int .i64 0, .int .i64 0, .int .i64 0] 70)
  have z3 : (W2.alloc (.cells #[.int .i64 0, .int .i64 0, .int .i64 0, .int .i64 0, .int .i64 0, .int .i64 0, .int .i64 0] 70)).heap.size = w.heap.size + 1 + 1 + 1 := by simp [z2]
  generalize W2.alloc (.cells #[.int .i64 0, .int .i64 0, .int .i64 0, .int .i64 0, .int .i64 0, .int .i64 0, .int .i64 0] 70) = W3 at *
  have f4 := heap_alloc_new W3 (.cells #[.int .i64 x.op, .int .i64 0, .int .i64 0, .int .i64 0, .int .i64 0, .int .i64 0, .int .i64 0] 70)
  have b4 := bbel_alloc W3 (.cells #[.int .i64 x.op, .int .i64 0, .int .i64 0, .int .i64 0, .int .i64 0, .int .i64 0, .int .i64 0] 70)
  generalize W3.alloc (.cells #[.int .i64 x.op, .int .i64 0, .int .i64 0, .int .i64 0, .int .i64 0, .int .i64 0, .int .i64 0] 70) = W4 at *
  rw [z1] at f2 b2
  rw [z2] at f3 b3
  rw [z3] at f4 b4
  refine ⟨⟨?_, ?_, f4, ((b1.trans (b2.mono (by omega))).trans (b3.mono (by omega))).trans (b4.mono (by omega)), by omega⟩, ?_⟩
  · rw [b4.block _ (by omega), b3.block _ (by omega)]; exact f2
  · rw [b4.block _ (by omega)]; exact f3
  · rw [b4.block _ (by omega), b3.block _ (by omega), b2.block _ (by omega)]; exact f1
theorem cmp_yes (k : Int) (h1 : 3 ≤ k) (h2 : k ≤ 8) (w : World) : Calls Try.prog 66 #[.int .i64 k] w fun e w' => e = .returned (.bool true) ∧ w = w' := by
  have hu : ∀ b : Bool, ¬ (some undef = some (Value.bool b)) := fun b h => by cases h
  go_enter Try.func66, Try.ntmps66
  go_wp2
  go_ret
  exact ⟨rfl, rfl⟩
theorem cmp_no (k : Int) (h : ¬ (3 ≤ k ∧ k ≤ 8)) (w : World) : Calls Try.prog 66 #[.int .i64 k] w fun e w' => e = .returned (.bool false) ∧ w = w' := by
  have hu : ∀ b : Bool, ¬ (some undef = some (Value.bool b)) := fun b h => by cases h
  by_cases h1 : 3 ≤ k
  · have h2 : ¬ k ≤ 8 := fun h3 => h ⟨h1, h3⟩
    clear h
    go_enter Try.func66, Try.ntmps66
    go_wp2
    go_ret
    exact ⟨rfl, rfl⟩
  · clear h
    go_enter Try.func66, Try.ntmps66
    go_wp2
    go_ret
    exact ⟨rfl, rfl⟩
set_option maxHeartbeats 1000000 in
theorem inst_other (NP : NPair) (p : Nat) (x : It) (w : World) (h38 : ¬ (3 ≤ x.op ∧ x.op ≤ 8)) (h9 : x.op < 9 ∨ 12 < x.op) :
    Calls Try.prog 53 #[.agg #[FV p], .agg #[.int .i64 x.op, .string x.ln, .int .i64 x.lv, .string x.rn, .int .i64 x.rv, .string x.nm, .string x.us, .int .i64 x.line, .int .i64 x.col]] w (InsAns NP x w) := by
  have HE : Hid (errI NP x = 0) := Lib.hid (by unfold errI; rw [if_neg h38, if_neg (by omega), if_neg (by omega), if_neg (by omega), if_neg (by omega)])
  have HI : Hid (insI NP x = ⟨x.op, 0, 0, 0, 0, 0, 0⟩) := Lib.hid (by unfold insI; rw [if_neg h38, if_neg (by omega), if_neg (by omega), if_neg (by omega), if_neg (by omega)])
  have HCM : Hid (∀ w, Calls Try.prog 66 #[.int .i64 x.op] w fun e w' => e = .returned (.bool false) ∧ w = w') := Lib.hid (cmp_no x.op h38)
  have n9 : (x.op == 9) = false := by rw [beq_eq_false_iff_ne]; omega
  have n10 : (x.op == 10) = false := by rw [beq_eq_false_iff_ne]; omega
  have n11 : (x.op == 11) = false := by rw [beq_eq_false_iff_ne]; omega
  have n12 : (x.op == 12) = false := by rw [beq_eq_false_iff_ne]; omega
  have HS := Lib.hid (wk_start w p x)
  clear h38 h9
  go_enter Try.func53, Try.ntmps53
  go_wp2_with fail
  have hs := HS.out
  generalize ((((w.alloc (.cells #[FV p] 107)).alloc (.cells #[.int .i64 x.op, .string x.ln, .int .i64 x.lv, .string x.rn, .int .i64 x.rv, .string x.nm, .string x.us, .int .i64 x.line, .int .i64 x.col] 42)).alloc (.cells #[.int .i64 0, .int .i64 0, .int .i64 0, .int .i64 0, .int .i64 0, .int .i64 0, .int .i64 0] 70)).alloc (.cells #[.int .i64 x.op, .int .i64 0, .int .i64 0, .int .i64 0, .int .i64 0, .int .i64 0, .int .i64 0] 70)) = W0 at *
  obtain ⟨k0, tel⟩ := hs
  obtain ⟨⟨i0, i1, i2, i3, i4, i5, i6⟩, ⟨c0, c1, c2, c3, c4, c5, c6⟩, ⟨r0, r1, r2, r3, r4, r5, r6⟩, cz, rz⟩ := wk_cells k0
  have tl := cell_of_row W0 w.heap.size 0 _ _ _ tel
  simp only [List.getElem?_toArray, List.getElem?_cons_zero] at tl
  have TEL := Lib.hid tel
  clear tel HS
  have K0 := Lib.hid k0
  have ST := Lib.hid k0.stored
  unfold stored at ST
  clear k0
  refine (HCM.out _).mono ?_
  rintro e w1 ⟨rfl, rfl⟩
  go_wp2_with fail
  generalize (((((((W0.setCell ⟨w.heap.size + 1 + 1, 0, none⟩ (.int .i64 x.op)).setCell ⟨w.heap.size + 1 + 1, 1, none⟩ (.int .i64 0)).setCell ⟨w.heap.size + 1 + 1, 2, none⟩ (.int .i64 0)).setCell ⟨w.heap.size + 1 + 1, 3, none⟩ (.int .i64 0)).setCell ⟨w.heap.size + 1 + 1, 4, none⟩ (.int .i64 0)).setCell ⟨w.heap.size + 1 + 1, 5, none⟩ (.int .i64 0)).setCell ⟨w.heap.size + 1 + 1, 6, none⟩ (.int .i64 0)) = W9 at *
  obtain ⟨g0, g1, g2, g3, g4, g5, g6⟩ := seven ST.out.1
  refine bodyPost_ret (v := .tuple #[.agg #[.int .i64 x.op, .int .i64 0, .int .i64 0, .int .i64 0, .int .i64 0, .int .i64 0, .int .i64 0], .int .i64 0]) (by simp [results, Try.results53, go_sem, g0, g1, g2, g3, g4, g5, g6]) rfl ?_
  exact ⟨⟨x.op, 0, 0, 0, 0, 0, 0⟩, by rw [HE.out], fun _ => HI.out.symm, ST.out.2⟩
set_option maxHeartbeats 1000000 in
theorem inst_9 (NP : NPair) (p : Nat) (x : It) (w : World) (hop : x.op = 9) (hs : x.nm.size ≤ maxLen) (hn : NeedP NP p w) :
    Calls Try.prog 53 #[.agg #[FV p], .agg #[.int .i64 x.op, .string x.ln, .int .i64 x.lv, .string x.rn, .int .i64 x.rv, .string x.nm, .string x.us, .int .i64 x.line, .int .i64 x.col]] w (InsAns NP x w) := by
  have h38 : ¬ (3 ≤ x.op ∧ x.op ≤ 8) := by omega
  have HE : Hid (errI NP x = (NP x.nm 4).2) := Lib.hid (by unfold errI; rw [if_neg h38, if_pos hop])
  have HI : Hid (insI NP x = ⟨x.op, 0, 0, 0, 0, (NP x.nm 4).1, 0⟩) := Lib.hid (by unfold insI; rw [if_neg h38, if_pos hop])
  have HCM : Hid (∀ w, Calls Try.prog 66 #[.int .i64 x.op] w fun e w' => e = .returned (.bool false) ∧ w = w') := Lib.hid (cmp_no x.op h38)
  have HN : Hid (∀ w2, Below w.heap.size w w2 → Calls Try.prog 52 #[.pointer (some ⟨p, 0, none⟩), .string x.nm, .int .i64 4] w2 fun e w3 => e = .returned (.tuple #[.int .i64 (NP x.nm 4).1, .int .i64 (NP x.nm 4).2]) ∧ Below w2.heap.size w2 w3) := Lib.hid (hn x.nm hs 4)

  have y9 : (x.op == 9) = true := by rw [hop]; rfl
  have HS := Lib.hid (wk_start w p x)
  clear h38 hop hn
  generalize (NP x.nm 4).1 = rn1 at *
  generalize (NP x.nm 4).2 = rn2 at *
  go_enter Try.func53, Try.ntmps53
  go_wp2_with fail
  have hs := HS.out
  generalize ((((w.alloc (.cells #[FV p] 107)).alloc (.cells #[.int .i64 x.op, .string x.ln, .int .i64 x.lv, .string x.rn, .int .i64 x.rv, .string x.nm, .string x.us, .int .i64 x.line, .int .i64 x.col] 42)).alloc (.cells #[.int .i64 0, .int .i64 0, .int .i64 0, .int .i64 0, .int .i64 0, .int .i64 0, .int .i64 0] 70)).alloc (.cells #[.int .i64 x.op, .int .i64 0, .int .i64 0, .int .i64 0, .int .i64 0, .int .i64 0, .int .i64 0] 70)) = W0 at *
  obtain ⟨k0, tel⟩ := hs
  obtain ⟨⟨i0, i1, i2, i3, i4, i5, i6⟩, ⟨c0, c1, c2, c3, c4, c5, c6⟩, ⟨r0, r1, r2, r3, r4, r5, r6⟩, cz, rz⟩ := wk_cells k0
  have tl := cell_of_row W0 w.heap.size 0 _ _ _ tel
  simp only [List.getElem?_toArray, List.getElem?_cons_zero] at tl
  have TEL := Lib.hid tel
  clear tel HS
  have K0 := Lib.hid k0
  clear k0
  refine (HCM.out _).mono ?_
  rintro e w1 ⟨rfl, rfl⟩
  go_wp2_with fail
  refine (HN.out _ K0.out.bel).mono ?_
  rintro e w2 ⟨rfl, hb2⟩
  clear i0 i1 i2 i3 i4 i5 i6 c0 c1 c2 c3 c4 c5 c6 r0 r1 r2 r3 r4 r5 r6 cz rz
  have k1 := K0.out.still hb2
  obtain ⟨⟨i0, i1, i2, i3, i4, i5, i6⟩, ⟨c0, c1, c2, c3, c4, c5, c6⟩, ⟨r0, r1, r2, r3, r4, r5, r6⟩, cz, rz⟩ := wk_cells k1
  have k2 := k1.set 5 rn1 ⟨x.op, 0, 0, 0, 0, rn1, 0⟩ rfl
  obtain ⟨-, ⟨c0', c1', c2', c3', c4', c5', c6'⟩, ⟨r0', r1', r2', r3', r4', r5', r6'⟩, -, rz'⟩ := wk_cells k2
  have ST := Lib.hid k2.stored
  unfold stored at ST
  clear k1 k2 hb2 tl
  go_wp2_with fail
  generalize ((((((((w2.setCell ⟨w.heap.size + 1 + 1 + 1, 5, none⟩ (.int .i64 rn1)).setCell ⟨w.heap.size + 1 + 1, 0, none⟩ (.int .i64 x.op)).setCell ⟨w.heap.size + 1 + 1, 1, none⟩ (.int .i64 0)).setCell ⟨w.heap.size + 1 + 1, 2, none⟩ (.int .i64 0)).setCell ⟨w.heap.size + 1 + 1, 3, none⟩ (.int .i64 0)).setCell ⟨w.heap.size + 1 + 1, 4, none⟩ (.int .i64 0)).setCell ⟨w.heap.size + 1 + 1, 5, none⟩ (.int .i64 rn1)).setCell ⟨w.heap.size + 1 + 1, 6, none⟩ (.int .i64 0)) = W9 at *
  obtain ⟨g0, g1, g2, g3, g4, g5, g6⟩ := seven ST.out.1
  refine bodyPost_ret (v := .tuple #[.agg #[.int .i64 x.op, .int .i64 0, .int .i64 0, .int .i64 0, .int .i64 0, .int .i64 rn1, .int .i64 0], .int .i64 rn2]) (by simp [results, Try.results53, go_sem, g0, g1, g2, g3, g4, g5, g6]) rfl ?_
  exact ⟨⟨x.op, 0, 0, 0, 0, rn1, 0⟩, by rw [HE.out], fun _ => HI.out.symm, ST.out.2⟩
set_option maxHeartbeats 1000000 in
theorem inst_10 (NP : NPair) (p : Nat) (x : It) (w : World) (hop : x.op = 10) (hs : x.nm.size ≤ maxLen) (hn : NeedP NP p w) :
    Calls Try.prog 53 #[.agg #[FV p], .agg #[.int .i64 x.op, .string x.ln, .int .i64 x.lv, .string x.rn, .int .i64 x.rv, .string x.nm, .string x.us, .int .i64 x.line, .int .i64 x.col]] w (InsAns NP x w) := by
  have h38 : ¬ (3 ≤ x.op ∧ x.op ≤ 8) := by omega
  have HE : Hid (errI NP x = (NP x.nm 7).2) := Lib.hid (by unfold errI; rw [if_neg h38, if_neg (by omega), if_pos hop])
  have HI : Hid (insI NP x = ⟨x.op, 0, 0, 0, 0, (NP x.nm 7).1, 0⟩) := Lib.hid (by unfold insI; rw [if_neg h38, if_neg (by omega), if_pos hop])
  have HCM : Hid (∀ w, Calls Try.prog 66 #[.int .i64 x.op] w fun e w' => e = .returned (.bool false) ∧ w = w') := Lib.hid (cmp_no x.op h38)
  have HN : Hid (∀ w2, Below w.heap.size w w2 → Calls Try.prog 52 #[.pointer (some ⟨p, 0, none⟩), .string x.nm, .int .i64 7] w2 fun e w3 => e = .returned (.tuple #[.int .i64 (NP x.nm 7).1, .int .i64 (NP x.nm 7).2]) ∧ Below w2.heap.size w2 w3) := Lib.hid (hn x.nm hs 7)
  have n9 : (x.op == 9) = false := by rw [beq_eq_false_iff_ne]; omega
  have y10 : (x.op == 10) = true := by rw [hop]; rfl
  have HS := Lib.hid (wk_start w p x)
  clear h38 hop hn
  generalize (NP x.nm 7).1 = rn1 at *
  generalize (NP x.nm 7).2 = rn2 at *
  go_enter Try.func53, Try.ntmps53
  go_wp2_with fail
  have hs := HS.out
  generalize ((((w.alloc (.cells #[FV p] 107)).alloc (.cells #[.int .i64 x.op, .string x.ln, .int .i64 x.lv, .string x.rn, .int .i64 x.rv, .string x.nm, .string x.us, .int .i64 x.line, .int .i64 x.col] 42)).alloc (.cells #[.int .i64 0, .int .i64 0, .int .i64 0, .int .i64 0, .int .i64 0, .int .i64 0, .int .i64 0] 70)).alloc (.cells #[.int .i64 x.op, .int .i64 0, .int .i64 0, .int .i64 0, .int .i64 0, .int .i64 0, .int .i64 0] 70)) = W0 at *
  obtain ⟨k0, tel⟩ := hs
  obtain ⟨⟨i0, i1, i2, i3, i4, i5, i6⟩, ⟨c0, c1, c2, c3, c4, c5, c6⟩, ⟨r0, r1, r2, r3, r4, r5, r6⟩, cz, rz⟩ := wk_cells k0
  have tl := cell_of_row W0 w.heap.size 0 _ _ _ tel
  simp only [List.getElem?_toArray, List.getElem?_cons_zero] at tl
  have TEL := Lib.hid tel
  clear tel HS
  have K0 := Lib.hid k0
  clear k0
  refine (HCM.out _).mono ?_
  rintro e w1 ⟨rfl, rfl⟩
  go_wp2_with fail
  refine (HN.out _ K0.out.bel).mono ?_
  rintro e w2 ⟨rfl, hb2⟩
  clear i0 i1 i2 i3 i4 i5 i6 c0 c1 c2 c3 c4 c5 c6 r0 r1 r2 r3 r4 r5 r6 cz rz
  have k1 := K0.out.still hb2
  obtain ⟨⟨i0, i1, i2, i3, i4, i5, i6⟩, ⟨c0, c1, c2, c3, c4, c5, c6⟩, ⟨r0, r1, r2, r3, r4, r5, r6⟩, cz, rz⟩ := wk_cells k1
  have k2 := k1.set 5 rn1 ⟨x.op, 0, 0, 0, 0, rn1, 0⟩ rfl
  obtain ⟨-, ⟨c0', c1', c2', c3', c4', c5', c6'⟩, ⟨r0', r1', r2', r3', r4', r5', r6'⟩, -, rz'⟩ := wk_cells k2
  have ST := Lib.hid k2.stored
  unfold stored at ST
  clear k1 k2 hb2 tl
  go_wp2_with fail
  generalize ((((((((w2.setCell ⟨w.heap.size + 1 + 1 + 1, 5, none⟩ (.int .i64 rn1)).setCell ⟨w.heap.size + 1 + 1, 0, none⟩ (.int .i64 x.op)).setCell ⟨w.heap.size + 1 + 1, 1, none⟩ (.int .i64 0)).setCell ⟨w.heap.size + 1 + 1, 2, none⟩ (.int .i64 0)).setCell ⟨w.heap.size + 1 + 1, 3, none⟩ (.int .i64 0)).setCell ⟨w.heap.size + 1 + 1, 4, none⟩ (.int .i64 0)).setCell ⟨w.heap.size + 1 + 1, 5, none⟩ (.int .i64 rn1)).setCell ⟨w.heap.size + 1 + 1, 6, none⟩ (.int .i64 0)) = W9 at *
  obtain ⟨g0, g1, g2, g3, g4, g5, g6⟩ := seven ST.out.1
  refine bodyPost_ret (v := .tuple #[.agg #[.int .i64 x.op, .int .i64 0, .int .i64 0, .int .i64 0, .int .i64 0, .int .i64 rn1, .int .i64 0], .int .i64 rn2]) (by simp [results, Try.results53, go_sem, g0, g1, g2, g3, g4, g5, g6]) rfl ?_
  exact ⟨⟨x.op, 0, 0, 0, 0, rn1, 0⟩, by rw [HE.out], fun _ => HI.out.symm, ST.out.2⟩
set_option maxHeartbeats 1000000 in
theorem inst_11 (NP : NPair) (p : Nat) (x : It) (w : World) (hop : x.op = 11) (hs : x.nm.size ≤ maxLen) (hn : NeedP NP p w) :
    Calls Try.prog 53 #[.agg #[FV p], .agg #[.int .i64 x.op, .string x.ln, .int .i64 x.lv, .string x.rn, .int .i64 x.rv, .string x.nm, .string x.us, .int .i64 x.line, .int .i64 x.col]] w (InsAns NP x w) := by
  have h38 : ¬ (3 ≤ x.op ∧ x.op ≤ 8) := by omega
  have HE : Hid (errI NP x = (NP x.nm 5).2) := Lib.hid (by unfold errI; rw [if_neg h38, if_neg (by omega), if_neg (by omega), if_pos hop])
  have HI : Hid (insI NP x = ⟨x.op, 0, 0, 0, 0, (NP x.nm 5).1, 0⟩) := Lib.hid (by unfold insI; rw [if_neg h38, if_neg (by omega), if_neg (by omega), if_pos hop])
  have HCM : Hid (∀ w, Calls Try.prog 66 #[.int .i64 x.op] w fun e w' => e = .returned (.bool false) ∧ w = w') := Lib.hid (cmp_no x.op h38)
  have HN : Hid (∀ w2, Below w.heap.size w w2 → Calls Try.prog 52 #[.pointer (some ⟨p, 0, none⟩), .string x.nm, .int .i64 5] w2 fun e w3 => e = .returned (.tuple #[.int .i64 (NP x.nm 5).1, .int .i64 (NP x.nm 5).2]) ∧ Below w2.heap.size w2 w3) := Lib.hid (hn x.nm hs 5)
  have n9 : (x.op == 9) = false := by rw [beq_eq_false_iff_ne]; omega
  have n10 : (x.op == 10) = false := by rw [beq_eq_false_iff_ne]; omega
  have y11 : (x.op == 11) = true := by rw [hop]; rfl
  have HS := Lib.hid (wk_start w p x)
  clear h38 hop hn
  generalize (NP x.nm 5).1 = rn1 at *
  generalize (NP x.nm 5).2 = rn2 at *
  go_enter Try.func53, Try.ntmps53
  go_wp2_with fail
  have hs := HS.out
  generalize ((((w.alloc (.cells #[FV p] 107)).alloc (.cells #[.int .i64 x.op, .string x.ln, .int .i64 x.lv, .string x.rn, .int .i64 x.rv, .string x.nm, .string x.us, .int .i64 x.line, .int .i64 x.col] 42)).alloc (.cells #[.int .i64 0, .int .i64 0, .int .i64 0, .int .i64 0, .int .i64 0, .int .i64 0, .int .i64 0] 70)).alloc (.cells #[.int .i64 x.op, .int .i64 0, .int .i64 0, .int .i64 0, .int .i64 0, .int .i64 0, .int .i64 0] 70)) = W0 at *
  obtain ⟨k0, tel⟩ := hs
  obtain ⟨⟨i0, i1, i2, i3, i4, i5, i6⟩, ⟨c0, c1, c2, c3, c4, c5, c6⟩, ⟨r0, r1, r2, r3, r4, r5, r6⟩, cz, rz⟩ := wk_cells k0
  have tl := cell_of_row W0 w.heap.size 0 _ _ _ tel
  simp only [List.getElem?_toArray, List.getElem?_cons_zero] at tl
  have TEL := Lib.hid tel
  clear tel HS
  have K0 := Lib.hid k0
  clear k0
  refine (HCM.out _).mono ?_
  rintro e w1 ⟨rfl, rfl⟩
  go_wp2_with fail
  refine (HN.out _ K0.out.bel).mono ?_
  rintro e w2 ⟨rfl, hb2⟩
  clear i0 i1 i2 i3 i4 i5 i6 c0 c1 c2 c3 c4 c5 c6 r0 r1 r2 r3 r4 r5 r6 cz rz
  have k1 := K0.out.still hb2
  obtain ⟨⟨i0, i1, i2, i3, i4, i5, i6⟩, ⟨c0, c1, c2, c3, c4, c5, c6⟩, ⟨r0, r1, r2, r3, r4, r5, r6⟩, cz, rz⟩ := wk_cells k1
  have k2 := k1.set 5 rn1 ⟨x.op, 0, 0, 0, 0, rn1, 0⟩ rfl
  obtain ⟨-, ⟨c0', c1', c2', c3', c4', c5', c6'⟩, ⟨r0', r1', r2', r3', r4', r5', r6'⟩, -, rz'⟩ := wk_cells k2
  have ST := Lib.hid k2.stored
  unfold stored at ST
  clear k1 k2 hb2 tl
  go_wp2_with fail
  generalize ((((((((w2.setCell ⟨w.heap.size + 1 + 1 + 1, 5, none⟩ (.int .i64 rn1)).setCell ⟨w.heap.size + 1 + 1, 0, none⟩ (.int .i64 x.op)).setCell ⟨w.heap.size + 1 + 1, 1, none⟩ (.int .i64 0)).setCell ⟨w.heap.size + 1 + 1, 2, none⟩ (.int .i64 0)).setCell ⟨w.heap.size + 1 + 1, 3, none⟩ (.int .i64 0)).setCell ⟨w.heap.size + 1 + 1, 4, none⟩ (.int .i64 0)).setCell ⟨w.heap.size + 1 + 1, 5, none⟩ (.int .i64 rn1)).setCell ⟨w.heap.size + 1 + 1, 6, none⟩ (.int .i64 0)) = W9 at *
  obtain ⟨g0, g1, g2, g3, g4, g5, g6⟩ := seven ST.out.1
  refine bodyPost_ret (v := .tuple #[.agg #[.int .i64 x.op, .int .i64 0, .int .i64 0, .int .i64 0, .int .i64 0, .int .i64 rn1, .int .i64 0], .int .i64 rn2]) (by simp [results, Try.results53, go_sem, g0, g1, g2, g3, g4, g5, g6]) rfl ?_
  exact ⟨⟨x.op, 0, 0, 0, 0, rn1, 0⟩, by rw [HE.out], fun _ => HI.out.symm, ST.out.2⟩
set_option maxHeartbeats 1000000 in
theorem inst_12 (NP : NPair) (p : Nat) (x : It) (w : World) (hop : x.op = 12) (hs : x.nm.size ≤ maxLen) (hs2 : x.us.size ≤ maxLen) (hn : NeedP NP p w) :
    Calls Try.prog 53 #[.agg #[FV p], .agg #[.int .i64 x.op, .string x.ln, .int .i64 x.lv, .string x.rn, .int .i64 x.rv, .string x.nm, .string x.us, .int .i64 x.line, .int .i64 x.col]] w (InsAns NP x w) := by
  have h38 : ¬ (3 ≤ x.op ∧ x.op ≤ 8) := by omega
  have HE0 : Hid (errI NP x = if (NP x.us 2).2 = 0 then (NP x.nm 5).2 else (NP x.us 2).2) := Lib.hid (by unfold errI; rw [if_neg h38, if_neg (by omega), if_neg (by omega), if_neg (by omega), if_pos hop])
  have HI : Hid (insI NP x = ⟨x.op, 0, 0, 0, 0, (NP x.nm 5).1, (NP x.us 2).1⟩) := Lib.hid (by unfold insI; rw [if_neg h38, if_neg (by omega), if_neg (by omega), if_neg (by omega), if_pos hop])
  have HCM : Hid (∀ w, Calls Try.prog 66 #[.int .i64 x.op] w fun e w' => e = .returned (.bool false) ∧ w = w') := Lib.hid (cmp_no x.op h38)
  have HU : Hid (∀ w2, Below w.heap.size w w2 → Calls Try.prog 52 #[.pointer (some ⟨p, 0, none⟩), .string x.us, .int .i64 2] w2 fun e w3 => e = .returned (.tuple #[.int .i64 (NP x.us 2).1, .int .i64 (NP x.us 2).2]) ∧ Below w2.heap.size w2 w3) := Lib.hid (hn x.us hs2 2)
  have HN : Hid (∀ w2, Below w.heap.size w w2 → Calls Try.prog 52 #[.pointer (some ⟨p, 0, none⟩), .string x.nm, .int .i64 5] w2 fun e w3 => e = .returned (.tuple #[.int .i64 (NP x.nm 5).1, .int .i64 (NP x.nm 5).2]) ∧ Below w2.heap.size w2 w3) := Lib.hid (hn x.nm hs 5)
  have n9 : (x.op == 9) = false := by rw [beq_eq_false_iff_ne]; omega
  have n10 : (x.op == 10) = false := by rw [beq_eq_false_iff_ne]; omega
  have n11 : (x.op == 11) = false := by rw [beq_eq_false_iff_ne]; omega
  have y12 : (x.op == 12) = true := by rw [hop]; rfl
  have HS := Lib.hid (wk_start w p x)
  clear h38 hop hn
  generalize (NP x.nm 5).1 = rn1 at *
  generalize (NP x.nm 5).2 = rn2 at *
  generalize (NP x.us 2).1 = un1 at *
  generalize (NP x.us 2).2 = un2 at *
  by_cases hu0 : un2 = 0
  · have hub : (un2 == 0) = true := by simp [hu0]
    have HE : Hid (errI NP x = rn2) := Lib.hid (by rw [HE0.out, if_pos hu0])
    clear hu0 HE0
    go_enter Try.func53, Try.ntmps53
    go_wp2_with fail
    have hs := HS.out
    generalize ((((w.alloc (.cells #[FV p] 107)).alloc (.cells #[.int .i64 x.op, .string x.ln, .int .i64 x.lv, .string x.rn, .int .i64 x.rv, .string x.nm, .string x.us, .int .i64 x.line, .int .i64 x.col] 42)).alloc (.cells #[.int .i64 0, .int .i64 0, .int .i64 0, .int .i64 0, .int .i64 0, .int .i64 0, .int .i64 0] 70)).alloc (.cells #[.int .i64 x.op, .int .i64 0, .int .i64 0, .int .i64 0, .int .i64 0, .int .i64 0, .int .i64 0] 70)) = W0 at *
    obtain ⟨k0, tel⟩ := hs
    obtain ⟨⟨i0, i1, i2, i3, i4, i5, i6⟩, ⟨c0, c1, c2, c3, c4, c5, c6⟩, ⟨r0, r1, r2, r3, r4, r5, r6⟩, cz, rz⟩ := wk_cells k0
    have tl := cell_of_row W0 w.heap.size 0 _ _ _ tel
    simp only [List.getElem?_toArray, List.getElem?_cons_zero] at tl
    have TEL := Lib.hid tel
    clear tel HS
    have K0 := Lib.hid k0
    clear k0
    refine (HCM.out _).mono ?_
    rintro e w1 ⟨rfl, rfl⟩
    go_wp2_with fail
    refine (HU.out _ K0.out.bel).mono ?_
    rintro e w2 ⟨rfl, hb2⟩
    clear i0 i1 i2 i3 i4 i5 i6 c0 c1 c2 c3 c4 c5 c6 r0 r1 r2 r3 r4 r5 r6 cz rz
    have k1 := K0.out.still hb2
    obtain ⟨⟨i0, i1, i2, i3, i4, i5, i6⟩, ⟨c0, c1, c2, c3, c4, c5, c6⟩, ⟨r0, r1, r2, r3, r4, r5, r6⟩, cz, rz⟩ := wk_cells k1
    have k2 := k1.set 6 un1 ⟨x.op, 0, 0, 0, 0, 0, un1⟩ rfl
    have tl2 : w2.cell? ⟨w.heap.size, 0, none⟩ = some (FV p) := by rw [hb2.cell (p := ⟨w.heap.size, 0, none⟩) (lt_of_cell tl)]; exact tl
    have tl3 : (w2.setCell ⟨w.heap.size + 1 + 1 + 1, 6, none⟩ (.int .i64 un1)).cell? ⟨w.heap.size, 0, none⟩ = some (FV p) := (World.cell?_of_block (w := w2) (Below.heap_setCell _ _ _ _ (by simp; omega))).trans tl2
    obtain ⟨⟨i0', i1', i2', i3', i4', i5', i6'⟩, -, -, -, -⟩ := wk_cells k2
    have K2 := Lib.hid k2
    clear k1 k2 hb2 tl tl2 K0
    go_wp2_with fail
    refine (HN.out _ K2.out.bel).mono ?_
    rintro e w3 ⟨rfl, hb3⟩
    clear i0 i1 i2 i3 i4 i5 i6 c0 c1 c2 c3 c4 c5 c6 r0 r1 r2 r3 r4 r5 r6 cz rz i0' i1' i2' i3' i4' i5' i6' tl3
    have k3 := K2.out.still hb3
    obtain ⟨⟨i0, i1, i2, i3, i4, i5, i6⟩, ⟨c0, c1, c2, c3, c4, c5, c6⟩, ⟨r0, r1, r2, r3, r4, r5, r6⟩, cz, rz⟩ := wk_cells k3
    have k4 := k3.set 5 rn1 ⟨x.op, 0, 0, 0, 0, rn1, un1⟩ rfl
    obtain ⟨-, ⟨c0', c1', c2', c3', c4', c5', c6'⟩, ⟨r0', r1', r2', r3', r4', r5', r6'⟩, -, rz'⟩ := wk_cells k4
    have ST := Lib.hid k4.stored
    unfold stored at ST
    clear k3 k4 hb3 K2
    go_wp2_with fail
    generalize ((((((((w3.setCell ⟨w.heap.size + 1 + 1 + 1, 5, none⟩ (.int .i64 rn1)).setCell ⟨w.heap.size + 1 + 1, 0, none⟩ (.int .i64 x.op)).setCell ⟨w.heap.size + 1 + 1, 1, none⟩ (.int .i64 0)).setCell ⟨w.heap.size + 1 + 1, 2, none⟩ (.int .i64 0)).setCell ⟨w.heap.size + 1 + 1, 3, none⟩ (.int .i64 0)).setCell ⟨w.heap.size + 1 + 1, 4, none⟩ (.int .i64 0)).setCell ⟨w.heap.size + 1 + 1, 5, none⟩ (.int .i64 rn1)).setCell ⟨w.heap.size + 1 + 1, 6, none⟩ (.int .i64 un1)) = W9 at *
    obtain ⟨g0, g1, g2, g3, g4, g5, g6⟩ := seven ST.out.1
    refine bodyPost_ret (v := .tuple #[.agg #[.int .i64 x.op, .int .i64 0, .int .i64 0, .int .i64 0, .int .i64 0, .int .i64 rn1, .int .i64 un1], .int .i64 rn2]) (by simp [results, Try.results53, go_sem, g0, g1, g2, g3, g4, g5, g6]) rfl ?_
    exact ⟨⟨x.op, 0, 0, 0, 0, rn1, un1⟩, by rw [HE.out], fun _ => HI.out.symm, ST.out.2⟩
  · have hub : (un2 == 0) = false := by rw [beq_eq_false_iff_ne]; exact hu0
    have HE : Hid (errI NP x = un2) := Lib.hid (by rw [HE0.out, if_neg hu0])
    have HU0 := Lib.hid hu0
    clear hu0 HE0
    go_enter Try.func53, Try.ntmps53
    go_wp2_with fail
    have hs := HS.out
    generalize ((((w.alloc (.cells #[FV p] 107)).alloc (.cells #[.int .i64 x.op, .string x.ln, .int .i64 x.lv, .string x.rn, .int .i64 x.rv, .string x.nm, .string x.us, .int .i64 x.line, .int .i64 x.col] 42)).alloc (.cells #[.int .i64 0, .int .i64 0, .int .i64 0, .int .i64 0, .int .i64 0, .int .i64 0, .int .i64 0] 70)).alloc (.cells #[.int .i64 x.op, .int .i64 0, .int .i64 0, .int .i64 0, .int .i64 0, .int .i64 0, .int .i64 0] 70)) = W0 at *
    obtain ⟨k0, tel⟩ := hs
    obtain ⟨⟨i0, i1, i2, i3, i4, i5, i6⟩, ⟨c0, c1, c2, c3, c4, c5, c6⟩, ⟨r0, r1, r2, r3, r4, r5, r6⟩, cz, rz⟩ := wk_cells k0
    have tl := cell_of_row W0 w.heap.size 0 _ _ _ tel
    simp only [List.getElem?_toArray, List.getElem?_cons_zero] at tl
    have TEL := Lib.hid tel
    clear tel HS
    have K0 := Lib.hid k0
    clear k0
    refine (HCM.out _).mono ?_
    rintro e w1 ⟨rfl, rfl⟩
    go_wp2_with fail
    refine (HU.out _ K0.out.bel).mono ?_
    rintro e w2 ⟨rfl, hb2⟩
    clear i0 i1 i2 i3 i4 i5 i6 c0 c1 c2 c3 c4 c5 c6 r0 r1 r2 r3 r4 r5 r6 cz rz
    have k1 := K0.out.still hb2
    obtain ⟨⟨i0, i1, i2, i3, i4, i5, i6⟩, ⟨c0, c1, c2, c3, c4, c5, c6⟩, ⟨r0, r1, r2, r3, r4, r5, r6⟩, cz, rz⟩ := wk_cells k1
    have k2 := k1.set 6 un1 ⟨x.op, 0, 0, 0, 0, 0, un1⟩ rfl
    obtain ⟨-, ⟨c0', c1', c2', c3', c4', c5', c6'⟩, ⟨r0', r1', r2', r3', r4', r5', r6'⟩, -, rz'⟩ := wk_cells k2
    have ST := Lib.hid k2.stored
    unfold stored at ST
    clear k1 k2 hb2 tl
    go_wp2_with fail
    generalize ((((((((w2.setCell ⟨w.heap.size + 1 + 1 + 1, 6, none⟩ (.int .i64 un1)).setCell ⟨w.heap.size + 1 + 1, 0, none⟩ (.int .i64 x.op)).setCell ⟨w.heap.size + 1 + 1, 1, none⟩ (.int .i64 0)).setCell ⟨w.heap.size + 1 + 1, 2, none⟩ (.int .i64 0)).setCell ⟨w.heap.size + 1 + 1, 3, none⟩ (.int .i64 0)).setCell ⟨w.heap.size + 1 + 1, 4, none⟩ (.int .i64 0)).setCell ⟨w.heap.size + 1 + 1, 5, none⟩ (.int .i64 0)).setCell ⟨w.heap.size + 1 + 1, 6, none⟩ (.int .i64 un1)) = W9 at *
    obtain ⟨g0, g1, g2, g3, g4, g5, g6⟩ := seven ST.out.1
    refine bodyPost_ret (v := .tuple #[.agg #[.int .i64 x.op, .int .i64 0, .int .i64 0, .int .i64 0, .int .i64 0, .int .i64 0, .int .i64 un1], .int .i64 un2]) (by simp [results, Try.results53, go_sem, g0, g1, g2, g3, g4, g5, g6]) rfl ?_
    exact ⟨⟨x.op, 0, 0, 0, 0, 0, un1⟩, by rw [HE.out], fun h => absurd (HE.out.symm.trans h) HU0.out, ST.out.2⟩
set_option maxHeartbeats 1000000 in
theorem inst_cmp (NP : NPair) (p : Nat) (x : It) (w : World) (h1 : 3 ≤ x.op) (h2 : x.op ≤ 8) (hs : x.ln.size ≤ maxLen) (hs2 : x.rn.size ≤ maxLen) (hn : NeedP NP p w) :
    Calls Try.prog 53 #[.agg #[FV p], .agg #[.int .i64 x.op, .string x.ln, .int .i64 x.lv, .string x.rn, .int .i64 x.rv, .string x.nm, .string x.us, .int .i64 x.line, .int .i64 x.col]] w (InsAns NP x w) := by
  have h38 : 3 ≤ x.op ∧ x.op ≤ 8 := ⟨h1, h2⟩
  have HE0 : Hid (errI NP x = if (valS NP x.ln x.lv).2 = 0 then (valS NP x.rn x.rv).2 else (valS NP x.ln x.lv).2) := Lib.hid (by unfold errI; rw [if_pos h38])
  have HI : Hid (insI NP x = ⟨x.op, (valS NP x.ln x.lv).1.1, (valS NP x.ln x.lv).1.2, (valS NP x.rn x.rv).1.1, (valS NP x.rn x.rv).1.2, 0, 0⟩) := Lib.hid (by unfold insI; rw [if_pos h38])
  have HCM : Hid (∀ w, Calls Try.prog 66 #[.int .i64 x.op] w fun e w' => e = .returned (.bool true) ∧ w = w') := Lib.hid (cmp_yes x.op h1 h2)
  have HA : Hid (∀ w2, Below w.heap.size w w2 → Calls Try.prog 67 #[.agg #[FV p], .agg #[.string x.ln, .int .i64 x.lv]] w2 fun e w3 => e = .returned (.tuple #[.agg #[.int .i64 (valS NP x.ln x.lv).1.1, .int .i64 (valS NP x.ln x.lv).1.2], .int .i64 (valS NP x.ln x.lv).2]) ∧ Below w2.heap.size w2 w3) := Lib.hid (fun w2 hb => bval_any NP p x.ln x.lv w2 hs (hn.later hb))
  have HBV : Hid (∀ w2, Below w.heap.size w w2 → Calls Try.prog 67 #[.agg #[FV p], .agg #[.string x.rn, .int .i64 x.rv]] w2 fun e w3 => e = .returned (.tuple #[.agg #[.int .i64 (valS NP x.rn x.rv).1.1, .int .i64 (valS NP x.rn x.rv).1.2], .int .i64 (valS NP x.rn x.rv).2]) ∧ Below w2.heap.size w2 w3) := Lib.hid (fun w2 hb => bval_any NP p x.rn x.rv w2 hs2 (hn.later hb))
  have HS := Lib.hid (wk_start w p x)
  clear h38 h1 h2 hn
  generalize (valS NP x.ln x.lv).1.1 = a1 at *
  generalize (valS NP x.ln x.lv).1.2 = a2 at *
  generalize (valS NP x.ln x.lv).2 = ea at *
  generalize (valS NP x.rn x.rv).1.1 = b1 at *
  generalize (valS NP x.rn x.rv).1.2 = b2 at *
  generalize (valS NP x.rn x.rv).2 = eb at *
  by_cases hu0 : ea = 0
  · have hub : (ea == 0) = true := by simp [hu0]
    have HE : Hid (errI NP x = eb) := Lib.hid (by rw [HE0.out, if_pos hu0])
    clear hu0 HE0
    go_enter Try.func53, Try.ntmps53
    go_wp2_with fail
    have hs := HS.out
    generalize ((((w.alloc (.cells #[FV p] 107)).alloc (.cells #[.int .i64 x.op, .string x.ln, .int .i64 x.lv, .string x.rn, .int .i64 x.rv, .string x.nm, .string x.us, .int .i64 x.line, .int .i64 x.col] 42)).alloc (.cells #[.int .i64 0, .int .i64 0, .int .i64 0, .int .i64 0, .int .i64 0, .int .i64 0, .int .i64 0] 70)).alloc (.cells #[.int .i64 x.op, .int .i64 0, .int .i64 0, .int .i64 0, .int .i64 0, .int .i64 0, .int .i64 0] 70)) = W0 at *
    obtain ⟨k0, tel⟩ := hs
    obtain ⟨⟨i0, i1, i2, i3, i4, i5, i6⟩, ⟨c0, c1, c2, c3, c4, c5, c6⟩, ⟨r0, r1, r2, r3, r4, r5, r6⟩, cz, rz⟩ := wk_cells k0
    have tl := cell_of_row W0 w.heap.size 0 _ _ _ tel
    simp only [List.getElem?_toArray, List.getElem?_cons_zero] at tl
    have TEL := Lib.hid tel
    clear tel HS
    have K0 := Lib.hid k0
    clear k0
    refine (HCM.out _).mono ?_
    rintro e w1 ⟨rfl, rfl⟩
    go_wp2_with fail
    refine (HA.out _ K0.out.bel).mono ?_
    rintro e w2 ⟨rfl, hb2⟩
    clear i0 i1 i2 i3 i4 i5 i6 c0 c1 c2 c3 c4 c5 c6 r0 r1 r2 r3 r4 r5 r6 cz rz
    have k1 := K0.out.still hb2
    obtain ⟨⟨i0, i1, i2, i3, i4, i5, i6⟩, ⟨c0, c1, c2, c3, c4, c5, c6⟩, ⟨r0, r1, r2, r3, r4, r5, r6⟩, cz, rz⟩ := wk_cells k1
    have k15 := k1.set 1 a1 ⟨x.op, a1, 0, 0, 0, 0, 0⟩ rfl
    have k2 := k15.set 2 a2 ⟨x.op, a1, a2, 0, 0, 0, 0⟩ rfl
    have tl2 : w2.cell? ⟨w.heap.size, 0, none⟩ = some (FV p) := by rw [hb2.cell (p := ⟨w.heap.size, 0, none⟩) (lt_of_cell tl)]; exact tl
    have tl3 : ((w2.setCell ⟨w.heap.size + 1 + 1 + 1, 1, none⟩ (.int .i64 a1)).setCell ⟨w.heap.size + 1 + 1 + 1, 2, none⟩ (.int .i64 a2)).cell? ⟨w.heap.size, 0, none⟩ = some (FV p) := (World.cell?_of_block (w := w2) ((Below.heap_setCell _ _ _ _ (by simp; omega)).trans (Below.heap_setCell _ _ _ _ (by simp; omega)))).trans tl2
    obtain ⟨⟨i0', i1', i2', i3', i4', i5', i6'⟩, -, -, -, -⟩ := wk_cells k2
    have K2 := Lib.hid k2
    clear k1 k15 k2 hb2 tl tl2 K0
    go_wp2_with fail
    refine (HBV.out _ K2.out.bel).mono ?_
    rintro e w3 ⟨rfl, hb3⟩
    clear i0 i1 i2 i3 i4 i5 i6 c0 c1 c2 c3 c4 c5 c6 r0 r1 r2 r3 r4 r5 r6 cz rz i0' i1' i2' i3' i4' i5' i6' tl3
    have k3 := K2.out.still hb3
    obtain ⟨⟨i0, i1, i2, i3, i4, i5, i6⟩, ⟨c0, c1, c2, c3, c4, c5, c6⟩, ⟨r0, r1, r2, r3, r4, r5, r6⟩, cz, rz⟩ := wk_cells k3
    have k35 := k3.set 3 b1 ⟨x.op, a1, a2, b1, 0, 0, 0⟩ rfl
    have k4 := k35.set 4 b2 ⟨x.op, a1, a2, b1, b2, 0, 0⟩ rfl
    obtain ⟨-, ⟨c0', c1', c2', c3', c4', c5', c6'⟩, ⟨r0', r1', r2', r3', r4', r5', r6'⟩, -, rz'⟩ := wk_cells k4
    have ST := Lib.hid k4.stored
    unfold stored at ST
    clear k3 k35 k4 hb3 K2
    go_wp2_with fail
    generalize (((((((((w3.setCell ⟨w.heap.size + 1 + 1 + 1, 3, none⟩ (.int .i64 b1)).setCell ⟨w.heap.size + 1 + 1 + 1, 4, none⟩ (.int .i64 b2)).setCell ⟨w.heap.size + 1 + 1, 0, none⟩ (.int .i64 x.op)).setCell ⟨w.heap.size + 1 + 1, 1, none⟩ (.int .i64 a1)).setCell ⟨w.heap.size + 1 + 1, 2, none⟩ (.int .i64 a2)).setCell ⟨w.heap.size + 1 + 1, 3, none⟩ (.int .i64 b1)).setCell ⟨w.heap.size + 1 + 1, 4, none⟩ (.int .i64 b2)).setCell ⟨w.heap.size + 1 + 1, 5, none⟩ (.int .i64 0)).setCell ⟨w.heap.size + 1 + 1, 6, none⟩ (.int .i64 0)) = W9 at *
    obtain ⟨g0, g1, g2, g3, g4, g5, g6⟩ := seven ST.out.1
    refine bodyPost_ret (v := .tuple #[.agg #[.int .i64 x.op, .int .i64 a1, .int .i64 a2, .int .i64 b1, .int .i64 b2, .int .i64 0, .int .i64 0], .int .i64 eb]) (by simp [results, Try.results53, go_sem, g0, g1, g2, g3, g4, g5, g6]) rfl ?_
    exact ⟨⟨x.op, a1, a2, b1, b2, 0, 0⟩, by rw [HE.out], fun _ => HI.out.symm, ST.out.2⟩
  · have hub : (ea == 0) = false := by rw [beq_eq_false_iff_ne]; exact hu0
    have HE : Hid (errI NP x = ea) := Lib.hid (by rw [HE0.out, if_neg hu0])
    have HU0 := Lib.hid hu0
    clear hu0 HE0
    go_enter Try.func53, Try.ntmps53
    go_wp2_with fail
    have hs := HS.out
    generalize ((((w.alloc (.cells #[FV p] 107)).alloc (.cells #[.int .i64 x.op, .string x.ln, .int .i64 x.lv, .string x.rn, .int .i64 x.rv, .string x.nm, .string x.us, .int .i64 x.line, .int .i64 x.col] 42)).alloc (.cells #[.int .i64 0, .int .i64 0, .int .i64 0, .int .i64 0, .int .i64 0, .int .i64 0, .int .i64 0] 70)).alloc (.cells #[.int .i64 x.op, .int .i64 0, .int .i64 0, .int .i64 0, .int .i64 0, .int .i64 0, .int .i64 0] 70)) = W0 at *
    obtain ⟨k0, tel⟩ := hs
    obtain ⟨⟨i0, i1, i2, i3, i4, i5, i6⟩, ⟨c0, c1, c2, c3, c4, c5, c6⟩, ⟨r0, r1, r2, r3, r4, r5, r6⟩, cz, rz⟩ := wk_cells k0
    have tl := cell_of_row W0 w.heap.size 0 _ _ _ tel
    simp only [List.getElem?_toArray, List.getElem?_cons_zero] at tl
    have TEL := Lib.hid tel
    clear tel HS
    have K0 := Lib.hid k0
    clear k0
    refine (HCM.out _).mono ?_
    rintro e w1 ⟨rfl, rfl⟩
    go_wp2_with fail
    refine (HA.out _ K0.out.bel).mono ?_
    rintro e w2 ⟨rfl, hb2⟩
    clear i0 i1 i2 i3 i4 i5 i6 c0 c1 c2 c3 c4 c5 c6 r0 r1 r2 r3 r4 r5 r6 cz rz
    have k1 := K0.out.still hb2
    obtain ⟨⟨i0, i1, i2, i3, i4, i5, i6⟩, ⟨c0, c1, c2, c3, c4, c5, c6⟩, ⟨r0, r1, r2, r3, r4, r5, r6⟩, cz, rz⟩ := wk_cells k1
    have k15 := k1.set 1 a1 ⟨x.op, a1, 0, 0, 0, 0, 0⟩ rfl
    have k2 := k15.set 2 a2 ⟨x.op, a1, a2, 0, 0, 0, 0⟩ rfl
    obtain ⟨-, ⟨c0', c1', c2', c3', c4', c5', c6'⟩, ⟨r0', r1', r2', r3', r4', r5', r6'⟩, -, rz'⟩ := wk_cells k2
    have ST := Lib.hid k2.stored
    unfold stored at ST
    clear k1 k15 k2 hb2 tl
    go_wp2_with fail
    generalize (((((((((w2.setCell ⟨w.heap.size + 1 + 1 + 1, 1, none⟩ (.int .i64 a1)).setCell ⟨w.heap.size + 1 + 1 + 1, 2, none⟩ (.int .i64 a2)).setCell ⟨w.heap.size + 1 + 1, 0, none⟩ (.int .i64 x.op)).setCell ⟨w.heap.size + 1 + 1, 1, none⟩ (.int .i64 a1)).setCell ⟨w.heap.size + 1 + 1, 2, none⟩ (.int .i64 a2)).setCell ⟨w.heap.size + 1 + 1, 3, none⟩ (.int .i64 0)).setCell ⟨w.heap.size + 1 + 1, 4, none⟩ (.int .i64 0)).setCell ⟨w.heap.size + 1 + 1, 5, none⟩ (.int .i64 0)).setCell ⟨w.heap.size + 1 + 1, 6, none⟩ (.int .i64 0)) = W9 at *
    obtain ⟨g0, g1, g2, g3, g4, g5, g6⟩ := seven ST.out.1
    refine bodyPost_ret (v := .tuple #[.agg #[.int .i64 x.op, .int .i64 a1, .int .i64 a2, .int .i64 0, .int .i64 0, .int .i64 0, .int .i64 0], .int .i64 ea]) (by simp [results, Try.results53, go_sem, g0, g1, g2, g3, g4, g5, g6]) rfl ?_
    exact ⟨⟨x.op, a1, a2, 0, 0, 0, 0⟩, by rw [HE.out], fun h => absurd (HE.out.symm.trans h) HU0.out, ST.out.2⟩
theorem inst_any (NP : NPair) (p : Nat) (x : It) (hx : x.ok) (w : World) (hn : NeedP NP p w) :
    Calls Try.prog 53 #[.agg #[FV p], .agg #[.int .i64 x.op, .string x.ln, .int .i64 x.lv, .string x.rn, .int .i64 x.rv, .string x.nm, .string x.us, .int .i64 x.line, .int .i64 x.col]] w (InsAns NP x w) := by
  by_cases h38 : 3 ≤ x.op ∧ x.op ≤ 8
  · exact inst_cmp NP p x w h38.1 h38.2 hx.ln hx.rn hn
  · by_cases h9 : x.op = 9
    · exact inst_9 NP p x w h9 hx.nm hn
    · by_cases h10 : x.op = 10
      · exact inst_10 NP p x w h10 hx.nm hn
      · by_cases h11 : x.op = 11
        · exact inst_11 NP p x w h11 hx.nm hn
        · by_cases h12 : x.op = 12
          · exact inst_12 NP p x w h12 hx.nm hx.us hn
          · exact inst_other NP p x w h38 (by omega)
end Go.Proofs.Ytpbgicfoopicbaa
