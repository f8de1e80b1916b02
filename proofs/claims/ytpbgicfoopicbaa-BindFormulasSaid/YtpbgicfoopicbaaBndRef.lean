/-
  Bind: a word's value, an item's instruction: the document's.
-/
import Derived.Test.YtpbgicfoopicbaaBndInst
import Derived.Deep.RegionWith
namespace Go.Proofs.Ytpbgicfoopicbaa
open Go.RowKit
set_option linter.unusedVariables false
set_option linter.unusedSimpArgs false

theorem wk_start3 (w : World) (x : It) (R : Array Value) :
    (((w.alloc (.cells #[.int .i64 x.op, .string x.ln, .int .i64 x.lv, .string x.rn, .int .i64 x.rv, .string x.nm, .string x.us, .int .i64 x.line, .int .i64 x.col] 42)).alloc (.cells R 70)).alloc (.cells #[.int .i64 x.op, .int .i64 0, .int .i64 0, .int .i64 0, .int .i64 0, .int .i64 0, .int .i64 0] 70)).heap[w.heap.size]? = some (.cells #[.int .i64 x.op, .string x.ln, .int .i64 x.lv, .string x.rn, .int .i64 x.rv, .string x.nm, .string x.us, .int .i64 x.line, .int .i64 x.col] 42 (0, 0)) ∧
    (((w.alloc (.cells #[.int .i64 x.op, .string x.ln, .int .i64 x.lv, .string x.rn, .int .i64 x.rv, .string x.nm, .string x.us, .int .i64 x.line, .int .i64 x.col] 42)).alloc (.cells R 70)).alloc (.cells #[.int .i64 x.op, .int .i64 0, .int .i64 0, .int .i64 0, .int .i64 0, .int .i64 0, .int .i64 0] 70)).heap[w.heap.size + 1]? = some (.cells R 70 (0, 0)) ∧
    (((w.alloc (.cells #[.int .i64 x.op, .string x.ln, .int .i64 x.lv, .string x.rn, .int .i64 x.rv, .string x.nm, .string x.us, .int .i64 x.line, .int .i64 x.col] 42)).alloc (.cells R 70)).alloc (.cells #[.int .i64 x.op, .int .i64 0, .int .i64 0, .int .i64 0, .int .i64 0, .int .i64 0, .int .i64 0] 70)).heap[w.heap.size + 1 + 1]? = some (.cells #[.int .i64 x.op, .int .i64 0, .int .i64 0, .int .i64 0, .int .i64 0, .int .i64 0, .int .i64 0] 70 (0, 0)) ∧
    Below w.heap.size w (((w.alloc (.cells #[.int .i64 x.op, .string x.ln, .int .i64 x.lv, .string x.rn, .int .i64 x.rv, .string x.nm, .string x.us, .int .i64 x.line, .int .i64 x.col] 42)).alloc (.cells R 70)).alloc (.cells #[.int .i64 x.op, .int .i64 0, .int .i64 0, .int .i64 0, .int .i64 0, .int .i64 0, .int .i64 0] 70)) := by
  have f2 := heap_alloc_new w (.cells #[.int .i64 x.op, .string x.ln, .int .i64 x.lv, .string x.rn, .int .i64 x.rv, .string x.nm, .string x.us, .int .i64 x.line, .int .i64 x.col] 42)
  have b2 := bbel_alloc w (.cells #[.int .i64 x.op, .string x.ln, .int .i64 x.lv, .string x.rn, .int .i64 x.rv, .string x.nm, .string x.us, .int .i64 x.line, .int .i64 x.col] 42)
  have z2 : (w.alloc (.cells #[.int .i64 x.op, .string x.ln, .int .i64 x.lv, .string x.rn, .int .i64 x.rv, .string x.nm, .string x.us, .int .i64 x.line, .int .i64 x.col] 42)).heap.size = w.heap.size + 1 := by simp
  generalize w.alloc (.cells #[.int .i64 x.op, .string x.ln, .int .i64 x.lv, .string x.rn, .int .i64 x.rv, .string x.nm, .string x.us, .int .i64 x.line, .int .i64 x.col] 42) = W2 at *
  have f3 := heap_alloc_new W2 (.cells R 70)
  have b3 := bbel_alloc W2 (.cells R 70)
  have z3 : (W2.alloc (.cells R 70)).heap.size = w.heap.size + 1 + 1 := by simp [z2]
  generalize W2.alloc (.cells R 70) = W3 at *
  have f4 := heap_alloc_new W3 (.cells #[.int .i64 x.op, .int .i64 0, .int .i64 0, .int .i64 0, .int .i64 0, .int .i64 0, .int .i64 0] 70)
  have b4 := bbel_alloc W3 (.cells #[.int .i64 x.op, .int .i64 0, .int .i64 0, .int .i64 0, .int .i64 0, .int .i64 0, .int .i64 0] 70)
  generalize W3.alloc (.cells #[.int .i64 x.op, .int .i64 0, .int .i64 0, .int .i64 0, .int .i64 0, .int .i64 0, .int .i64 0] 70) = W4 at *
  rw [z2] at f3 b3
  rw [z3] at f4 b4
  refine ⟨?_, ?_, f4, (b2.trans (b3.mono (by omega))).trans (b4.mono (by omega))⟩
  · rw [b4.block _ (by omega), b3.block _ (by omega)]; exact f2
  · rw [b4.block _ (by omega)]; exact f3
theorem wk_start2 (w : World) (x : It) : Wk w (((w.alloc (.cells #[.int .i64 x.op, .string x.ln, .int .i64 x.lv, .string x.rn, .int .i64 x.rv, .string x.nm, .string x.us, .int .i64 x.line, .int .i64 x.col] 42)).alloc (.cells #[.int .i64 0, .int .i64 0, .int .i64 0, .int .i64 0, .int .i64 0, .int .i64 0, .int .i64 0] 70)).alloc (.cells #[.int .i64 x.op, .int .i64 0, .int .i64 0, .int .i64 0, .int .i64 0, .int .i64 0, .int .i64 0] 70)) w.heap.size x ⟨x.op, 0, 0, 0, 0, 0, 0⟩ :=
  have h := wk_start3 w x #[.int .i64 0, .int .i64 0, .int .i64 0, .int .i64 0, .int .i64 0, .int .i64 0, .int .i64 0]
  ⟨h.1, h.2.1, h.2.2.1, h.2.2.2, Nat.le_refl _⟩
set_option maxHeartbeats 400000 in
theorem rval_any (NP : NPair) (a : Option Addr) (n c : Nat) (s : ByteArray) (v : Int) (w : World) (hs : s.size ≤ maxLen) (hn : NeedR NP a n c w) :
    Calls Try.prog 68 #[.slice a n c, .agg #[.string s, .int .i64 v]] w fun e w' => e = .returned (.tuple #[.agg #[.int .i64 (valS NP s v).1.1, .int .i64 (valS NP s v).1.2], .int .i64 (valS NP s v).2]) ∧ Below w.heap.size w w' := by
  have HB3 : Hid (∀ o2 o3, Below w.heap.size w ((w.alloc o2).alloc o3)) := Lib.hid fun o2 o3 => (bbel_alloc w o2).trans ((bbel_alloc _ o3).mono (by simp))
  by_cases he : s = ByteArray.empty
  · have hq : s.toList.isEmpty = true := by rw [he, ByteArray.toList_eq]; rfl
    have HV : Hid (valS NP s v = ((-1, v), 0)) := Lib.hid (by unfold valS; rw [if_pos he])
    clear hn he
    go_enter Try.func68, Try.ntmps68
    go_wp2_with fail
    have h2 := heap_alloc_new (w.alloc (.cells #[.string s, .int .i64 v] 38)) (.cells #[.int .i64 (-1), .int .i64 v] 68)
    have HB := Lib.hid (HB3.out (.cells #[.string s, .int .i64 v] 38) (.cells #[.int .i64 (-1), .int .i64 v] 68))
    have hz : (w.alloc (.cells #[.string s, .int .i64 v] 38)).heap.size = w.heap.size + 1 := by simp
    rw [hz] at h2
    clear hz
    generalize ((w.alloc (.cells #[.string s, .int .i64 v] 38)).alloc (.cells #[.int .i64 (-1), .int .i64 v] 68)) = W5 at *
    obtain ⟨g0, g1, _⟩ := pair_cells h2
    refine bodyPost_ret (v := .tuple #[.agg #[.int .i64 (-1), .int .i64 v], .int .i64 0]) (by simp [results, Try.results68, go_sem, g0, g1]) rfl ?_
    rw [HV.out]
    exact ⟨rfl, HB.out⟩
  · have hq : s.toList.isEmpty = false := by
      have h := empty_list s
      rw [decide_eq_false he] at h
      cases hl : s.toList with
      | nil => rw [hl, ByteArray.toList_eq] at h; exact absurd h (by decide)
      | cons x r => rfl
    have HV : Hid (valS NP s v = (((NP s 1).1, 0), (NP s 1).2)) := Lib.hid (by unfold valS; rw [if_neg he])
    have HN : Hid (∀ w2, Below w.heap.size w w2 → Calls Try.prog 69 #[.slice a n c, .string s, .int .i64 1] w2 fun e w3 => e = .returned (.tuple #[.int .i64 (NP s 1).1, .int .i64 (NP s 1).2]) ∧ Below w2.heap.size w2 w3) := Lib.hid (hn s hs 1)
    clear hn he
    generalize (NP s 1).1 = r1 at *
    generalize (NP s 1).2 = r2 at *
    go_enter Try.func68, Try.ntmps68
    go_wp2_with fail
    have h2 := heap_alloc_new (w.alloc (.cells #[.string s, .int .i64 v] 38)) (.cells #[.int .i64 0, .int .i64 0] 68)
    have HB := Lib.hid (HB3.out (.cells #[.string s, .int .i64 v] 38) (.cells #[.int .i64 0, .int .i64 0] 68))
    have hz : (w.alloc (.cells #[.string s, .int .i64 v] 38)).heap.size = w.heap.size + 1 := by simp
    rw [hz] at h2
    clear hz
    generalize ((w.alloc (.cells #[.string s, .int .i64 v] 38)).alloc (.cells #[.int .i64 0, .int .i64 0] 68)) = W5 at *
    refine (HN.out W5 HB.out).mono ?_
    rintro e w3 ⟨rfl, hb3⟩
    have h3 := pair_at h2 hb3
    obtain ⟨g0, g1, gz⟩ := pair_cells h3
    have h4 := pair_set h3 (.int .i64 r1) (.int .i64 0)
    have HB6 : Hid (Below w.heap.size w ((w3.setCell ⟨w.heap.size + 1, 0, none⟩ (.int .i64 r1)).setCell ⟨w.heap.size + 1, 1, none⟩ (.int .i64 0))) := Lib.hid (((HB.out.trans (hb3.mono HB.out.size)).setCell (p := ⟨w.heap.size + 1, 0, none⟩) (by simp) _).setCell (p := ⟨w.heap.size + 1, 1, none⟩) (by simp) _)
    have H4 := Lib.hid h4
    clear h2 h3 h4 hb3 HB
    go_wp2_with fail
    generalize ((w3.setCell ⟨w.heap.size + 1, 0, none⟩ (.int .i64 r1)).setCell ⟨w.heap.size + 1, 1, none⟩ (.int .i64 0)) = W6 at *
    obtain ⟨g0, g1, _⟩ := pair_cells H4.out
    refine bodyPost_ret (v := .tuple #[.agg #[.int .i64 r1, .int .i64 0], .int .i64 r2]) (by simp [results, Try.results68, go_sem, g0, g1]) rfl ?_
    rw [HV.out]
    exact ⟨rfl, HB6.out⟩
set_option maxHeartbeats 1000000 in
theorem rinst_other (NP : NPair) (a : Option Addr) (n c : Nat) (x : It) (w : World) (h38 : ¬ (3 ≤ x.op ∧ x.op ≤ 8)) (h9 : x.op < 9 ∨ 12 < x.op) :
    Calls Try.prog 54 #[.slice a n c, .agg #[.int .i64 x.op, .string x.ln, .int .i64 x.lv, .string x.rn, .int .i64 x.rv, .string x.nm, .string x.us, .int .i64 x.line, .int .i64 x.col]] w (InsAns NP x w) := by
  have HE : Hid (errI NP x = 0) := Lib.hid (by unfold errI; rw [if_neg h38, if_neg (by omega), if_neg (by omega), if_neg (by omega), if_neg (by omega)])
  have HI : Hid (insI NP x = ⟨x.op, 0, 0, 0, 0, 0, 0⟩) := Lib.hid (by unfold insI; rw [if_neg h38, if_neg (by omega), if_neg (by omega), if_neg (by omega), if_neg (by omega)])
  have hu : ∀ b : Bool, ¬ (some undef = some (Value.bool b)) := fun b h => by cases h
  have n12 : (x.op == 12) = false := by rw [beq_eq_false_iff_ne]; omega
  have ST := Lib.hid (wk_start3 w x #[.int .i64 x.op, .int .i64 0, .int .i64 0, .int .i64 0, .int .i64 0, .int .i64 0, .int .i64 0])
  have hcase : (x.op < 3) ∨ (3 ≤ x.op ∧ ¬ x.op ≤ 8 ∧ ¬ 9 ≤ x.op) ∨ (3 ≤ x.op ∧ ¬ x.op ≤ 8 ∧ 9 ≤ x.op ∧ ¬ x.op ≤ 12) := by omega
  clear h38 h9
  rcases hcase with h1 | ⟨h1, h2, h3⟩ | ⟨h1, h2, h3, h4⟩
  · have h5 : ¬ 3 ≤ x.op := by omega
    have h6 : ¬ 9 ≤ x.op := by omega
    go_enter Try.func54, Try.ntmps54
    go_wp2_with fail
    generalize (((w.alloc (.cells #[.int .i64 x.op, .string x.ln, .int .i64 x.lv, .string x.rn, .int .i64 x.rv, .string x.nm, .string x.us, .int .i64 x.line, .int .i64 x.col] 42)).alloc (.cells #[.int .i64 x.op, .int .i64 0, .int .i64 0, .int .i64 0, .int .i64 0, .int .i64 0, .int .i64 0] 70)).alloc (.cells #[.int .i64 x.op, .int .i64 0, .int .i64 0, .int .i64 0, .int .i64 0, .int .i64 0, .int .i64 0] 70)) = W9 at *
    obtain ⟨g0, g1, g2, g3, g4, g5, g6⟩ := seven ST.out.2.1
    refine bodyPost_ret (v := .tuple #[.agg #[.int .i64 x.op, .int .i64 0, .int .i64 0, .int .i64 0, .int .i64 0, .int .i64 0, .int .i64 0], .int .i64 0]) (by simp [results, Try.results54, go_sem, g0, g1, g2, g3, g4, g5, g6]) rfl ?_
    exact ⟨⟨x.op, 0, 0, 0, 0, 0, 0⟩, by rw [HE.out], fun _ => HI.out.symm, ST.out.2.2.2⟩
  · omega
  · go_enter Try.func54, Try.ntmps54
    go_wp2_with fail
    generalize (((w.alloc (.cells #[.int .i64 x.op, .string x.ln, .int .i64 x.lv, .string x.rn, .int .i64 x.rv, .string x.nm, .string x.us, .int .i64 x.line, .int .i64 x.col] 42)).alloc (.cells #[.int .i64 x.op, .int .i64 0, .int .i64 0, .int .i64 0, .int .i64 0, .int .i64 0, .int .i64 0] 70)).alloc (.cells #[.int .i64 x.op, .int .i64 0, .int .i64 0, .int .i64 0, .int .i64 0, .int .i64 0, .int .i64 0] 70)) = W9 at *
    obtain ⟨g0, g1, g2, g3, g4, g5, g6⟩ := seven ST.out.2.1
    refine bodyPost_ret (v := .tuple #[.agg #[.int .i64 x.op, .int .i64 0, .int .i64 0, .int .i64 0, .int .i64 0, .int .i64 0, .int .i64 0], .int .i64 0]) (by simp [results, Try.results54, go_sem, g0, g1, g2, g3, g4, g5, g6]) rfl ?_
    exact ⟨⟨x.op, 0, 0, 0, 0, 0, 0⟩, by rw [HE.out], fun _ => HI.out.symm, ST.out.2.2.2⟩
set_option maxHeartbeats 1000000 in
theorem rinst_9 (NP : NPair) (a : Option Addr) (n c : Nat) (ln : ByteArray) (lv : Int) (rn : ByteArray) (rv : Int) (nm us : ByteArray) (line col : Int) (w : World) (hs : nm.size ≤ maxLen) (hn : NeedR NP a n c w) :
    Calls Try.prog 54 #[.slice a n c, .agg #[.int .i64 9, .string ln, .int .i64 lv, .string rn, .int .i64 rv, .string nm, .string us, .int .i64 line, .int .i64 col]] w (InsAns NP ⟨9, ln, lv, rn, rv, nm, us, line, col⟩ w) := by
  have HE : Hid (errI NP ⟨9, ln, lv, rn, rv, nm, us, line, col⟩ = (NP nm 4).2) := Lib.hid (by unfold errI; rw [if_neg (by simp), if_pos rfl])
  have HI : Hid (insI NP ⟨9, ln, lv, rn, rv, nm, us, line, col⟩ = ⟨9, 0, 0, 0, 0, (NP nm 4).1, 0⟩) := Lib.hid (by unfold insI; rw [if_neg (by simp), if_pos rfl])
  have hu : ∀ b : Bool, ¬ (some undef = some (Value.bool b)) := fun b h => by cases h
  have HN : Hid (∀ w2, Below w.heap.size w w2 → Calls Try.prog 69 #[.slice a n c, .string nm, .int .i64 4] w2 fun e w3 => e = .returned (.tuple #[.int .i64 (NP nm 4).1, .int .i64 (NP nm 4).2]) ∧ Below w2.heap.size w2 w3) := Lib.hid (hn nm hs 4)
  have hk0 : Wk w ((((w.alloc (.cells #[.int .i64 9, .string ln, .int .i64 lv, .string rn, .int .i64 rv, .string nm, .string us, .int .i64 line, .int .i64 col] 42)).alloc (.cells #[.int .i64 0, .int .i64 0, .int .i64 0, .int .i64 0, .int .i64 0, .int .i64 0, .int .i64 0] 70)).alloc (.cells #[.int .i64 9, .int .i64 0, .int .i64 0, .int .i64 0, .int .i64 0, .int .i64 0, .int .i64 0] 70)).alloc (.cells #[.int .i64 4, .int .i64 7, .int .i64 5, .int .i64 5] 3)) w.heap.size ⟨9, ln, lv, rn, rv, nm, us, line, col⟩ ⟨9, 0, 0, 0, 0, 0, 0⟩ := (wk_start2 w ⟨9, ln, lv, rn, rv, nm, us, line, col⟩).still (bbel_alloc _ (.cells #[.int .i64 4, .int .i64 7, .int .i64 5, .int .i64 5] 3))
  have hkk := heap_alloc_new (((w.alloc (.cells #[.int .i64 9, .string ln, .int .i64 lv, .string rn, .int .i64 rv, .string nm, .string us, .int .i64 line, .int .i64 col] 42)).alloc (.cells #[.int .i64 0, .int .i64 0, .int .i64 0, .int .i64 0, .int .i64 0, .int .i64 0, .int .i64 0] 70)).alloc (.cells #[.int .i64 9, .int .i64 0, .int .i64 0, .int .i64 0, .int .i64 0, .int .i64 0, .int .i64 0] 70)) (.cells #[.int .i64 4, .int .i64 7, .int .i64 5, .int .i64 5] 3)
  have hz0 : (((w.alloc (.cells #[.int .i64 9, .string ln, .int .i64 lv, .string rn, .int .i64 rv, .string nm, .string us, .int .i64 line, .int .i64 col] 42)).alloc (.cells #[.int .i64 0, .int .i64 0, .int .i64 0, .int .i64 0, .int .i64 0, .int .i64 0, .int .i64 0] 70)).alloc (.cells #[.int .i64 9, .int .i64 0, .int .i64 0, .int .i64 0, .int .i64 0, .int .i64 0, .int .i64 0] 70)).heap.size = w.heap.size + 1 + 1 + 1 := by simp
  rw [hz0] at hkk
  have K0 := Lib.hid hk0
  have HKK := Lib.hid hkk
  clear hn hk0 hkk hz0
  generalize (NP nm 4).1 = rn1 at *
  generalize (NP nm 4).2 = rn2 at *
  go_enter Try.func54, Try.ntmps54
  go_wp2_with fail
  have k0 := K0.out
  have hkk := HKK.out
  generalize ((((w.alloc (.cells #[.int .i64 9, .string ln, .int .i64 lv, .string rn, .int .i64 rv, .string nm, .string us, .int .i64 line, .int .i64 col] 42)).alloc (.cells #[.int .i64 0, .int .i64 0, .int .i64 0, .int .i64 0, .int .i64 0, .int .i64 0, .int .i64 0] 70)).alloc (.cells #[.int .i64 9, .int .i64 0, .int .i64 0, .int .i64 0, .int .i64 0, .int .i64 0, .int .i64 0] 70)).alloc (.cells #[.int .i64 4, .int .i64 7, .int .i64 5, .int .i64 5] 3)) = W0 at *
  obtain ⟨⟨i0, i1, i2, i3, i4, i5, i6⟩, ⟨c0, c1, c2, c3, c4, c5, c6⟩, ⟨r0, r1, r2, r3, r4, r5, r6⟩, cz, rz⟩ := wk_cells k0
  have kk := cell_of_row W0 (w.heap.size + 1 + 1 + 1) 0 _ _ _ hkk
  simp only [List.getElem?_toArray, List.getElem?_cons_zero, List.getElem?_cons_succ] at kk
  simp only at i0 i5
  have KK0 := Lib.hid k0
  have HW2 : Hid (∀ w2, Below W0.heap.size W0 w2 → Wk w w2 w.heap.size ⟨9, ln, lv, rn, rv, nm, us, line, col⟩ ⟨9, 0, 0, 0, 0, 0, 0⟩) := Lib.hid fun w2 hb => KK0.out.still hb
  have HB0 := Lib.hid k0.bel
  clear k0 hkk K0 HKK
  go_region_with (go_at_call 69; refine (HN.out _ (by first | exact HB0.out | exact HB0.out.drew | exact HB0.out.drew.drew)).mono ?_; rintro e w2 ⟨rfl, hb2⟩; have HB2 : Hid (Below W0.heap.size W0 w2) := Lib.hid ⟨hb2.os, hb2.tape, hb2.output, hb2.size, hb2.block⟩; clear hb2)
  all_goals
    clear i0 i1 i2 i3 i4 i5 i6 c0 c1 c2 c3 c4 c5 c6 r0 r1 r2 r3 r4 r5 r6 cz rz
    have k1 := HW2.out w2 HB2.out
    obtain ⟨⟨i0, i1, i2, i3, i4, i5, i6⟩, ⟨c0, c1, c2, c3, c4, c5, c6⟩, ⟨r0, r1, r2, r3, r4, r5, r6⟩, cz, rz⟩ := wk_cells k1
    have k2 := k1.set 5 rn1 ⟨9, 0, 0, 0, 0, rn1, 0⟩ rfl
    obtain ⟨-, ⟨c0', c1', c2', c3', c4', c5', c6'⟩, ⟨r0', r1', r2', r3', r4', r5', r6'⟩, -, rz'⟩ := wk_cells k2
    have ST := Lib.hid k2.stored
    unfold stored at ST
    clear k1 k2 kk
    go_wp2_with fail
    generalize ((((((((w2.setCell ⟨w.heap.size + 1 + 1, 5, none⟩ (.int .i64 rn1)).setCell ⟨w.heap.size + 1, 0, none⟩ (.int .i64 9)).setCell ⟨w.heap.size + 1, 1, none⟩ (.int .i64 0)).setCell ⟨w.heap.size + 1, 2, none⟩ (.int .i64 0)).setCell ⟨w.heap.size + 1, 3, none⟩ (.int .i64 0)).setCell ⟨w.heap.size + 1, 4, none⟩ (.int .i64 0)).setCell ⟨w.heap.size + 1, 5, none⟩ (.int .i64 rn1)).setCell ⟨w.heap.size + 1, 6, none⟩ (.int .i64 0)) = W9 at *
    obtain ⟨g0, g1, g2, g3, g4, g5, g6⟩ := seven ST.out.1
    refine bodyPost_ret (v := .tuple #[.agg #[.int .i64 9, .int .i64 0, .int .i64 0, .int .i64 0, .int .i64 0, .int .i64 rn1, .int .i64 0], .int .i64 rn2]) (by simp [results, Try.results54, go_sem, g0, g1, g2, g3, g4, g5, g6]) rfl ?_
    exact ⟨⟨9, 0, 0, 0, 0, rn1, 0⟩, by rw [HE.out], fun _ => HI.out.symm, ST.out.2⟩
set_option maxHeartbeats 1000000 in
theorem rinst_10 (NP : NPair) (a : Option Addr) (n c : Nat) (ln : ByteArray) (lv : Int) (rn : ByteArray) (rv : Int) (nm us : ByteArray) (line col : Int) (w : World) (hs : nm.size ≤ maxLen) (hn : NeedR NP a n c w) :
    Calls Try.prog 54 #[.slice a n c, .agg #[.int .i64 10, .string ln, .int .i64 lv, .string rn, .int .i64 rv, .string nm, .string us, .int .i64 line, .int .i64 col]] w (InsAns NP ⟨10, ln, lv, rn, rv, nm, us, line, col⟩ w) := by
  have HE : Hid (errI NP ⟨10, ln, lv, rn, rv, nm, us, line, col⟩ = (NP nm 7).2) := Lib.hid (by unfold errI; rw [if_neg (by simp), if_neg (by simp), if_pos rfl])
  have HI : Hid (insI NP ⟨10, ln, lv, rn, rv, nm, us, line, col⟩ = ⟨10, 0, 0, 0, 0, (NP nm 7).1, 0⟩) := Lib.hid (by unfold insI; rw [if_neg (by simp), if_neg (by simp), if_pos rfl])
  have hu : ∀ b : Bool, ¬ (some undef = some (Value.bool b)) := fun b h => by cases h
  have HN : Hid (∀ w2, Below w.heap.size w w2 → Calls Try.prog 69 #[.slice a n c, .string nm, .int .i64 7] w2 fun e w3 => e = .returned (.tuple #[.int .i64 (NP nm 7).1, .int .i64 (NP nm 7).2]) ∧ Below w2.heap.size w2 w3) := Lib.hid (hn nm hs 7)
  have hk0 : Wk w ((((w.alloc (.cells #[.int .i64 10, .string ln, .int .i64 lv, .string rn, .int .i64 rv, .string nm, .string us, .int .i64 line, .int .i64 col] 42)).alloc (.cells #[.int .i64 0, .int .i64 0, .int .i64 0, .int .i64 0, .int .i64 0, .int .i64 0, .int .i64 0] 70)).alloc (.cells #[.int .i64 10, .int .i64 0, .int .i64 0, .int .i64 0, .int .i64 0, .int .i64 0, .int .i64 0] 70)).alloc (.cells #[.int .i64 4, .int .i64 7, .int .i64 5, .int .i64 5] 3)) w.heap.size ⟨10, ln, lv, rn, rv, nm, us, line, col⟩ ⟨10, 0, 0, 0, 0, 0, 0⟩ := (wk_start2 w ⟨10, ln, lv, rn, rv, nm, us, line, col⟩).still (bbel_alloc _ (.cells #[.int .i64 4, .int .i64 7, .int .i64 5, .int .i64 5] 3))
  have hkk := heap_alloc_new (((w.alloc (.cells #[.int .i64 10, .string ln, .int .i64 lv, .string rn, .int .i64 rv, .string nm, .string us, .int .i64 line, .int .i64 col] 42)).alloc (.cells #[.int .i64 0, .int .i64 0, .int .i64 0, .int .i64 0, .int .i64 0, .int .i64 0, .int .i64 0] 70)).alloc (.cells #[.int .i64 10, .int .i64 0, .int .i64 0, .int .i64 0, .int .i64 0, .int .i64 0, .int .i64 0] 70)) (.cells #[.int .i64 4, .int .i64 7, .int .i64 5, .int .i64 5] 3)
  have hz0 : (((w.alloc (.cells #[.int .i64 10, .string ln, .int .i64 lv, .string rn, .int .i64 rv, .string nm, .string us, .int .i64 line, .int .i64 col] 42)).alloc (.cells #[.int .i64 0, .int .i64 0, .int .i64 0, .int .i64 0, .int .i64 0, .int .i64 0, .int .i64 0] 70)).alloc (.cells #[.int .i64 10, .int .i64 0, .int .i64 0, .int .i64 0, .int .i64 0, .int .i64 0, .int .i64 0] 70)).heap.size = w.heap.size + 1 + 1 + 1 := by simp
  rw [hz0] at hkk
  have K0 := Lib.hid hk0
  have HKK := Lib.hid hkk
  clear hn hk0 hkk hz0
  generalize (NP nm 7).1 = rn1 at *
  generalize (NP nm 7).2 = rn2 at *
  go_enter Try.func54, Try.ntmps54
  go_wp2_with fail
  have k0 := K0.out
  have hkk := HKK.out
  generalize ((((w.alloc (.cells #[.int .i64 10, .string ln, .int .i64 lv, .string rn, .int .i64 rv, .string nm, .string us, .int .i64 line, .int .i64 col] 42)).alloc (.cells #[.int .i64 0, .int .i64 0, .int .i64 0, .int .i64 0, .int .i64 0, .int .i64 0, .int .i64 0] 70)).alloc (.cells #[.int .i64 10, .int .i64 0, .int .i64 0, .int .i64 0, .int .i64 0, .int .i64 0, .int .i64 0] 70)).alloc (.cells #[.int .i64 4, .int .i64 7, .int .i64 5, .int .i64 5] 3)) = W0 at *
  obtain ⟨⟨i0, i1, i2, i3, i4, i5, i6⟩, ⟨c0, c1, c2, c3, c4, c5, c6⟩, ⟨r0, r1, r2, r3, r4, r5, r6⟩, cz, rz⟩ := wk_cells k0
  have kk := cell_of_row W0 (w.heap.size + 1 + 1 + 1) 1 _ _ _ hkk
  simp only [List.getElem?_toArray, List.getElem?_cons_zero, List.getElem?_cons_succ] at kk
  simp only at i0 i5
  have KK0 := Lib.hid k0
  have HW2 : Hid (∀ w2, Below W0.heap.size W0 w2 → Wk w w2 w.heap.size ⟨10, ln, lv, rn, rv, nm, us, line, col⟩ ⟨10, 0, 0, 0, 0, 0, 0⟩) := Lib.hid fun w2 hb => KK0.out.still hb
  have HB0 := Lib.hid k0.bel
  clear k0 hkk K0 HKK
  go_region_with (go_at_call 69; refine (HN.out _ (by first | exact HB0.out | exact HB0.out.drew | exact HB0.out.drew.drew)).mono ?_; rintro e w2 ⟨rfl, hb2⟩; have HB2 : Hid (Below W0.heap.size W0 w2) := Lib.hid ⟨hb2.os, hb2.tape, hb2.output, hb2.size, hb2.block⟩; clear hb2)
  all_goals
    clear i0 i1 i2 i3 i4 i5 i6 c0 c1 c2 c3 c4 c5 c6 r0 r1 r2 r3 r4 r5 r6 cz rz
    have k1 := HW2.out w2 HB2.out
    obtain ⟨⟨i0, i1, i2, i3, i4, i5, i6⟩, ⟨c0, c1, c2, c3, c4, c5, c6⟩, ⟨r0, r1, r2, r3, r4, r5, r6⟩, cz, rz⟩ := wk_cells k1
    have k2 := k1.set 5 rn1 ⟨10, 0, 0, 0, 0, rn1, 0⟩ rfl
    obtain ⟨-, ⟨c0', c1', c2', c3', c4', c5', c6'⟩, ⟨r0', r1', r2', r3', r4', r5', r6'⟩, -, rz'⟩ := wk_cells k2
    have ST := Lib.hid k2.stored
    unfold stored at ST
    clear k1 k2 kk
    go_wp2_with fail
    generalize ((((((((w2.setCell ⟨w.heap.size + 1 + 1, 5, none⟩ (.int .i64 rn1)).setCell ⟨w.heap.size + 1, 0, none⟩ (.int .i64 10)).setCell ⟨w.heap.size + 1, 1, none⟩ (.int .i64 0)).setCell ⟨w.heap.size + 1, 2, none⟩ (.int .i64 0)).setCell ⟨w.heap.size + 1, 3, none⟩ (.int .i64 0)).setCell ⟨w.heap.size + 1, 4, none⟩ (.int .i64 0)).setCell ⟨w.heap.size + 1, 5, none⟩ (.int .i64 rn1)).setCell ⟨w.heap.size + 1, 6, none⟩ (.int .i64 0)) = W9 at *
    obtain ⟨g0, g1, g2, g3, g4, g5, g6⟩ := seven ST.out.1
    refine bodyPost_ret (v := .tuple #[.agg #[.int .i64 10, .int .i64 0, .int .i64 0, .int .i64 0, .int .i64 0, .int .i64 rn1, .int .i64 0], .int .i64 rn2]) (by simp [results, Try.results54, go_sem, g0, g1, g2, g3, g4, g5, g6]) rfl ?_
    exact ⟨⟨10, 0, 0, 0, 0, rn1, 0⟩, by rw [HE.out], fun _ => HI.out.symm, ST.out.2⟩
set_option maxHeartbeats 1000000 in
theorem rinst_11 (NP : NPair) (a : Option Addr) (n c : Nat) (ln : ByteArray) (lv : Int) (rn : ByteArray) (rv : Int) (nm us : ByteArray) (line col : Int) (w : World) (hs : nm.size ≤ maxLen) (hn : NeedR NP a n c w) :
    Calls Try.prog 54 #[.slice a n c, .agg #[.int .i64 11, .string ln, .int .i64 lv, .string rn, .int .i64 rv, .string nm, .string us, .int .i64 line, .int .i64 col]] w (InsAns NP ⟨11, ln, lv, rn, rv, nm, us, line, col⟩ w) := by
  have HE : Hid (errI NP ⟨11, ln, lv, rn, rv, nm, us, line, col⟩ = (NP nm 5).2) := Lib.hid (by unfold errI; rw [if_neg (by simp), if_neg (by simp), if_neg (by simp), if_pos rfl])
  have HI : Hid (insI NP ⟨11, ln, lv, rn, rv, nm, us, line, col⟩ = ⟨11, 0, 0, 0, 0, (NP nm 5).1, 0⟩) := Lib.hid (by unfold insI; rw [if_neg (by simp), if_neg (by simp), if_neg (by simp), if_pos rfl])
  have hu : ∀ b : Bool, ¬ (some undef = some (Value.bool b)) := fun b h => by cases h
  have HN : Hid (∀ w2, Below w.heap.size w w2 → Calls Try.prog 69 #[.slice a n c, .string nm, .int .i64 5] w2 fun e w3 => e = .returned (.tuple #[.int .i64 (NP nm 5).1, .int .i64 (NP nm 5).2]) ∧ Below w2.heap.size w2 w3) := Lib.hid (hn nm hs 5)
  have hk0 : Wk w ((((w.alloc (.cells #[.int .i64 11, .string ln, .int .i64 lv, .string rn, .int .i64 rv, .string nm, .string us, .int .i64 line, .int .i64 col] 42)).alloc (.cells #[.int .i64 0, .int .i64 0, .int .i64 0, .int .i64 0, .int .i64 0, .int .i64 0, .int .i64 0] 70)).alloc (.cells #[.int .i64 11, .int .i64 0, .int .i64 0, .int .i64 0, .int .i64 0, .int .i64 0, .int .i64 0] 70)).alloc (.cells #[.int .i64 4, .int .i64 7, .int .i64 5, .int .i64 5] 3)) w.heap.size ⟨11, ln, lv, rn, rv, nm, us, line, col⟩ ⟨11, 0, 0, 0, 0, 0, 0⟩ := (wk_start2 w ⟨11, ln, lv, rn, rv, nm, us, line, col⟩).still (bbel_alloc _ (.cells #[.int .i64 4, .int .i64 7, .int .i64 5, .int .i64 5] 3))
  have hkk := heap_alloc_new (((w.alloc (.cells #[.int .i64 11, .string ln, .int .i64 lv, .string rn, .int .i64 rv, .string nm, .string us, .int .i64 line, .int .i64 col] 42)).alloc (.cells #[.int .i64 0, .int .i64 0, .int .i64 0, .int .i64 0, .int .i64 0, .int .i64 0, .int .i64 0] 70)).alloc (.cells #[.int .i64 11, .int .i64 0, .int .i64 0, .int .i64 0, .int .i64 0, .int .i64 0, .int .i64 0] 70)) (.cells #[.int .i64 4, .int .i64 7, .int .i64 5, .int .i64 5] 3)
  have hz0 : (((w.alloc (.cells #[.int .i64 11, .string ln, .int .i64 lv, .string rn, .int .i64 rv, .string nm, .string us, .int .i64 line, .int .i64 col] 42)).alloc (.cells #[.int .i64 0, .int .i64 0, .int .i64 0, .int .i64 0, .int .i64 0, .int .i64 0, .int .i64 0] 70)).alloc (.cells #[.int .i64 11, .int .i64 0, .int .i64 0, .int .i64 0, .int .i64 0, .int .i64 0, .int .i64 0] 70)).heap.size = w.heap.size + 1 + 1 + 1 := by simp
  rw [hz0] at hkk
  have K0 := Lib.hid hk0
  have HKK := Lib.hid hkk
  clear hn hk0 hkk hz0
  generalize (NP nm 5).1 = rn1 at *
  generalize (NP nm 5).2 = rn2 at *
  go_enter Try.func54, Try.ntmps54
  go_wp2_with fail
  have k0 := K0.out
  have hkk := HKK.out
  generalize ((((w.alloc (.cells #[.int .i64 11, .string ln, .int .i64 lv, .string rn, .int .i64 rv, .string nm, .string us, .int .i64 line, .int .i64 col] 42)).alloc (.cells #[.int .i64 0, .int .i64 0, .int .i64 0, .int .i64 0, .int .i64 0, .int .i64 0, .int .i64 0] 70)).alloc (.cells #[.int .i64 11, .int .i64 0, .int .i64 0, .int .i64 0, .int .i64 0, .int .i64 0, .int .i64 0] 70)).alloc (.cells #[.int .i64 4, .int .i64 7, .int .i64 5, .int .i64 5] 3)) = W0 at *
  obtain ⟨⟨i0, i1, i2, i3, i4, i5, i6⟩, ⟨c0, c1, c2, c3, c4, c5, c6⟩, ⟨r0, r1, r2, r3, r4, r5, r6⟩, cz, rz⟩ := wk_cells k0
  have kk := cell_of_row W0 (w.heap.size + 1 + 1 + 1) 2 _ _ _ hkk
  simp only [List.getElem?_toArray, List.getElem?_cons_zero, List.getElem?_cons_succ] at kk
  simp only at i0 i5
  have KK0 := Lib.hid k0
  have HW2 : Hid (∀ w2, Below W0.heap.size W0 w2 → Wk w w2 w.heap.size ⟨11, ln, lv, rn, rv, nm, us, line, col⟩ ⟨11, 0, 0, 0, 0, 0, 0⟩) := Lib.hid fun w2 hb => KK0.out.still hb
  have HB0 := Lib.hid k0.bel
  clear k0 hkk K0 HKK
  go_region_with (go_at_call 69; refine (HN.out _ (by first | exact HB0.out | exact HB0.out.drew | exact HB0.out.drew.drew)).mono ?_; rintro e w2 ⟨rfl, hb2⟩; have HB2 : Hid (Below W0.heap.size W0 w2) := Lib.hid ⟨hb2.os, hb2.tape, hb2.output, hb2.size, hb2.block⟩; clear hb2)
  all_goals
    clear i0 i1 i2 i3 i4 i5 i6 c0 c1 c2 c3 c4 c5 c6 r0 r1 r2 r3 r4 r5 r6 cz rz
    have k1 := HW2.out w2 HB2.out
    obtain ⟨⟨i0, i1, i2, i3, i4, i5, i6⟩, ⟨c0, c1, c2, c3, c4, c5, c6⟩, ⟨r0, r1, r2, r3, r4, r5, r6⟩, cz, rz⟩ := wk_cells k1
    have k2 := k1.set 5 rn1 ⟨11, 0, 0, 0, 0, rn1, 0⟩ rfl
    obtain ⟨-, ⟨c0', c1', c2', c3', c4', c5', c6'⟩, ⟨r0', r1', r2', r3', r4', r5', r6'⟩, -, rz'⟩ := wk_cells k2
    have ST := Lib.hid k2.stored
    unfold stored at ST
    clear k1 k2 kk
    go_wp2_with fail
    generalize ((((((((w2.setCell ⟨w.heap.size + 1 + 1, 5, none⟩ (.int .i64 rn1)).setCell ⟨w.heap.size + 1, 0, none⟩ (.int .i64 11)).setCell ⟨w.heap.size + 1, 1, none⟩ (.int .i64 0)).setCell ⟨w.heap.size + 1, 2, none⟩ (.int .i64 0)).setCell ⟨w.heap.size + 1, 3, none⟩ (.int .i64 0)).setCell ⟨w.heap.size + 1, 4, none⟩ (.int .i64 0)).setCell ⟨w.heap.size + 1, 5, none⟩ (.int .i64 rn1)).setCell ⟨w.heap.size + 1, 6, none⟩ (.int .i64 0)) = W9 at *
    obtain ⟨g0, g1, g2, g3, g4, g5, g6⟩ := seven ST.out.1
    refine bodyPost_ret (v := .tuple #[.agg #[.int .i64 11, .int .i64 0, .int .i64 0, .int .i64 0, .int .i64 0, .int .i64 rn1, .int .i64 0], .int .i64 rn2]) (by simp [results, Try.results54, go_sem, g0, g1, g2, g3, g4, g5, g6]) rfl ?_
    exact ⟨⟨11, 0, 0, 0, 0, rn1, 0⟩, by rw [HE.out], fun _ => HI.out.symm, ST.out.2⟩
set_option maxHeartbeats 1000000 in
theorem rinst_12 (NP : NPair) (a : Option Addr) (n c : Nat) (ln : ByteArray) (lv : Int) (rn : ByteArray) (rv : Int) (nm us : ByteArray) (line col : Int) (w : World) (hs : nm.size ≤ maxLen) (hs2 : us.size ≤ maxLen) (hn : NeedR NP a n c w) :
    Calls Try.prog 54 #[.slice a n c, .agg #[.int .i64 12, .string ln, .int .i64 lv, .string rn, .int .i64 rv, .string nm, .string us, .int .i64 line, .int .i64 col]] w (InsAns NP ⟨12, ln, lv, rn, rv, nm, us, line, col⟩ w) := by
  have HE0 : Hid (errI NP ⟨12, ln, lv, rn, rv, nm, us, line, col⟩ = if (NP us 2).2 = 0 then (NP nm 5).2 else (NP us 2).2) := Lib.hid (by unfold errI; rw [if_neg (by simp), if_neg (by simp), if_neg (by simp), if_neg (by simp), if_pos rfl])
  have HI : Hid (insI NP ⟨12, ln, lv, rn, rv, nm, us, line, col⟩ = ⟨12, 0, 0, 0, 0, (NP nm 5).1, (NP us 2).1⟩) := Lib.hid (by unfold insI; rw [if_neg (by simp), if_neg (by simp), if_neg (by simp), if_neg (by simp), if_pos rfl])
  have hu : ∀ b : Bool, ¬ (some undef = some (Value.bool b)) := fun b h => by cases h
  have HU : Hid (∀ w2, Below w.heap.size w w2 → Calls Try.prog 69 #[.slice a n c, .string us, .int .i64 2] w2 fun e w3 => e = .returned (.tuple #[.int .i64 (NP us 2).1, .int .i64 (NP us 2).2]) ∧ Below w2.heap.size w2 w3) := Lib.hid (hn us hs2 2)
  have HN : Hid (∀ w2, Below w.heap.size w w2 → Calls Try.prog 69 #[.slice a n c, .string nm, .int .i64 5] w2 fun e w3 => e = .returned (.tuple #[.int .i64 (NP nm 5).1, .int .i64 (NP nm 5).2]) ∧ Below w2.heap.size w2 w3) := Lib.hid (hn nm hs 5)
  have hk0 : Wk w (((w.alloc (.cells #[.int .i64 12, .string ln, .int .i64 lv, .string rn, .int .i64 rv, .string nm, .string us, .int .i64 line, .int .i64 col] 42)).alloc (.cells #[.int .i64 0, .int .i64 0, .int .i64 0, .int .i64 0, .int .i64 0, .int .i64 0, .int .i64 0] 70)).alloc (.cells #[.int .i64 12, .int .i64 0, .int .i64 0, .int .i64 0, .int .i64 0, .int .i64 0, .int .i64 0] 70)) w.heap.size ⟨12, ln, lv, rn, rv, nm, us, line, col⟩ ⟨12, 0, 0, 0, 0, 0, 0⟩ := wk_start2 w ⟨12, ln, lv, rn, rv, nm, us, line, col⟩
  have K0 := Lib.hid hk0
  clear hn hk0
  generalize (NP nm 5).1 = rn1 at *
  generalize (NP nm 5).2 = rn2 at *
  generalize (NP us 2).1 = un1 at *
  generalize (NP us 2).2 = un2 at *
  by_cases hu0 : un2 = 0
  · have hub : (un2 != 0) = false := by simp [hu0]
    have HE : Hid (errI NP ⟨12, ln, lv, rn, rv, nm, us, line, col⟩ = rn2) := Lib.hid (by rw [HE0.out, if_pos hu0])
    clear hu0 HE0
    go_enter Try.func54, Try.ntmps54
    go_wp2_with fail
    have k0 := K0.out
    generalize (((w.alloc (.cells #[.int .i64 12, .string ln, .int .i64 lv, .string rn, .int .i64 rv, .string nm, .string us, .int .i64 line, .int .i64 col] 42)).alloc (.cells #[.int .i64 0, .int .i64 0, .int .i64 0, .int .i64 0, .int .i64 0, .int .i64 0, .int .i64 0] 70)).alloc (.cells #[.int .i64 12, .int .i64 0, .int .i64 0, .int .i64 0, .int .i64 0, .int .i64 0, .int .i64 0] 70)) = W0 at *
    refine (HU.out _ k0.bel).mono ?_
    rintro e w2 ⟨rfl, hb2⟩
    have k1 := k0.still hb2
    obtain ⟨⟨i0, i1, i2, i3, i4, i5, i6⟩, ⟨c0, c1, c2, c3, c4, c5, c6⟩, ⟨r0, r1, r2, r3, r4, r5, r6⟩, cz, rz⟩ := wk_cells k1
    simp only at i0 i5
    have k2 := k1.set 6 un1 ⟨12, 0, 0, 0, 0, 0, un1⟩ rfl
    obtain ⟨⟨i0', -, -, -, -, i5', -⟩, -, -, -, -⟩ := wk_cells k2
    simp only at i0' i5'
    have k3 := k2.still (bbel_alloc _ (.cells #[.int .i64 4, .int .i64 7, .int .i64 5, .int .i64 5] 3))
    have hkk := heap_alloc_new (w2.setCell ⟨w.heap.size + 1 + 1, 6, none⟩ (.int .i64 un1)) (.cells #[.int .i64 4, .int .i64 7, .int .i64 5, .int .i64 5] 3)
    have hz0 : (w2.setCell ⟨w.heap.size + 1 + 1, 6, none⟩ (.int .i64 un1)).heap.size = w2.heap.size := by simp [World.setCell]
    rw [hz0] at hkk
    have K3 := Lib.hid k3
    have HKK := Lib.hid hkk
    clear k0 k1 k2 k3 hkk hz0 hb2 K0
    go_wp2_with fail
    clear i0 i1 i2 i3 i4 i5 i6 c0 c1 c2 c3 c4 c5 c6 r0 r1 r2 r3 r4 r5 r6 cz rz
    clear i0' i5'
    have k3 := K3.out
    have hkk := HKK.out
    generalize ((w2.setCell ⟨w.heap.size + 1 + 1, 6, none⟩ (.int .i64 un1)).alloc (.cells #[.int .i64 4, .int .i64 7, .int .i64 5, .int .i64 5] 3)) = W3 at *
    obtain ⟨⟨i0, i1, i2, i3, i4, i5, i6⟩, ⟨c0, c1, c2, c3, c4, c5, c6⟩, ⟨r0, r1, r2, r3, r4, r5, r6⟩, cz, rz⟩ := wk_cells k3
    have kk := cell_of_row W3 w2.heap.size 3 _ _ _ hkk
    simp only [List.getElem?_toArray, List.getElem?_cons_zero, List.getElem?_cons_succ] at kk
    simp only at i0 i5
    have HW2 : Hid (∀ w4, Below W3.heap.size W3 w4 → Wk w w4 w.heap.size ⟨12, ln, lv, rn, rv, nm, us, line, col⟩ ⟨12, 0, 0, 0, 0, 0, un1⟩) := Lib.hid fun w4 hb => K3.out.still hb
    have HB0 := Lib.hid k3.bel
    clear k3 hkk HKK
    go_region_with (go_at_call 69; refine (HN.out _ (by first | exact HB0.out | exact HB0.out.drew | exact HB0.out.drew.drew)).mono ?_; rintro e w4 ⟨rfl, hb2⟩; have HB2 : Hid (Below W3.heap.size W3 w4) := Lib.hid ⟨hb2.os, hb2.tape, hb2.output, hb2.size, hb2.block⟩; clear hb2)
    all_goals
      clear i0 i1 i2 i3 i4 i5 i6 c0 c1 c2 c3 c4 c5 c6 r0 r1 r2 r3 r4 r5 r6 cz rz
      have k1 := HW2.out w4 HB2.out
      obtain ⟨⟨i0, i1, i2, i3, i4, i5, i6⟩, ⟨c0, c1, c2, c3, c4, c5, c6⟩, ⟨r0, r1, r2, r3, r4, r5, r6⟩, cz, rz⟩ := wk_cells k1
      have k2 := k1.set 5 rn1 ⟨12, 0, 0, 0, 0, rn1, un1⟩ rfl
      obtain ⟨-, ⟨c0', c1', c2', c3', c4', c5', c6'⟩, ⟨r0', r1', r2', r3', r4', r5', r6'⟩, -, rz'⟩ := wk_cells k2
      have ST := Lib.hid k2.stored
      unfold stored at ST
      clear k1 k2 kk
      go_wp2_with fail
      generalize ((((((((w4.setCell ⟨w.heap.size + 1 + 1, 5, none⟩ (.int .i64 rn1)).setCell ⟨w.heap.size + 1, 0, none⟩ (.int .i64 12)).setCell ⟨w.heap.size + 1, 1, none⟩ (.int .i64 0)).setCell ⟨w.heap.size + 1, 2, none⟩ (.int .i64 0)).setCell ⟨w.heap.size + 1, 3, none⟩ (.int .i64 0)).setCell ⟨w.heap.size + 1, 4, none⟩ (.int .i64 0)).setCell ⟨w.heap.size + 1, 5, none⟩ (.int .i64 rn1)).setCell ⟨w.heap.size + 1, 6, none⟩ (.int .i64 un1)) = W9 at *
      obtain ⟨g0, g1, g2, g3, g4, g5, g6⟩ := seven ST.out.1
      refine bodyPost_ret (v := .tuple #[.agg #[.int .i64 12, .int .i64 0, .int .i64 0, .int .i64 0, .int .i64 0, .int .i64 rn1, .int .i64 un1], .int .i64 rn2]) (by simp [results, Try.results54, go_sem, g0, g1, g2, g3, g4, g5, g6]) rfl ?_
      exact ⟨⟨12, 0, 0, 0, 0, rn1, un1⟩, by rw [HE.out], fun _ => HI.out.symm, ST.out.2⟩
  · have hub : (un2 != 0) = true := by simpa using hu0
    have HE : Hid (errI NP ⟨12, ln, lv, rn, rv, nm, us, line, col⟩ = un2) := Lib.hid (by rw [HE0.out, if_neg hu0])
    have HU0 := Lib.hid hu0
    clear hu0 HE0
    go_enter Try.func54, Try.ntmps54
    go_wp2_with fail
    have k0 := K0.out
    generalize (((w.alloc (.cells #[.int .i64 12, .string ln, .int .i64 lv, .string rn, .int .i64 rv, .string nm, .string us, .int .i64 line, .int .i64 col] 42)).alloc (.cells #[.int .i64 0, .int .i64 0, .int .i64 0, .int .i64 0, .int .i64 0, .int .i64 0, .int .i64 0] 70)).alloc (.cells #[.int .i64 12, .int .i64 0, .int .i64 0, .int .i64 0, .int .i64 0, .int .i64 0, .int .i64 0] 70)) = W0 at *
    refine (HU.out _ k0.bel).mono ?_
    rintro e w2 ⟨rfl, hb2⟩
    have k1 := k0.still hb2
    obtain ⟨⟨i0, i1, i2, i3, i4, i5, i6⟩, ⟨c0, c1, c2, c3, c4, c5, c6⟩, ⟨r0, r1, r2, r3, r4, r5, r6⟩, cz, rz⟩ := wk_cells k1
    have ST := Lib.hid k1.stored
    unfold stored at ST
    clear k0 k1 hb2 K0
    go_wp2_with fail
    generalize (((((((w2.setCell ⟨w.heap.size + 1, 0, none⟩ (.int .i64 12)).setCell ⟨w.heap.size + 1, 1, none⟩ (.int .i64 0)).setCell ⟨w.heap.size + 1, 2, none⟩ (.int .i64 0)).setCell ⟨w.heap.size + 1, 3, none⟩ (.int .i64 0)).setCell ⟨w.heap.size + 1, 4, none⟩ (.int .i64 0)).setCell ⟨w.heap.size + 1, 5, none⟩ (.int .i64 0)).setCell ⟨w.heap.size + 1, 6, none⟩ (.int .i64 0)) = W9 at *
    obtain ⟨g0, g1, g2, g3, g4, g5, g6⟩ := seven ST.out.1
    refine bodyPost_ret (v := .tuple #[.agg #[.int .i64 12, .int .i64 0, .int .i64 0, .int .i64 0, .int .i64 0, .int .i64 0, .int .i64 0], .int .i64 un2]) (by simp [results, Try.results54, go_sem, g0, g1, g2, g3, g4, g5, g6]) rfl ?_
    exact ⟨⟨12, 0, 0, 0, 0, 0, 0⟩, by rw [HE.out], fun h => absurd (HE.out.symm.trans h) HU0.out, ST.out.2⟩
set_option maxHeartbeats 1000000 in
theorem rinst_cmp (NP : NPair) (a : Option Addr) (n c : Nat) (x : It) (w : World) (h1 : 3 ≤ x.op) (h2 : x.op ≤ 8) (hs : x.ln.size ≤ maxLen) (hs2 : x.rn.size ≤ maxLen) (hn : NeedR NP a n c w) :
    Calls Try.prog 54 #[.slice a n c, .agg #[.int .i64 x.op, .string x.ln, .int .i64 x.lv, .string x.rn, .int .i64 x.rv, .string x.nm, .string x.us, .int .i64 x.line, .int .i64 x.col]] w (InsAns NP x w) := by
  have h38 : 3 ≤ x.op ∧ x.op ≤ 8 := ⟨h1, h2⟩
  have HE0 : Hid (errI NP x = if (valS NP x.ln x.lv).2 = 0 then (valS NP x.rn x.rv).2 else (valS NP x.ln x.lv).2) := Lib.hid (by unfold errI; rw [if_pos h38])
  have HI : Hid (insI NP x = ⟨x.op, (valS NP x.ln x.lv).1.1, (valS NP x.ln x.lv).1.2, (valS NP x.rn x.rv).1.1, (valS NP x.rn x.rv).1.2, 0, 0⟩) := Lib.hid (by unfold insI; rw [if_pos h38])
  have hu : ∀ b : Bool, ¬ (some undef = some (Value.bool b)) := fun b h => by cases h
  have HA : Hid (∀ w2, Below w.heap.size w w2 → Calls Try.prog 68 #[.slice a n c, .agg #[.string x.ln, .int .i64 x.lv]] w2 fun e w3 => e = .returned (.tuple #[.agg #[.int .i64 (valS NP x.ln x.lv).1.1, .int .i64 (valS NP x.ln x.lv).1.2], .int .i64 (valS NP x.ln x.lv).2]) ∧ Below w2.heap.size w2 w3) := Lib.hid (fun w2 hb => rval_any NP a n c x.ln x.lv w2 hs (hn.later hb))
  have HBV : Hid (∀ w2, Below w.heap.size w w2 → Calls Try.prog 68 #[.slice a n c, .agg #[.string x.rn, .int .i64 x.rv]] w2 fun e w3 => e = .returned (.tuple #[.agg #[.int .i64 (valS NP x.rn x.rv).1.1, .int .i64 (valS NP x.rn x.rv).1.2], .int .i64 (valS NP x.rn x.rv).2]) ∧ Below w2.heap.size w2 w3) := Lib.hid (fun w2 hb => rval_any NP a n c x.rn x.rv w2 hs2 (hn.later hb))
  have K0 := Lib.hid (wk_start2 w x)
  clear h38 hn
  generalize (valS NP x.ln x.lv).1.1 = a1 at *
  generalize (valS NP x.ln x.lv).1.2 = a2 at *
  generalize (valS NP x.ln x.lv).2 = ea at *
  generalize (valS NP x.rn x.rv).1.1 = b1 at *
  generalize (valS NP x.rn x.rv).1.2 = b2 at *
  generalize (valS NP x.rn x.rv).2 = eb at *
  by_cases hu0 : ea = 0
  · have hub : (ea != 0) = false := by simp [hu0]
    have HE : Hid (errI NP x = eb) := Lib.hid (by rw [HE0.out, if_pos hu0])
    clear hu0 HE0
    go_enter Try.func54, Try.ntmps54
    go_wp2_with fail
    have k0 := K0.out
    generalize (((w.alloc (.cells #[.int .i64 x.op, .string x.ln, .int .i64 x.lv, .string x.rn, .int .i64 x.rv, .string x.nm, .string x.us, .int .i64 x.line, .int .i64 x.col] 42)).alloc (.cells #[.int .i64 0, .int .i64 0, .int .i64 0, .int .i64 0, .int .i64 0, .int .i64 0, .int .i64 0] 70)).alloc (.cells #[.int .i64 x.op, .int .i64 0, .int .i64 0, .int .i64 0, .int .i64 0, .int .i64 0, .int .i64 0] 70)) = W0 at *
    refine (HA.out _ k0.bel).mono ?_
    rintro e w2 ⟨rfl, hb2⟩
    have k1 := (k0.still hb2).still (bbel_alloc w2 (.cells #[.int .i64 a1, .int .i64 a2] 68))
    obtain ⟨⟨i0, i1, i2, i3, i4, i5, i6⟩, ⟨c0, c1, c2, c3, c4, c5, c6⟩, ⟨r0, r1, r2, r3, r4, r5, r6⟩, cz, rz⟩ := wk_cells k1
    have K1 := Lib.hid k1
    have HNA := Lib.hid (pair_new w2 68 (.int .i64 a1) (.int .i64 a2))
    clear k0 k1 hb2 K0
    go_wp2_with fail
    clear i0 i1 i2 i3 i4 i5 i6 c0 c1 c2 c3 c4 c5 c6 r0 r1 r2 r3 r4 r5 r6 cz rz
    generalize (w2.alloc (.cells #[.int .i64 a1, .int .i64 a2] 68)) = W2 at *
    refine (HBV.out _ K1.out.bel).mono ?_
    rintro e w3 ⟨rfl, hb3⟩
    have hcl : w.heap.size + 1 + 1 < w3.heap.size := by have := (Array.getElem?_eq_some_iff.1 (K1.out.still hb3).cur).1; omega
    have nb := pair_at (pair_at HNA.out hb3) (bbel_alloc w3 (.cells #[.int .i64 b1, .int .i64 b2] 68))
    obtain ⟨na0, na1, -⟩ := pair_cells nb
    have k3 := (K1.out.still hb3).still (bbel_alloc w3 (.cells #[.int .i64 b1, .int .i64 b2] 68))
    obtain ⟨⟨i0, i1, i2, i3, i4, i5, i6⟩, ⟨c0, c1, c2, c3, c4, c5, c6⟩, ⟨r0, r1, r2, r3, r4, r5, r6⟩, cz, rz⟩ := wk_cells k3
    have k4 := k3.set 1 a1 ⟨x.op, a1, 0, 0, 0, 0, 0⟩ rfl
    have k5 := k4.set 2 a2 ⟨x.op, a1, a2, 0, 0, 0, 0⟩ rfl
    have hbb := pair_new w3 68 (.int .i64 b1) (.int .i64 b2)
    have hb5 : (((w3.alloc (.cells #[.int .i64 b1, .int .i64 b2] 68)).setCell ⟨w.heap.size + 1 + 1, 1, none⟩ (.int .i64 a1)).setCell ⟨w.heap.size + 1 + 1, 2, none⟩ (.int .i64 a2)).heap[w3.heap.size]? = some (.cells #[.int .i64 b1, .int .i64 b2] 68 (0, 0)) := ((Below.heap_setCell _ _ _ _ (by simp; omega)).trans (Below.heap_setCell _ _ _ _ (by simp; omega))).trans hbb
    obtain ⟨nb0, nb1, -⟩ := pair_cells hb5
    obtain ⟨⟨i0', i1', i2', i3', i4', i5', i6'⟩, ⟨c0', c1', c2', c3', c4', c5', c6'⟩, ⟨r0', r1', r2', r3', r4', r5', r6'⟩, cz', rz'⟩ := wk_cells k5
    have k6 := k5.set 3 b1 ⟨x.op, a1, a2, b1, 0, 0, 0⟩ rfl
    have k7 := k6.set 4 b2 ⟨x.op, a1, a2, b1, b2, 0, 0⟩ rfl
    obtain ⟨-, ⟨d0, d1, d2, d3, d4, d5, d6⟩, ⟨e0, e1, e2, e3, e4, e5, e6⟩, -, ez⟩ := wk_cells k7
    have ST := Lib.hid k7.stored
    unfold stored at ST
    clear k3 k4 k5 k6 k7 nb hbb hb5 hb3 hcl HNA
    go_wp2_with fail
    generalize ((((((((((((w3.alloc (.cells #[.int .i64 b1, .int .i64 b2] 68)).setCell ⟨w.heap.size + 1 + 1, 1, none⟩ (.int .i64 a1)).setCell ⟨w.heap.size + 1 + 1, 2, none⟩ (.int .i64 a2)).setCell ⟨w.heap.size + 1 + 1, 3, none⟩ (.int .i64 b1)).setCell ⟨w.heap.size + 1 + 1, 4, none⟩ (.int .i64 b2)).setCell ⟨w.heap.size + 1, 0, none⟩ (.int .i64 x.op)).setCell ⟨w.heap.size + 1, 1, none⟩ (.int .i64 a1)).setCell ⟨w.heap.size + 1, 2, none⟩ (.int .i64 a2)).setCell ⟨w.heap.size + 1, 3, none⟩ (.int .i64 b1)).setCell ⟨w.heap.size + 1, 4, none⟩ (.int .i64 b2)).setCell ⟨w.heap.size + 1, 5, none⟩ (.int .i64 0)).setCell ⟨w.heap.size + 1, 6, none⟩ (.int .i64 0)) = W9 at *
    obtain ⟨g0, g1, g2, g3, g4, g5, g6⟩ := seven ST.out.1
    refine bodyPost_ret (v := .tuple #[.agg #[.int .i64 x.op, .int .i64 a1, .int .i64 a2, .int .i64 b1, .int .i64 b2, .int .i64 0, .int .i64 0], .int .i64 eb]) (by simp [results, Try.results54, go_sem, g0, g1, g2, g3, g4, g5, g6]) rfl ?_
    exact ⟨⟨x.op, a1, a2, b1, b2, 0, 0⟩, by rw [HE.out], fun _ => HI.out.symm, ST.out.2⟩
  · have hub : (ea != 0) = true := by simpa using hu0
    have HE : Hid (errI NP x = ea) := Lib.hid (by rw [HE0.out, if_neg hu0])
    have HU0 := Lib.hid hu0
    clear hu0 HE0
    go_enter Try.func54, Try.ntmps54
    go_wp2_with fail
    have k0 := K0.out
    generalize (((w.alloc (.cells #[.int .i64 x.op, .string x.ln, .int .i64 x.lv, .string x.rn, .int .i64 x.rv, .string x.nm, .string x.us, .int .i64 x.line, .int .i64 x.col] 42)).alloc (.cells #[.int .i64 0, .int .i64 0, .int .i64 0, .int .i64 0, .int .i64 0, .int .i64 0, .int .i64 0] 70)).alloc (.cells #[.int .i64 x.op, .int .i64 0, .int .i64 0, .int .i64 0, .int .i64 0, .int .i64 0, .int .i64 0] 70)) = W0 at *
    refine (HA.out _ k0.bel).mono ?_
    rintro e w2 ⟨rfl, hb2⟩
    have k1 := (k0.still hb2).still (bbel_alloc w2 (.cells #[.int .i64 a1, .int .i64 a2] 68))
    obtain ⟨⟨i0, i1, i2, i3, i4, i5, i6⟩, ⟨c0, c1, c2, c3, c4, c5, c6⟩, ⟨r0, r1, r2, r3, r4, r5, r6⟩, cz, rz⟩ := wk_cells k1
    have ST := Lib.hid k1.stored
    unfold stored at ST
    clear k0 k1 hb2 K0
    go_wp2_with fail
    generalize ((((((((w2.alloc (.cells #[.int .i64 a1, .int .i64 a2] 68)).setCell ⟨w.heap.size + 1, 0, none⟩ (.int .i64 x.op)).setCell ⟨w.heap.size + 1, 1, none⟩ (.int .i64 0)).setCell ⟨w.heap.size + 1, 2, none⟩ (.int .i64 0)).setCell ⟨w.heap.size + 1, 3, none⟩ (.int .i64 0)).setCell ⟨w.heap.size + 1, 4, none⟩ (.int .i64 0)).setCell ⟨w.heap.size + 1, 5, none⟩ (.int .i64 0)).setCell ⟨w.heap.size + 1, 6, none⟩ (.int .i64 0)) = W9 at *
    obtain ⟨g0, g1, g2, g3, g4, g5, g6⟩ := seven ST.out.1
    refine bodyPost_ret (v := .tuple #[.agg #[.int .i64 x.op, .int .i64 0, .int .i64 0, .int .i64 0, .int .i64 0, .int .i64 0, .int .i64 0], .int .i64 ea]) (by simp [results, Try.results54, go_sem, g0, g1, g2, g3, g4, g5, g6]) rfl ?_
    exact ⟨⟨x.op, 0, 0, 0, 0, 0, 0⟩, by rw [HE.out], fun h => absurd (HE.out.symm.trans h) HU0.out, ST.out.2⟩
theorem rinst_any (NP : NPair) (a : Option Addr) (n c : Nat) (x : It) (hx : x.ok) (w : World) (hn : NeedR NP a n c w) :
    Calls Try.prog 54 #[.slice a n c, .agg #[.int .i64 x.op, .string x.ln, .int .i64 x.lv, .string x.rn, .int .i64 x.rv, .string x.nm, .string x.us, .int .i64 x.line, .int .i64 x.col]] w (InsAns NP x w) := by
  by_cases h38 : 3 ≤ x.op ∧ x.op ≤ 8
  · exact rinst_cmp NP a n c x w h38.1 h38.2 hx.ln hx.rn hn
  · obtain ⟨op, ln, lv, rn, rv, nm, us, line, col⟩ := x
    by_cases h9 : op = 9
    · subst h9; exact rinst_9 NP a n c ln lv rn rv nm us line col w hx.nm hn
    · by_cases h10 : op = 10
      · subst h10; exact rinst_10 NP a n c ln lv rn rv nm us line col w hx.nm hn
      · by_cases h11 : op = 11
        · subst h11; exact rinst_11 NP a n c ln lv rn rv nm us line col w hx.nm hn
        · by_cases h12 : op = 12
          · subst h12; exact rinst_12 NP a n c ln lv rn rv nm us line col w hx.nm hx.us hn
          · exact rinst_other NP a n c ⟨op, ln, lv, rn, rv, nm, us, line, col⟩ w h38 (by simp only; omega)
end Go.Proofs.Ytpbgicfoopicbaa
