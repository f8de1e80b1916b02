/-
  Bind: a word's value: the program's answer, and the document's.
-/
import Derived.Test.YtpbgicfoopicbaaNamNeed
import Derived.Test.YtpbgicfoopicbaaItem
import Derived.Deep.MidRow
namespace Go.Proofs.Ytpbgicfoopicbaa
open Go.RowKit
set_option linter.unusedVariables false
set_option linter.unusedSimpArgs false

abbrev NPair := ByteArray → Int → Int × Int
/-- The table at p tells of any name and kind what NP says. -/
def NeedP (NP : NPair) (p : Nat) (w0 : World) : Prop := ∀ s : ByteArray, s.size ≤ maxLen → ∀ (k : Int) (w2 : World), Below w0.heap.size w0 w2 →
  Calls Try.prog 52 #[.pointer (some ⟨p, 0, none⟩), .string s, .int .i64 k] w2 fun e w3 => e = .returned (.tuple #[.int .i64 (NP s k).1, .int .i64 (NP s k).2]) ∧ Below w2.heap.size w2 w3
def NeedR (NP : NPair) (a : Option Addr) (n c : Nat) (w0 : World) : Prop := ∀ s : ByteArray, s.size ≤ maxLen → ∀ (k : Int) (w2 : World), Below w0.heap.size w0 w2 →
  Calls Try.prog 69 #[.slice a n c, .string s, .int .i64 k] w2 fun e w3 => e = .returned (.tuple #[.int .i64 (NP s k).1, .int .i64 (NP s k).2]) ∧ Below w2.heap.size w2 w3
theorem NeedP.later {NP : NPair} {p : Nat} {w0 w1 : World} (h : NeedP NP p w0) (hb : Below w0.heap.size w0 w1) : NeedP NP p w1 := fun s hs k w2 h2 => h s hs k w2 (hb.trans (h2.mono hb.size))
theorem NeedR.later {NP : NPair} {a : Option Addr} {n c : Nat} {w0 w1 : World} (h : NeedR NP a n c w0) (hb : Below w0.heap.size w0 w1) : NeedR NP a n c w1 := fun s hs k w2 h2 => h s hs k w2 (hb.trans (h2.mono hb.size))
abbrev FV (p : Nat) : Value := Value.func (Fn.func 52) #[Value.pointer (some ⟨p, 0, none⟩)] #[]
open Classical in
/-- A word's value, and what is wrong. -/
noncomputable def valS (NP : NPair) (s : ByteArray) (v : Int) : (Int × Int) × Int := if s = ByteArray.empty then ((-1, v), 0) else (((NP s 1).1, 0), (NP s 1).2)
theorem bbel_alloc (w : World) (o : Obj) : Below w.heap.size w (w.alloc o) := (Below.refl _ _).alloc (Nat.le_refl _) o
theorem pair_new (W : World) (t : TypeId) (x y : Value) : (W.alloc (.cells #[x, y] t)).heap[W.heap.size]? = some (.cells #[x, y] t (0, 0)) := heap_alloc_new W _
theorem pair_at {W w2 : World} {F : Nat} {t : TypeId} {x y : Value} (h : W.heap[F]? = some (.cells #[x, y] t (0, 0))) (hb : Below W.heap.size W w2) :
    w2.heap[F]? = some (.cells #[x, y] t (0, 0)) := (hb.block F (Array.getElem?_eq_some_iff.1 h).1).trans h
theorem pair_cells {W : World} {F : Nat} {t : TypeId} {x y : Value} (h : W.heap[F]? = some (.cells #[x, y] t (0, 0))) : W.cell? ⟨F, 0, none⟩ = some x ∧ W.cell? ⟨F, 1, none⟩ = some y ∧ ∀ j, W.frozen? ⟨F, j, none⟩ = false :=
  ⟨cell_of_row W F 0 _ _ _ h, cell_of_row W F 1 _ _ _ h, fun j => by unfold World.frozen?; rw [h]; simp⟩
theorem pair_set {W : World} {F : Nat} {t : TypeId} {x y : Value} (h : W.heap[F]? = some (.cells #[x, y] t (0, 0))) (u v : Value) : ((W.setCell ⟨F, 0, none⟩ u).setCell ⟨F, 1, none⟩ v).heap[F]? = some (.cells #[u, v] t (0, 0)) :=
  heap_setCell_same _ F 1 _ _ v (heap_setCell_same W F 0 _ _ u h)
theorem bbelow_dn {B : Nat} {a w : World} (h : Below B a w) (n : Nat) : Below B a (w.drewN n) := ⟨h.os, h.tape, h.output, h.size, h.block⟩
theorem empty_list (s : ByteArray) : (s.toList == ({ data := #[] } : ByteArray).toList) = decide (s = ByteArray.empty) := bytes_beq s _
set_option maxHeartbeats 400000 in
theorem bval_any (NP : NPair) (p : Nat) (s : ByteArray) (v : Int) (w : World) (hs : s.size ≤ maxLen) (hn : NeedP NP p w) :
    Calls Try.prog 67 #[.agg #[FV p], .agg #[.string s, .int .i64 v]] w fun e w' => e = .returned (.tuple #[.agg #[.int .i64 (valS NP s v).1.1, .int .i64 (valS NP s v).1.2], .int .i64 (valS NP s v).2]) ∧ Below w.heap.size w w' := by
  have HB3 : Hid (∀ o1 o2 o3, Below w.heap.size w (((w.alloc o1).alloc o2).alloc o3)) := Lib.hid fun o1 o2 o3 => (((bbel_alloc w o1).trans ((bbel_alloc _ o2).mono (by simp))).trans ((bbel_alloc _ o3).mono (by simp; omega)))
  by_cases he : s = ByteArray.empty
  · have hq : s.toList.isEmpty = true := by rw [he, ByteArray.toList_eq]; rfl
    have HV : Hid (valS NP s v = ((-1, v), 0)) := Lib.hid (by unfold valS; rw [if_pos he])
    clear hn he
    go_enter Try.func67, Try.ntmps67
    go_wp2_with fail
    have h2 := heap_alloc_new ((w.alloc (.cells #[FV p] 107)).alloc (.cells #[.string s, .int .i64 v] 38)) (.cells #[.int .i64 (-1), .int .i64 v] 68)
    have hb := HB3.out (.cells #[FV p] 107) (.cells #[.string s, .int .i64 v] 38) (.cells #[.int .i64 (-1), .int .i64 v] 68)
    have HB := Lib.hid hb
    have hz : ((w.alloc (.cells #[FV p] 107)).alloc (.cells #[.string s, .int .i64 v] 38)).heap.size = w.heap.size + 1 + 1 := by simp
    rw [hz] at h2
    clear hb hz
    generalize (((w.alloc (.cells #[FV p] 107)).alloc (.cells #[.string s, .int .i64 v] 38)).alloc (.cells #[.int .i64 (-1), .int .i64 v] 68)) = W5 at *
    obtain ⟨g0, g1, _⟩ := pair_cells h2
    refine bodyPost_ret (v := .tuple #[.agg #[.int .i64 (-1), .int .i64 v], .int .i64 0]) (by simp [results, Try.results67, go_sem, g0, g1]) rfl ?_
    rw [HV.out]
    exact ⟨rfl, HB.out⟩
  · have hq : s.toList.isEmpty = false := by
      have h := empty_list s
      rw [decide_eq_false he] at h
      cases hl : s.toList with
      | nil => rw [hl, ByteArray.toList_eq] at h; exact absurd h (by decide)
      | cons x r => rfl
    have HV : Hid (valS NP s v = (((NP s 1).1, 0), (NP s 1).2)) := Lib.hid (by unfold valS; rw [if_neg he])
    have HN : Hid (∀ w2, Below w.heap.size w w2 → Calls Try.prog 52 #[.pointer (some ⟨p, 0, none⟩), .string s, .int .i64 1] w2 fun e w3 => e = .returned (.tuple #[.int .i64 (NP s 1).1, .int .i64 (NP s 1).2]) ∧ Below w2.heap.size w2 w3) := Lib.hid (hn s hs 1)
    clear hn he
    generalize (NP s 1).1 = r1 at *
    generalize (NP s 1).2 = r2 at *
    go_enter Try.func67, Try.ntmps67
    go_wp2_with fail
    have h2 := heap_alloc_new ((w.alloc (.cells #[FV p] 107)).alloc (.cells #[.string s, .int .i64 v] 38)) (.cells #[.int .i64 0, .int .i64 0] 68)
    have HB := Lib.hid (HB3.out (.cells #[FV p] 107) (.cells #[.string s, .int .i64 v] 38) (.cells #[.int .i64 0, .int .i64 0] 68))
    have hz : ((w.alloc (.cells #[FV p] 107)).alloc (.cells #[.string s, .int .i64 v] 38)).heap.size = w.heap.size + 1 + 1 := by simp
    rw [hz] at h2
    clear hz
    generalize (((w.alloc (.cells #[FV p] 107)).alloc (.cells #[.string s, .int .i64 v] 38)).alloc (.cells #[.int .i64 0, .int .i64 0] 68)) = W5 at *
    refine (HN.out W5 HB.out).mono ?_
    rintro e w3 ⟨rfl, hb3⟩
    have h3 := pair_at h2 hb3
    obtain ⟨g0, g1, gz⟩ := pair_cells h3
    have h4 := pair_set h3 (.int .i64 r1) (.int .i64 0)
    have HB6 : Hid (Below w.heap.size w ((w3.setCell ⟨w.heap.size + 1 + 1, 0, none⟩ (.int .i64 r1)).setCell ⟨w.heap.size + 1 + 1, 1, none⟩ (.int .i64 0))) := Lib.hid (((HB.out.trans (hb3.mono HB.out.size)).setCell (p := ⟨w.heap.size + 1 + 1, 0, none⟩) (by simp; omega) _).setCell (p := ⟨w.heap.size + 1 + 1, 1, none⟩) (by simp; omega) _)
    have H4 := Lib.hid h4
    clear h2 h3 h4 hb3 HB
    go_wp2_with fail
    generalize ((w3.setCell ⟨w.heap.size + 1 + 1, 0, none⟩ (.int .i64 r1)).setCell ⟨w.heap.size + 1 + 1, 1, none⟩ (.int .i64 0)) = W6 at *
    obtain ⟨g0, g1, _⟩ := pair_cells H4.out
    refine bodyPost_ret (v := .tuple #[.agg #[.int .i64 r1, .int .i64 0], .int .i64 r2]) (by simp [results, Try.results67, go_sem, g0, g1]) rfl ?_
    rw [HV.out]
    exact ⟨rfl, HB6.out⟩
end Go.Proofs.Ytpbgicfoopicbaa
