/-
  num.Print and the awake part: by walks.
-/
import Derived.Test.YtbplkphjjfgkmaaDoorNumRead
import Derived.Test.YtbplkphjjfgkmaaDoorNmGap
import Derived.Lib.AppendIntMem
namespace Go.Proofs.YtbplkphjjfgkmaaDoor
open Go.RowKit
set_option linter.unusedVariables false
set_option linter.unusedSimpArgs false

/-- What the listed variables must read as. -/
structure NumIs (w : World) : Prop where
  err : ∃ tp p, w.var? Tryd.prog "strconv.ErrRange" = some #[.iface tp p]
  tab : Lib.TabIs Tryd.prog w "internal/strconv.uint64pow10" .u64 Lib.pow10Tab

theorem read_is (s : ByteArray) (w : World) (hs : s.size ≤ 281474976710656) (hn : NumIs w) :
    Calls Tryd.prog 56 #[.string s] w fun e w' => e = .returned (Nm.tup (Nm.told s.data.toList)) ∧ Below w.heap.size w w' := by
  obtain ⟨⟨tp, p, h⟩, _⟩ := hn
  exact read_any s w tp p hs h
/-- The table of powers of ten reads as the program lays it. -/
def Tab10 (w : World) : Prop := Lib.TabIs Tryd.prog w "internal/strconv.uint64pow10" .u64 Lib.pow10Tab
theorem print_tab (n : Int) (w : World) (h0 : -9223372036854775808 ≤ n ∧ n ≤ 9223372036854775807) (hn : Tab10 w) :
    Calls Tryd.prog 58 #[.int .i64 n] w fun e w' => e = .returned (.string ⟨(Lib.itoa n).toArray⟩) ∧ Below w.heap.size w w' := by
  have HC := Lib.hid (Tryd.strconv_FormatInt_10 n h0.1 h0.2 w hn)
  generalize (⟨(Lib.itoa n).toArray⟩ : ByteArray) = q at *
  clear hn
  go_enter Tryd.func58, Tryd.ntmps58
  go_wp2_with (go_at_call 103; refine HC.out.mono ?_; rintro e w2 ⟨rfl, k, os, rfl⟩)
  go_ret
  exact ⟨rfl, Lib.below_grow _ _ (Nat.le_refl _) _ _⟩
theorem print_any (n : Int) (w : World) (h0 : -9223372036854775808 ≤ n ∧ n ≤ 9223372036854775807) (hn : NumIs w) :
    Calls Tryd.prog 58 #[.int .i64 n] w fun e w' => e = .returned (.string ⟨(Lib.itoa n).toArray⟩) ∧ Below w.heap.size w w' := print_tab n w h0 hn.tab
theorem Tab10.below {w w' : World} (h : Tab10 w) (hb : Below w.heap.size w w') : Tab10 w' := Lib.tabBelow_of_tabIs h w' hb
/-- The least number's text. -/
def leastT : ByteArray := ⟨#[45, 57, 50, 50, 51, 51, 55, 50, 48, 51, 54, 56, 53, 52, 55, 55, 53, 56, 48, 56]⟩
theorem leastT_told : Nm.told leastT.data.toList = (-9223372036854775808, 0) := by decide +kernel
theorem leastT_itoa : Lib.itoa (-9223372036854775808) = leastT.data.toList := by decide +kernel
theorem var_below {P : Program} {w w' : World} {n : String} {cs : Array Value} (h : w.var? P n = some cs) (hb : Below w.heap.size w w') : w'.var? P n = some cs := by
  unfold World.var? at *
  cases hg : P.globalNamed n with
  | none => simp [hg] at h
  | some g =>
    simp only [hg, Option.bind_some] at h ⊢
    have hlt : g < w.heap.size := by
      rcases Nat.lt_or_ge g w.heap.size with h' | h'
      · exact h'
      · rw [Array.getElem?_eq_none h'] at h; simp at h
    rw [hb.block g hlt]
    exact h
theorem NumIs.below {w w' : World} (h : NumIs w) (hb : Below w.heap.size w w') : NumIs w' := by
  obtain ⟨⟨tp, p, h1⟩, h2⟩ := h
  exact ⟨⟨tp, p, var_below h1 hb⟩, Lib.tabBelow_of_tabIs h2 w' hb⟩
set_option maxHeartbeats 1000000 in
theorem awake_any (w : World) (hn : NumIs w) :
    Calls Tryd.prog 17 #[] w fun e w' => e = .returned (.bool true) ∧ Below w.heap.size w w' := by
  have hr := read_is leastT w (by decide) hn
  rw [leastT_told] at hr
  have HR : Hid (Calls Tryd.prog 56 #[.string ⟨#[45, 57, 50, 50, 51, 51, 55, 50, 48, 51, 54, 56, 53, 52, 55, 55, 53, 56, 48, 56]⟩] w fun e w' => e = .returned (.tuple #[.int .i64 (-9223372036854775808), .int .i64 0]) ∧ Below w.heap.size w w') := Lib.hid hr
  clear hr
  have hsz : leastT.size = 20 := by decide
  have HG1 : Hid (∀ w, Calls Tryd.prog 57 #[.int .i64 2, .int .i64 9, .int .i64 100] w fun e w' => e = .returned (.int .i64 6) ∧ w = w') := Lib.hid (fun w => gap_any 2 9 100 w (by omega) (by omega) (by omega))
  have HG2 : Hid (∀ w, Calls Tryd.prog 57 #[.int .i64 9, .int .i64 2, .int .i64 100] w fun e w' => e = .returned (.int .i64 0) ∧ w = w') := Lib.hid (fun w => gap_any 9 2 100 w (by omega) (by omega) (by omega))
  have HP : Hid (∀ w', Below w.heap.size w w' → Calls Tryd.prog 58 #[.int .i64 (-9223372036854775808)] w' fun e w' => e = .returned (.string leastT) ∧ Below w.heap.size w w') := Lib.hid (fun w' hb => by
    refine (print_any (-9223372036854775808) w' (by omega) (hn.below hb)).mono ?_
    rintro e w2 ⟨rfl, hb2⟩
    refine ⟨by rw [leastT_itoa], hb.trans (hb2.mono hb.size)⟩)
  clear hn
  generalize leastT = q at HP hsz
  go_enter Tryd.func17, Tryd.ntmps17
  go_wp2_with (first | (go_at_call 56; refine HR.out.mono ?_; rintro e w2 ⟨rfl, hb2⟩) | (go_at_call 57; first | (with_reducible refine (HG1.out _).mono ?_; rintro e w3 ⟨rfl, rfl⟩) | (with_reducible refine (HG2.out _).mono ?_; rintro e w3 ⟨rfl, rfl⟩)) | (go_at_call 58; refine (HP.out _ hb2).mono ?_; rintro e w5 ⟨rfl, hb5⟩))
  all_goals go_ret
  all_goals exact ⟨rfl, hb5⟩
end Go.Proofs.YtbplkphjjfgkmaaDoor
