/-
  show.Sign, show.Name, and the document's: by walks.
-/
import Derived.Test.YtbplkphjjfgkmaaDoorShPlain
import Derived.Test.YtbplkphjjfgkmaaDoorTokRef
import Derived.BigQuiet
namespace Go.Proofs.YtbplkphjjfgkmaaDoor
open Go.RowKit
set_option linter.unusedVariables false
set_option linter.unusedSimpArgs false

/-- A text that a call answers; nothing that was there has changed. -/
def StrQ (l : List UInt8) (w : World) (e : Ending) (w' : World) : Prop := e = .returned (.string ⟨l.toArray⟩) ∧ w = w'
theorem str_q {l m : List UInt8} {w : World} (h : m = l) : StrQ l w (.returned (.string ⟨m.toArray⟩)) w := ⟨by rw [h], rfl⟩
def cmpL (op : Int) : List UInt8 := if 3 ≤ op ∧ op ≤ 8 then Sh.sgn op else []
def timL (op : Int) : List UInt8 := if 19 ≤ op ∧ op ≤ 26 then Sh.sgn op else []
set_option maxHeartbeats 1000000 in
theorem comparison_any (op : Int) (w : World) : Calls Tryd.prog 86 #[.int .i64 op] w (StrQ (cmpL op) w) := by
  by_cases h : 3 ≤ op ∧ op ≤ 8
  · have : op = 3 ∨ op = 4 ∨ op = 5 ∨ op = 6 ∨ op = 7 ∨ op = 8 := by omega
    rcases this with rfl | rfl | rfl | rfl | rfl | rfl
    all_goals
      go_enter Tryd.func86, Tryd.ntmps86
      go_wp2
      go_ret
      exact str_q (by decide)
  · have HZ : Hid (cmpL op = []) := Lib.hid (if_neg h)
    have e3 : (op == 3) = false := by rw [beq_eq_false_iff_ne]; omega
    have e4 : (op == 4) = false := by rw [beq_eq_false_iff_ne]; omega
    have e5 : (op == 5) = false := by rw [beq_eq_false_iff_ne]; omega
    have e6 : (op == 6) = false := by rw [beq_eq_false_iff_ne]; omega
    have e7 : (op == 7) = false := by rw [beq_eq_false_iff_ne]; omega
    have e8 : (op == 8) = false := by rw [beq_eq_false_iff_ne]; omega
    clear h
    go_enter Tryd.func86, Tryd.ntmps86
    go_wp2
    go_ret
    exact str_q HZ.out.symm
set_option maxHeartbeats 1000000 in
theorem oftime_any (op : Int) (w : World) : Calls Tryd.prog 87 #[.int .i64 op] w (StrQ (timL op) w) := by
  by_cases h : 19 ≤ op ∧ op ≤ 26
  · have : op = 19 ∨ op = 20 ∨ op = 21 ∨ op = 22 ∨ op = 23 ∨ op = 24 ∨ op = 25 ∨ op = 26 := by omega
    rcases this with rfl | rfl | rfl | rfl | rfl | rfl | rfl | rfl
    all_goals
      go_enter Tryd.func87, Tryd.ntmps87
      go_wp2
      go_ret
      exact str_q (by decide)
  · have HZ : Hid (timL op = []) := Lib.hid (if_neg h)
    have e3 : (op == 19) = false := by rw [beq_eq_false_iff_ne]; omega
    have e4 : (op == 20) = false := by rw [beq_eq_false_iff_ne]; omega
    have e5 : (op == 21) = false := by rw [beq_eq_false_iff_ne]; omega
    have e6 : (op == 22) = false := by rw [beq_eq_false_iff_ne]; omega
    have e7 : (op == 23) = false := by rw [beq_eq_false_iff_ne]; omega
    have e8 : (op == 24) = false := by rw [beq_eq_false_iff_ne]; omega
    have e9 : (op == 25) = false := by rw [beq_eq_false_iff_ne]; omega
    have e10 : (op == 26) = false := by rw [beq_eq_false_iff_ne]; omega
    clear h
    go_enter Tryd.func87, Tryd.ntmps87
    go_wp2
    go_ret
    exact str_q HZ.out.symm
theorem tim_sgn {op : Int} (h : ¬ (1 ≤ op ∧ op ≤ 18)) : timL op = Sh.sgn op := by
  unfold timL
  by_cases h2 : 19 ≤ op ∧ op ≤ 26
  · rw [if_pos h2]
  · rw [if_neg h2]; unfold Sh.sgn; rw [if_neg (by omega)]
theorem cmp_nil {op : Int} (h : ¬ (3 ≤ op ∧ op ≤ 8)) : cmpL op = [] := if_neg h
set_option maxHeartbeats 1000000 in
theorem sign_any (op : Int) (w : World) : Calls Tryd.prog 44 #[.int .i64 op] w (StrQ (Sh.sgn op) w) := by
  by_cases h : (1 ≤ op ∧ op ≤ 2) ∨ (9 ≤ op ∧ op ≤ 18)
  · have : op = 1 ∨ op = 2 ∨ op = 9 ∨ op = 10 ∨ op = 11 ∨ op = 12 ∨ op = 13 ∨ op = 14 ∨ op = 15 ∨ op = 16 ∨ op = 17 ∨ op = 18 := by omega
    rcases this with rfl | rfl | rfl | rfl | rfl | rfl | rfl | rfl | rfl | rfl | rfl | rfl
    all_goals
      go_enter Tryd.func44, Tryd.ntmps44
      go_wp2
      go_ret
      exact str_q (by decide)
  · by_cases h2 : 3 ≤ op ∧ op ≤ 8
    · have : op = 3 ∨ op = 4 ∨ op = 5 ∨ op = 6 ∨ op = 7 ∨ op = 8 := by omega
      rcases this with rfl | rfl | rfl | rfl | rfl | rfl
      all_goals
        go_enter Tryd.func44, Tryd.ntmps44
        go_wp2_with fail
        refine (comparison_any _ _).mono ?_
        rintro e w2 ⟨rfl, rfl⟩
        rw [show cmpL _ = Sh.sgn _ from if_pos (by decide)]
        go_wp2_with fail
        go_ret
        exact str_q (by decide)
    · have HC : Hid (∀ w, Calls Tryd.prog 86 #[.int .i64 op] w (StrQ [] w)) := Lib.hid fun w => by
        have := comparison_any op w
        rwa [cmp_nil h2] at this
      have HT : Hid (∀ w, Calls Tryd.prog 87 #[.int .i64 op] w (StrQ (Sh.sgn op) w)) := Lib.hid fun w => by
        have := oftime_any op w
        rwa [tim_sgn (by omega)] at this
      have e1 : (op == 1) = false := by rw [beq_eq_false_iff_ne]; omega
      have e2 : (op == 2) = false := by rw [beq_eq_false_iff_ne]; omega
      have e9 : (op == 9) = false := by rw [beq_eq_false_iff_ne]; omega
      have e10 : (op == 10) = false := by rw [beq_eq_false_iff_ne]; omega
      have e11 : (op == 11) = false := by rw [beq_eq_false_iff_ne]; omega
      have e12 : (op == 12) = false := by rw [beq_eq_false_iff_ne]; omega
      have e13 : (op == 13) = false := by rw [beq_eq_false_iff_ne]; omega
      have e14 : (op == 14) = false := by rw [beq_eq_false_iff_ne]; omega
      have e15 : (op == 15) = false := by rw [beq_eq_false_iff_ne]; omega
      have e16 : (op == 16) = false := by rw [beq_eq_false_iff_ne]; omega
      have e17 : (op == 17) = false := by rw [beq_eq_false_iff_ne]; omega
      have e18 : (op == 18) = false := by rw [beq_eq_false_iff_ne]; omega
      clear h h2
      generalize Sh.sgn op = q at *
      go_enter Tryd.func44, Tryd.ntmps44
      go_wp2_with fail
      refine (HC.out _).mono ?_
      rintro e w2 ⟨rfl, rfl⟩
      go_wp2_with fail
      refine (HT.out _).mono ?_
      rintro e w2 ⟨rfl, rfl⟩
      go_wp2_with fail
      go_ret
      exact ⟨rfl, rfl⟩
end Go.Proofs.YtbplkphjjfgkmaaDoor
