/-
  tree.Arity, warderref04.Arity: by walks.
-/
import Derived.Test.YtbplkphjjfgkmaaDoorTreePlain
import Derived.Test.YtbplkphjjfgkmaaDoorItem
namespace Go.Proofs.YtbplkphjjfgkmaaDoor
open Go.RowKit
set_option linter.unusedVariables false
set_option linter.unusedSimpArgs false

theorem op_cases (op : Int) (Q : Int → Prop) (h15 : Q 15) (h16 : Q 16) (h17 : Q 17) (h18 : Q 18) (h25 : Q 25) (h26 : Q 26)
    (hr : (op < 1 ∨ (1 ≤ op ∧ op ≤ 14) ∨ (19 ≤ op ∧ op ≤ 24) ∨ 26 < op) → (op == 15) = false → (op == 16) = false → (op == 17) = false → (op == 18) = false → (op == 25) = false → (op == 26) = false → Q op) : Q op := by
  by_cases e15 : op = 15
  · rw [e15]; exact h15
  by_cases e16 : op = 16
  · rw [e16]; exact h16
  by_cases e17 : op = 17
  · rw [e17]; exact h17
  by_cases e18 : op = 18
  · rw [e18]; exact h18
  by_cases e25 : op = 25
  · rw [e25]; exact h25
  by_cases e26 : op = 26
  · rw [e26]; exact h26
  exact hr (by omega) (by simpa using e15) (by simpa using e16) (by simpa using e17) (by simpa using e18) (by simpa using e25) (by simpa using e26)
theorem ar_low {op : Int} (h : op < 1) : Tr.ar op = -1 := by unfold Tr.ar; repeat' split <;> omega
theorem ar_leaf {op : Int} (h : 1 ≤ op ∧ op ≤ 14) : Tr.ar op = 0 := by unfold Tr.ar; rw [if_pos h]
theorem ar_one {op : Int} (h : 19 ≤ op ∧ op ≤ 24) : Tr.ar op = 1 := by unfold Tr.ar; rw [if_neg (by omega), if_pos (by omega)]
theorem ar_high {op : Int} (h : 26 < op) : Tr.ar op = -1 := by unfold Tr.ar; repeat' split <;> omega
def ArAns (op : Int) (w : World) (e : Ending) (w' : World) : Prop := e = .returned (.int .i64 (Tr.ar op)) ∧ w = w'
theorem ar_ans {op n : Int} {w : World} (h : Tr.ar op = n) : ArAns op w (.returned (.int .i64 n)) w := ⟨by rw [h], rfl⟩
set_option maxHeartbeats 1000000 in
theorem arity_any (op : Int) (w : World) : Calls Tryd.prog 77 #[.int .i64 op] w (ArAns op w) := by
  have hu : ∀ b : Bool, ¬ (some undef = some (Value.bool b)) := fun b h => by cases h
  refine op_cases op (fun op => Calls Tryd.prog 77 #[.int .i64 op] w (ArAns op w)) ?_ ?_ ?_ ?_ ?_ ?_ ?_
  iterate 6
    · go_enter Tryd.func77, Tryd.ntmps77
      go_wp2
      go_ret
      exact ar_ans (by decide)
  intro hr h15 h16 h17 h18 h25 h26
  rcases hr with h | ⟨h, h2⟩ | ⟨h, h2⟩ | h
  · have HA := Lib.hid (ar_low h)
    go_enter Tryd.func77, Tryd.ntmps77
    go_wp2
    go_ret
    exact ar_ans HA.out
  · have HA := Lib.hid (ar_leaf ⟨h, h2⟩)
    go_enter Tryd.func77, Tryd.ntmps77
    go_wp2
    go_ret
    exact ar_ans HA.out
  · have HA := Lib.hid (ar_one ⟨h, h2⟩)
    have h3 : 14 < op := by omega
    have h4 : 1 ≤ op := by omega
    go_enter Tryd.func77, Tryd.ntmps77
    go_wp2
    go_ret
    exact ar_ans HA.out
  · have HA := Lib.hid (ar_high h)
    have h3 : 14 < op := by omega
    have h4 : 1 ≤ op := by omega
    have h5 : 19 ≤ op := by omega
    have h6 : 24 < op := by omega
    go_enter Tryd.func77, Tryd.ntmps77
    go_wp2
    go_ret
    exact ar_ans HA.out
set_option maxHeartbeats 1000000 in
theorem rarity_any (op : Int) (w : World) : Calls Tryd.prog 178 #[.int .i64 op] w (ArAns op w) := by
  have hu : ∀ b : Bool, ¬ (some undef = some (Value.bool b)) := fun b h => by cases h
  refine op_cases op (fun op => Calls Tryd.prog 178 #[.int .i64 op] w (ArAns op w)) ?_ ?_ ?_ ?_ ?_ ?_ ?_
  iterate 6
    · go_enter Tryd.func178, Tryd.ntmps178
      go_wp2
      go_ret
      exact ar_ans (by decide)
  intro hr h15 h16 h17 h18 h25 h26
  rcases hr with h | ⟨h, h2⟩ | ⟨h, h2⟩ | h
  · have HA := Lib.hid (ar_low h)
    have h3 : op < 19 := by omega
    go_enter Tryd.func178, Tryd.ntmps178
    go_wp2
    go_ret
    exact ar_ans HA.out
  · have HA := Lib.hid (ar_leaf ⟨h, h2⟩)
    go_enter Tryd.func178, Tryd.ntmps178
    go_wp2
    go_ret
    exact ar_ans HA.out
  · have HA := Lib.hid (ar_one ⟨h, h2⟩)
    have h3 : 14 < op := by omega
    have h4 : 1 ≤ op := by omega
    go_enter Tryd.func178, Tryd.ntmps178
    go_wp2
    go_ret
    exact ar_ans HA.out
  · have HA := Lib.hid (ar_high h)
    have h3 : 14 < op := by omega
    have h4 : 1 ≤ op := by omega
    have h5 : 19 ≤ op := by omega
    have h6 : 24 < op := by omega
    go_enter Tryd.func178, Tryd.ntmps178
    go_wp2
    go_ret
    exact ar_ans HA.out
end Go.Proofs.YtbplkphjjfgkmaaDoor
