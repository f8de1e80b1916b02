/-
  bits.may, bits.Has: by walks (the head of BitsWalks).
-/
import Derived.Test.YtdpmkhmjihgckaaKit
import Derived.Test.YtdpmkhmjihgckaaBitsPlain
namespace Go.Proofs.Ytdpmkhmjihgckaa
open Go.RowKit BitsPlain
set_option linter.unusedVariables false

def inB (i : Int) : Bool := decide (0 ≤ i) && decide (i < 31)
theorem inB_yes {i : Int} (h : 0 ≤ i ∧ i < 31) : inB i = true := by unfold inB; simp [h]
theorem inB_no {i : Int} (h : ¬ (0 ≤ i ∧ i < 31)) : inB i = false := by unfold inB; simp; omega
def hasB (s i : Int) : Bool := inB i && bit s i.toNat

set_option maxHeartbeats 400000 in
set_option maxRecDepth 1000000 in
theorem may_any (i : Int) (w : World) : Calls Try.prog 96 #[.int .i64 i] w fun e w' => e = .returned (.bool (inB i)) ∧ w = w' := by
  by_cases h0 : 0 ≤ i
  · by_cases h1 : i < 31
    · rw [inB_yes ⟨h0, h1⟩]
      go_enter Try.func96, Try.ntmps96
      go_wp2
      go_ret
      exact ⟨rfl, rfl⟩
    · rw [inB_no (by omega)]
      go_enter Try.func96, Try.ntmps96
      go_wp2
      go_ret
      exact ⟨rfl, rfl⟩
  · rw [inB_no (by omega)]
    go_enter Try.func96, Try.ntmps96
    go_wp2
    go_ret
    exact ⟨rfl, rfl⟩
theorem may_yes (i : Int) (w : World) (h : 0 ≤ i ∧ i < 31) : Calls Try.prog 96 #[.int .i64 i] w fun e w' => e = .returned (.bool true) ∧ w = w' := by
  have := may_any i w; rwa [inB_yes h] at this
theorem may_no (i : Int) (w : World) (h : ¬ (0 ≤ i ∧ i < 31)) : Calls Try.prog 96 #[.int .i64 i] w fun e w' => e = .returned (.bool false) ∧ w = w' := by
  have := may_any i w; rwa [inB_no h] at this

set_option maxHeartbeats 400000 in
set_option maxRecDepth 1000000 in
theorem has_any (s i : Int) (w : World) : Calls Try.prog 56 #[.int .i64 s, .int .i64 i] w fun e w' => e = .returned (.bool (hasB s i)) ∧ w = w' := by
  by_cases h : 0 ≤ i ∧ i < 31
  · have hm := may_yes i w h
    have hr : hasB s i = (bits .and .i64 (s / 2 ^ i.toNat) 1 == 1) := by rw [and_one]; unfold hasB bit; rw [inB_yes h]; simp; rfl
    have HR := Lib.hid hr
    clear hr
    go_enter Try.func56, Try.ntmps56
    go_wp2_with (go_at_call 96; refine hm.mono ?_; rintro e w' ⟨rfl, rfl⟩)
    go_ret
    exact ⟨ret_bool HR.out.symm, rfl⟩
  · have hm := may_no i w h
    have hr : hasB s i = false := by unfold hasB; rw [inB_no h]; rfl
    have HR := Lib.hid hr
    clear hr
    go_enter Try.func56, Try.ntmps56
    go_wp2_with (go_at_call 96; refine hm.mono ?_; rintro e w' ⟨rfl, rfl⟩)
    go_ret
    exact ⟨ret_bool HR.out.symm, rfl⟩

end Go.Proofs.Ytdpmkhmjihgckaa
