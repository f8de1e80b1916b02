/-
  num.Add, Gap, warderref03.Add, Gap: by walks.
-/
import Derived.Test.YtbplkphjjfgkmaaDoorKit
namespace Go.Proofs.YtbplkphjjfgkmaaDoor
open Go.RowKit
set_option linter.unusedVariables false
set_option linter.unusedSimpArgs false

namespace Nm
def fits (n : Int) : Prop := -9223372036854775808 ≤ n ∧ n ≤ 9223372036854775807
instance (n : Int) : Decidable (fits n) := by unfold fits; exact inferInstance
/-- Two numbers together, or that this is none. -/
def addV (a b : Int) : Value := .tuple #[.int .i64 (if fits (a + b) then a + b else 0), .bool (decide (fits (a + b)))]
theorem addV_ok {a b : Int} (h : fits (a + b)) : addV a b = .tuple #[.int .i64 (a + b), .bool true] := by unfold addV; rw [if_pos h, decide_eq_true h]
theorem addV_no {a b : Int} (h : ¬ fits (a + b)) : addV a b = .tuple #[.int .i64 0, .bool false] := by unfold addV; rw [if_neg h, decide_eq_false h]
def gap (a b m : Int) : Int := if m < 0 ∨ b ≤ a then 0 else min (b - a - 1) m
end Nm
set_option maxHeartbeats 1000000 in
theorem gap_any (a b m : Int) (w : World) (ha : -9223372036854775808 ≤ a ∧ a ≤ 9223372036854775807) (hb : -9223372036854775808 ≤ b ∧ b ≤ 9223372036854775807) (hm : -9223372036854775808 ≤ m ∧ m ≤ 9223372036854775807) :
    Calls Tryd.prog 57 #[.int .i64 a, .int .i64 b, .int .i64 m] w fun e w' => e = .returned (.int .i64 (Nm.gap a b m)) ∧ w = w' := by
  have hu : ∀ b : Bool, ¬ (some undef = some (Value.bool b)) := fun b h => by cases h
  by_cases h1 : m < 0
  · have hz : Nm.gap a b m = 0 := by unfold Nm.gap; rw [if_pos (Or.inl h1)]
    rw [hz]
    clear hz
    go_enter Tryd.func57, Tryd.ntmps57
    go_wp2
    go_ret
    exact ⟨rfl, rfl⟩
  · by_cases h2 : b ≤ a
    · have hz : Nm.gap a b m = 0 := by unfold Nm.gap; rw [if_pos (Or.inr h2)]
      rw [hz]
      clear hz
      go_enter Tryd.func57, Tryd.ntmps57
      go_wp2
      go_ret
      exact ⟨rfl, rfl⟩
    · have hz : Nm.gap a b m = min (b - a - 1) m := by unfold Nm.gap; rw [if_neg (by omega)]
      rw [hz]
      clear hz
      have hU : IntKind.u64.wrap (IntKind.u64.wrap (IntKind.u64.wrap b - IntKind.u64.wrap a) - 1) = b - a - 1 := by
        simp only [IntKind.wrap_u64]
        omega
      by_cases h3 : m < b - a - 1
      · rw [Int.min_eq_right (by omega)]
        go_enter Tryd.func57, Tryd.ntmps57
        go_wp2
        go_ret
        exact ⟨rfl, rfl⟩
      · rw [Int.min_eq_left (by omega)]
        have hw : wrap64 (b - a - 1) = b - a - 1 := by unfold wrap64; omega
        go_enter Tryd.func57, Tryd.ntmps57
        go_wp2
        go_ret
        exact ⟨rfl, rfl⟩
end Go.Proofs.YtbplkphjjfgkmaaDoor
