/-
  num.Add, Gap, warderref03.Add, Gap: by walks.
-/
import Derived.Test.YtlmecpghlgndnaaDoorKit
namespace Go.Proofs.YtlmecpghlgndnaaDoor
open Go.RowKit
set_option linter.unusedVariables false
set_option linter.unusedSimpArgs false

namespace Nm
def fits (n : Int) : Prop := -9223372036854775808 ≤ n ∧ n ≤ 9223372036854775807
instance (n : Int) : Decidable (fits n) := by unfold fits; exact inferInstance
/-- Two numbers together, or that this is none. -/
def addV (a b : Int) : Value := .tuple #[.int .i64 (if fits (a + b) then a + b else 0), .bool (decide (fits (a + b)))]
theorem addV_ok {a b : Int} (h : fits (a + b)) : addV a b = .tuple #[.int .i64 (a + b), .bool true] := by unfold addV; rw [if_pos h, decide_eq_true h]
theorem addV_no {a b : Int} (h : ¬ fits (a + b)) : addV a b = .tuple #[.int .i64 0, .bool false] := by unfold addV; rw [if_neg h, decide_eq_false h]
def gap (a b m : Int) : Int := if m < 0 ∨ b ≤ a then 0 else min (b - a - 1) m
end Nm
set_option maxHeartbeats 1000000 in
theorem add_any (a b : Int) (w : World) (ha : -9223372036854775808 ≤ a ∧ a ≤ 9223372036854775807) (hb : -9223372036854775808 ≤ b ∧ b ≤ 9223372036854775807) :
    Calls Tryd.prog 13 #[.int .i64 a, .int .i64 b] w fun e w' => e = .returned (Nm.addV a b) ∧ w = w' := by
  have hu : ∀ b : Bool, ¬ (some undef = some (Value.bool b)) := fun b h => by cases h
  by_cases hf : Nm.fits (a + b)
  · rw [Nm.addV_ok hf]
    obtain ⟨h1, h2⟩ := hf
    by_cases h3 : a < 0
    all_goals by_cases h4 : b < 0
    all_goals by_cases h5 : a + b < 0
    all_goals first | omega | skip
    all_goals
      go_enter Tryd.func13, Tryd.ntmps13
      go_wp2
      go_ret2
      exact ⟨rfl, rfl⟩
  · rw [Nm.addV_no hf]
    by_cases h3 : a < 0
    · have h4 : b < 0 := by unfold Nm.fits at hf; omega
      have h5 : ¬ (a + b + 18446744073709551616 < 0) := by omega
      have hw : wrap64 (a + b) = a + b + 18446744073709551616 := by unfold Nm.fits at hf; unfold wrap64; omega
      clear hf
      go_enter Tryd.func13, Tryd.ntmps13
      go_wp2
      go_ret2
      exact ⟨rfl, rfl⟩
    · have h4 : ¬ b < 0 := by unfold Nm.fits at hf; omega
      have h5 : a + b - 18446744073709551616 < 0 := by omega
      have hw : wrap64 (a + b) = a + b - 18446744073709551616 := by unfold Nm.fits at hf; unfold wrap64; omega
      clear hf
      go_enter Tryd.func13, Tryd.ntmps13
      go_wp2
      go_ret2
      exact ⟨rfl, rfl⟩
set_option maxHeartbeats 1000000 in
theorem radd_any (a b : Int) (w : World) (ha : -9223372036854775808 ≤ a ∧ a ≤ 9223372036854775807) (hb : -9223372036854775808 ≤ b ∧ b ≤ 9223372036854775807) :
    Calls Tryd.prog 14 #[.int .i64 a, .int .i64 b] w fun e w' => e = .returned (Nm.addV a b) ∧ w = w' := by
  have hu : ∀ b : Bool, ¬ (some undef = some (Value.bool b)) := fun b h => by cases h
  by_cases hf : Nm.fits (a + b)
  · rw [Nm.addV_ok hf]
    obtain ⟨h1, h2⟩ := hf
    by_cases h3 : 0 < b
    · have h5 : ¬ (9223372036854775807 - b < a) := by omega
      have h6 : ¬ b < 0 := by omega
      go_enter Tryd.func14, Tryd.ntmps14
      go_wp2
      go_ret2
      exact ⟨rfl, rfl⟩
    · by_cases h4 : b < 0
      · have h5 : ¬ (a < -9223372036854775808 - b) := by omega
        go_enter Tryd.func14, Tryd.ntmps14
        go_wp2
        go_ret2
        exact ⟨rfl, rfl⟩
      · go_enter Tryd.func14, Tryd.ntmps14
        go_wp2
        go_ret2
        exact ⟨rfl, rfl⟩
  · rw [Nm.addV_no hf]
    by_cases h3 : 0 < b
    · have h5 : 9223372036854775807 - b < a := by unfold Nm.fits at hf; omega
      clear hf
      go_enter Tryd.func14, Tryd.ntmps14
      go_wp2
      go_ret2
      exact ⟨rfl, rfl⟩
    · have h4 : b < 0 := by unfold Nm.fits at hf; omega
      have h5 : a < -9223372036854775808 - b := by unfold Nm.fits at hf; omega
      clear hf
      go_enter Tryd.func14, Tryd.ntmps14
      go_wp2
      go_ret2
      exact ⟨rfl, rfl⟩
set_option maxHeartbeats 1000000 in
theorem gap_any (a b m : Int) (w : World) (ha : -9223372036854775808 ≤ a ∧ a ≤ 9223372036854775807) (hb : -9223372036854775808 ≤ b ∧ b ≤ 9223372036854775807) (hm : -9223372036854775808 ≤ m ∧ m ≤ 9223372036854775807) :
    Calls Tryd.prog 15 #[.int .i64 a, .int .i64 b, .int .i64 m] w fun e w' => e = .returned (.int .i64 (Nm.gap a b m)) ∧ w = w' := by
  have hu : ∀ b : Bool, ¬ (some undef = some (Value.bool b)) := fun b h => by cases h
  by_cases h1 : m < 0
  · have hz : Nm.gap a b m = 0 := by unfold Nm.gap; rw [if_pos (Or.inl h1)]
    rw [hz]
    clear hz
    go_enter Tryd.func15, Tryd.ntmps15
    go_wp2
    go_ret
    exact ⟨rfl, rfl⟩
  · by_cases h2 : b ≤ a
    · have hz : Nm.gap a b m = 0 := by unfold Nm.gap; rw [if_pos (Or.inr h2)]
      rw [hz]
      clear hz
      go_enter Tryd.func15, Tryd.ntmps15
      go_wp2
      go_ret
      exact ⟨rfl, rfl⟩
    · have hz : Nm.gap a b m = min (b - a - 1) m := by unfold Nm.gap; rw [if_neg (by omega)]
      rw [hz]
      clear hz
      have hU : IntKind.u64.wrap (IntKind.u64.wrap (IntKind.u64.wrap b - IntKind.u64.wrap a) - 1) = b - a - 1 := by
        simp only [IntKind.wrap_u64]
        omega
      by_cases h3 : m < b - a - 1
      · rw [Int.min_eq_right (by omega)]
        go_enter Tryd.func15, Tryd.ntmps15
        go_wp2
        go_ret
        exact ⟨rfl, rfl⟩
      · rw [Int.min_eq_left (by omega)]
        have hw : wrap64 (b - a - 1) = b - a - 1 := by unfold wrap64; omega
        go_enter Tryd.func15, Tryd.ntmps15
        go_wp2
        go_ret
        exact ⟨rfl, rfl⟩
set_option maxHeartbeats 1000000 in
theorem rgap_any (a b m : Int) (w : World) (ha : -9223372036854775808 ≤ a ∧ a ≤ 9223372036854775807) (hb : -9223372036854775808 ≤ b ∧ b ≤ 9223372036854775807) (hm : -9223372036854775808 ≤ m ∧ m ≤ 5000) :
    Calls Tryd.prog 16 #[.int .i64 a, .int .i64 b, .int .i64 m] w fun e w' => e = .returned (.int .i64 (Nm.gap a b m)) ∧ w = w' := by
  have hu : ∀ b : Bool, ¬ (some undef = some (Value.bool b)) := fun b h => by cases h
  have hg : Hid (Nm.gap a b m = if m < 0 ∨ b ≤ a then 0 else min (b - a - 1) m) := rfl
  have hg0 : 0 ≤ Nm.gap a b m := by
    unfold Nm.gap
    split <;> omega
  generalize Nm.gap a b m = G at hg hg0 ⊢
  go_enter Tryd.func16, Tryd.ntmps16
  go_wp2
  go_loopw [0, 7] (fun v0 v7 wr => ∃ k : Int, 0 ≤ k ∧ k ≤ G ∧ v0 = .int .i64 (a + k) ∧ v7 = .int .i64 k ∧ w = wr) (fun _ v7 _ => (G - intOf v7).toNat)
  case atStart => exact ⟨0, by omega, hg0, by rw [Int.add_zero], rfl, rfl⟩
  case round =>
    obtain ⟨k, hk0, hkG, rfl, rfl, rfl⟩ := hrel
    by_cases h1 : k < G
    · have h2 : k < m := by unfold Hid at hg; split at hg <;> omega
      have h3 : a + k < b := by unfold Hid at hg; split at hg <;> omega
      have h4 : a + k + 1 < b := by unfold Hid at hg; split at hg <;> omega
      go_wp2
      go_roundw
      case rel => exact ⟨k + 1, by omega, by omega, by go_num, by go_num, trivial⟩
      case measure => simp [intOf]; omega
    · obtain rfl : k = G := by omega
      by_cases h2 : k < m
      · by_cases h3 : a + k < b
        · have h4 : ¬ (a + k + 1 < b) := by unfold Hid at hg; split at hg <;> omega
          go_wp2
          go_ret
          exact ⟨rfl, rfl⟩
        · go_wp2
          go_ret
          exact ⟨rfl, rfl⟩
      · go_wp2
        go_ret
        exact ⟨rfl, rfl⟩
end Go.Proofs.YtlmecpghlgndnaaDoor
