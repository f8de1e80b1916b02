/-
  table.Sum and its reference: the sum of a text, by walks.
-/
import Derived.Test.YtkambjfhhmgniaaSumPlain
namespace Go.Proofs.Ytkambjfhhmgniaa
open Go.RowKit SumPlain
set_option linter.unusedVariables false

set_option maxHeartbeats 400000 in
theorem sum32_any (s : ByteArray) (w : World) (hs : s.size ≤ 9223372036854775807) :
    Calls Try.prog 21 #[.string s] w fun e w' => e = .returned (.int .u32 (fnv s.data.toList : Nat)) ∧ w = w' := by
  have hb0 : (2166136261 : Int) = ((fnv (s.data.toList.take 0) : Nat) : Int) := by rw [List.take_zero]; rfl
  have HB := Lib.hid hb0
  clear hb0
  go_enter Try.func21, Try.ntmps21
  go_wp2
  go_loop [3, 7] (fun v3 v7 => ∃ k : Nat, k ≤ s.size ∧ v7 = .int .i64 k ∧ v3 = .int .u32 ((fnv (s.data.toList.take k) : Nat) : Int)) (fun _ v7 => s.size - (intOf v7).toNat)
  case atStart => exact ⟨0, Nat.zero_le _, rfl, by rw [HB.out]⟩
  case round =>
    obtain ⟨k, hk, rfl, rfl⟩ := hrel
    by_cases hlt : k < s.size
    · have hl := fnv_lt (s.data.toList.take k)
      have hst := step_walk (fnv (s.data.toList.take k)) s[k] hl
      rw [← fnv_snoc, ← take_snoc s k hlt] at hst
      have HST := Lib.hid hst
      clear hst
      go_wp2
      go_round
      case rel => exact ⟨k + 1, by omega, by go_num, by rw [← HST.out]⟩
      case measure => simp [intOf]; omega
    · have hf : s.data.toList.take k = s.data.toList := List.take_of_length_le (by simp; omega)
      have HF := Lib.hid hf
      clear hf
      go_wp2
      go_ret
      exact ⟨ret_int (by rw [HF.out]), rfl⟩

theorem bit_step (a k : Nat) : (a / 2 ^ k) / 2 = a / 2 ^ (k + 1) := by rw [Nat.pow_succ, Nat.div_div_eq_div_mul]
end Go.Proofs.Ytkambjfhhmgniaa
