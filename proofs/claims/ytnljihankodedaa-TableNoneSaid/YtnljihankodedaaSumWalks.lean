/-
  table.Sum and its reference: the sum of a text, by walks.
-/
import Derived.Test.YtnljihankodedaaSumPlain
namespace Go.Proofs.Ytnljihankodedaa
open Go.RowKit SumPlain
set_option linter.unusedVariables false

set_option maxHeartbeats 400000 in
theorem sum32_any (s : ByteArray) (w : World) (hs : s.size ≤ 9223372036854775807) :
    Calls Try.prog 45 #[.string s] w fun e w' => e = .returned (.int .u32 (fnv s.data.toList : Nat)) ∧ w = w' := by
  have hb0 : (2166136261 : Int) = ((fnv (s.data.toList.take 0) : Nat) : Int) := by rw [List.take_zero]; rfl
  have HB := Lib.hid hb0
  clear hb0
  go_enter Try.func45, Try.ntmps45
  go_wp2
  go_loop [3, 7] (fun v3 v7 => ∃ k : Nat, k ≤ s.size ∧ v7 = .int .i64 k ∧ v3 = .int .u32 ((fnv (s.data.toList.take k) : Nat) : Int)) (fun _ v7 => s.size - (intOf v7).toNat)
  case atStart => exact ⟨0, Nat.zero_le _, rfl, by rw [HB.out]⟩
  case round =>
    obtain ⟨k, hk, rfl, rfl⟩ := hrel
    by_cases hlt : k < s.size
    · have hl := fnv_lt (s.data.toList.take k)
      have hst := step_walk (fnv (s.data.toList.take k)) s[k] hl
      rw [← fnv_snoc, ← take_snoc s k hlt] at hst
      have HST := Lib.hid hst
      clear hst
      go_wp2
      go_round
      case rel => exact ⟨k + 1, by omega, by go_num, by rw [← HST.out]⟩
      case measure => simp [intOf]; omega
    · have hf : s.data.toList.take k = s.data.toList := List.take_of_length_le (by simp; omega)
      have HF := Lib.hid hf
      clear hf
      go_wp2
      go_ret
      exact ⟨ret_int (by rw [HF.out]), rfl⟩

theorem bit_step (a k : Nat) : (a / 2 ^ k) / 2 = a / 2 ^ (k + 1) := by rw [Nat.pow_succ, Nat.div_div_eq_div_mul]
set_option maxHeartbeats 1000000 in
theorem rsum_any (s : ByteArray) (w : World) (hs : s.size ≤ 9223372036854775807) :
    Calls Try.prog 46 #[.string s] w fun e w' => e = .returned (.int .i64 (fnv s.data.toList : Nat)) ∧ w = w' := by
  have hb0 : (2166136261 : Int) = ((fnv (s.data.toList.take 0) : Nat) : Int) := by rw [List.take_zero]; rfl
  have HB := Lib.hid hb0
  clear hb0
  go_enter Try.func46, Try.ntmps46
  go_wp2
  go_loop [3, 4] (fun v3 v4 => ∃ k : Nat, k ≤ s.size ∧ v4 = .int .i64 k ∧ v3 = .int .i64 ((fnv (s.data.toList.take k) : Nat) : Int)) (fun _ v4 => s.size - (intOf v4).toNat)
  case atStart => exact ⟨0, Nat.zero_le _, rfl, by rw [HB.out]⟩
  case round =>
    obtain ⟨k, hk, rfl, rfl⟩ := hrel
    by_cases hlt : k < s.size
    · have hl := fnv_lt (s.data.toList.take k)
      have hst := step_ref (fnv (s.data.toList.take k)) s[k]
      have hsn := fnv_snoc (s.data.toList.take k) s[k]
      rw [← take_snoc s k hlt] at hsn
      rw [← hsn] at hst
      have HST := Lib.hid hst
      have hc := (s[k]).toNat_lt
      have hlow : (fnv (s.data.toList.take k)) % 256 < 256 := by omega
      have hx8 := xlow_lt (fnv (s.data.toList.take k) % 256) (s[k]).toNat 8
      clear hst hsn
      generalize hC : (s[k]).toNat = c at *
      generalize hH : fnv (s.data.toList.take k) = h at *
      clear hH
      go_wp2
      go_loop [5, 6, 7, 8, 9] (fun v5 v6 v7 v8 v9 => ∃ j : Nat, j ≤ 8 ∧ v9 = .int .i64 j ∧ v5 = .int .i64 ((c / 2 ^ j : Nat) : Int) ∧ v6 = .int .i64 ((h % 256 / 2 ^ j : Nat) : Int) ∧ v7 = .int .i64 ((xlow (h % 256) c j : Nat) : Int) ∧ v8 = .int .i64 ((2 ^ j : Nat) : Int)) (fun _ _ _ _ v9 => 8 - (intOf v9).toNat)
      case atStart => exact ⟨0, by omega, rfl, by simp, by simp, rfl, rfl⟩
      case round =>
        obtain ⟨j, hj, rfl, rfl, rfl, rfl, rfl⟩ := hrel
        have ea := bit_step c j
        have eb := bit_step (h % 256) j
        have EA := Lib.hid ea
        have EB := Lib.hid eb
        clear ea eb
        have hxl := xlow_lt (h % 256) c j
        have hp : (2 : Nat) ^ j ≤ 2 ^ 8 := Nat.pow_le_pow_right (by omega) hj
        have ep : ((2 ^ (j + 1) : Nat) : Int) = ((2 ^ j : Nat) : Int) * 2 := by rw [Nat.pow_succ]; omega
        have EP := Lib.hid ep
        have ex : xlow (h % 256) c (j + 1) = xlow (h % 256) c j + if h % 256 / 2 ^ j % 2 = c / 2 ^ j % 2 then 0 else 2 ^ j := rfl
        have EX := Lib.hid ex
        clear ep ex
        have ha : c / 2 ^ j ≤ c := Nat.div_le_self _ _
        have hbb : h % 256 / 2 ^ j ≤ h % 256 := Nat.div_le_self _ _
        by_cases hlt8 : j < 8
        · generalize hA : h % 256 / 2 ^ j = A at *
          generalize hB' : c / 2 ^ j = B at *
          generalize hX : xlow (h % 256) c j = X at *
          generalize hP : 2 ^ j = P at *
          clear hA hB' hX hP
          by_cases heq : A % 2 = B % 2
          · have HEQ := Lib.hid heq
            have hne : ((A : Int) % 2 != (B : Int) % 2) = false := by simp; omega
            clear heq
            go_wp2
            go_round
            case rel => exact ⟨j + 1, by omega, by go_num, by rw [← EA.out]; go_num, by rw [← EB.out]; go_num, by rw [EX.out, if_pos HEQ.out]; rfl, by rw [EP.out]⟩
            case measure => simp [intOf]; omega
          · have HEQ := Lib.hid heq
            have hne : ((A : Int) % 2 != (B : Int) % 2) = true := by simp; omega
            clear heq
            go_wp2
            go_round
            case rel => exact ⟨j + 1, by omega, by go_num, by rw [← EA.out]; go_num, by rw [← EB.out]; go_num, by rw [EX.out, if_neg HEQ.out]; go_num, by rw [EP.out]⟩
            case measure => simp [intOf]; omega
        · have hj8 : j = 8 := by omega
          subst hj8
          clear EA EB EP EX
          generalize hX : xlow (h % 256) c 8 = X at *
          clear hX
          go_wp2
          go_round
          case rel => exact ⟨k + 1, by omega, by go_num, by rw [← HST.out]⟩
          case measure => simp [intOf]; omega
    · have hf : s.data.toList.take k = s.data.toList := List.take_of_length_le (by simp; omega)
      have HF := Lib.hid hf
      clear hf
      go_wp2
      go_ret
      exact ⟨ret_int (by rw [HF.out]), rfl⟩
end Go.Proofs.Ytnljihankodedaa
