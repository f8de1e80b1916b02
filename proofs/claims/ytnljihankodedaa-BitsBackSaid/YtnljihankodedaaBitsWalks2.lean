/-
  What each function of package bits, and of its reference, answers: the rest.
-/
import Derived.Test.YtnljihankodedaaBitsWalks
namespace Go.Proofs.Ytnljihankodedaa
open Go.RowKit BitsPlain
set_option linter.unusedVariables false

set_option maxHeartbeats 400000 in
theorem with_any (s i : Int) (w : World) : Calls Try.prog 17 #[.int .i64 s, .int .i64 i] w fun e w' => e = .returned (.int .i64 (putB s i true)) ∧ w = w' := by
  have ha := and_all s
  have HA := Lib.hid ha
  clear ha
  by_cases h : 0 ≤ i ∧ i < 31
  · obtain ⟨n, rfl⟩ := Int.eq_ofNat_of_zero_le h.1
    have hm := may_yes n w h
    have e1 : bits .or .i64 (bits .and .i64 s 2147483647) (wrap64 (2 ^ n)) = putB s n true := by
      rw [HA.out, pow_small n (by omega), set_bit _ _ (by omega), putB_in]
    have HE := Lib.hid e1
    clear e1
    go_enter Try.func17, Try.ntmps17
    go_wp2_with (go_at_call 62; refine hm.mono ?_; rintro e w' ⟨rfl, rfl⟩)
    go_ret
    exact ⟨ret_int HE.out, rfl⟩
  · have hm := may_no i w h
    rw [putB_out _ _ _ h]
    go_enter Try.func17, Try.ntmps17
    go_wp2_with (go_at_call 62; refine hm.mono ?_; rintro e w' ⟨rfl, rfl⟩)
    go_ret
    exact ⟨ret_int HA.out, rfl⟩
set_option maxHeartbeats 400000 in
theorem without_any (s i : Int) (w : World) : Calls Try.prog 19 #[.int .i64 s, .int .i64 i] w fun e w' => e = .returned (.int .i64 (putB s i false)) ∧ w = w' := by
  have ha := and_all s
  have HA := Lib.hid ha
  clear ha
  by_cases h : 0 ≤ i ∧ i < 31
  · obtain ⟨n, rfl⟩ := Int.eq_ofNat_of_zero_le h.1
    have hm := may_yes n w h
    have e1 : bits .andNot .i64 (bits .and .i64 s 2147483647) (wrap64 (2 ^ n)) = putB s n false := by
      rw [HA.out, pow_small n (by omega), clear_bit _ _ (by omega), putB_in]
    have HE := Lib.hid e1
    clear e1
    go_enter Try.func19, Try.ntmps19
    go_wp2_with (go_at_call 62; refine hm.mono ?_; rintro e w' ⟨rfl, rfl⟩)
    go_ret
    exact ⟨ret_int HE.out, rfl⟩
  · have hm := may_no i w h
    rw [putB_out _ _ _ h]
    go_enter Try.func19, Try.ntmps19
    go_wp2_with (go_at_call 62; refine hm.mono ?_; rintro e w' ⟨rfl, rfl⟩)
    go_ret
    exact ⟨ret_int HA.out, rfl⟩
set_option maxHeartbeats 400000 in
theorem within_any (a b : Int) (w : World) : Calls Try.prog 25 #[.int .i64 a, .int .i64 b] w fun e w' => e = .returned (.bool (withinB (bit a) (bit b))) ∧ w = w' := by
  have ha : (bits .andNot .i64 (bits .and .i64 a 2147483647) b == 0) = withinB (bit a) (bit b) := by rw [and_all, within_bits]; rfl
  have HA := Lib.hid ha
  clear ha
  go_enter Try.func25, Try.ntmps25
  go_wp2
  go_ret
  exact ⟨ret_bool HA.out, rfl⟩
set_option maxHeartbeats 400000 in
theorem first_any (n : Int) (w : World) : Calls Try.prog 28 #[.int .i64 n] w fun e w' => e = .returned (.int .i64 ((2 ^ top n - 1 : Nat) : Int)) ∧ w = w' := by
  rcases Int.lt_or_le n 0 with h0 | h0
  · have e0 : top n = 0 := by unfold top; omega
    rw [e0]
    go_enter Try.func28, Try.ntmps28
    go_wp2
    go_ret
    exact ⟨rfl, rfl⟩
  · rcases Int.lt_or_le 31 n with h1 | h1
    · have e0 : top n = 31 := by unfold top; omega
      rw [e0]
      go_enter Try.func28, Try.ntmps28
      go_wp2
      go_ret
      exact ⟨ret_int (by decide), rfl⟩
    · obtain ⟨k, rfl⟩ := Int.eq_ofNat_of_zero_le h0
      have e0 : top k = k := by unfold top; omega
      have hp : (2 : Nat) ^ k ≤ 2 ^ 31 := Nat.pow_le_pow_right (by omega) (by omega)
      have hp1 : 0 < (2 : Nat) ^ k := Nat.pow_pos (by omega)
      have e1 : wrap64 (wrap64 (2 ^ k) - 1) = ((2 ^ top k - 1 : Nat) : Int) := by
        rw [e0, show ((2 : Int) ^ k) = ((2 ^ k : Nat) : Int) by simp, IntWalk.wrap64_in ((2 ^ k : Nat) : Int) ⟨by omega, by omega⟩, IntWalk.wrap64_in _ ⟨by omega, by omega⟩]
        omega
      have HE := Lib.hid e1
      clear e1 e0 hp hp1
      go_enter Try.func28, Try.ntmps28
      go_wp2
      all_goals go_ret
      all_goals exact ⟨ret_int HE.out, rfl⟩
set_option maxHeartbeats 400000 in
theorem count_any (s : Int) (w : World) : Calls Try.prog 24 #[.int .i64 s] w fun e w' => e = .returned (.int .i64 ((cnt (bit s) 31 : Nat) : Int)) ∧ w = w' := by
  go_enter Try.func24, Try.ntmps24
  go_wp2
  go_loop [3, 5] (fun v3 v5 => ∃ k : Nat, k ≤ 31 ∧ v5 = .int .i64 k ∧ v3 = .int .i64 ((cnt (bit s) k : Nat) : Int)) (fun _ v5 => 31 - (intOf v5).toNat)
  case atStart => exact ⟨0, by omega, rfl, rfl⟩
  case round =>
    obtain ⟨k, hk, rfl, rfl⟩ := hrel
    have hl := cnt_le (bit s) k
    have h1 := and_one (s / 2 ^ k)
    have hsu : ((cnt (bit s) k : Nat) : Int) + bits .and .i64 (s / 2 ^ k) 1 = ((cnt (bit s) (k + 1) : Nat) : Int) := by
      rw [h1]
      show _ = ((cnt (bit s) k + (if bit s k then 1 else 0) : Nat) : Int)
      unfold bit
      by_cases hb : s / 2 ^ k % 2 = 1
      · simp [hb]
      · simp [hb]; omega
    have hb0 : 0 ≤ bits .and .i64 (s / 2 ^ k) 1 ∧ bits .and .i64 (s / 2 ^ k) 1 ≤ 1 := by rw [h1]; omega
    have HS := Lib.hid hsu
    clear hsu h1
    by_cases hlt : k < 31
    · go_wp2
      go_round
      case rel => exact ⟨k + 1, by omega, by go_num, by rw [← HS.out]⟩
      case measure => simp [intOf]; omega
    · obtain rfl : k = 31 := by omega
      go_wp2
      go_ret
      exact ⟨rfl, rfl⟩
theorem withinB_part (f g : Nat → Bool) : withinB f g = (List.range 31).all (fun k => !(f k && !g k)) := by
  unfold withinB; congr 1; funext k; cases f k <;> cases g k <;> rfl
set_option maxHeartbeats 400000 in
theorem rwithin_any (a b : Int) (w : World) (ha1 : -9223372036854775808 ≤ a) (ha2 : a ≤ 9223372036854775807) (hb1 : -9223372036854775808 ≤ b) (hb2 : b ≤ 9223372036854775807) :
    Calls Try.prog 26 #[.int .i64 a, .int .i64 b] w fun e w' => e = .returned (.bool (withinB (bit a) (bit b))) ∧ w = w' := by
  go_enter Try.func26, Try.ntmps26
  go_wp2
  go_loop [5] (fun v5 => ∃ k : Nat, k ≤ 31 ∧ v5 = .int .i64 k ∧ ∀ j, j < k → (bit a j && !bit b j) = false) (fun v5 => 31 - (intOf v5).toNat)
  case atStart => exact ⟨0, by omega, rfl, fun j hj => by omega⟩
  case round =>
    obtain ⟨k, hk, rfl, hall⟩ := hrel
    have HALL := Lib.hid hall
    clear hall
    have hca := fun w => rhas_any a k w ha1 ha2
    have hcb := fun w => rhas_any b k w hb1 hb2
    by_cases hlt : k < 31
    · rw [hasB_nat a k hlt] at hca
      rw [hasB_nat b k hlt] at hcb
      cases hx : bit a k with
      | false =>
        rw [hx] at hca
        have HX := Lib.hid hx
        clear hx
        go_wp2_with (go_at_call 16; refine (hca _).mono ?_; rintro e w' ⟨rfl, rfl⟩)
        go_round
        case rel => exact ⟨k + 1, by omega, by go_num, fun j hj => by
          by_cases h : j = k
          · subst h; rw [HX.out]; rfl
          · exact HALL.out j (by omega)⟩
        case measure => simp [intOf]; omega
      | true =>
        rw [hx] at hca
        have HX := Lib.hid hx
        clear hx
        cases hy : bit b k with
        | false =>
          rw [hy] at hcb
          have HY := Lib.hid hy
          clear hy
          go_wp2_with fail
          refine (hca _).mono ?_
          rintro e w' ⟨rfl, rfl⟩
          go_wp2_with fail
          refine (hcb _).mono ?_
          rintro e w' ⟨rfl, rfl⟩
          go_wp2_with fail
          go_ret
          refine ⟨ret_bool ?_, rfl⟩
          rw [withinB_part]
          symm
          rw [List.all_eq_false]
          exact ⟨k, List.mem_range.2 hlt, by rw [HX.out, HY.out]; decide⟩
        | true =>
          rw [hy] at hcb
          have HY := Lib.hid hy
          clear hy
          go_wp2_with fail
          refine (hca _).mono ?_
          rintro e w' ⟨rfl, rfl⟩
          go_wp2_with fail
          refine (hcb _).mono ?_
          rintro e w' ⟨rfl, rfl⟩
          go_wp2_with fail
          go_round
          case rel => exact ⟨k + 1, by omega, by go_num, fun j hj => by
            by_cases h : j = k
            · subst h; rw [HX.out, HY.out]; rfl
            · exact HALL.out j (by omega)⟩
          case measure => simp [intOf]; omega
    · obtain rfl : k = 31 := by omega
      go_wp2
      go_ret
      refine ⟨ret_bool ?_, rfl⟩
      rw [withinB_part]
      symm
      rw [List.all_eq_true]
      intro k hk
      rw [HALL.out k (List.mem_range.1 hk)]
      rfl
end Go.Proofs.Ytnljihankodedaa
