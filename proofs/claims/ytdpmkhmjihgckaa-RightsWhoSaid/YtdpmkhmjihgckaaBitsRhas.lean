/-
  warderref14.Has: by walks (out of BitsWalks).
-/
import Derived.Test.YtdpmkhmjihgckaaBitsHas
namespace Go.Proofs.Ytdpmkhmjihgckaa
open Go.RowKit BitsPlain
set_option linter.unusedVariables false

theorem tm (x : Int) : (0 ≤ x → x.tmod 2 = x % 2) ∧ (x < 0 → x.tmod 2 = - ((-x) % 2)) := by
  constructor
  · intro h; exact Int.tmod_eq_emod_of_nonneg h
  · intro h
    have : x = -(-x) := by omega
    conv => lhs; rw [this]
    rw [Int.neg_tmod, Int.tmod_eq_emod_of_nonneg (by omega)]
theorem td (x : Int) : (0 ≤ x → x.tdiv 2 = x / 2) ∧ (x < 0 → x.tdiv 2 = - ((-x) / 2)) := by
  constructor
  · intro h; exact Int.tdiv_eq_ediv_of_nonneg h
  · intro h
    have : x = -(-x) := by omega
    conv => lhs; rw [this]
    rw [Int.neg_tdiv, Int.tdiv_eq_ediv_of_nonneg (by omega)]
theorem half_a (x : Int) (h1 : -9223372036854775808 ≤ x) (h2 : x ≤ 9223372036854775807) (h : x.tmod 2 < 0) : wrap64 ((wrap64 (x - wrap64 (-(x.tmod 2)))).tdiv 2) = x / 2 := by
  have t := tm x
  rw [IntWalk.wrap64_in (-(x.tmod 2)) ⟨by omega, by omega⟩, IntWalk.wrap64_in (x - -(x.tmod 2)) ⟨by omega, by omega⟩]
  have d := td (x - -(x.tmod 2))
  rw [IntWalk.wrap64_in _ ⟨by omega, by omega⟩]
  omega
theorem half_b (x : Int) (h1 : -9223372036854775808 ≤ x) (h2 : x ≤ 9223372036854775807) (h : ¬ x.tmod 2 < 0) : wrap64 ((wrap64 (x - (x.tmod 2))).tdiv 2) = x / 2 := by
  have t := tm x
  rw [IntWalk.wrap64_in (x - (x.tmod 2)) ⟨by omega, by omega⟩]
  have d := td (x - (x.tmod 2))
  rw [IntWalk.wrap64_in _ ⟨by omega, by omega⟩]
  omega
theorem odd_ne (x : Int) : (x.tmod 2 != 0) = decide (x % 2 = 1) := by
  have t := tm x
  rw [Bool.eq_iff_iff, bne_iff_ne, decide_eq_true_eq]
  omega
theorem shift_succ (s : Int) (k : Nat) : s / 2 ^ (k + 1) = s / 2 ^ k / 2 := by
  rw [Int.pow_succ, Int.ediv_ediv_of_nonneg (Int.pow_nonneg (by decide))]
theorem shift_wf (s : Int) (k : Nat) (h1 : -9223372036854775808 ≤ s) (h2 : s ≤ 9223372036854775807) : -9223372036854775808 ≤ s / 2 ^ k ∧ s / 2 ^ k ≤ 9223372036854775807 := by
  induction k with
  | zero => simpa using ⟨h1, h2⟩
  | succ k ih => rw [shift_succ]; omega
set_option maxHeartbeats 400000 in
set_option maxRecDepth 1000000 in
theorem rhas_out (s i : Int) (w : World) (h : ¬ (0 ≤ i ∧ i < 31)) : Calls Try.prog 57 #[.int .i64 s, .int .i64 i] w fun e w' => e = .returned (.bool (hasB s i)) ∧ w = w' := by
  have hr : hasB s i = false := by unfold hasB; rw [inB_no h]; rfl
  rw [hr]
  clear hr
  rcases Int.lt_or_le i 0 with h0 | h0
  · go_enter Try.func57, Try.ntmps57
    go_wp2
    go_ret
    exact ⟨rfl, rfl⟩
  · have h1 : 30 < i := by omega
    go_enter Try.func57, Try.ntmps57
    go_wp2
    go_ret
    exact ⟨rfl, rfl⟩
set_option maxHeartbeats 400000 in
set_option maxRecDepth 1000000 in
theorem rhas_in (s : Int) (i : Nat) (w : World) (hi : i < 31) (hs1 : -9223372036854775808 ≤ s) (hs2 : s ≤ 9223372036854775807) :
    Calls Try.prog 57 #[.int .i64 s, .int .i64 i] w fun e w' => e = .returned (.bool (bit s i)) ∧ w = w' := by
  go_enter Try.func57, Try.ntmps57
  go_wp2
  go_loop [0, 5] (fun v0 v5 => ∃ k : Nat, k ≤ i ∧ v5 = .int .i64 k ∧ v0 = .int .i64 (s / 2 ^ k)) (fun _ v5 => i - (intOf v5).toNat)
  case atStart => exact ⟨0, Nat.zero_le _, rfl, by simp⟩
  case round =>
    obtain ⟨k, hk, rfl, rfl⟩ := hrel
    have hb := shift_wf s k hs1 hs2
    have ha := fun h => half_a (s / 2 ^ k) hb.1 hb.2 h
    have hbb := fun h => half_b (s / 2 ^ k) hb.1 hb.2 h
    have HA := Lib.hid ha
    have HB := Lib.hid hbb
    clear ha hbb
    by_cases hlt : k < i
    · by_cases hneg : (s / 2 ^ k).tmod 2 < 0
      · go_wp2
        go_round
        case rel => exact ⟨k + 1, by omega, by go_num, by rw [HA.out hneg, shift_succ]⟩
        case measure => simp [intOf]; omega
      · go_wp2
        go_round
        case rel => exact ⟨k + 1, by omega, by go_num, by rw [HB.out hneg, shift_succ]⟩
        case measure => simp [intOf]; omega
    · obtain rfl : k = i := by omega
      go_wp2
      go_ret
      exact ⟨ret_bool (odd_ne _), rfl⟩
theorem rhas_any (s i : Int) (w : World) (hs1 : -9223372036854775808 ≤ s) (hs2 : s ≤ 9223372036854775807) :
    Calls Try.prog 57 #[.int .i64 s, .int .i64 i] w fun e w' => e = .returned (.bool (hasB s i)) ∧ w = w' := by
  by_cases h : 0 ≤ i ∧ i < 31
  · obtain ⟨n, rfl⟩ := Int.eq_ofNat_of_zero_le h.1
    have := rhas_in s n w (by omega) hs1 hs2
    unfold hasB
    rw [inB_yes h]
    exact this
  · exact rhas_out s i w h
end Go.Proofs.Ytdpmkhmjihgckaa
