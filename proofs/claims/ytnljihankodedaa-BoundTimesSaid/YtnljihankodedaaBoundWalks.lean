/-
  bound.Times, bound.Power and their references, by walks.
-/
import Derived.Test.YtnljihankodedaaKit
namespace Go.Proofs.Ytnljihankodedaa
open Go.RowKit
set_option linter.unusedVariables false

/-- The cap. -/
def mostB : Int := 4611686018427387904
theorem mostB_eq : mostB = 4611686018427387904 := rfl
/-- A product, capped. -/
def tm2 (a b : Int) : Int := if a < 1 ∨ b < 1 then 0 else if mostB < a * b then mostB else a * b
theorem tm2_comm (a b : Int) : tm2 a b = tm2 b a := by
  unfold tm2
  rw [Int.mul_comm b a]
  by_cases h : a < 1 ∨ b < 1
  · rw [if_pos h, if_pos (show b < 1 ∨ a < 1 by omega)]
  · rw [if_neg h, if_neg (show ¬ (b < 1 ∨ a < 1) by omega)]
theorem tm2_range (a b : Int) : 0 ≤ tm2 a b ∧ tm2 a b ≤ mostB := by
  have hm := mostB_eq
  unfold tm2
  split
  · omega
  · rename_i h
    split
    · omega
    · have : 0 ≤ a * b := Int.mul_nonneg (by omega) (by omega)
      omega
theorem div_gt (a b M : Int) (hb : 1 ≤ b) : (M / b < a) ↔ (M < a * b) := by
  constructor
  · intro h
    exact (Int.ediv_lt_iff_lt_mul (by omega)).1 h
  · intro h
    exact (Int.ediv_lt_iff_lt_mul (by omega)).2 h
theorem tdiv_most (b : Int) (hb : 1 ≤ b) : mostB.tdiv b = mostB / b := Int.tdiv_eq_ediv_of_nonneg (by rw [mostB_eq]; omega)
theorem ediv_most (b : Int) (hb : 1 ≤ b) : 0 ≤ mostB / b ∧ mostB / b ≤ mostB := by
  have hm := mostB_eq
  constructor
  · exact Int.ediv_nonneg (by omega) (by omega)
  · exact Int.ediv_le_self _ (by omega)
set_option maxHeartbeats 400000 in
theorem times_any (a b : Int) (w : World) (ha : -9223372036854775808 ≤ a ∧ a ≤ 9223372036854775807) (hb : -9223372036854775808 ≤ b ∧ b ≤ 9223372036854775807) :
    Calls Try.prog 57 #[.int .i64 a, .int .i64 b] w fun e w' => e = .returned (.int .i64 (tm2 a b)) ∧ w = w' := by
  by_cases h1 : a < 1
  · have ht : tm2 a b = 0 := by unfold tm2; rw [if_pos (Or.inl h1)]
    rw [ht]
    clear ht
    go_enter Try.func57, Try.ntmps57
    go_wp2
    go_ret
    exact ⟨rfl, rfl⟩
  · by_cases h2 : b < 1
    · have ht : tm2 a b = 0 := by unfold tm2; rw [if_pos (Or.inr h2)]
      rw [ht]
      clear ht
      go_enter Try.func57, Try.ntmps57
      go_wp2
      go_ret
      exact ⟨rfl, rfl⟩
    · have hbb : 1 ≤ b := by omega
      have hgt := div_gt a b 4611686018427387904 hbb
      have hr := ediv_most b hbb
      rw [mostB_eq] at hr
      by_cases h3 : 4611686018427387904 < a * b
      · have ht : tm2 a b = 4611686018427387904 := by unfold tm2; rw [if_neg (by omega), mostB_eq, if_pos h3]
        rw [ht]
        have g : (4611686018427387904 : Int) / b < a := hgt.2 h3
        clear ht h3 hgt
        go_enter Try.func57, Try.ntmps57
        go_wp2
        go_ret
        exact ⟨rfl, rfl⟩
      · have ht : tm2 a b = a * b := by unfold tm2; rw [if_neg (by omega), mostB_eq, if_neg h3]
        rw [ht]
        have g : ¬ (4611686018427387904 : Int) / b < a := fun h => h3 (hgt.1 h)
        have hp : 0 ≤ a * b := Int.mul_nonneg (by omega) (by omega)
        have h4 : a * b ≤ 4611686018427387904 := by omega
        clear ht h3 hgt
        go_enter Try.func57, Try.ntmps57
        go_wp2
        go_ret
        exact ⟨rfl, rfl⟩

theorem half_odd (o a b P : Int) (h : o + a * b = P) (h1 : b % 2 = 1) : (o + a) + (a * 2) * (b / 2) = P := by
  have hb : b = 2 * (b / 2) + 1 := by omega
  have e : a * b = a * 2 * (b / 2) + a := by
    conv => lhs; rw [hb]
    rw [Int.mul_add, Int.mul_one, Int.mul_assoc]
  omega
theorem half_even (o a b P : Int) (h : o + a * b = P) (h1 : b % 2 = 0) : o + (a * 2) * (b / 2) = P := by
  have hb : b = 2 * (b / 2) := by omega
  have e : a * b = a * 2 * (b / 2) := by
    conv => lhs; rw [hb]
    rw [Int.mul_assoc]
  omega
theorem mul_ge (x y k : Int) (hx : 0 ≤ x) (hy : k ≤ y) : x * k ≤ x * y := Int.mul_le_mul_of_nonneg_left hy hx
theorem many_is (a b : Int) (ha : ¬ a < 1) (hb : ¬ b < 1) (h : 4611686018427387904 < a * b) : tm2 a b = 4611686018427387904 := by unfold tm2; rw [if_neg (by omega), mostB_eq, if_pos h]
theorem few_is (a b : Int) (ha : ¬ a < 1) (hb : ¬ b < 1) (h : a * b ≤ 4611686018427387904) : tm2 a b = a * b := by unfold tm2; rw [if_neg (by omega), mostB_eq, if_neg (by omega)]
set_option maxHeartbeats 800000 in
theorem rtimes_any (a b : Int) (w : World) (ha : a ≤ 4611686018427387904 ∨ 4611686018427387904 ≤ a) (hab : a ≤ 9223372036854775807) (hb : b ≤ 9223372036854775807) :
    Calls Try.prog 58 #[.int .i64 a, .int .i64 b] w fun e w' => e = .returned (.int .i64 (tm2 a b)) ∧ w = w' := by
  by_cases h1 : a < 1
  · have ht : tm2 a b = 0 := by unfold tm2; rw [if_pos (Or.inl h1)]
    rw [ht]
    clear ht
    go_enter Try.func58, Try.ntmps58
    go_wp2
    go_ret
    exact ⟨rfl, rfl⟩
  · by_cases h2 : b < 1
    · have ht : tm2 a b = 0 := by unfold tm2; rw [if_pos (Or.inr h2)]
      rw [ht]
      clear ht
      go_enter Try.func58, Try.ntmps58
      go_wp2
      go_ret
      exact ⟨rfl, rfl⟩
    · have hmany := many_is a b h1 h2
      have hfew := few_is a b h1 h2
      have HM := Lib.hid hmany
      have HF := Lib.hid hfew
      clear hmany hfew
      have a1 : 1 ≤ a := by omega
      have b1 : 1 ≤ b := by omega
      clear ha
      go_enter Try.func58, Try.ntmps58
      go_wp2
      go_loop [0, 1, 5] (fun v0 v1 v5 => ∃ x y o : Int, 1 ≤ x ∧ x ≤ 9223372036854775807 ∧ 0 ≤ y ∧ y ≤ 9223372036854775807 ∧ 0 ≤ o ∧ o ≤ 4611686018427387904 ∧ Hid (o + x * y = a * b) ∧ v0 = .int .i64 x ∧ v1 = .int .i64 y ∧ v5 = .int .i64 o) (fun _ v1 _ => (intOf v1).toNat)
      case atStart => exact ⟨a, b, 0, a1, hab, by omega, hb, by omega, by omega, by rw [Int.zero_add]; exact rfl, rfl, rfl, rfl⟩
      case round =>
        obtain ⟨x, y, o, x1, x2, y1, y2, o1, o2, hinv, rfl, rfl, rfl⟩ := hrel
        by_cases hy : y = 0
        · subst hy
          have hab2 : a * b = o := by have := hinv.out; rw [Int.mul_zero] at this; omega
          have hfin : tm2 a b = o := by rw [HF.out (by omega)]; exact hab2
          have HFIN := Lib.hid hfin
          clear hab2 hfin hinv HM HF
          go_wp2
          go_ret
          exact ⟨ret_int HFIN.out.symm, rfl⟩
        · have hyp : 0 < y := by omega
          have HO := Lib.hid (half_odd o x y (a * b) hinv.out)
          have HE := Lib.hid (half_even o x y (a * b) hinv.out)
          have hxy := mul_ge x y 1 (by omega) (by omega)
          rw [Int.mul_one] at hxy
          have HXY := Lib.hid hxy
          clear hxy hy
          rcases (show y % 2 = 1 ∨ y % 2 = 0 by omega) with hodd | heven
          · have hod : (y % 2 == 1) = true := by simp [hodd]
            have HODD := Lib.hid hodd
            clear hodd
            by_cases hbig : 4611686018427387904 - o < x
            · have hfin : tm2 a b = 4611686018427387904 := HM.out (by have h5 := hinv.out; have h6 := HXY.out; omega)
              have HFIN := Lib.hid hfin
              clear hfin hinv HM HF HO HE HXY
              go_wp2
              go_ret
              exact ⟨ret_int HFIN.out.symm, rfl⟩
            · by_cases hq : 0 < y / 2
              · by_cases hbig2 : 2305843009213693952 < x
                · have hfin : tm2 a b = 4611686018427387904 := HM.out (by
                    have h5 := HO.out HODD.out
                    have h6 := mul_ge (x * 2) (y / 2) 1 (by omega) (by omega)
                    rw [Int.mul_one] at h6
                    omega)
                  have HFIN := Lib.hid hfin
                  clear hfin hinv HM HF HO HE HXY
                  go_wp2
                  go_ret
                  exact ⟨ret_int HFIN.out.symm, rfl⟩
                · go_wp2
                  go_round
                  case rel => exact ⟨x * 2, y / 2, o + x, by omega, by omega, by omega, by omega, by omega, by omega, HO.out HODD.out, rfl, rfl, rfl⟩
                  case measure => simp [intOf]; omega
              · go_wp2
                go_round
                case rel => exact ⟨x, y / 2, o + x, by omega, by omega, by omega, by omega, by omega, by omega, (by
                    have h5 := HO.out HODD.out
                    have h6 : y / 2 = 0 := by omega
                    rw [h6, Int.mul_zero] at h5
                    rw [h6, Int.mul_zero]; exact h5), rfl, rfl, rfl⟩
                case measure => simp [intOf]; omega
          · have hod : (y % 2 == 1) = false := by simp [heven]
            have HEVEN := Lib.hid heven
            have hq : 0 < y / 2 := by omega
            clear heven
            by_cases hbig2 : 2305843009213693952 < x
            · have hfin : tm2 a b = 4611686018427387904 := HM.out (by
                have h5 := HE.out HEVEN.out
                have h6 := mul_ge (x * 2) (y / 2) 1 (by omega) (by omega)
                rw [Int.mul_one] at h6
                omega)
              have HFIN := Lib.hid hfin
              clear hfin hinv HM HF HO HE HXY
              go_wp2
              go_ret
              exact ⟨ret_int HFIN.out.symm, rfl⟩
            · go_wp2
              go_round
              case rel => exact ⟨x * 2, y / 2, o, by omega, by omega, by omega, by omega, by omega, by omega, HE.out HEVEN.out, rfl, rfl, rfl⟩
              case measure => simp [intOf]; omega

/-- A number by itself, so often, capped. -/
def pw (a : Int) : Nat → Int
  | 0 => 1
  | k + 1 => tm2 (pw a k) a
theorem pw_range (a : Int) (k : Nat) : 0 ≤ pw a k ∧ pw a k ≤ 4611686018427387904 := by
  cases k with
  | zero => simp [pw]
  | succ k => have := tm2_range (pw a k) a; rw [mostB_eq] at this; exact this
theorem pw_stays (a : Int) (k m : Nat) (h : pw a (k + 1) = pw a k) (hm : k ≤ m) : pw a m = pw a k := by
  induction m with
  | zero => have : k = 0 := by omega
            subst this; rfl
  | succ m ih =>
    by_cases hk : k = m + 1
    · rw [hk]
    · have h1 := ih (by omega)
      show tm2 (pw a m) a = pw a k
      rw [h1]
      exact h
set_option maxHeartbeats 400000 in
theorem power_any (a n : Int) (w : World) (ha : -9223372036854775808 ≤ a ∧ a ≤ 9223372036854775807) (hn : n ≤ 9223372036854775807) :
    Calls Try.prog 59 #[.int .i64 a, .int .i64 n] w fun e w' => e = .returned (.int .i64 (pw a n.toNat)) ∧ w = w' := by
  rcases Int.lt_or_le n 1 with h0 | h0
  · have hz : n.toNat = 0 := by omega
    rw [hz]
    have h1 : ¬ (0 : Int) < n := by omega
    clear hz
    go_enter Try.func59, Try.ntmps59
    go_wp2
    refine wp_loop_rounds 1 ?_
    rw [rounds_succ]
    go_wp2
    go_ret
    exact ⟨rfl, rfl⟩
  · obtain ⟨m, rfl⟩ := Int.eq_ofNat_of_zero_le (show 0 ≤ n by omega)
    rw [Int.toNat_natCast]
    have HST := Lib.hid (fun k => pw_stays a k m)
    go_enter Try.func59, Try.ntmps59
    go_wp2
    go_loop [5, 8] (fun v5 v8 => ∃ k : Nat, k ≤ m ∧ v8 = .int .i64 k ∧ v5 = .int .i64 (pw a k)) (fun _ v8 => m - (intOf v8).toNat)
    case atStart => exact ⟨0, by omega, rfl, rfl⟩
    case round =>
      obtain ⟨k, hk, rfl, rfl⟩ := hrel
      have hr := pw_range a k
      by_cases hlt : k < m
      · have TIMES := Lib.hid (fun w => times_any (pw a k) a w ⟨by omega, by omega⟩ ha)
        have hs : tm2 (pw a k) a = pw a (k + 1) := rfl
        rw [hs] at TIMES
        have hst := HST.out k
        clear hs
        by_cases heq : pw a (k + 1) = pw a k
        · have HF := Lib.hid (hst heq (by omega))
          rw [heq] at TIMES
          clear hst heq
          generalize pw a k = x at *
          go_wp2_with fail
          refine (TIMES.out _).mono ?_
          rintro e w1 ⟨rfl, rfl⟩
          go_wp2_with fail
          go_ret
          exact ⟨ret_int HF.out.symm, rfl⟩
        · have hne : (pw a (k + 1) == pw a k) = false := by simp [heq]
          clear hst heq
          go_wp2_with fail
          refine (TIMES.out _).mono ?_
          rintro e w1 ⟨rfl, rfl⟩
          go_wp2_with fail
          go_round
          case rel => exact ⟨k + 1, by omega, by go_num, rfl⟩
          case measure => simp [intOf]; omega
      · have hkm : k = m := by omega
        have HF : Hid (pw a k = pw a m) := by rw [hkm]; exact rfl
        clear hkm
        generalize pw a k = x at *
        go_wp2
        go_ret
        exact ⟨ret_int HF.out, rfl⟩
set_option maxHeartbeats 400000 in
theorem rpower_any (a n : Int) (w : World) (ha : -9223372036854775808 ≤ a ∧ a ≤ 9223372036854775807) (hn : n ≤ 90) :
    Calls Try.prog 60 #[.int .i64 a, .int .i64 n] w fun e w' => e = .returned (.int .i64 (pw a n.toNat)) ∧ w = w' := by
  rcases Int.lt_or_le n 1 with h0 | h0
  · have hz : n.toNat = 0 := by omega
    rw [hz]
    have h1 : ¬ (0 : Int) < n := by omega
    clear hz
    go_enter Try.func60, Try.ntmps60
    go_wp2
    refine wp_loop_rounds 1 ?_
    rw [rounds_succ]
    go_wp2
    go_ret
    exact ⟨rfl, rfl⟩
  · obtain ⟨m, rfl⟩ := Int.eq_ofNat_of_zero_le (show 0 ≤ n by omega)
    rw [Int.toNat_natCast]
    go_enter Try.func60, Try.ntmps60
    go_wp2
    go_loop [5, 6] (fun v5 v6 => ∃ k : Nat, k ≤ m ∧ v6 = .int .i64 k ∧ v5 = .int .i64 (pw a k)) (fun _ v6 => m - (intOf v6).toNat)
    case atStart => exact ⟨0, by omega, rfl, rfl⟩
    case round =>
      obtain ⟨k, hk, rfl, rfl⟩ := hrel
      have hr := pw_range a k
      by_cases hlt : k < m
      · have TIMES := Lib.hid (fun w => rtimes_any (pw a k) a w (by omega) (by omega) ha.2)
        have hs : tm2 (pw a k) a = pw a (k + 1) := rfl
        rw [hs] at TIMES
        clear hs
        go_wp2_with fail
        refine (TIMES.out _).mono ?_
        rintro e w1 ⟨rfl, rfl⟩
        go_wp2_with fail
        go_round
        case rel => exact ⟨k + 1, by omega, by go_num, rfl⟩
        case measure => simp [intOf]; omega
      · have hkm : k = m := by omega
        have HF : Hid (pw a k = pw a m) := by rw [hkm]; exact rfl
        clear hkm
        generalize pw a k = x at *
        go_wp2
        go_ret
        exact ⟨ret_int HF.out, rfl⟩
end Go.Proofs.Ytnljihankodedaa
