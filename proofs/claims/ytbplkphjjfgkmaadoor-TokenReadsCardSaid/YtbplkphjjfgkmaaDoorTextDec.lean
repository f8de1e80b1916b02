/-
  The reference's runes are those that a range over a text tells.
-/
import Derived.Test.YtbplkphjjfgkmaaDoorTextRef
import Derived.Lib.OthersKept
namespace Go.Proofs.YtbplkphjjfgkmaaDoor
open Go.RowKit
set_option linter.unusedVariables false

theorem get_byt (s : ByteArray) (k : Nat) : (s.get! k).toNat = byt s k := by
  unfold byt
  split
  · rename_i h
    have := get_at s k h
    rw [Nat.add_zero] at this
    rw [this]
  · rename_i h
    simp only [ByteArray.get!]
    rw [getElem!_neg _ _ (by simpa using h)]
    rfl
/-- A continuation byte. -/
theorem cont_tl (s : ByteArray) (k : Nat) : (decide (k < s.size) && (byt s k / 64 == 2)) = tl s k 128 191 := by
  have hb := byt_lt s k
  unfold tl
  congr 1
  rw [Bool.eq_iff_iff]
  simp only [beq_iff_eq, Bool.and_eq_true, decide_eq_true_eq]
  omega
def decN (c b1 b2 b3 : Nat) (t1 t2 t3 : Bool) : Nat × Nat :=
  if c < 128 then (c, 1)
  else if (c / 32 == 6 && t1) = true then (if 128 ≤ c % 32 * 64 + b1 % 64 then (c % 32 * 64 + b1 % 64, 2) else (65533, 1))
  else if (c / 16 == 14 && t1 && t2) = true then (if (decide (2048 ≤ c % 16 * 4096 + b1 % 64 * 64 + b2 % 64) && Utf8.valid ((c % 16 * 4096 + b1 % 64 * 64 + b2 % 64 : Nat) : Int)) = true then (c % 16 * 4096 + b1 % 64 * 64 + b2 % 64, 3) else (65533, 1))
  else if (c / 8 == 30 && t1 && t2 && t3) = true then (if (decide (65536 ≤ c % 8 * 262144 + b1 % 64 * 4096 + b2 % 64 * 64 + b3 % 64) && Utf8.valid ((c % 8 * 262144 + b1 % 64 * 4096 + b2 % 64 * 64 + b3 % 64 : Nat) : Int)) = true then (c % 8 * 262144 + b1 % 64 * 4096 + b2 % 64 * 64 + b3 % 64, 4) else (65533, 1))
  else (65533, 1)
theorem decode_is (s : ByteArray) (i : Nat) : Utf8.decode s i = decN (byt s i) (byt s (i + 1)) (byt s (i + 2)) (byt s (i + 3)) (tl s (i + 1) 128 191) (tl s (i + 2) 128 191) (tl s (i + 3) 128 191) := by
  rw [← cont_tl, ← cont_tl, ← cont_tl]
  unfold decN
  simp only [Utf8.decode, get_byt, Nat.add_zero, Utf8.runeError, ge_iff_le, Bool.and_assoc]
theorem valid_is (n : Nat) : Utf8.valid (n : Int) = (decide (n < 55296) || (decide (57344 ≤ n) && decide (n ≤ 1114111))) := by
  unfold Utf8.valid
  rw [Bool.eq_iff_iff]
  simp only [Bool.or_eq_true, Bool.and_eq_true, decide_eq_true_eq]
  omega
def firstN (c b1 b2 b3 : Nat) (t1 t2 t3 : Bool) : Int × Nat :=
  if c < 128 then ((c : Int), 1)
  else if (decide (194 ≤ c) && decide (c ≤ 223) && t1) = true then (((c % 32 * 64 + b1 % 64 : Nat) : Int), 2)
  else if (!(t1 && decide (lo2 c ≤ b1) && decide (b1 ≤ hi2 c)) || !t2) = true then (-1, 1)
  else if (decide (224 ≤ c) && decide (c ≤ 239)) = true then (((c % 16 * 4096 + b1 % 64 * 64 + b2 % 64 : Nat) : Int), 3)
  else if (decide (240 ≤ c) && decide (c ≤ 244) && t3) = true then (((c % 8 * 262144 + b1 % 64 * 4096 + b2 % 64 * 64 + b3 % 64 : Nat) : Int), 4)
  else (-1, 1)
theorem lo2_b (c : Nat) : 128 ≤ lo2 c := by unfold lo2; (repeat' split) <;> omega
theorem hi2_b (c : Nat) : hi2 c ≤ 191 := by unfold hi2; (repeat' split) <;> omega
theorem firstR_is (s : ByteArray) (i : Nat) : firstR s i = firstN (byt s i) (byt s (i + 1)) (byt s (i + 2)) (byt s (i + 3)) (tl s (i + 1) 128 191) (tl s (i + 2) 128 191) (tl s (i + 3) 128 191) := by
  have h1 := lo2_b (byt s i)
  have h2 := hi2_b (byt s i)
  have e : tl s (i + 1) (lo2 (byt s i)) (hi2 (byt s i)) = (tl s (i + 1) 128 191 && decide (lo2 (byt s i) ≤ byt s (i + 1)) && decide (byt s (i + 1) ≤ hi2 (byt s i))) := by
    rw [Bool.eq_iff_iff]
    simp only [tl, Bool.and_eq_true, decide_eq_true_eq]
    omega
  unfold firstR firstN
  simp only [e]
def fixB (x : Nat × Nat) : Int × Nat := if x.1 = 65533 ∧ x.2 = 1 then (-1, 1) else ((x.1 : Int), x.2)
theorem fix_bad : fixB (65533, 1) = (-1, 1) := rfl
theorem fix_one (c : Nat) (h : c < 128) : fixB (c, 1) = ((c : Int), 1) := by unfold fixB; rw [if_neg (by simp; omega)]
theorem fix_many (r n : Nat) (h : n ≠ 1) : fixB (r, n) = ((r : Int), n) := by unfold fixB; rw [if_neg (by simp; omega)]
theorem first_dec_N (c b1 b2 b3 : Nat) (t1 t2 t3 : Bool) (hc : c < 256) (h1 : b1 < 256) (h1' : t1 = true → 128 ≤ b1 ∧ b1 ≤ 191) : firstN c b1 b2 b3 t1 t2 t3 = fixB (decN c b1 b2 b3 t1 t2 t3) := by
  unfold firstN decN
  by_cases a : c < 128
  · rw [if_pos a, if_pos a, fix_one c a]
  · rw [if_neg a, if_neg a]
    by_cases b : c / 32 = 6
    · have e1 : (c / 32 == 6) = true := by simp [b]
      have e2 : (c / 16 == 14) = false := by simp; omega
      have e3 : (c / 8 == 30) = false := by simp; omega
      have e4 : (decide (224 ≤ c) && decide (c ≤ 239)) = false := by simp; omega
      have e5 : (decide (240 ≤ c) && decide (c ≤ 244)) = false := by simp; omega
      simp only [e1, e2, e3, e4, e5, Bool.true_and, Bool.false_and, Bool.false_eq_true, if_false]
      cases t1 with
      | false => simp [fix_bad]
      | true =>
        by_cases d : 194 ≤ c
        · have e6 : (decide (194 ≤ c) && decide (c ≤ 223)) = true := by simp; omega
          rw [e6]
          simp only [Bool.and_true, if_true]
          rw [if_pos (by omega), fix_many _ _ (by omega)]
        · have e6 : (decide (194 ≤ c) && decide (c ≤ 223)) = false := by simp; omega
          rw [e6]
          have e7 : ¬ 128 ≤ c % 32 * 64 + b1 % 64 := by omega
          simp only [Bool.false_and, Bool.false_eq_true, if_false, if_true, e7, fix_bad]
          split <;> rfl
    · have e1 : (c / 32 == 6) = false := by simp [b]
      have e0 : (decide (194 ≤ c) && decide (c ≤ 223)) = false := by simp; omega
      simp only [e1, e0, Bool.false_and, Bool.false_eq_true, if_false]
      by_cases d : c / 16 = 14
      · have e2 : (c / 16 == 14) = true := by simp [d]
        have e3 : (c / 8 == 30) = false := by simp; omega
        have e4 : (decide (224 ≤ c) && decide (c ≤ 239)) = true := by simp; omega
        simp only [e2, e3, e4, Bool.true_and, Bool.false_and, Bool.false_eq_true, if_false, if_true]
        cases t1 with
        | false => simp [fix_bad]
        | true =>
          cases t2 with
          | false => simp [fix_bad]
          | true =>
            have hb := h1' rfl
            simp only [Bool.true_and, Bool.not_true, Bool.or_false, Bool.and_true, if_true]
            rw [valid_is]
            by_cases q : lo2 c ≤ b1 ∧ b1 ≤ hi2 c
            · rw [if_neg (by simp [q])]
              rw [if_pos, fix_many _ _ (by omega)]
              unfold lo2 hi2 at q
              simp only [Bool.and_eq_true, Bool.or_eq_true, decide_eq_true_eq]
              repeat' split at q
              all_goals omega
            · rw [if_pos (by simp; omega)]
              rw [if_neg, fix_bad]
              unfold lo2 hi2 at q
              simp only [Bool.and_eq_true, Bool.or_eq_true, decide_eq_true_eq]
              repeat' split at q
              all_goals omega
      · have e2 : (c / 16 == 14) = false := by simp [d]
        have e4 : (decide (224 ≤ c) && decide (c ≤ 239)) = false := by simp; omega
        simp only [e2, e4, Bool.false_and, Bool.false_eq_true, if_false]
        by_cases f : c / 8 = 30
        · have e3 : (c / 8 == 30) = true := by simp [f]
          simp only [e3, Bool.true_and]
          cases t1 with
          | false => simp [fix_bad]
          | true =>
            cases t2 with
            | false => simp [fix_bad]
            | true =>
              cases t3 with
              | false => simp [fix_bad]
              | true =>
                have hb := h1' rfl
                simp only [Bool.true_and, Bool.not_true, Bool.or_false, Bool.and_true, if_true]
                rw [valid_is]
                by_cases q : lo2 c ≤ b1 ∧ b1 ≤ hi2 c
                · rw [if_neg (by simp [q])]
                  by_cases z : c ≤ 244
                  · rw [if_pos (by simp; omega), if_pos, fix_many _ _ (by omega)]
                    unfold lo2 hi2 at q
                    simp only [Bool.and_eq_true, Bool.or_eq_true, decide_eq_true_eq]
                    repeat' split at q
                    all_goals omega
                  · rw [if_neg (by simp; omega), if_neg, fix_bad]
                    simp only [Bool.and_eq_true, Bool.or_eq_true, decide_eq_true_eq]
                    omega
                · rw [if_pos (by simp; omega)]
                  rw [if_neg, fix_bad]
                  unfold lo2 hi2 at q
                  simp only [Bool.and_eq_true, Bool.or_eq_true, decide_eq_true_eq]
                  repeat' split at q
                  all_goals omega
        · have e3 : (c / 8 == 30) = false := by simp [f]
          have e5 : (decide (240 ≤ c) && decide (c ≤ 244)) = false := by simp; omega
          simp only [e3, e5, Bool.false_and, Bool.false_eq_true, if_false]
          rw [fix_bad]
          split <;> rfl
theorem first_dec (s : ByteArray) (i : Nat) : firstR s i = fixB (Utf8.decode s i) := by
  rw [firstR_is, decode_is]
  exact first_dec_N _ _ _ _ _ _ _ (byt_lt s i) (byt_lt s (i + 1)) (fun h => (tl_true h).2)
end Go.Proofs.YtbplkphjjfgkmaaDoor
