/-
  The reference's Read: digits taken away from 0, one by one: it tells what num.Read tells.
-/
import Derived.Test.YtbplkphjjfgkmaaDoorNumRead
namespace Go.Proofs.YtbplkphjjfgkmaaDoor
open Go.RowKit
set_option linter.unusedVariables false
set_option linter.unusedSimpArgs false

namespace Nm
/-- A digit's worth. -/
def dg (c : UInt8) : Nat := c.toNat - 48
/-- What digits are worth behind others. -/
def val (acc : Nat) : List UInt8 → Nat
  | [] => acc
  | c :: r => val (acc * 10 + dg c) r
theorem val_ge (acc : Nat) (L : List UInt8) : acc ≤ val acc L := by
  induction L generalizing acc with
  | nil => exact Nat.le_refl _
  | cons c r ih => exact Nat.le_trans (by omega) (ih (acc * 10 + dg c))
theorem val_snoc (acc : Nat) (L : List UInt8) (c : UInt8) : val acc (L ++ [c]) = val acc L * 10 + dg c := by
  induction L generalizing acc with
  | nil => rfl
  | cons x r ih => exact ih _
theorem val_mono (acc : Nat) (L : List UInt8) (k : Nat) : val acc (L.take k) ≤ val acc L := by
  induction L generalizing acc k with
  | nil => simp
  | cons x r ih =>
    cases k with
    | zero =>
      rw [List.take_zero]
      exact val_ge acc (x :: r)
    | succ k => exact ih _ k
theorem uintM_val (M : Nat) (hM : M = 18446744073709551615) (acc : Nat) (L : List UInt8) (h : L.all dig = true) (hL : L = [] → acc ≤ M) : Lib.parseUintM M acc L = if val acc L ≤ M then .ok (val acc L) else .range := by
  induction L generalizing acc with
  | nil =>
    rw [if_pos (show val acc [] ≤ M from hL rfl)]
    rfl
  | cons c r ih =>
    rw [List.all_cons, Bool.and_eq_true] at h
    have hd : 48 ≤ c.toNat ∧ c.toNat ≤ 57 := by simpa [dig] using h.1
    have hg := val_ge (acc * 10 + dg c) r
    have e1 : val acc (c :: r) = val (acc * 10 + dg c) r := rfl
    have e2 : acc * 10 + (c.toNat - 48) = acc * 10 + dg c := rfl
    unfold Lib.parseUintM
    rw [if_pos hd, e1, e2]
    by_cases h1 : 1844674407370955162 ≤ acc
    · rw [if_pos h1, if_neg (by omega)]
    · rw [if_neg h1]
      by_cases h2 : M < acc * 10 + dg c
      · rw [if_pos h2, if_neg (by omega)]
      · rw [if_neg h2]
        exact ih _ h.2 (fun _ => by omega)
/-- What a text with digits alone tells. -/
def told2 (neg : Bool) (v : Nat) : Int × Int := if v < 9223372036854775808 then (if neg = true then -(v : Int) else (v : Int), 0) else if neg = true ∧ v = 9223372036854775808 then (-(v : Int), 0) else (0, 2)
theorem signed_told (v : Nat) : (match Lib.signedC (2 ^ (64 - 1)) (if v ≤ 18446744073709551615 then Lib.NumEnd.ok v else .range) with | .ok v => ((v, 0) : Int × Int) | _ => (0, 2)) = told2 true v := by
  have e : (2 : Nat) ^ (64 - 1) = 9223372036854775808 := by decide
  rw [e]
  unfold told2
  by_cases h1 : v ≤ 18446744073709551615
  · rw [if_pos h1]
    unfold Lib.signedC
    by_cases h2 : 9223372036854775808 < v
    · simp only [if_pos h2]
      rw [if_neg (by omega), if_neg (by omega)]
    · simp only [if_neg h2]
      by_cases h3 : v < 9223372036854775808
      · simp [h3]
      · have h4 : v = 9223372036854775808 := by omega
        simp [h4]
  · rw [if_neg h1]
    simp only [Lib.signedC]
    rw [if_neg (by omega), if_neg (by omega)]
theorem plain_told (v : Nat) : (match Lib.signlessC (2 ^ (64 - 1)) (if v ≤ 18446744073709551615 then Lib.NumEnd.ok v else .range) with | .ok v => ((v, 0) : Int × Int) | _ => (0, 2)) = told2 false v := by
  have e : (2 : Nat) ^ (64 - 1) = 9223372036854775808 := by decide
  rw [e]
  unfold told2
  by_cases h1 : v ≤ 18446744073709551615
  · rw [if_pos h1]
    unfold Lib.signlessC
    by_cases h2 : 9223372036854775808 ≤ v
    · simp only [if_pos h2]
      rw [if_neg (by omega), if_neg (by simp)]
    · simp only [if_neg h2]
      rw [if_pos (by omega), if_neg (by decide)]
  · rw [if_neg h1]
    simp only [Lib.signlessC]
    rw [if_neg (by omega), if_neg (by simp)]
theorem told_digits (L : List UInt8) (h : body L ≠ []) (h2 : (body L).all dig = true) : told L = told2 (L.head? == some 45) (val 0 (body L)) := by
  have eM : 2 ^ 64 - 1 = 18446744073709551615 := by decide
  rw [told_parse h h2]
  cases L with
  | nil => exact absurd rfl h
  | cons c r =>
    by_cases hc : c = 45
    · subst hc
      have hb : body (45 :: r) = r := by simp [body]
      rw [hb] at h h2 ⊢
      rw [Lib.parseIntB_minus]
      unfold Lib.parseUintB
      rw [if_neg h, eM, uintM_val 18446744073709551615 rfl 0 _ h2 (fun _ => Nat.zero_le _)]
      exact signed_told _
    · have hb : body (c :: r) = c :: r := by simp [body, hc]
      rw [hb] at h h2 ⊢
      have hd : 48 ≤ c.toNat ∧ c.toNat ≤ 57 := by
        rw [List.all_cons, Bool.and_eq_true] at h2
        simpa [dig] using h2.1
      rw [Lib.parseIntB_plain _ _ _ (by omega) (by omega)]
      unfold Lib.parseUintB
      rw [if_neg h, eM, uintM_val 18446744073709551615 rfl 0 _ h2 (fun _ => Nat.zero_le _)]
      rw [show ((c :: r).head? == some 45) = false by simp [hc]]
      exact plain_told _
/-- What the digits from F on, as far as place k, are worth. -/
def upTo (L : List UInt8) (F k : Nat) : Nat := val 0 ((L.drop F).take (k - F))
theorem upTo_zero (L : List UInt8) (F : Nat) : upTo L F F = 0 := by
  unfold upTo
  rw [Nat.sub_self, List.take_zero]
  rfl
theorem upTo_step (L : List UInt8) (F k : Nat) (hF : F ≤ k) (c : UInt8) (hc : L[k]? = some c) : upTo L F (k + 1) = upTo L F k * 10 + dg c := by
  unfold upTo
  have h1 : (L.drop F)[k - F]? = some c := by rw [List.getElem?_drop, show F + (k - F) = k by omega, hc]
  rw [show k + 1 - F = (k - F) + 1 by omega, List.take_add_one, h1]
  exact val_snoc 0 _ c
theorem upTo_all (L : List UInt8) (F : Nat) : upTo L F L.length = val 0 (L.drop F) := by
  unfold upTo
  rw [List.take_of_length_le (by simp)]
theorem upTo_le (L : List UInt8) (F k : Nat) : upTo L F k ≤ val 0 (L.drop F) := val_mono 0 _ _
/-- Where the digits begin. -/
def from_ (L : List UInt8) : Nat := if L.head? = some 45 then 1 else 0
theorem body_drop (L : List UInt8) : body L = L.drop (from_ L) := by
  cases L with
  | nil => rfl
  | cons c r =>
    unfold body from_
    by_cases h : c = 45
    · subst h; simp
    · simp [h]
end Nm
end Go.Proofs.YtbplkphjjfgkmaaDoor
