/-
  The sum of a text (32 bits), said of its bytes; and the exclusive or of two bytes, bit by bit.
-/
import Derived.Test.YtkambjfhhmgniaaKit
namespace Go.Proofs.Ytkambjfhhmgniaa.SumPlain
open Go.RowKit

def step (h : Nat) (c : UInt8) : Nat := ((h ^^^ c.toNat) * 16777619) % 4294967296
def base : Nat := 2166136261
theorem base_eq : base = 2166136261 := rfl
def fnv (l : List UInt8) : Nat := l.foldl step base
theorem step_lt (h : Nat) (c : UInt8) : step h c < 4294967296 := by unfold step; generalize (h ^^^ c.toNat) * 16777619 = x; omega
theorem fnv_lt_of (l : List UInt8) (h : Nat) (hh : h < 4294967296) : l.foldl step h < 4294967296 := by
  induction l generalizing h with
  | nil => exact hh
  | cons c l ih => exact ih _ (step_lt h c)
theorem fnv_lt (l : List UInt8) : fnv l < 4294967296 := fnv_lt_of l base (by rw [base_eq]; omega)
theorem foldl_snoc {α β : Type} (f : α → β → α) (h : α) (l : List β) (c : β) : (l ++ [c]).foldl f h = f (l.foldl f h) c := by rw [List.foldl_append]; rfl
theorem fnv_snoc (l : List UInt8) (c : UInt8) : fnv (l ++ [c]) = step (fnv l) c := foldl_snoc step base l c
theorem take_snoc (s : ByteArray) (k : Nat) (h : k < s.size) : s.data.toList.take (k + 1) = s.data.toList.take k ++ [s[k]] := by
  rw [List.take_succ_eq_append_getElem (by simpa using h)]; rfl
/-- The step in the walk's own words. -/
theorem step_walk (h : Nat) (c : UInt8) (hh : h < 4294967296) : bits .xor .u32 (h : Int) (((c.toNat : Nat) : Int) % 4294967296) * 16777619 % 4294967296 = ((step h c : Nat) : Int) := by
  have hc := c.toNat_lt
  have e : ((c.toNat : Nat) : Int) % 4294967296 = ((c.toNat : Nat) : Int) := by omega
  rw [e, u32_xor_nat h c.toNat hh (by omega)]
  unfold step
  generalize h ^^^ c.toNat = x
  omega
/-- The low k bits' exclusive or. -/
def xlow (a b : Nat) : Nat → Nat
  | 0 => 0
  | k + 1 => xlow a b k + if a / 2 ^ k % 2 = b / 2 ^ k % 2 then 0 else 2 ^ k
theorem xlow_eq (a b k : Nat) : xlow a b k = (a ^^^ b) % 2 ^ k := by
  induction k with
  | zero => simp [xlow, Nat.mod_one]
  | succ k ih =>
    have e : (a ^^^ b) / 2 ^ k % 2 = if a / 2 ^ k % 2 = b / 2 ^ k % 2 then 0 else 1 := by
      have h1 := Nat.testBit_xor a b k
      rw [Nat.testBit_eq_decide_div_mod_eq, Nat.testBit_eq_decide_div_mod_eq, Nat.testBit_eq_decide_div_mod_eq] at h1
      rcases Nat.mod_two_eq_zero_or_one (a / 2 ^ k) with ha | ha <;> rcases Nat.mod_two_eq_zero_or_one (b / 2 ^ k) with hb | hb <;> rcases Nat.mod_two_eq_zero_or_one ((a ^^^ b) / 2 ^ k) with hx | hx <;> simp [ha, hb, hx] at h1 ⊢
    have d : (a ^^^ b) % 2 ^ (k + 1) = (a ^^^ b) % 2 ^ k + 2 ^ k * ((a ^^^ b) / 2 ^ k % 2) := by
      rw [Nat.pow_succ, Nat.mod_mul]
    rw [d, e]
    simp only [xlow, ih]
    split <;> simp
theorem xlow_lt (a b k : Nat) : xlow a b k < 2 ^ k := by rw [xlow_eq]; exact Nat.mod_lt _ (Nat.pow_pos (by decide))
/-- What the reference reckons in 64 bits is the step. -/
theorem step_ref (h : Nat) (c : UInt8) : (((h : Int) - (h : Int) % 256 + ((xlow (h % 256) c.toNat 8 : Nat) : Int)) * 16777619) % 4294967296 = ((step h c : Nat) : Int) := by
  have hc := c.toNat_lt
  have e1 : xlow (h % 256) c.toNat 8 = (h ^^^ c.toNat) % 256 := by
    rw [xlow_eq, Nat.xor_mod_two_pow (n := 8), Nat.xor_mod_two_pow (n := 8), show (2 : Nat) ^ 8 = 256 from rfl, Nat.mod_mod]
  have e2 : (h ^^^ c.toNat) / 256 = h / 256 := by
    rw [show (256 : Nat) = 2 ^ 8 from rfl, ← Nat.shiftRight_eq_div_pow, Nat.shiftRight_xor_distrib, Nat.shiftRight_eq_div_pow, Nat.shiftRight_eq_div_pow, show c.toNat / 2 ^ 8 = 0 by omega, Nat.xor_zero]
  rw [e1]
  unfold step
  generalize h ^^^ c.toNat = x at *
  omega
end Go.Proofs.Ytkambjfhhmgniaa.SumPlain
