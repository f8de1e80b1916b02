/-
  Plain facts on small sets of numbers kept in the bits of an int: no program stands here.
-/
import Derived.WalkKit
namespace Go.Proofs.Ytdpmkhmjihgckaa.BitsPlain
open Go.RowKit

/-- Bit k of an integer in two's complement. -/
def bit (s : Int) (k : Nat) : Bool := decide (s / 2 ^ k % 2 = 1)
/-- The number whose bits below n are f. -/
def ofBits (f : Nat → Bool) : Nat → Nat
  | 0 => 0
  | n + 1 => ofBits f n + if f n then 2 ^ n else 0
theorem ofBits_lt (f : Nat → Bool) (n : Nat) : ofBits f n < 2 ^ n := by
  induction n with
  | zero => simp [ofBits]
  | succ n ih => simp only [ofBits, Nat.pow_succ]; split <;> omega
theorem testBit_ofBits (f : Nat → Bool) (n k : Nat) : (ofBits f n).testBit k = (decide (k < n) && f k) := by
  induction n with
  | zero => simp [ofBits]
  | succ n ih =>
    simp only [ofBits]
    have hlt := ofBits_lt f n
    by_cases hf : f n = true
    · rw [if_pos hf, Nat.add_comm]
      by_cases hk : k < n
      · rw [Nat.testBit_two_pow_add_gt hk, ih]; simp [hk, Nat.lt_succ_of_lt hk]
      · by_cases hkn : k = n
        · subst hkn
          rw [Nat.testBit_two_pow_add_eq, ih]; simp [hf]
        · rw [Nat.testBit_lt_two_pow (x := 2 ^ n + ofBits f n) (i := k)]
          · simp [show ¬ k < n + 1 by omega]
          · have : 2 ^ (n + 1) ≤ 2 ^ k := Nat.pow_le_pow_right (by omega) (by omega)
            rw [Nat.pow_succ] at this
            omega
    · rw [if_neg hf, Nat.add_zero, ih]
      by_cases hk : k < n
      · simp [hk, Nat.lt_succ_of_lt hk]
      · by_cases hkn : k = n
        · subst hkn; simp [hf]
        · simp [hk, show ¬ k < n + 1 by omega]
theorem ofBits_ext (f g : Nat → Bool) (n : Nat) (h : ∀ k, k < n → f k = g k) : ofBits f n = ofBits g n := by
  induction n with
  | zero => rfl
  | succ n ih => simp only [ofBits, ih (fun k hk => h k (by omega)), h n (by omega)]
theorem eq_ofBits (x n : Nat) (h : x < 2 ^ n) : x = ofBits x.testBit n := by
  apply Nat.eq_of_testBit_eq
  intro i
  rw [testBit_ofBits]
  by_cases hi : i < n
  · simp [hi]
  · rw [Nat.testBit_lt_two_pow (Nat.lt_of_lt_of_le h (Nat.pow_le_pow_right (by omega) (by omega)))]; simp [hi]

/-- An int's 64 bits as a natural number. -/
def raw (x : Int) : Nat := (x % 18446744073709551616).toNat
theorem raw_lt (x : Int) : raw x < 2 ^ 64 := by unfold raw; omega
theorem raw_nat (n : Nat) (h : n < 18446744073709551616) : raw n = n := by unfold raw; omega
theorem ofInt_toNat (x : Int) : (BitVec.ofInt 64 x).toNat = raw x := by
  simp [BitVec.toNat_ofInt, raw]
theorem wrap_nat (n : Nat) (h : n < 9223372036854775808) : IntKind.i64.wrap (n : Int) = n := by rw [IntKind.wrap_i64]; omega
theorem and_raw (x y : Int) (h : raw x &&& raw y < 9223372036854775808) : bits .and .i64 x y = ((raw x &&& raw y : Nat) : Int) := by
  have e : bits .and .i64 x y = IntKind.i64.wrap ((BitVec.ofInt 64 x &&& BitVec.ofInt 64 y).toNat : Int) := rfl
  rw [e, BitVec.toNat_and, ofInt_toNat, ofInt_toNat, wrap_nat _ h]
theorem or_raw (x y : Int) (h : raw x ||| raw y < 9223372036854775808) : bits .or .i64 x y = ((raw x ||| raw y : Nat) : Int) := by
  have e : bits .or .i64 x y = IntKind.i64.wrap ((BitVec.ofInt 64 x ||| BitVec.ofInt 64 y).toNat : Int) := rfl
  rw [e, BitVec.toNat_or, ofInt_toNat, ofInt_toNat, wrap_nat _ h]
theorem andNot_raw (x y : Int) (h : raw x &&& (2 ^ 64 - 1 - raw y) < 9223372036854775808) : bits .andNot .i64 x y = ((raw x &&& (2 ^ 64 - 1 - raw y) : Nat) : Int) := by
  have e : bits .andNot .i64 x y = IntKind.i64.wrap ((BitVec.ofInt 64 x &&& ~~~ (BitVec.ofInt 64 y)).toNat : Int) := rfl
  rw [e, BitVec.toNat_and, BitVec.toNat_not, ofInt_toNat, ofInt_toNat, wrap_nat _ h]
theorem bit_raw (x : Int) (k : Nat) (h : k < 64) : (raw x).testBit k = bit x k := by
  rw [Nat.testBit_eq_decide_div_mod_eq]
  unfold bit raw
  have h64 : (18446744073709551616 : Int) = 2 ^ k * 2 ^ (64 - k) := by rw [← Int.pow_add, show k + (64 - k) = 64 by omega]; rfl
  have hn : ((x % 18446744073709551616).toNat : Int) = x % 18446744073709551616 := by omega
  have hp : (0 : Int) < 2 ^ k := Int.pow_pos (by decide)
  have e1 : (((x % 18446744073709551616).toNat / 2 ^ k % 2 : Nat) : Int) = (x % 18446744073709551616) / 2 ^ k % 2 := by
    rw [Int.natCast_emod, Int.natCast_ediv, hn]; simp
  have e2 : (x % 18446744073709551616) / 2 ^ k % 2 = x / 2 ^ k % 2 := by
    have d := Int.emod_add_mul_ediv x 18446744073709551616
    have hx : x = x % 18446744073709551616 + 2 ^ k * (2 ^ (64 - k) * (x / 18446744073709551616)) := by rw [← Int.mul_assoc, ← h64]; omega
    have hd : x / 2 ^ k = (x % 18446744073709551616) / 2 ^ k + 2 ^ (64 - k) * (x / 18446744073709551616) := by
      conv => lhs; rw [hx]
      rw [Int.add_mul_ediv_left _ _ (by omega)]
    have hev : ∃ c : Int, (2 : Int) ^ (64 - k) = 2 * c := ⟨2 ^ (63 - k), by rw [show 64 - k = (63 - k) + 1 by omega, Int.pow_succ]; omega⟩
    obtain ⟨c, hc⟩ := hev
    rw [hd, hc, Int.mul_assoc]
    omega
  rw [decide_eq_decide]
  omega
theorem bit_nat (n k : Nat) : bit (n : Int) k = n.testBit k := by
  rw [Nat.testBit_eq_decide_div_mod_eq]
  unfold bit
  rw [decide_eq_decide]
  have e1 : ((n / 2 ^ k % 2 : Nat) : Int) = (n : Int) / 2 ^ k % 2 := by rw [Int.natCast_emod, Int.natCast_ediv]; simp
  omega
/-- The 31 low bits. -/
theorem and_all (s : Int) : bits .and .i64 s 2147483647 = ((ofBits (bit s) 31 : Nat) : Int) := by
  have e : raw 2147483647 = 2 ^ 31 - 1 := by decide
  have e2 : raw s &&& raw 2147483647 = ofBits (bit s) 31 := by
    rw [e, Nat.and_two_pow_sub_one_eq_mod]
    apply Nat.eq_of_testBit_eq
    intro i
    rw [Nat.testBit_mod_two_pow, testBit_ofBits]
    by_cases hi : i < 31
    · rw [bit_raw s i (by omega)]
    · simp [hi]
  have hl := ofBits_lt (bit s) 31
  rw [and_raw _ _ (by rw [e2]; omega), e2]
theorem and_one (s : Int) : bits .and .i64 s 1 = s % 2 := by
  have e : raw s &&& raw 1 = (s % 2).toNat := by
    rw [show raw 1 = 1 by decide, show (1 : Nat) = 2 ^ 1 - 1 from rfl, Nat.and_two_pow_sub_one_eq_mod]; unfold raw; omega
  rw [and_raw _ _ (by rw [e]; omega), e]; omega
theorem pow_small (i : Nat) (h : i < 31) : wrap64 ((2 : Int) ^ i) = ((2 ^ i : Nat) : Int) := by
  have h1 : (2 : Nat) ^ i ≤ 2 ^ 30 := Nat.pow_le_pow_right (by omega) (by omega)
  have e : ((2 : Int) ^ i) = ((2 ^ i : Nat) : Int) := by simp
  rw [e, IntWalk.wrap64_in _ ⟨by have := Int.natCast_nonneg (2 ^ i); omega, by have : ((2 ^ i : Nat) : Int) ≤ ((2 ^ 30 : Nat) : Int) := Int.ofNat_le.2 h1; omega⟩]
theorem set_bit (f : Nat → Bool) (i : Nat) (h : i < 31) : bits .or .i64 ((ofBits f 31 : Nat) : Int) ((2 ^ i : Nat) : Int) = ((ofBits (fun k => if k = i then true else f k) 31 : Nat) : Int) := by
  have h1 : (2 : Nat) ^ i ≤ 2 ^ 30 := Nat.pow_le_pow_right (by omega) (by omega)
  have hl := ofBits_lt f 31
  have e : raw ((ofBits f 31 : Nat) : Int) ||| raw ((2 ^ i : Nat) : Int) = ofBits (fun k => if k = i then true else f k) 31 := by
    rw [raw_nat _ (by omega), raw_nat _ (by omega)]
    apply Nat.eq_of_testBit_eq
    intro k
    rw [Nat.testBit_or, testBit_ofBits, testBit_ofBits, Nat.testBit_two_pow]
    by_cases hk : k = i
    · subst hk; simp [h]
    · simp [hk, Ne.symm hk]
  have hl2 := ofBits_lt (fun k => if k = i then true else f k) 31
  rw [or_raw _ _ (by rw [e]; omega), e]
theorem clear_bit (f : Nat → Bool) (i : Nat) (h : i < 31) : bits .andNot .i64 ((ofBits f 31 : Nat) : Int) ((2 ^ i : Nat) : Int) = ((ofBits (fun k => if k = i then false else f k) 31 : Nat) : Int) := by
  have h1 : (2 : Nat) ^ i ≤ 2 ^ 30 := Nat.pow_le_pow_right (by omega) (by omega)
  have hl := ofBits_lt f 31
  have e : raw ((ofBits f 31 : Nat) : Int) &&& (2 ^ 64 - 1 - raw ((2 ^ i : Nat) : Int)) = ofBits (fun k => if k = i then false else f k) 31 := by
    rw [raw_nat _ (by omega), raw_nat _ (by omega)]
    apply Nat.eq_of_testBit_eq
    intro k
    rw [Nat.testBit_and, testBit_ofBits, testBit_ofBits, Nat.sub_sub, Nat.add_comm 1, Nat.testBit_two_pow_sub_succ (by omega), Nat.testBit_two_pow]
    by_cases hk : k = i
    · subst hk; simp
    · simp [hk, Ne.symm hk]; intro h31; omega
  have hl2 := ofBits_lt (fun k => if k = i then false else f k) 31
  rw [andNot_raw _ _ (by rw [e]; omega), e]
theorem within_bits (f : Nat → Bool) (b : Int) : (bits .andNot .i64 ((ofBits f 31 : Nat) : Int) b == 0) = (List.range 31).all (fun k => !f k || bit b k) := by
  have hl := ofBits_lt f 31
  have e : raw ((ofBits f 31 : Nat) : Int) &&& (2 ^ 64 - 1 - raw b) = ofBits (fun k => f k && !bit b k) 31 := by
    rw [raw_nat _ (by omega)]
    apply Nat.eq_of_testBit_eq
    intro k
    rw [Nat.testBit_and, testBit_ofBits, testBit_ofBits, Nat.sub_sub, Nat.add_comm 1, Nat.testBit_two_pow_sub_succ (raw_lt b)]
    by_cases hk : k < 31
    · rw [bit_raw _ _ (by omega)]; simp [hk, show k < 64 by omega]
    · simp [hk]
  have hl2 := ofBits_lt (fun k => f k && !bit b k) 31
  rw [andNot_raw _ _ (by rw [e]; omega), e]
  rw [Bool.eq_iff_iff, beq_iff_eq, List.all_eq_true]
  constructor
  · intro h k hk
    have hk := List.mem_range.1 hk
    cases hf : f k
    · rfl
    have h0 : ofBits (fun k => f k && !bit b k) 31 = 0 := by omega
    have ht := testBit_ofBits (fun k => f k && !bit b k) 31 k
    rw [h0] at ht
    simp [hk, hf] at ht
    simp [ht]
  · intro h
    have h0 : ofBits (fun k => f k && !bit b k) 31 = 0 := by
      apply Nat.eq_of_testBit_eq
      intro k
      rw [testBit_ofBits]
      by_cases hk : k < 31
      · have := h k (List.mem_range.2 hk)
        cases hf : f k <;> simp [hf] at this <;> simp [this]
      · simp [hk]
    rw [h0]; rfl
/-- The set that has, or has not, i, and is s else. -/
def putB (s : Int) (i : Int) (t : Bool) : Nat := ofBits (fun k => if (k : Int) = i then t else bit s k) 31
theorem putB_out (s i : Int) (t : Bool) (h : ¬ (0 ≤ i ∧ i < 31)) : putB s i t = ofBits (bit s) 31 := by
  unfold putB
  apply ofBits_ext
  intro k hk
  rw [if_neg (by omega)]
theorem putB_in (s : Int) (i : Nat) (t : Bool) : putB s i t = ofBits (fun k => if k = i then t else bit s k) 31 := by
  unfold putB
  apply ofBits_ext
  intro k hk
  by_cases h : k = i
  · subst h; simp
  · rw [if_neg h, if_neg (by omega)]
theorem putB_lt (s i : Int) (t : Bool) : putB s i t < 2147483648 := ofBits_lt _ 31
theorem bit_ofBits (f : Nat → Bool) (n k : Nat) (h : k < n) : bit ((ofBits f n : Nat) : Int) k = f k := by
  rw [bit_nat, testBit_ofBits]; simp [h]
theorem ofBits_bit (f : Nat → Bool) : ofBits (bit ((ofBits f 31 : Nat) : Int)) 31 = ofBits f 31 := ofBits_ext _ _ _ (fun k hk => bit_ofBits f 31 k hk)
/-- Of xs. -/
def memB (xs : List Int) (k : Nat) : Bool := xs.any (fun x => x == (k : Int))
theorem putB_mem (xs : List Int) (x : Int) : putB ((ofBits (memB xs) 31 : Nat) : Int) x true = ofBits (memB (xs ++ [x])) 31 := by
  unfold putB
  apply ofBits_ext
  intro k hk
  rw [bit_ofBits _ _ _ hk]
  unfold memB
  rw [List.any_append]
  by_cases h : (k : Int) = x
  · subst h; simp
  · rw [if_neg h]; simp [show (x == (k : Int)) = false by rw [beq_eq_false_iff_ne]; omega]
/-- How many of the first n are. -/
def cnt (f : Nat → Bool) : Nat → Nat
  | 0 => 0
  | n + 1 => cnt f n + if f n then 1 else 0
theorem cnt_le (f : Nat → Bool) (n : Nat) : cnt f n ≤ n := by
  induction n with
  | zero => simp [cnt]
  | succ n ih => simp only [cnt]; split <;> omega
theorem cnt_below (m n : Nat) : cnt (fun k => decide (k < m)) n = min m n := by
  induction n with
  | zero => simp [cnt]
  | succ n ih => simp only [cnt, ih, decide_eq_true_eq]; split <;> omega
theorem cnt_ext (f g : Nat → Bool) (n : Nat) (h : ∀ k, k < n → f k = g k) : cnt f n = cnt g n := by
  induction n with
  | zero => rfl
  | succ n ih => simp only [cnt, ih (fun k hk => h k (by omega)), h n (by omega)]
def lst (f : Nat → Bool) (n : Nat) : List Int := ((List.range n).filter f).map (fun (k : Nat) => (k : Int))
theorem lst_succ (f : Nat → Bool) (n : Nat) : lst f (n + 1) = if f n then lst f n ++ [(n : Int)] else lst f n := by
  unfold lst
  rw [List.range_succ, List.filter_append]
  cases h : f n <;> simp [h]
theorem lst_length (f : Nat → Bool) (n : Nat) : (lst f n).length = cnt f n := by
  induction n with
  | zero => rfl
  | succ n ih => rw [lst_succ]; simp only [cnt]; split <;> simp [ih]
theorem lst_le (f : Nat → Bool) (n : Nat) : (lst f n).length ≤ n := by rw [lst_length]; exact cnt_le f n
theorem memB_lst (f : Nat → Bool) (n k : Nat) (h : k < n) : memB (lst f n) k = f k := by
  unfold memB lst
  rw [Bool.eq_iff_iff, List.any_eq_true]
  constructor
  · rintro ⟨x, hx, he⟩
    rw [List.mem_map] at hx
    obtain ⟨j, hj, rfl⟩ := hx
    have : j = k := by have := beq_iff_eq.1 he; omega
    subst this
    exact (List.mem_filter.1 hj).2
  · intro hf
    exact ⟨k, List.mem_map.2 ⟨k, List.mem_filter.2 ⟨List.mem_range.2 h, hf⟩, rfl⟩, by simp⟩
theorem of_list (s : Int) : ofBits (memB (lst (bit s) 31)) 31 = ofBits (bit s) 31 := ofBits_ext _ _ _ (fun k hk => memB_lst _ _ _ hk)
/-- First n. -/
def top (n : Int) : Nat := (min (max n 0) 31).toNat
theorem bit_first (n : Int) (k : Nat) : bit ((2 ^ top n - 1 : Nat) : Int) k = decide (k < top n) := by
  rw [bit_nat, Nat.testBit_two_pow_sub_one]
theorem count_first (n : Int) : ((cnt (bit ((2 ^ top n - 1 : Nat) : Int)) 31 : Nat) : Int) = max 0 (min n 31) := by
  rw [cnt_ext _ (fun k => decide (k < top n)) 31 (fun k _ => bit_first n k), cnt_below]
  unfold top; omega
def withinB (f g : Nat → Bool) : Bool := (List.range 31).all (fun k => !f k || g k)
theorem withinB_ext (f f' g g' : Nat → Bool) (h : ∀ k, k < 31 → f k = f' k) (h' : ∀ k, k < 31 → g k = g' k) : withinB f g = withinB f' g' := by
  unfold withinB
  rw [Bool.eq_iff_iff, List.all_eq_true, List.all_eq_true]
  constructor <;> intro h2 k hk <;> have h3 := h2 k hk <;> have hk := List.mem_range.1 hk
  · rwa [h k hk, h' k hk] at h3
  · rwa [h k hk, h' k hk]
theorem within_first (n m : Int) : withinB (bit ((2 ^ top n - 1 : Nat) : Int)) (bit ((2 ^ top m - 1 : Nat) : Int)) = decide (min n 31 ≤ max 0 m) := by
  rw [withinB_ext _ (fun k => decide (k < top n)) _ (fun k => decide (k < top m)) (fun k _ => bit_first n k) (fun k _ => bit_first m k)]
  unfold withinB
  rw [Bool.eq_iff_iff, List.all_eq_true, decide_eq_true_eq]
  constructor
  · intro h
    by_cases h0 : top n = 0
    · unfold top at h0; omega
    · have h1 := h (top n - 1) (List.mem_range.2 (by unfold top; omega))
      simp only [Bool.or_eq_true, Bool.not_eq_true', decide_eq_false_iff_not, decide_eq_true_eq] at h1
      unfold top at h1 h0; omega
  · intro h k hk
    have hk := List.mem_range.1 hk
    simp only [Bool.or_eq_true, Bool.not_eq_true', decide_eq_false_iff_not, decide_eq_true_eq]
    unfold top; omega
theorem has_first (n : Int) : bit ((2 ^ top n - 1 : Nat) : Int) 3 = decide (3 < n) := by
  rw [bit_first, decide_eq_decide]; unfold top; omega
end Go.Proofs.Ytdpmkhmjihgckaa.BitsPlain
