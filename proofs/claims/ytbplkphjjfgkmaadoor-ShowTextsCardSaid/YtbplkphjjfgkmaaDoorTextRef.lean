/-
  warderref01.First: the rune that begins at a byte, by walks.
-/
import Derived.Test.YtbplkphjjfgkmaaDoorKit
namespace Go.Proofs.YtbplkphjjfgkmaaDoor
open Go.RowKit
set_option linter.unusedVariables false set_option linter.unusedSimpArgs false

/-- Byte k of a text as a number; 0 behind its end. -/
def byt (s : ByteArray) (k : Nat) : Nat := if h : k < s.size then (s[k]'h).toNat else 0
theorem byt_at (s : ByteArray) (k : Nat) (h : k < s.size) : (s[k]'h).toNat = byt s k := by unfold byt; rw [dif_pos h]
theorem byt_lt (s : ByteArray) (k : Nat) : byt s k < 256 := by
  unfold byt; split
  · exact (s[k]).toNat_lt
  · omega
/-- Is byte k one from lo to hi? -/
def tl (s : ByteArray) (k lo hi : Nat) : Bool := decide (k < s.size) && (decide (lo ≤ byt s k) && decide (byt s k ≤ hi))
theorem tl_true {s : ByteArray} {k lo hi : Nat} (h : tl s k lo hi = true) : k < s.size ∧ lo ≤ byt s k ∧ byt s k ≤ hi := by simpa [tl] using h
theorem tl_false {s : ByteArray} {k lo hi : Nat} (h : tl s k lo hi = false) : ¬ (k < s.size ∧ lo ≤ byt s k ∧ byt s k ≤ hi) := by
  intro h2
  have : tl s k lo hi = true := by simp [tl, h2]
  rw [h] at this; cases this
theorem tl_yes {s : ByteArray} {k lo hi : Nat} (h : k < s.size ∧ lo ≤ byt s k ∧ byt s k ≤ hi) : tl s k lo hi = true := by simp [tl, h]
theorem tl_no {s : ByteArray} {k lo hi : Nat} (h : ¬ (k < s.size ∧ lo ≤ byt s k ∧ byt s k ≤ hi)) : tl s k lo hi = false := by
  cases h2 : tl s k lo hi with
  | false => rfl
  | true => exact absurd (tl_true h2) h
def lo2 (c : Nat) : Nat := if c = 240 then 144 else if c = 224 then 160 else 128
def hi2 (c : Nat) : Nat := if c = 244 then 143 else if c = 237 then 159 else 191
def firstR (s : ByteArray) (i : Nat) : Int × Nat :=
  let c := byt s i
  if c < 128 then ((c : Int), 1)
  else if (decide (194 ≤ c) && decide (c ≤ 223) && tl s (i + 1) 128 191) = true then (((c % 32 * 64 + byt s (i + 1) % 64 : Nat) : Int), 2)
  else if (!tl s (i + 1) (lo2 c) (hi2 c) || !tl s (i + 2) 128 191) = true then (-1, 1)
  else if (decide (224 ≤ c) && decide (c ≤ 239)) = true then (((c % 16 * 4096 + byt s (i + 1) % 64 * 64 + byt s (i + 2) % 64 : Nat) : Int), 3)
  else if (decide (240 ≤ c) && decide (c ≤ 244) && tl s (i + 3) 128 191) = true then (((c % 8 * 262144 + byt s (i + 1) % 64 * 4096 + byt s (i + 2) % 64 * 64 + byt s (i + 3) % 64 : Nat) : Int), 4)
  else (-1, 1)

set_option maxHeartbeats 400000 in
theorem tail_any (s : ByteArray) (k : Nat) (lo hi : Int) (w : World) (h0 : 0 ≤ lo) (h1 : 0 ≤ hi) :
    Calls Tryd.prog 201 #[.string s, .int .i64 k, .int .i64 lo, .int .i64 hi] w fun e w' => e = .returned (.bool (tl s k lo.toNat hi.toNat)) ∧ w = w' := by
  obtain ⟨l, rfl⟩ := Int.eq_ofNat_of_zero_le h0
  obtain ⟨u, rfl⟩ := Int.eq_ofNat_of_zero_le h1
  rw [Int.toNat_natCast, Int.toNat_natCast]
  by_cases hk : k < s.size
  · have hb := byt_at s k hk
    have hbl := byt_lt s k
    by_cases hl : l ≤ byt s k
    · by_cases hu : byt s k ≤ u
      · have ht := tl_yes ⟨hk, hl, hu⟩
        rw [ht]
        have g1 : (l : Int) ≤ (byt s k : Int) := by omega
        have g2 : (byt s k : Int) ≤ (u : Int) := by omega
        have g3 : (k : Int) < (s.size : Int) := by omega
        clear ht hl hu
        go_enter Tryd.func201, Tryd.ntmps201
        go_wp2
        go_ret
        exact ⟨rfl, rfl⟩
      · have ht := tl_no (s := s) (k := k) (lo := l) (hi := u) (by omega)
        rw [ht]
        have g1 : (l : Int) ≤ (byt s k : Int) := by omega
        have g2 : ¬ (byt s k : Int) ≤ (u : Int) := by omega
        have g3 : (k : Int) < (s.size : Int) := by omega
        clear ht hl hu
        go_enter Tryd.func201, Tryd.ntmps201
        go_wp2
        go_ret
        exact ⟨by simp, rfl⟩
    · have ht := tl_no (s := s) (k := k) (lo := l) (hi := u) (by omega)
      rw [ht]
      have g1 : ¬ (l : Int) ≤ (byt s k : Int) := by omega
      have g3 : (k : Int) < (s.size : Int) := by omega
      clear ht hl
      go_enter Tryd.func201, Tryd.ntmps201
      go_wp2
      go_ret
      exact ⟨by simp, rfl⟩
  · have ht := tl_no (s := s) (k := k) (lo := l) (hi := u) (by omega)
    rw [ht]
    have g3 : ¬ (k : Int) < (s.size : Int) := by omega
    clear ht
    go_enter Tryd.func201, Tryd.ntmps201
    go_wp2
    go_ret
    exact ⟨rfl, rfl⟩
set_option maxHeartbeats 400000 in
theorem low_any (s : ByteArray) (k : Nat) (w : World) (hk : k < s.size) :
    Calls Tryd.prog 202 #[.string s, .int .i64 k] w fun e w' => e = .returned (.int .i64 ((byt s k % 64 : Nat) : Int)) ∧ w = w' := by
  have hb := byt_at s k hk
  have g3 : (k : Int) < (s.size : Int) := by omega
  have hbl := byt_lt s k
  go_enter Tryd.func202, Tryd.ntmps202
  go_wp2
  go_ret
  exact ⟨by simp, rfl⟩

theorem tail_int (s : ByteArray) (k lo hi : Int) (w : World) (hk : 0 ≤ k) (h0 : 0 ≤ lo) (h1 : 0 ≤ hi) :
    Calls Tryd.prog 201 #[.string s, .int .i64 k, .int .i64 lo, .int .i64 hi] w fun e w' => e = .returned (.bool (tl s k.toNat lo.toNat hi.toNat)) ∧ w = w' := by
  obtain ⟨n, rfl⟩ := Int.eq_ofNat_of_zero_le hk
  exact tail_any s n lo hi w h0 h1
theorem low_tl (s : ByteArray) (k : Int) (lo hi : Nat) (w : World) (h : tl s k.toNat lo hi = true) (hk : 0 ≤ k) :
    Calls Tryd.prog 202 #[.string s, .int .i64 k] w fun e w' => e = .returned (.int .i64 ((byt s k.toNat % 64 : Nat) : Int)) ∧ w = w' := by
  obtain ⟨n, rfl⟩ := Int.eq_ofNat_of_zero_le hk
  exact low_any s n w (tl_true h).1
def FirstAns (x : Int × Nat) (e : Ending) : Prop := e = .returned (.tuple #[.int .i64 x.1, .int .i64 (x.2 : Nat)])
theorem first_is {s : ByteArray} {i : Nat} {r : Int} {n : Nat} (h : firstR s i = (r, n)) : FirstAns (firstR s i) (.returned (.tuple #[.int .i64 r, .int .i64 (n : Nat)])) := by unfold FirstAns; rw [h]
set_option maxHeartbeats 4000000 in
set_option maxRecDepth 1000000 in
theorem first_any (s : ByteArray) (i : Nat) (w : World) (hi : i < s.size) (hs : s.size ≤ 1000000000000) :
    Calls Tryd.prog 170 #[.string s, .int .i64 i] w fun e w' => FirstAns (firstR s i) e ∧ w = w' := by
  have hb := byt_at s i hi
  have hbl := byt_lt s i
  have g3 : (i : Int) < (s.size : Int) := by omega
  have b1 := byt_lt s (i + 1)
  have b2 := byt_lt s (i + 2)
  have b3 := byt_lt s (i + 3)
  by_cases hc : byt s i < 128
  · have hf := first_is (s := s) (i := i) (r := (byt s i : Nat)) (n := 1) (by unfold firstR; simp only [if_pos hc])
    have HF := Lib.hid hf
    have g1 : (byt s i : Int) < 128 := by omega
    clear hf hc b1 b2 b3
    go_enter Tryd.func170, Tryd.ntmps170
    go_wp2
    go_ret2
    exact ⟨HF.out, rfl⟩
  · by_cases hc2 : 194 ≤ byt s i ∧ byt s i ≤ 223
    · have hf : firstR s i = if tl s (i + 1) 128 191 = true then (((byt s i % 32 * 64 + byt s (i + 1) % 64 : Nat) : Int), 2) else (-1, 1) := by
        have e1 : lo2 (byt s i) = 128 := by unfold lo2; rw [if_neg (by omega), if_neg (by omega)]
        have e2 : hi2 (byt s i) = 191 := by unfold hi2; rw [if_neg (by omega), if_neg (by omega)]
        unfold firstR
        simp only [if_neg hc, decide_eq_true hc2.1, decide_eq_true hc2.2, e1, e2, Bool.true_and]
        cases tl s (i + 1) 128 191 <;> simp
      have HF := Lib.hid hf
      obtain ⟨c1, c2⟩ := hc2
      have g1 : ¬ (byt s i : Int) < 128 := by omega
      have g4 : (194 : Int) ≤ (byt s i : Int) := by omega
      have g5 : (byt s i : Int) ≤ (223 : Int) := by omega
      have q1 : ((byt s i : Int) == 224) = false := by simp; omega
      have q2 : ((byt s i : Int) == 237) = false := by simp; omega
      have q3 : ((byt s i : Int) == 240) = false := by simp; omega
      have q4 : ((byt s i : Int) == 244) = false := by simp; omega
      clear hc c1 c2 hf
      go_enter Tryd.func170, Tryd.ntmps170
      go_wp2_with (first | (go_at_call 201; refine (tail_int _ _ _ _ _ (by omega) (by omega) (by omega)).mono ?_; rintro e w' ⟨rfl, rfl⟩) | (go_at_call 202; refine (low_tl _ _ _ _ _ (by assumption) (by omega)).mono ?_; rintro e w' ⟨rfl, rfl⟩))
      all_goals go_ret2
      all_goals refine ⟨?_, rfl⟩
      all_goals have hf := HF.out
      all_goals simp [FirstAns, hf, *]
    · by_cases hc3 : 224 ≤ byt s i ∧ byt s i ≤ 239
      · by_cases h1 : byt s i = 224
        · have hf : firstR s i = if (!tl s (i + 1) 160 191 || !tl s (i + 2) 128 191) = true then (-1, 1) else (((byt s i % 16 * 4096 + byt s (i + 1) % 64 * 64 + byt s (i + 2) % 64 : Nat) : Int), 3) := by
            have e1 : lo2 (byt s i) = 160 := by unfold lo2; repeat (first | rw [if_pos (by omega)] | rw [if_neg (by omega)])
            have e2 : hi2 (byt s i) = 191 := by unfold hi2; repeat (first | rw [if_pos (by omega)] | rw [if_neg (by omega)])
            have e3 : (decide (194 ≤ byt s i) && decide (byt s i ≤ 223)) = false := by simp; omega
            have e4 : (decide (224 ≤ byt s i) && decide (byt s i ≤ 239)) = true := by simp; omega
            unfold firstR
            simp [if_neg hc, e1, e2, e3, e4]
          have HF := Lib.hid hf
          have g1 : ¬ (byt s i : Int) < 128 := by omega
          have g4 : (194 : Int) ≤ (byt s i : Int) := by omega
          have g5 : ¬ (byt s i : Int) ≤ 223 := by omega
          have g6 : (224 : Int) ≤ (byt s i : Int) := by omega
          have g7 : (byt s i : Int) ≤ 239 := by omega
          have q1 : ((byt s i : Int) == 224) = true := by simp; omega
          have q2 : ((byt s i : Int) == 237) = false := by simp; omega
          have q3 : ((byt s i : Int) == 240) = false := by simp; omega
          have q4 : ((byt s i : Int) == 244) = false := by simp; omega
          clear hc hc2 hc3 h1 hf
          cases ht1 : tl s (i + 1) 160 191 <;> cases ht2 : tl s (i + 2) 128 191
          all_goals
            go_enter Tryd.func170, Tryd.ntmps170
            go_wp2_with (first | (go_at_call 201; refine (tail_int _ _ _ _ _ (by omega) (by omega) (by omega)).mono ?_; rintro e w' ⟨rfl, rfl⟩) | (go_at_call 202; refine (low_tl _ _ _ _ _ (by assumption) (by omega)).mono ?_; rintro e w' ⟨rfl, rfl⟩))
          all_goals go_ret2
          all_goals refine ⟨?_, rfl⟩
          all_goals have hf := HF.out
          all_goals simp [FirstAns, hf, *]
        · by_cases h2 : byt s i = 237
          · have hf : firstR s i = if (!tl s (i + 1) 128 159 || !tl s (i + 2) 128 191) = true then (-1, 1) else (((byt s i % 16 * 4096 + byt s (i + 1) % 64 * 64 + byt s (i + 2) % 64 : Nat) : Int), 3) := by
              have e1 : lo2 (byt s i) = 128 := by unfold lo2; repeat (first | rw [if_pos (by omega)] | rw [if_neg (by omega)])
              have e2 : hi2 (byt s i) = 159 := by unfold hi2; repeat (first | rw [if_pos (by omega)] | rw [if_neg (by omega)])
              have e3 : (decide (194 ≤ byt s i) && decide (byt s i ≤ 223)) = false := by simp; omega
              have e4 : (decide (224 ≤ byt s i) && decide (byt s i ≤ 239)) = true := by simp; omega
              unfold firstR
              simp [if_neg hc, e1, e2, e3, e4]
            have HF := Lib.hid hf
            have g1 : ¬ (byt s i : Int) < 128 := by omega
            have g4 : (194 : Int) ≤ (byt s i : Int) := by omega
            have g5 : ¬ (byt s i : Int) ≤ 223 := by omega
            have g6 : (224 : Int) ≤ (byt s i : Int) := by omega
            have g7 : (byt s i : Int) ≤ 239 := by omega
            have q1 : ((byt s i : Int) == 224) = false := by simp; omega
            have q2 : ((byt s i : Int) == 237) = true := by simp; omega
            have q3 : ((byt s i : Int) == 240) = false := by simp; omega
            have q4 : ((byt s i : Int) == 244) = false := by simp; omega
            clear hc hc2 hc3 h1 h2 hf
            cases ht1 : tl s (i + 1) 128 159 <;> cases ht2 : tl s (i + 2) 128 191
            all_goals
              go_enter Tryd.func170, Tryd.ntmps170
              go_wp2_with (first | (go_at_call 201; refine (tail_int _ _ _ _ _ (by omega) (by omega) (by omega)).mono ?_; rintro e w' ⟨rfl, rfl⟩) | (go_at_call 202; refine (low_tl _ _ _ _ _ (by assumption) (by omega)).mono ?_; rintro e w' ⟨rfl, rfl⟩))
            all_goals go_ret2
            all_goals refine ⟨?_, rfl⟩
            all_goals have hf := HF.out
            all_goals simp [FirstAns, hf, *]
          · have hf : firstR s i = if (!tl s (i + 1) 128 191 || !tl s (i + 2) 128 191) = true then (-1, 1) else (((byt s i % 16 * 4096 + byt s (i + 1) % 64 * 64 + byt s (i + 2) % 64 : Nat) : Int), 3) := by
              have e1 : lo2 (byt s i) = 128 := by unfold lo2; repeat (first | rw [if_pos (by omega)] | rw [if_neg (by omega)])
              have e2 : hi2 (byt s i) = 191 := by unfold hi2; repeat (first | rw [if_pos (by omega)] | rw [if_neg (by omega)])
              have e3 : (decide (194 ≤ byt s i) && decide (byt s i ≤ 223)) = false := by simp; omega
              have e4 : (decide (224 ≤ byt s i) && decide (byt s i ≤ 239)) = true := by simp; omega
              unfold firstR
              simp [if_neg hc, e1, e2, e3, e4]
            have HF := Lib.hid hf
            have g1 : ¬ (byt s i : Int) < 128 := by omega
            have g4 : (194 : Int) ≤ (byt s i : Int) := by omega
            have g5 : ¬ (byt s i : Int) ≤ 223 := by omega
            have g6 : (224 : Int) ≤ (byt s i : Int) := by omega
            have g7 : (byt s i : Int) ≤ 239 := by omega
            have q1 : ((byt s i : Int) == 224) = false := by simp; omega
            have q2 : ((byt s i : Int) == 237) = false := by simp; omega
            have q3 : ((byt s i : Int) == 240) = false := by simp; omega
            have q4 : ((byt s i : Int) == 244) = false := by simp; omega
            clear hc hc2 hc3 h1 h2 hf
            cases ht1 : tl s (i + 1) 128 191 <;> cases ht2 : tl s (i + 2) 128 191
            all_goals
              go_enter Tryd.func170, Tryd.ntmps170
              go_wp2_with (first | (go_at_call 201; refine (tail_int _ _ _ _ _ (by omega) (by omega) (by omega)).mono ?_; rintro e w' ⟨rfl, rfl⟩) | (go_at_call 202; refine (low_tl _ _ _ _ _ (by assumption) (by omega)).mono ?_; rintro e w' ⟨rfl, rfl⟩))
            all_goals go_ret2
            all_goals refine ⟨?_, rfl⟩
            all_goals have hf := HF.out
            all_goals simp [FirstAns, hf, *]
      · by_cases hc4 : 240 ≤ byt s i ∧ byt s i ≤ 244
        · by_cases h1 : byt s i = 240
          · have hf : firstR s i = if (!tl s (i + 1) 144 191 || !tl s (i + 2) 128 191) = true then (-1, 1) else (if tl s (i + 3) 128 191 = true then (((byt s i % 8 * 262144 + byt s (i + 1) % 64 * 4096 + byt s (i + 2) % 64 * 64 + byt s (i + 3) % 64 : Nat) : Int), 4) else (-1, 1)) := by
              have e1 : lo2 (byt s i) = 144 := by unfold lo2; repeat (first | rw [if_pos (by omega)] | rw [if_neg (by omega)])
              have e2 : hi2 (byt s i) = 191 := by unfold hi2; repeat (first | rw [if_pos (by omega)] | rw [if_neg (by omega)])
              have e3 : (decide (194 ≤ byt s i) && decide (byt s i ≤ 223)) = false := by simp; omega
              have e4 : (decide (224 ≤ byt s i) && decide (byt s i ≤ 239)) = false := by simp; omega
              have e5 : (decide (240 ≤ byt s i) && decide (byt s i ≤ 244)) = true := by simp; omega
              unfold firstR
              simp [if_neg hc, e1, e2, e3, e4, e5]
            have HF := Lib.hid hf
            have g1 : ¬ (byt s i : Int) < 128 := by omega
            have g4 : (194 : Int) ≤ (byt s i : Int) := by omega
            have g5 : ¬ (byt s i : Int) ≤ 223 := by omega
            have g6 : (224 : Int) ≤ (byt s i : Int) := by omega
            have g7 : ¬ (byt s i : Int) ≤ 239 := by omega
            have g8 : (240 : Int) ≤ (byt s i : Int) := by omega
            have g9 : (byt s i : Int) ≤ 244 := by omega
            have q1 : ((byt s i : Int) == 224) = false := by simp; omega
            have q2 : ((byt s i : Int) == 237) = false := by simp; omega
            have q3 : ((byt s i : Int) == 240) = true := by simp; omega
            have q4 : ((byt s i : Int) == 244) = false := by simp; omega
            clear hc hc2 hc3 hc4 h1 hf
            cases ht1 : tl s (i + 1) 144 191 <;> cases ht2 : tl s (i + 2) 128 191
            all_goals
              go_enter Tryd.func170, Tryd.ntmps170
              go_wp2_with (first | (go_at_call 201; refine (tail_int _ _ _ _ _ (by omega) (by omega) (by omega)).mono ?_; rintro e w' ⟨rfl, rfl⟩) | (go_at_call 202; refine (low_tl _ _ _ _ _ (by assumption) (by omega)).mono ?_; rintro e w' ⟨rfl, rfl⟩))
            all_goals go_ret2
            all_goals refine ⟨?_, rfl⟩
            all_goals have hf := HF.out
            all_goals simp [FirstAns, hf, *]
          · by_cases h2 : byt s i = 244
            · have hf : firstR s i = if (!tl s (i + 1) 128 143 || !tl s (i + 2) 128 191) = true then (-1, 1) else (if tl s (i + 3) 128 191 = true then (((byt s i % 8 * 262144 + byt s (i + 1) % 64 * 4096 + byt s (i + 2) % 64 * 64 + byt s (i + 3) % 64 : Nat) : Int), 4) else (-1, 1)) := by
                have e1 : lo2 (byt s i) = 128 := by unfold lo2; repeat (first | rw [if_pos (by omega)] | rw [if_neg (by omega)])
                have e2 : hi2 (byt s i) = 143 := by unfold hi2; repeat (first | rw [if_pos (by omega)] | rw [if_neg (by omega)])
                have e3 : (decide (194 ≤ byt s i) && decide (byt s i ≤ 223)) = false := by simp; omega
                have e4 : (decide (224 ≤ byt s i) && decide (byt s i ≤ 239)) = false := by simp; omega
                have e5 : (decide (240 ≤ byt s i) && decide (byt s i ≤ 244)) = true := by simp; omega
                unfold firstR
                simp [if_neg hc, e1, e2, e3, e4, e5]
              have HF := Lib.hid hf
              have g1 : ¬ (byt s i : Int) < 128 := by omega
              have g4 : (194 : Int) ≤ (byt s i : Int) := by omega
              have g5 : ¬ (byt s i : Int) ≤ 223 := by omega
              have g6 : (224 : Int) ≤ (byt s i : Int) := by omega
              have g7 : ¬ (byt s i : Int) ≤ 239 := by omega
              have g8 : (240 : Int) ≤ (byt s i : Int) := by omega
              have g9 : (byt s i : Int) ≤ 244 := by omega
              have q1 : ((byt s i : Int) == 224) = false := by simp; omega
              have q2 : ((byt s i : Int) == 237) = false := by simp; omega
              have q3 : ((byt s i : Int) == 240) = false := by simp; omega
              have q4 : ((byt s i : Int) == 244) = true := by simp; omega
              clear hc hc2 hc3 hc4 h1 h2 hf
              cases ht1 : tl s (i + 1) 128 143 <;> cases ht2 : tl s (i + 2) 128 191
              all_goals
                go_enter Tryd.func170, Tryd.ntmps170
                go_wp2_with (first | (go_at_call 201; refine (tail_int _ _ _ _ _ (by omega) (by omega) (by omega)).mono ?_; rintro e w' ⟨rfl, rfl⟩) | (go_at_call 202; refine (low_tl _ _ _ _ _ (by assumption) (by omega)).mono ?_; rintro e w' ⟨rfl, rfl⟩))
              all_goals go_ret2
              all_goals refine ⟨?_, rfl⟩
              all_goals have hf := HF.out
              all_goals simp [FirstAns, hf, *]
            · have hf : firstR s i = if (!tl s (i + 1) 128 191 || !tl s (i + 2) 128 191) = true then (-1, 1) else (if tl s (i + 3) 128 191 = true then (((byt s i % 8 * 262144 + byt s (i + 1) % 64 * 4096 + byt s (i + 2) % 64 * 64 + byt s (i + 3) % 64 : Nat) : Int), 4) else (-1, 1)) := by
                have e1 : lo2 (byt s i) = 128 := by unfold lo2; repeat (first | rw [if_pos (by omega)] | rw [if_neg (by omega)])
                have e2 : hi2 (byt s i) = 191 := by unfold hi2; repeat (first | rw [if_pos (by omega)] | rw [if_neg (by omega)])
                have e3 : (decide (194 ≤ byt s i) && decide (byt s i ≤ 223)) = false := by simp; omega
                have e4 : (decide (224 ≤ byt s i) && decide (byt s i ≤ 239)) = false := by simp; omega
                have e5 : (decide (240 ≤ byt s i) && decide (byt s i ≤ 244)) = true := by simp; omega
                unfold firstR
                simp [if_neg hc, e1, e2, e3, e4, e5]
              have HF := Lib.hid hf
              have g1 : ¬ (byt s i : Int) < 128 := by omega
              have g4 : (194 : Int) ≤ (byt s i : Int) := by omega
              have g5 : ¬ (byt s i : Int) ≤ 223 := by omega
              have g6 : (224 : Int) ≤ (byt s i : Int) := by omega
              have g7 : ¬ (byt s i : Int) ≤ 239 := by omega
              have g8 : (240 : Int) ≤ (byt s i : Int) := by omega
              have g9 : (byt s i : Int) ≤ 244 := by omega
              have q1 : ((byt s i : Int) == 224) = false := by simp; omega
              have q2 : ((byt s i : Int) == 237) = false := by simp; omega
              have q3 : ((byt s i : Int) == 240) = false := by simp; omega
              have q4 : ((byt s i : Int) == 244) = false := by simp; omega
              clear hc hc2 hc3 hc4 h1 h2 hf
              cases ht1 : tl s (i + 1) 128 191 <;> cases ht2 : tl s (i + 2) 128 191
              all_goals
                go_enter Tryd.func170, Tryd.ntmps170
                go_wp2_with (first | (go_at_call 201; refine (tail_int _ _ _ _ _ (by omega) (by omega) (by omega)).mono ?_; rintro e w' ⟨rfl, rfl⟩) | (go_at_call 202; refine (low_tl _ _ _ _ _ (by assumption) (by omega)).mono ?_; rintro e w' ⟨rfl, rfl⟩))
              all_goals go_ret2
              all_goals refine ⟨?_, rfl⟩
              all_goals have hf := HF.out
              all_goals simp [FirstAns, hf, *]
        · by_cases h1 : byt s i < 194
          · have hf : firstR s i = if (!tl s (i + 1) 128 191 || !tl s (i + 2) 128 191) = true then (-1, 1) else (-1, 1) := by
              have e1 : lo2 (byt s i) = 128 := by unfold lo2; repeat (first | rw [if_pos (by omega)] | rw [if_neg (by omega)])
              have e2 : hi2 (byt s i) = 191 := by unfold hi2; repeat (first | rw [if_pos (by omega)] | rw [if_neg (by omega)])
              have e3 : (decide (194 ≤ byt s i) && decide (byt s i ≤ 223)) = false := by simp; omega
              have e4 : (decide (224 ≤ byt s i) && decide (byt s i ≤ 239)) = false := by simp; omega
              have e5 : (decide (240 ≤ byt s i) && decide (byt s i ≤ 244)) = false := by simp; omega
              unfold firstR
              simp [if_neg hc, e1, e2, e3, e4, e5]
            have HF := Lib.hid hf
            have g1 : ¬ (byt s i : Int) < 128 := by omega
            have g4 : ¬ (194 : Int) ≤ (byt s i : Int) := by omega
            have g6 : ¬ (224 : Int) ≤ (byt s i : Int) := by omega
            have g8 : ¬ (240 : Int) ≤ (byt s i : Int) := by omega
            have q1 : ((byt s i : Int) == 224) = false := by simp; omega
            have q2 : ((byt s i : Int) == 237) = false := by simp; omega
            have q3 : ((byt s i : Int) == 240) = false := by simp; omega
            have q4 : ((byt s i : Int) == 244) = false := by simp; omega
            clear hc hc2 hc3 hc4 h1 hf
            cases ht1 : tl s (i + 1) 128 191 <;> cases ht2 : tl s (i + 2) 128 191
            all_goals
              go_enter Tryd.func170, Tryd.ntmps170
              go_wp2_with (first | (go_at_call 201; refine (tail_int _ _ _ _ _ (by omega) (by omega) (by omega)).mono ?_; rintro e w' ⟨rfl, rfl⟩) | (go_at_call 202; refine (low_tl _ _ _ _ _ (by assumption) (by omega)).mono ?_; rintro e w' ⟨rfl, rfl⟩))
            all_goals go_ret2
            all_goals refine ⟨?_, rfl⟩
            all_goals have hf := HF.out
            all_goals simp [FirstAns, hf, *]
          · have hf : firstR s i = if (!tl s (i + 1) 128 191 || !tl s (i + 2) 128 191) = true then (-1, 1) else (-1, 1) := by
              have e1 : lo2 (byt s i) = 128 := by unfold lo2; repeat (first | rw [if_pos (by omega)] | rw [if_neg (by omega)])
              have e2 : hi2 (byt s i) = 191 := by unfold hi2; repeat (first | rw [if_pos (by omega)] | rw [if_neg (by omega)])
              have e3 : (decide (194 ≤ byt s i) && decide (byt s i ≤ 223)) = false := by simp; omega
              have e4 : (decide (224 ≤ byt s i) && decide (byt s i ≤ 239)) = false := by simp; omega
              have e5 : (decide (240 ≤ byt s i) && decide (byt s i ≤ 244)) = false := by simp; omega
              unfold firstR
              simp [if_neg hc, e1, e2, e3, e4, e5]
            have HF := Lib.hid hf
            have g1 : ¬ (byt s i : Int) < 128 := by omega
            have g4 : (194 : Int) ≤ (byt s i : Int) := by omega
            have g5 : ¬ (byt s i : Int) ≤ 223 := by omega
            have g6 : (224 : Int) ≤ (byt s i : Int) := by omega
            have g7 : ¬ (byt s i : Int) ≤ 239 := by omega
            have g8 : (240 : Int) ≤ (byt s i : Int) := by omega
            have g9 : ¬ (byt s i : Int) ≤ 244 := by omega
            have q1 : ((byt s i : Int) == 224) = false := by simp; omega
            have q2 : ((byt s i : Int) == 237) = false := by simp; omega
            have q3 : ((byt s i : Int) == 240) = false := by simp; omega
            have q4 : ((byt s i : Int) == 244) = false := by simp; omega
            clear hc hc2 hc3 hc4 h1 hf
            cases ht1 : tl s (i + 1) 128 191 <;> cases ht2 : tl s (i + 2) 128 191
            all_goals
              go_enter Tryd.func170, Tryd.ntmps170
              go_wp2_with (first | (go_at_call 201; refine (tail_int _ _ _ _ _ (by omega) (by omega) (by omega)).mono ?_; rintro e w' ⟨rfl, rfl⟩) | (go_at_call 202; refine (low_tl _ _ _ _ _ (by assumption) (by omega)).mono ?_; rintro e w' ⟨rfl, rfl⟩))
            all_goals go_ret2
            all_goals refine ⟨?_, rfl⟩
            all_goals have hf := HF.out
            all_goals simp [FirstAns, hf, *]
end Go.Proofs.YtbplkphjjfgkmaaDoor
