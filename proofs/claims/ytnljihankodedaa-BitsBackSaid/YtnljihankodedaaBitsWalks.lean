/-
  What each function of package bits, and of its reference, answers: by walks over the program's text.
-/
import Derived.Test.YtnljihankodedaaKit
import Derived.Test.YtnljihankodedaaBitsPlain
namespace Go.Proofs.Ytnljihankodedaa
open Go.RowKit BitsPlain
set_option linter.unusedVariables false

def inB (i : Int) : Bool := decide (0 ≤ i) && decide (i < 31)
theorem inB_yes {i : Int} (h : 0 ≤ i ∧ i < 31) : inB i = true := by unfold inB; simp [h]
theorem inB_no {i : Int} (h : ¬ (0 ≤ i ∧ i < 31)) : inB i = false := by unfold inB; simp; omega
def hasB (s i : Int) : Bool := inB i && bit s i.toNat

set_option maxHeartbeats 400000 in
set_option maxRecDepth 1000000 in
theorem may_any (i : Int) (w : World) : Calls Try.prog 62 #[.int .i64 i] w fun e w' => e = .returned (.bool (inB i)) ∧ w = w' := by
  by_cases h0 : 0 ≤ i
  · by_cases h1 : i < 31
    · rw [inB_yes ⟨h0, h1⟩]
      go_enter Try.func62, Try.ntmps62
      go_wp2
      go_ret
      exact ⟨rfl, rfl⟩
    · rw [inB_no (by omega)]
      go_enter Try.func62, Try.ntmps62
      go_wp2
      go_ret
      exact ⟨rfl, rfl⟩
  · rw [inB_no (by omega)]
    go_enter Try.func62, Try.ntmps62
    go_wp2
    go_ret
    exact ⟨rfl, rfl⟩
theorem may_yes (i : Int) (w : World) (h : 0 ≤ i ∧ i < 31) : Calls Try.prog 62 #[.int .i64 i] w fun e w' => e = .returned (.bool true) ∧ w = w' := by
  have := may_any i w; rwa [inB_yes h] at this
theorem may_no (i : Int) (w : World) (h : ¬ (0 ≤ i ∧ i < 31)) : Calls Try.prog 62 #[.int .i64 i] w fun e w' => e = .returned (.bool false) ∧ w = w' := by
  have := may_any i w; rwa [inB_no h] at this

set_option maxHeartbeats 400000 in
set_option maxRecDepth 1000000 in
theorem has_any (s i : Int) (w : World) : Calls Try.prog 15 #[.int .i64 s, .int .i64 i] w fun e w' => e = .returned (.bool (hasB s i)) ∧ w = w' := by
  by_cases h : 0 ≤ i ∧ i < 31
  · have hm := may_yes i w h
    have hr : hasB s i = (bits .and .i64 (s / 2 ^ i.toNat) 1 == 1) := by rw [and_one]; unfold hasB bit; rw [inB_yes h]; simp; rfl
    have HR := Lib.hid hr
    clear hr
    go_enter Try.func15, Try.ntmps15
    go_wp2_with (go_at_call 62; refine hm.mono ?_; rintro e w' ⟨rfl, rfl⟩)
    go_ret
    exact ⟨ret_bool HR.out.symm, rfl⟩
  · have hm := may_no i w h
    have hr : hasB s i = false := by unfold hasB; rw [inB_no h]; rfl
    have HR := Lib.hid hr
    clear hr
    go_enter Try.func15, Try.ntmps15
    go_wp2_with (go_at_call 62; refine hm.mono ?_; rintro e w' ⟨rfl, rfl⟩)
    go_ret
    exact ⟨ret_bool HR.out.symm, rfl⟩

theorem tm (x : Int) : (0 ≤ x → x.tmod 2 = x % 2) ∧ (x < 0 → x.tmod 2 = - ((-x) % 2)) := by
  constructor
  · intro h; exact Int.tmod_eq_emod_of_nonneg h
  · intro h
    have : x = -(-x) := by omega
    conv => lhs; rw [this]
    rw [Int.neg_tmod, Int.tmod_eq_emod_of_nonneg (by omega)]
theorem td (x : Int) : (0 ≤ x → x.tdiv 2 = x / 2) ∧ (x < 0 → x.tdiv 2 = - ((-x) / 2)) := by
  constructor
  · intro h; exact Int.tdiv_eq_ediv_of_nonneg h
  · intro h
    have : x = -(-x) := by omega
    conv => lhs; rw [this]
    rw [Int.neg_tdiv, Int.tdiv_eq_ediv_of_nonneg (by omega)]
theorem half_a (x : Int) (h1 : -9223372036854775808 ≤ x) (h2 : x ≤ 9223372036854775807) (h : x.tmod 2 < 0) : wrap64 ((wrap64 (x - wrap64 (-(x.tmod 2)))).tdiv 2) = x / 2 := by
  have t := tm x
  rw [IntWalk.wrap64_in (-(x.tmod 2)) ⟨by omega, by omega⟩, IntWalk.wrap64_in (x - -(x.tmod 2)) ⟨by omega, by omega⟩]
  have d := td (x - -(x.tmod 2))
  rw [IntWalk.wrap64_in _ ⟨by omega, by omega⟩]
  omega
theorem half_b (x : Int) (h1 : -9223372036854775808 ≤ x) (h2 : x ≤ 9223372036854775807) (h : ¬ x.tmod 2 < 0) : wrap64 ((wrap64 (x - (x.tmod 2))).tdiv 2) = x / 2 := by
  have t := tm x
  rw [IntWalk.wrap64_in (x - (x.tmod 2)) ⟨by omega, by omega⟩]
  have d := td (x - (x.tmod 2))
  rw [IntWalk.wrap64_in _ ⟨by omega, by omega⟩]
  omega
theorem odd_ne (x : Int) : (x.tmod 2 != 0) = decide (x % 2 = 1) := by
  have t := tm x
  rw [Bool.eq_iff_iff, bne_iff_ne, decide_eq_true_eq]
  omega
theorem shift_succ (s : Int) (k : Nat) : s / 2 ^ (k + 1) = s / 2 ^ k / 2 := by
  rw [Int.pow_succ, Int.ediv_ediv_of_nonneg (Int.pow_nonneg (by decide))]
theorem shift_wf (s : Int) (k : Nat) (h1 : -9223372036854775808 ≤ s) (h2 : s ≤ 9223372036854775807) : -9223372036854775808 ≤ s / 2 ^ k ∧ s / 2 ^ k ≤ 9223372036854775807 := by
  induction k with
  | zero => simpa using ⟨h1, h2⟩
  | succ k ih => rw [shift_succ]; omega
set_option maxHeartbeats 400000 in
set_option maxRecDepth 1000000 in
theorem rhas_out (s i : Int) (w : World) (h : ¬ (0 ≤ i ∧ i < 31)) : Calls Try.prog 16 #[.int .i64 s, .int .i64 i] w fun e w' => e = .returned (.bool (hasB s i)) ∧ w = w' := by
  have hr : hasB s i = false := by unfold hasB; rw [inB_no h]; rfl
  rw [hr]
  clear hr
  rcases Int.lt_or_le i 0 with h0 | h0
  · go_enter Try.func16, Try.ntmps16
    go_wp2
    go_ret
    exact ⟨rfl, rfl⟩
  · have h1 : 30 < i := by omega
    go_enter Try.func16, Try.ntmps16
    go_wp2
    go_ret
    exact ⟨rfl, rfl⟩
set_option maxHeartbeats 400000 in
set_option maxRecDepth 1000000 in
theorem rhas_in (s : Int) (i : Nat) (w : World) (hi : i < 31) (hs1 : -9223372036854775808 ≤ s) (hs2 : s ≤ 9223372036854775807) :
    Calls Try.prog 16 #[.int .i64 s, .int .i64 i] w fun e w' => e = .returned (.bool (bit s i)) ∧ w = w' := by
  go_enter Try.func16, Try.ntmps16
  go_wp2
  go_loop [0, 5] (fun v0 v5 => ∃ k : Nat, k ≤ i ∧ v5 = .int .i64 k ∧ v0 = .int .i64 (s / 2 ^ k)) (fun _ v5 => i - (intOf v5).toNat)
  case atStart => exact ⟨0, Nat.zero_le _, rfl, by simp⟩
  case round =>
    obtain ⟨k, hk, rfl, rfl⟩ := hrel
    have hb := shift_wf s k hs1 hs2
    have ha := fun h => half_a (s / 2 ^ k) hb.1 hb.2 h
    have hbb := fun h => half_b (s / 2 ^ k) hb.1 hb.2 h
    have HA := Lib.hid ha
    have HB := Lib.hid hbb
    clear ha hbb
    by_cases hlt : k < i
    · by_cases hneg : (s / 2 ^ k).tmod 2 < 0
      · go_wp2
        go_round
        case rel => exact ⟨k + 1, by omega, by go_num, by rw [HA.out hneg, shift_succ]⟩
        case measure => simp [intOf]; omega
      · go_wp2
        go_round
        case rel => exact ⟨k + 1, by omega, by go_num, by rw [HB.out hneg, shift_succ]⟩
        case measure => simp [intOf]; omega
    · obtain rfl : k = i := by omega
      go_wp2
      go_ret
      exact ⟨ret_bool (odd_ne _), rfl⟩
theorem rhas_any (s i : Int) (w : World) (hs1 : -9223372036854775808 ≤ s) (hs2 : s ≤ 9223372036854775807) :
    Calls Try.prog 16 #[.int .i64 s, .int .i64 i] w fun e w' => e = .returned (.bool (hasB s i)) ∧ w = w' := by
  by_cases h : 0 ≤ i ∧ i < 31
  · obtain ⟨n, rfl⟩ := Int.eq_ofNat_of_zero_le h.1
    have := rhas_in s n w (by omega) hs1 hs2
    unfold hasB
    rw [inB_yes h]
    exact this
  · exact rhas_out s i w h
theorem hasB_nat (s : Int) (k : Nat) (h : k < 31) : hasB s k = bit s k := by unfold hasB; rw [inB_yes (by omega)]; rfl

/-! The lists. -/
/-- What a function says that hands back a list of ints in memory of its own. -/
def GivesInts (xs : List Int) (w : World) (e : Ending) (w' : World) : Prop :=
  ∃ v, e = .returned v ∧ w'.ownsRow w.heap.size 3 1 v xs.length (xs.map (Value.int .i64)) ∧ Below w.heap.size w w'

set_option maxHeartbeats 400000 in
set_option maxRecDepth 1000000 in
theorem list_any (s : Int) (w : World) : Calls Try.prog 22 #[.int .i64 s] w (GivesInts (lst (bit s) 31) w) := by
  obtain ⟨i0, hi, hz0, hz1, hz2⟩ := info_got Try.info3
  go_enter Try.func22, Try.ntmps22
  go_wp2
  go_loopw [3, 5] (fun v3 v5 wr => ∃ k : Nat, k ≤ 31 ∧ v5 = .int .i64 k ∧ wr.ownsRow w.heap.size 3 1 v3 (lst (bit s) k).length ((lst (bit s) k).map (Value.int .i64)) ∧ Below w.heap.size w wr) (fun _ v5 _ => 31 - (intOf v5).toNat)
  case atStart => exact ⟨0, by omega, rfl, (by exact World.ownsRow_nil _ _ _ _), Below.refl _ _⟩
  case round =>
    obtain ⟨k, hk, rfl, hown, hnx⟩ := hrel
    have hc := fun w => has_any s k w
    have hle := lst_le (bit s) k
    have hsu := lst_succ (bit s) k
    have HS := Lib.hid hsu
    clear hsu
    by_cases hlt : k < 31
    · rw [hasB_nat s k hlt] at hc
      cases hb : bit s k with
      | true =>
        rw [hb] at hc
        have HB := Lib.hid hb
        clear hb
        go_wp2_with (first | (go_at_call 15; refine (hc _).mono ?_; rintro e w' ⟨rfl, rfl⟩) | (at_builtin; refine append_one rfl _ _ 26 rfl 3 (.int .i64 0) 8 Try.underlying26 Try.info3 rfl rfl hown hnx (Nat.le_refl _) hnx.size (.int .i64 k) rfl rfl (by decide) (by omega) ?_; intro v' w1 hown1 hnx1))
        go_roundw
        case rel => exact ⟨k + 1, by omega, by go_num, by rw [HS.out, if_pos HB.out]; simpa using hown1, hnx1⟩
        case measure => simp [intOf]; omega
      | false =>
        rw [hb] at hc
        have HB := Lib.hid hb
        clear hb
        go_wp2_with (go_at_call 15; refine (hc _).mono ?_; rintro e w' ⟨rfl, rfl⟩)
        go_roundw
        case rel => exact ⟨k + 1, by omega, by go_num, by rw [HS.out, if_neg (by rw [HB.out]; decide)]; exact hown, hnx⟩
        case measure => simp [intOf]; omega
    · obtain rfl : k = 31 := by omega
      go_wp2
      go_ret
      exact ⟨_, rfl, hown, hnx⟩

set_option maxHeartbeats 400000 in
set_option maxRecDepth 1000000 in
theorem rlist_any (s : Int) (w : World) (hs1 : -9223372036854775808 ≤ s) (hs2 : s ≤ 9223372036854775807) : Calls Try.prog 23 #[.int .i64 s] w (GivesInts (lst (bit s) 31) w) := by
  go_enter Try.func23, Try.ntmps23
  go_wp2
  go_loopw [3, 4] (fun v3 v5 wr => ∃ k : Nat, k ≤ 31 ∧ v5 = .int .i64 k ∧ wr.ownsRow w.heap.size 3 1 v3 (lst (bit s) k).length ((lst (bit s) k).map (Value.int .i64)) ∧ Below w.heap.size w wr) (fun _ v5 _ => 31 - (intOf v5).toNat)
  case atStart => exact ⟨0, by omega, rfl, (by exact World.ownsRow_nil _ _ _ _), Below.refl _ _⟩
  case round =>
    obtain ⟨k, hk, rfl, hown, hnx⟩ := hrel
    have hc := fun w => rhas_any s k w hs1 hs2
    have hle := lst_le (bit s) k
    have hsu := lst_succ (bit s) k
    have HS := Lib.hid hsu
    clear hsu
    by_cases hlt : k < 31
    · rw [hasB_nat s k hlt] at hc
      cases hb : bit s k with
      | true =>
        rw [hb] at hc
        have HB := Lib.hid hb
        clear hb
        go_wp2_with (first | (go_at_call 16; refine (hc _).mono ?_; rintro e w' ⟨rfl, rfl⟩) | (at_builtin; refine append_one rfl _ _ 26 rfl 3 (.int .i64 0) 8 Try.underlying26 Try.info3 rfl rfl hown hnx (Nat.le_refl _) hnx.size (.int .i64 k) rfl rfl (by decide) (by omega) ?_; intro v' w1 hown1 hnx1))
        go_roundw
        case rel => exact ⟨k + 1, by omega, by go_num, by rw [HS.out, if_pos HB.out]; simpa using hown1, hnx1⟩
        case measure => simp [intOf]; omega
      | false =>
        rw [hb] at hc
        have HB := Lib.hid hb
        clear hb
        go_wp2_with (go_at_call 16; refine (hc _).mono ?_; rintro e w' ⟨rfl, rfl⟩)
        go_roundw
        case rel => exact ⟨k + 1, by omega, by go_num, by rw [HS.out, if_neg (by rw [HB.out]; decide)]; exact hown, hnx⟩
        case measure => simp [intOf]; omega
    · obtain rfl : k = 31 := by omega
      go_wp2
      go_ret
      exact ⟨_, rfl, hown, hnx⟩

theorem Try.infoBool : (Try.prog.info? 4).map (fun i => (i.zero, i.size, i.bytes)) = some (some (.bool false), 1, 1) := by kernel_rfl
/-- In: the truths, in memory of its own. -/
def bools (f : Nat → Bool) (n : Nat) : List Value := (List.range n).map (fun k => Value.bool (f k))
theorem bools_succ (f : Nat → Bool) (n : Nat) : bools f (n + 1) = bools f n ++ [.bool (f n)] := by unfold bools; rw [List.range_succ, List.map_append]; rfl
theorem bools_length (f : Nat → Bool) (n : Nat) : (bools f n).length = n := by simp [bools]
theorem bools_at (f : Nat → Bool) (n k : Nat) (h : k < n) : (bools f n)[k]? = some (.bool (f k)) := by simp [bools, h]
def GivesIn (s : Int) (w : World) (e : Ending) (w' : World) : Prop :=
  ∃ v, e = .returned v ∧ w'.ownsRow w.heap.size 4 1 v 31 (bools (bit s) 31) ∧ Below w.heap.size w w'
set_option maxHeartbeats 400000 in
set_option maxRecDepth 1000000 in
theorem in_any (s : Int) (w : World) (hs1 : -9223372036854775808 ≤ s) (hs2 : s ≤ 9223372036854775807) : Calls Try.prog 63 #[.int .i64 s] w (GivesIn s w) := by
  go_enter Try.func63, Try.ntmps63
  go_wp2
  go_loopw [3, 4] (fun v3 v5 wr => ∃ k : Nat, k ≤ 31 ∧ v5 = .int .i64 k ∧ wr.ownsRow w.heap.size 4 1 v3 k (bools (bit s) k) ∧ Below w.heap.size w wr) (fun _ v5 _ => 31 - (intOf v5).toNat)
  case atStart => exact ⟨0, by omega, rfl, (by exact World.ownsRow_nil _ _ _ _), Below.refl _ _⟩
  case round =>
    obtain ⟨k, hk, rfl, hown, hnx⟩ := hrel
    have hc := fun w => rhas_any s k w hs1 hs2
    by_cases hlt : k < 31
    · rw [hasB_nat s k hlt] at hc
      have hsu := bools_succ (bit s) k
      have HS := Lib.hid hsu
      clear hsu
      generalize hb : bit s k = b at *
      have HB := Lib.hid hb
      clear hb
      go_wp2_with (first | (go_at_call 16; refine (hc _).mono ?_; rintro e w' ⟨rfl, rfl⟩) | (at_builtin; refine append_one rfl _ _ 57 rfl 4 (.bool false) 1 Try.underlying57 Try.infoBool rfl rfl hown hnx (Nat.le_refl _) hnx.size (.bool b) rfl rfl (by decide) (by omega) ?_; intro v' w1 hown1 hnx1))
      go_roundw
      case rel => exact ⟨k + 1, by omega, by go_num, by rw [HS.out]; exact hown1, hnx1⟩
      case measure => simp [intOf]; omega
    · obtain rfl : k = 31 := by omega
      go_wp2
      go_ret
      exact ⟨_, rfl, hown, hnx⟩
theorem pow_succ_int (k : Nat) : ((2 ^ (k + 1) : Nat) : Int) = ((2 ^ k : Nat) : Int) * 2 := by rw [Nat.pow_succ]; omega
set_option maxHeartbeats 400000 in
set_option maxRecDepth 1000000 in
theorem sum_any (b off cap : Nat) (f : Nat → Bool) (w : World) (hc : ∀ k, k < 31 → w.cell? ⟨b, off + k, none⟩ = some (.bool (f k))) :
    Calls Try.prog 64 #[.slice (some ⟨b, off, none⟩) 31 cap] w fun e w' => e = .returned (.int .i64 (ofBits f 31)) ∧ w = w' := by
  have HC := Lib.hid hc
  clear hc
  go_enter Try.func64, Try.ntmps64
  go_wp2
  go_loop [3, 4, 5] (fun v3 v4 v5 => ∃ k : Nat, k ≤ 31 ∧ v5 = .int .i64 k ∧ v3 = .int .i64 (ofBits f k) ∧ v4 = .int .i64 ((2 ^ k : Nat) : Int)) (fun _ _ v5 => 31 - (intOf v5).toNat)
  case atStart => exact ⟨0, by omega, rfl, rfl, rfl⟩
  case round =>
    obtain ⟨k, hk, rfl, rfl, rfl⟩ := hrel
    have hl := ofBits_lt f k
    have hp : (2 : Nat) ^ k ≤ 2 ^ 31 := Nat.pow_le_pow_right (by omega) hk
    have hpz : (0 : Int) ≤ ((2 ^ k : Nat) : Int) := Int.natCast_nonneg _
    have hps := pow_succ_int k
    have HPS := Lib.hid hps
    clear hps
    generalize hP : (2 : Nat) ^ k = P at *
    have HP := Lib.hid hP
    clear hP
    have hsu : ofBits f (k + 1) = ofBits f k + if f k then P else 0 := by rw [← HP.out]; rfl
    have HS := Lib.hid hsu
    clear hsu
    by_cases hlt : k < 31
    · have hcell := HC.out k hlt
      cases hb : f k with
      | true =>
        rw [hb] at hcell
        have HB := Lib.hid hb
        clear hb
        go_wp2
        go_round
        case rel => exact ⟨k + 1, by omega, by go_num, by rw [HS.out, if_pos HB.out]; go_num, by rw [HPS.out]⟩
        case measure => simp [intOf]; omega
      | false =>
        rw [hb] at hcell
        have HB := Lib.hid hb
        clear hb
        go_wp2
        go_round
        case rel => exact ⟨k + 1, by omega, by go_num, by rw [HS.out, HB.out]; rfl, by rw [HPS.out]⟩
        case measure => simp [intOf]; omega
    · obtain rfl : k = 31 := by omega
      go_wp2
      go_ret
      exact ⟨rfl, rfl⟩
end Go.Proofs.Ytnljihankodedaa
