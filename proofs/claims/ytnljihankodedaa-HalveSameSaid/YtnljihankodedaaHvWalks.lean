/-
  halve.Cap, Clip, Merge, warderref21.Cap, Clip: by walks.
-/
import Derived.Test.YtnljihankodedaaHvPlain
namespace Go.Proofs.Ytnljihankodedaa
open Go.RowKit
set_option linter.unusedVariables false
set_option linter.unusedSimpArgs false

theorem cap_at (r : Int) (k : Nat) (h : r = k) (hk : k ≤ 20) : Hv.cap r = 2 ^ k - 1 := by
  unfold Hv.cap
  rw [show (min (max r 0) 20).toNat = k by omega]
set_option maxHeartbeats 4000000 in
theorem cap_any (r : Int) (w : World) : Calls Try.prog 32 #[.int .i64 r] w fun e w' => e = .returned (.int .i64 (Hv.cap r : Nat)) ∧ w = w' := by
  have hc : r ≤ 0 ∨ r = 1 ∨ r = 2 ∨ r = 3 ∨ r = 4 ∨ r = 5 ∨ r = 6 ∨ r = 7 ∨ r = 8 ∨ r = 9 ∨ r = 10 ∨ r = 11 ∨ r = 12 ∨ r = 13 ∨ r = 14 ∨ r = 15 ∨ r = 16 ∨ r = 17 ∨ r = 18 ∨ r = 19 ∨ 20 ≤ r := by omega
  rcases hc with h | rfl | rfl | rfl | rfl | rfl | rfl | rfl | rfl | rfl | rfl | rfl | rfl | rfl | rfl | rfl | rfl | rfl | rfl | rfl | h
  · rw [Hv.cap_low r h]
    go_enter Try.func32, Try.ntmps32
    go_wp2
    all_goals go_ret
    all_goals refine ⟨?_, rfl⟩
    all_goals first | (have e0 : r = 0 := by omega
                       subst e0
                       simp [wrap64]) | simp [wrap64]
  all_goals try
    go_enter Try.func32, Try.ntmps32
    go_wp2
    go_ret
    exact ⟨rfl, rfl⟩
  · rw [Hv.cap_high r h]
    go_enter Try.func32, Try.ntmps32
    go_wp2
    all_goals go_ret
    all_goals refine ⟨?_, rfl⟩
    all_goals first | (have e0 : r = 20 := by omega
                       subst e0
                       simp [wrap64]) | simp [wrap64]
set_option maxHeartbeats 400000 in
theorem rcap_any (r : Int) (w : World) : Calls Try.prog 33 #[.int .i64 r] w fun e w' => e = .returned (.int .i64 (Hv.cap r : Nat)) ∧ w = w' := by
  have hu : ∀ b : Bool, ¬ (some undef = some (Value.bool b)) := fun b h => by cases h
  go_enter Try.func33, Try.ntmps33
  go_wp2
  go_loopw [3, 4] (fun v3 v4 wr => ∃ k : Nat, k ≤ 20 ∧ ((k : Int) ≤ r ∨ k = 0) ∧ v4 = .int .i64 k ∧ v3 = .int .i64 (Hv.cap k : Nat) ∧ w = wr) (fun _ v4 _ => 20 - (intOf v4).toNat)
  case atStart => exact ⟨0, by omega, Or.inr rfl, rfl, rfl, rfl⟩
  case round =>
    obtain ⟨k, hk, hkr, rfl, rfl, rfl⟩ := hrel
    have hle := Hv.cap_le k
    by_cases h1 : (k : Int) < r
    · by_cases h2 : k < 20
      · have hst := Hv.cap_step k (by omega) (by omega)
        have HST := Lib.hid hst
        clear hst
        generalize Hv.cap k = q at *
        go_wp2
        go_roundw
        case rel => exact ⟨k + 1, by omega, Or.inl (by omega), by go_num, by rw [show (((k + 1 : Nat) : Int)) = (k : Int) + 1 by omega, HST.out]; exact congrArg _ (by omega), trivial⟩
        case measure => simp [intOf]; omega
      · have hfin : Hv.cap r = Hv.cap k := by
          rw [Hv.cap_high r (by omega), Hv.cap_high k (by omega)]
        have HF := Lib.hid hfin
        clear hfin
        go_wp2
        go_ret
        exact ⟨by rw [HF.out]; rfl, rfl⟩
    · have hfin : Hv.cap r = Hv.cap k := by
        rcases hkr with h3 | h3
        · rw [show r = (k : Int) by omega]
        · subst h3
          rw [Hv.cap_low r (by omega), Hv.cap_low _ (by omega)]
      have HF := Lib.hid hfin
      clear hfin
      go_wp2
      go_ret
      exact ⟨by rw [HF.out]; rfl, rfl⟩
set_option maxHeartbeats 400000 in
theorem clip_any (g r : Int) (w : World) (hg : -9223372036854775808 ≤ g ∧ g ≤ 9223372036854775807) : Calls Try.prog 34 #[.int .i64 g, .int .i64 r] w fun e w' => e = .returned (.int .i64 (Hv.clip g r : Nat)) ∧ w = w' := by
  have C := Lib.hid (cap_any r w)
  have hle := Hv.cap_le r
  have hcl : Hv.clip g r = min g.toNat (Hv.cap r) := rfl
  generalize Hv.cap r = q at *
  generalize Hv.clip g r = z at *
  by_cases h0 : 0 ≤ g
  · by_cases h1 : g ≤ (q : Int)
    · have hz : (z : Int) = g := by omega
      clear hcl
      go_enter Try.func34, Try.ntmps34
      go_wp2_with (go_at_call 32; refine (C.out).mono ?_; rintro e w' ⟨rfl, rfl⟩)
      all_goals go_ret
      all_goals exact ⟨by first | (rw [hz]; rfl) | (exfalso; omega), rfl⟩
    · have hz : z = q := by omega
      subst hz
      clear hcl
      go_enter Try.func34, Try.ntmps34
      go_wp2_with (go_at_call 32; refine (C.out).mono ?_; rintro e w' ⟨rfl, rfl⟩)
      all_goals go_ret
      all_goals exact ⟨by first | rfl | (exfalso; omega), rfl⟩
  · have hz : z = 0 := by omega
    subst hz
    clear hcl
    go_enter Try.func34, Try.ntmps34
    go_wp2_with (go_at_call 32; refine (C.out).mono ?_; rintro e w' ⟨rfl, rfl⟩)
    all_goals go_ret
    all_goals exact ⟨by first | rfl | (exfalso; omega), rfl⟩
set_option maxHeartbeats 400000 in
theorem rclip_any (g r : Int) (w : World) (hg : -9223372036854775808 ≤ g ∧ g ≤ 9223372036854775807) : Calls Try.prog 35 #[.int .i64 g, .int .i64 r] w fun e w' => e = .returned (.int .i64 (Hv.clip g r : Nat)) ∧ w = w' := by
  have C := Lib.hid (rcap_any r w)
  have hle := Hv.cap_le r
  have hcl : Hv.clip g r = min g.toNat (Hv.cap r) := rfl
  generalize Hv.cap r = q at *
  generalize Hv.clip g r = z at *
  by_cases h0 : g < 0
  · have hz : z = 0 := by omega
    subst hz
    clear hcl
    go_enter Try.func35, Try.ntmps35
    go_wp2
    go_ret
    exact ⟨rfl, rfl⟩
  · by_cases h1 : g ≤ (q : Int)
    · have hz : (z : Int) = g := by omega
      clear hcl
      go_enter Try.func35, Try.ntmps35
      go_wp2_with (go_at_call 33; refine (C.out).mono ?_; rintro e w' ⟨rfl, rfl⟩)
      all_goals go_ret
      all_goals exact ⟨by first | (rw [hz]; rfl) | (exfalso; omega), rfl⟩
    · have hz : z = q := by omega
      subst hz
      clear hcl
      go_enter Try.func35, Try.ntmps35
      go_wp2_with (go_at_call 33; refine (C.out).mono ?_; rintro e w' ⟨rfl, rfl⟩)
      all_goals go_ret
      all_goals exact ⟨by first | rfl | (exfalso; omega), rfl⟩
set_option maxHeartbeats 400000 in
theorem merge_any (a b r : Int) (w : World) (ha : -9223372036854775808 ≤ a ∧ a ≤ 9223372036854775807) (hb : -9223372036854775808 ≤ b ∧ b ≤ 9223372036854775807) : Calls Try.prog 36 #[.int .i64 a, .int .i64 b, .int .i64 r] w fun e w' => e = .returned (.int .i64 (Hv.clip ((Hv.clip a r : Nat) + 1 + (Hv.clip b r : Nat)) r : Nat)) ∧ w = w' := by
  have h1 := Hv.clip_le a r
  have h2 := Hv.clip_le b r
  have C1 := Lib.hid (clip_any a r w ha)
  have C2 := Lib.hid (clip_any b r w hb)
  have C3 := Lib.hid (clip_any ((Hv.clip a r : Nat) + 1 + (Hv.clip b r : Nat)) r w (by omega))
  go_enter Try.func36, Try.ntmps36
  go_wp2_with fail
  refine (C1.out).mono ?_
  rintro e w' ⟨rfl, rfl⟩
  go_wp2_with fail
  refine (C2.out).mono ?_
  rintro e w' ⟨rfl, rfl⟩
  go_wp2_with fail
  refine (C3.out).mono ?_
  rintro e w' ⟨rfl, rfl⟩
  go_wp2_with fail
  go_ret
  exact ⟨rfl, rfl⟩
end Go.Proofs.Ytnljihankodedaa
