/-
  The law on lines: by a walk.
-/
import Derived.Test.YtgjbchkplpdeiaaLineWalks
namespace Go.Proofs.Ytgjbchkplpdeiaa
open Go.RowKit
set_option linter.unusedVariables false
set_option linter.unusedSimpArgs false

set_option maxHeartbeats 4000000 in
theorem textLine_walk (s : ByteArray) (n : Int) (hl : s.size ≤ 9223372036854775807) (hn : -9223372036854775808 ≤ n ∧ n ≤ 9223372036854775807) (w : World) :
    Calls Try.prog 5 #[.string s, .int .i64 n] w fun e w' => e = .returned (.bool true) ∧ Below w.heap.size w w' := by
  by_cases hbig : 5000 < s.size
  · have h1 : (5000 : Int) < (s.size : Int) := by omega
    go_enter Try.func5, Try.ntmps5
    go_wp2_with fail
    refine (awake_end w w (Below.refl _ _)).mono ?_
    rintro e w3 ⟨rfl, hb3⟩
    go_wp2_with fail
    go_ret
    exact ⟨rfl, hb3⟩
  · have h1 : ¬ (5000 : Int) < (s.size : Int) := by omega
    have LA := Lib.hid (fun w m hm => line_any s m w (by omega) hm)
    have LR := Lib.hid (fun w => rline_any s n w (by omega) hn)
    have HB := Lib.hid (Below.refl w.heap.size w)
    go_enter Try.func5, Try.ntmps5
    go_wp2_with fail
    refine (LA.out _ _ hn).mono ?_
    rintro e w1 ⟨rfl, d1, rfl⟩
    go_wp2_with fail
    refine (LR.out _).mono ?_
    rintro e w1 ⟨rfl, rfl⟩
    have h00 : ((Ln.lineB s n).toList == (Ln.lineB s n).toList) = true := by simp
    generalize Ln.lineB s n = tn at *
    go_wp2_with fail
    go_loopw [5, 6] (fun v5 v6 wr => ∃ i : Nat, i ≤ s.size ∧ v5 = .int .i64 ((Ln.cnt s i : Nat) + 1 : Int) ∧ v6 = .int .i64 i ∧ wr = w.drewN d1) (fun _ v6 _ => s.size - (intOf v6).toNat)
    case atStart => exact ⟨0, by omega, by unfold Ln.cnt; simp, rfl, rfl⟩
    case round =>
      obtain ⟨i, hi, rfl, rfl, rfl⟩ := hrel
      have hcl := Ln.cnt_le s i
      by_cases hlt : i < s.size
      · have hb : (s[i]'hlt).toNat = byt s i := byt_at s i hlt
        have hcs := Ln.cnt_succ s i hlt
        have HCS := Lib.hid hcs
        clear hcs
        generalize Ln.cnt s i = c at *
        by_cases h10 : byt s i = 10
        · rw [h10] at hb
          have HC := Lib.hid h10
          clear h10
          go_wp2_with fail
          go_roundw
          case rel => exact ⟨i + 1, by omega, by rw [HCS.out, if_pos HC.out]; go_num, by go_num, trivial⟩
          case measure => simp [intOf]; omega
        · have hne : (byt s i == 10) = false := by simp [h10]
          have HC := Lib.hid h10
          clear h10
          go_wp2_with fail
          go_roundw
          case rel => exact ⟨i + 1, by omega, by rw [HCS.out, if_neg HC.out]; rfl, by go_num, trivial⟩
          case measure => simp [intOf]; omega
      · have hie : i = s.size := by omega
        subst hie
        have ja := Ln.joinB_all s
        have ll := Ln.line_last s
        rw [← Ln.cnt_all] at ja ll
        have JA := Lib.hid ja
        have LL := Lib.hid ll
        clear ja ll
        generalize Ln.cnt s s.size = c at *
        by_cases hc : 200 < (c : Int) + 1
        · go_wp2_with fail
          refine (awake_end w _ (below_drewN HB.out _)).mono ?_
          rintro e w3 ⟨rfl, hb3⟩
          go_wp2_with fail
          go_ret
          exact ⟨rfl, hb3⟩
        · go_wp2_with fail
          refine (LA.out _ _ (by omega)).mono ?_
          rintro e w1 ⟨rfl, d2, rfl⟩
          have j0 := Ln.joinB_zero s
          rw [← j0]
          clear j0
          go_wp2_with fail
          go_loopw [7, 8] (fun v7 v8 wr => ∃ k : Nat, k ≤ c ∧ v7 = .string (Ln.joinB s k) ∧ v8 = .int .i64 ((k : Int) + 2) ∧ ∃ d, wr = w.drewN d) (fun _ v8 _ => c + 2 - (intOf v8).toNat)
          case atStart => exact ⟨0, by omega, rfl, rfl, _, rfl⟩
          case round =>
            obtain ⟨k, hk, rfl, rfl, d, rfl⟩ := hrel
            by_cases hkc : k < c
            · have hle : (k : Int) + 2 ≤ (c : Int) + 1 := by omega
              have js := Ln.joinB_succ s k
              have jl := Ln.joinB_len s k
              have nl := Ln.lineB_len s ((k : Int) + 2)
              have jb : (Ln.joinB s k).size ≤ 1200000 := by
                have : (k + 1) * (s.size + 1) ≤ 201 * 5001 := Nat.mul_le_mul (by omega) (by omega)
                omega
              have JS := Lib.hid js
              clear js jl
              go_wp2_with fail
              refine (LA.out _ _ (by omega)).mono ?_
              rintro e w1 ⟨rfl, d3, rfl⟩
              generalize Ln.joinB s k = jk at *
              generalize Ln.lineB s ((k : Int) + 2) = lk at *
              go_wp2_with fail
              go_roundw
              case rel => exact ⟨k + 1, by omega, by rw [JS.out], by go_num, _, rfl⟩
              case measure => simp [intOf]; omega
            · have hkc2 : k = c := by omega
              subst hkc2
              rw [JA.out]
              have hle : ¬ (k : Int) + 2 ≤ (k : Int) + 1 := by omega
              have e1 : (s.toList == s.toList) = true := by simp
              go_wp2_with fail
              refine (LA.out _ _ (by omega)).mono ?_
              rintro e w1 ⟨rfl, d3, rfl⟩
              have L1 : Ln.lineB s ((k : Int) + 1 + 1) = ⟨#[]⟩ := by
                rw [show (k : Int) + 1 + 1 = (k : Int) + 2 by omega]; exact LL.out
              have L0 : Ln.lineB s 0 = ⟨#[]⟩ := Ln.lineB_low s 0 (by omega)
              rw [L1]
              have e2 : ((⟨#[]⟩ : ByteArray).toList == (⟨#[]⟩ : ByteArray).toList) = true := by simp
              clear L1
              go_wp2_with fail
              refine (LA.out _ _ (by omega)).mono ?_
              rintro e w1 ⟨rfl, d4, rfl⟩
              rw [L0]
              clear L0
              go_wp2_with fail
              refine (awake_end w _ (below_drewN HB.out _)).mono ?_
              rintro e w3 ⟨rfl, hb3⟩
              go_wp2_with fail
              go_ret
              exact ⟨rfl, hb3⟩
end Go.Proofs.Ytgjbchkplpdeiaa
