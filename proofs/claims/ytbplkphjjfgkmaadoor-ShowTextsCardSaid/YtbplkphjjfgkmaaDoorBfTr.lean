/-
  warderref04.Begin, Check, Uses; tree.Uses: by walks.
-/
import Derived.Test.YtbplkphjjfgkmaaDoorBfOps
namespace Go.Proofs.YtbplkphjjfgkmaaDoor
open Go.RowKit
set_option linter.unusedVariables false
set_option linter.unusedSimpArgs false

set_option maxHeartbeats 1000000 in
theorem rbegin_any (a : Option Addr) (c : Nat) (l : List It) (k : Nat) (w : World) (hl : RdI w a l) (hm : l.length ≤ 64) (hk : k ≤ l.length) :
    Calls Tryd.prog 143 #[.slice a l.length c, .int .i64 ((k : Int) - 1)] w fun e w' => e = .returned (.int .i64 (Tr.bw (opsOf l) k 1)) ∧ w = w' := by
  have hu : ∀ b : Bool, ¬ (some undef = some (Value.bool b)) := fun b h => by cases h
  have HL := Lib.hid hl
  clear hl
  obtain ⟨R, hR⟩ : ∃ R, Tr.bw (opsOf l) k 1 = R := ⟨_, rfl⟩
  rw [hR]
  have HR := Lib.hid hR
  clear hR
  go_enter Tryd.func143, Tryd.ntmps143
  go_wp2_with fail
  go_loopw [5, 6] (fun v5 v6 wr => ∃ (j : Nat) (z : Int), v6 = .int .i64 ((j : Int) - 1) ∧ v5 = .int .i64 z ∧ j ≤ k ∧ 1 ≤ z ∧ z ≤ 1 + (k - j : Nat) ∧ Hid (Tr.bw (opsOf l) j z = R) ∧ w = wr) (fun _ v6 _ => (intOf v6 + 1).toNat)
  case atStart => exact ⟨k, 1, rfl, rfl, Nat.le_refl _, by omega, by omega, HR, rfl⟩
  case round =>
    obtain ⟨j, z, rfl, rfl, hj, hz1, hz2, HB, rfl⟩ := hrel
    cases j with
    | zero =>
      have HA : Hid (R = -1) := Lib.hid (by rw [← HB.out]; rfl)
      go_wp2_with fail
      go_ret
      exact ⟨ret_int HA.out.symm, rfl⟩
    | succ j =>
      have hjl : j < l.length := by omega
      obtain ⟨b, off, ha, hrg⟩ := HL.out.at (by omega)
      subst ha
      have hop := RdI.op (hrg j hjl)
      have hb := Tr.ar_bd l[j].op
      have AR := Lib.hid (rarity_any l[j].op w)
      have hbw : Tr.bw (opsOf l) (j + 1) z = if Tr.ar l[j].op < 0 then -1 else if z + Tr.ar l[j].op - 1 = 0 then (j : Int) else Tr.bw (opsOf l) j (z + Tr.ar l[j].op - 1) := by
        conv => lhs; unfold Tr.bw
        rw [opsOf_at hjl]
      have HBW := Lib.hid (hbw.symm.trans HB.out)
      have he : ((j + 1 : Nat) : Int) - 1 = (j : Int) := by omega
      rw [he]
      clear hrg hbw he
      generalize l[j].op = op at *
      unfold ArAns at AR
      obtain ⟨n, hn⟩ : ∃ n, Tr.ar op = n := ⟨_, rfl⟩
      rw [hn] at AR HBW hb
      clear hn
      by_cases hneg : n < 0
      · have HA : Hid (R = -1) := Lib.hid (by rw [← HBW.out, if_pos hneg])
        go_wp2_with (go_at_call 178; refine AR.out.mono ?_; rintro e w2 ⟨rfl, rfl⟩)
        go_ret
        exact ⟨ret_int HA.out.symm, rfl⟩
      · by_cases hze : z + n - 1 = 0
        · have HA : Hid (R = (j : Int)) := Lib.hid (by rw [← HBW.out, if_neg hneg, if_pos hze])
          have hzn : z = 1 - n := by omega
          have hz0 : (z + (n - 1) == 0) = true := by rw [beq_iff_eq]; omega
          clear hze hzn
          go_wp2_with (go_at_call 178; refine AR.out.mono ?_; rintro e w2 ⟨rfl, rfl⟩)
          go_ret
          exact ⟨ret_int HA.out.symm, rfl⟩
        · have HA : Hid (Tr.bw (opsOf l) j (z + (n - 1)) = R) := Lib.hid (by rw [← HBW.out, if_neg hneg, if_neg hze, show z + n - 1 = z + (n - 1) by omega])
          have hz0 : (z + (n - 1) == 0) = false := by rw [beq_eq_false_iff_ne]; omega
          have hz3 : 1 ≤ z + (n - 1) := by omega
          clear hze
          go_wp2_with (go_at_call 178; refine AR.out.mono ?_; rintro e w2 ⟨rfl, rfl⟩)
          go_roundw
          case rel => exact ⟨j, z + (n - 1), by first | rfl | go_num, rfl, by omega, by omega, by omega, HA, trivial⟩
          case measure => simp [intOf] <;> omega
theorem rcheck_any (a : Option Addr) (c : Nat) (l : List It) (w : World) (hl : RdI w a l) (hm : l.length ≤ maxLen) :
    Calls Tryd.prog 81 #[.slice a l.length c] w fun e w' => e = .returned (.int .i64 (chk l)) ∧ w = w' := by
  have hu : ∀ b : Bool, ¬ (some undef = some (Value.bool b)) := fun b h => by cases h
  have hm2 : l.length ≤ 9223372036854775807 := by unfold maxLen at hm; omega
  by_cases h0 : l.length = 0
  · have hc : chk l = 12 := by unfold chk; rw [if_pos h0]
    rw [hc, h0]
    clear hl hm hm2 hc
    go_enter Tryd.func81, Tryd.ntmps81
    go_wp2_with fail
    go_ret
    exact ⟨rfl, rfl⟩
  · have hne : ((l.length : Int) == 0) = false := by rw [beq_eq_false_iff_ne]; omega
    have hpos : 0 < l.length := by omega
    by_cases h64 : 64 < l.length
    · have hc : chk l = 3 := by unfold chk; rw [if_neg h0, if_pos h64]
      rw [hc]
      clear hl hm hc h0
      go_enter Tryd.func81, Tryd.ntmps81
      go_wp2_with fail
      go_ret
      exact ⟨rfl, rfl⟩
    · have BG := Lib.hid (rbegin_any a c l l.length w hl (by omega) (Nat.le_refl _))
      have hc : chk l = if Tr.bw (opsOf l) l.length 1 = 0 then 0 else 17 := by
        unfold chk
        rw [if_neg h0, if_neg h64]
        unfold Tr.okF
        rw [opsOf_len]
        by_cases hb : Tr.bw (opsOf l) l.length 1 = 0
        · rw [if_pos hb, if_pos (decide_eq_true hb)]
        · rw [if_neg hb, if_neg (by rw [decide_eq_false hb]; decide)]
      rw [hc]
      obtain ⟨R, hR⟩ : ∃ R, Tr.bw (opsOf l) l.length 1 = R := ⟨_, rfl⟩
      rw [hR] at BG ⊢
      clear hl hm hc h0 hR
      by_cases hb : R = 0
      · subst hb
        rw [if_pos rfl]
        go_enter Tryd.func81, Tryd.ntmps81
        go_wp2_with fail
        refine BG.out.mono ?_
        rintro e w2 ⟨rfl, rfl⟩
        go_wp2_with fail
        go_ret
        exact ⟨rfl, rfl⟩
      · rw [if_neg hb]
        have hb2 : (R != 0) = true := by rw [bne_iff_ne]; exact hb
        clear hb
        go_enter Tryd.func81, Tryd.ntmps81
        go_wp2_with fail
        refine BG.out.mono ?_
        rintro e w2 ⟨rfl, rfl⟩
        go_wp2_with fail
        go_ret
        exact ⟨rfl, rfl⟩
end Go.Proofs.YtbplkphjjfgkmaaDoor
