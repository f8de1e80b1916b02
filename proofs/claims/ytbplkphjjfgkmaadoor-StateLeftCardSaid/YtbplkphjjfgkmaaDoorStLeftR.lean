/-
  The document's Left: by a walk.
-/
import Derived.Test.YtbplkphjjfgkmaaDoorStLeft
namespace Go.Proofs.YtbplkphjjfgkmaaDoor
open Go.RowKit
set_option linter.unusedVariables false
set_option linter.unusedSimpArgs false

set_option maxHeartbeats 8000000 in
theorem rleft_any (M : Mo) (a : Option Addr) (cc : Nat) (c : List Int) (w : World) (hM : RdM w M) (hc : Reads w a (c.map (Value.int .i64))) (hcm : c.length ≤ 100) (hcf : ∀ x ∈ c, fits x) (hem : M.events.length ≤ 1000) :
    Calls Tryd.prog 49 #[M.val, .slice a c.length cc] w fun e w' => e = .returned (.int .i64 (wrap64 (Lf.left M.events c M.events.length))) ∧ Below w.heap.size w w' := by
  have hu : ∀ b : Bool, ¬ (some undef = some (Value.bool b)) := fun b h => by cases h
  have HMo := Lib.hid (mo_new w M 70)
  have HB := Lib.hid (mbel_new w (.cells #[.slice M.attrs.a M.attrs.n M.attrs.c, .slice M.inits.a M.inits.n M.inits.c, .slice M.users.a M.users.n M.users.c, .slice M.rolesa M.roles.length M.rolesc, .slice M.stagesa M.stages.length M.stagesc, .slice M.eventsa M.events.length M.eventsc, .slice M.guardsa M.guards.length M.guardsc, .slice M.milesa M.miles.length M.milesc, .slice M.sodsa M.sods.length M.sodsc, .slice M.order.a M.order.n M.order.c] 70))
  have HM := Lib.hid hM
  have HC := Lib.hid hc
  have HCF := Lib.hid hcf
  clear hM hc hcf
  unfold Mo.val
  go_enter Tryd.func49, Tryd.ntmps49
  go_upto_region 1 with fail
  generalize (w.alloc (.cells #[.slice M.attrs.a M.attrs.n M.attrs.c, .slice M.inits.a M.inits.n M.inits.c, .slice M.users.a M.users.n M.users.c, .slice M.rolesa M.roles.length M.rolesc, .slice M.stagesa M.stages.length M.stagesc, .slice M.eventsa M.events.length M.eventsc, .slice M.guardsa M.guards.length M.guardsc, .slice M.milesa M.miles.length M.milesc, .slice M.sodsa M.sods.length M.sodsc, .slice M.order.a M.order.n M.order.c] 70)) = W1 at *
  have m5 := HMo.out.c5
  go_wp2_with fail
  go_loopw [5, 6, 7] (fun v5 v6 v7 wr => ∃ (p7 : Value) (k : Nat), v7 = p7 ∧ k ≤ M.events.length ∧ v6 = .int .i64 k ∧ v5 = .int .i64 (wrap64 (Lf.left M.events c k)) ∧ wr = W1) (fun _ v6 _ _ => M.events.length - (intOf v6).toNat)
  case atStart => exact ⟨_, 0, rfl, by omega, rfl, by rw [show Lf.left M.events c 0 = 0 from rfl, Lf.wrap_zero], rfl⟩
  case round =>
    obtain ⟨p7, k, rfl, hk, rfl, rfl, rfl⟩ := hrel
    obtain ⟨W0, rfl⟩ : ∃ W0 : World, W0 = wr := ⟨_, rfl⟩
    by_cases hlt : k < M.events.length
    · obtain ⟨b, off, ha, hrg⟩ := recs_at Ev.cells_len (by omega) HM.out.events k hlt
      have he4 : W0.cell? ⟨b, off + k * 5 + 4, none⟩ = some (.int .i64 M.events[k].times) := mcell_mono (hrg k hlt 4 _ rfl) HB.out (Nat.le_refl _)
      have he3 : W0.cell? ⟨b, off + k * 5 + 3, none⟩ = some (.slice M.events[k].sets.a M.events[k].sets.n M.events[k].sets.c) := mcell_mono (hrg k hlt 3 _ rfl) HB.out (Nat.le_refl _)
      have HL := Lib.hid (Lf.left_succ (c := c) hlt)
      have HT := (HM.out.eventsk _ (List.getElem_mem hlt)).times
      rw [ha] at m5 ⊢
      have hli : (k : Int) < (M.events.length : Int) := by omega
      clear hrg ha
      generalize M.events[k] = x at *
      obtain ⟨nm, role, stage, sets, times⟩ := x
      obtain ⟨sa, n, sc⟩ := sets
      unfold fits at HT
      simp only at HT he3 he4
      generalize Lf.left M.events c k = L at *
      by_cases hkc : k < c.length
      · obtain ⟨cb, co, rfl, hcc⟩ := HC.out.at (by simp; omega)
        have hck := mcell_mono (Reads.int hcc k hkc) HB.out (Nat.le_refl _)
        have HWS0 : Hid (Lf.was c k = max c[k] 0) := Lib.hid (by unfold Lf.was; rw [if_pos hkc]; simp [List.getD_eq_getElem?_getD, hkc])
        have HFX := HCF.out _ (List.getElem_mem hkc)
        clear hcc
        generalize c[k] = y at *
        have hkc' : (k : Int) < (c.length : Int) := by omega
        unfold fits at HFX
        by_cases hpos : 0 < y
        · obtain ⟨ws, hws⟩ : ∃ ws, ws = y := ⟨_, rfl⟩
          have HWS : Hid (Lf.was c k = ws) := Lib.hid (by rw [HWS0.out, hws]; omega)
          have hw0 : 0 ≤ ws := by omega
          have hwf : ws ≤ 9223372036854775807 := by omega
          rw [← hws] at hck hpos
          clear HWS0 hws HFX
          go_wp2
          go_loopw [5, 7] (fun v5 v7 wr => ∃ j : Nat, v7 = .int .i64 (ws + j) ∧ v5 = .int .i64 (wrap64 (L + (j : Int) * (n : Int))) ∧ (j = 0 ∨ ws + j ≤ times) ∧ wr = W0) (fun _ v7 _ => (times - intOf v7).toNat)
          case atStart => exact ⟨0, by simp, by simp, Or.inl rfl, rfl⟩
          case round =>
            obtain ⟨j, rfl, rfl, hj, rfl⟩ := hrel
            by_cases hlt2 : ws + (j : Int) < times
            · have hw1 : wrap64 (ws + (j : Int) + 1) = ws + ((j + 1 : Nat) : Int) := by rw [IntWalk.wrap64_in _ (by omega)]; omega
              have HEQ : Hid (wrap64 (wrap64 (L + (j : Int) * (n : Int)) + (n : Int)) = wrap64 (L + ((j + 1 : Nat) : Int) * (n : Int))) := Lib.hid (by
                rw [Lf.wrap_add1]
                congr 1
                have : ((j + 1 : Nat) : Int) * (n : Int) = (j : Int) * (n : Int) + (n : Int) := by
                  rw [show ((j + 1 : Nat) : Int) = (j : Int) + 1 by omega, Int.add_mul, Int.one_mul]
                rw [this, Int.add_assoc])
              go_wp2
              go_roundw
              case rel => exact ⟨j + 1, congrArg (Value.int .i64) (by omega), by first | exact congrArg _ HEQ.out | (rw [HEQ.out]), Or.inr (by omega), (by first | rfl | trivial)⟩
              case measure => simp [intOf]; omega
            · have HEQ : Hid (wrap64 (L + (j : Int) * (n : Int)) = wrap64 (Lf.left M.events c (k + 1))) := Lib.hid (by
                rw [HL.out, HWS.out]
                unfold Lf.one
                simp only
                rcases hj with h | h
                · subst h
                  rw [if_neg (by omega)]
                  simp
                · by_cases h3 : ws < times
                  · rw [if_pos h3, show times - ws = (j : Int) by omega, Int.mul_comm]
                  · have : (j : Int) = 0 := by omega
                    rw [if_neg h3, this]
                    simp)
              go_wp2
              go_roundw
              case rel => exact ⟨_, k + 1, rfl, by omega, by go_num, by first | exact congrArg _ HEQ.out | (rw [HEQ.out]), (by first | rfl | trivial)⟩
              case measure => simp [intOf]; omega
        · obtain ⟨ws, hws⟩ : ∃ ws : Int, ws = 0 := ⟨_, rfl⟩
          have HWS : Hid (Lf.was c k = ws) := Lib.hid (by rw [HWS0.out, hws]; omega)
          have hw0 : 0 ≤ ws := by omega
          have hwf : ws ≤ 9223372036854775807 := by omega
          have HZ := Lib.hid hws
          clear HWS0 hws HFX
          go_wp2
          go_loopw [5, 7] (fun v5 v7 wr => ∃ j : Nat, v7 = .int .i64 (ws + j) ∧ v5 = .int .i64 (wrap64 (L + (j : Int) * (n : Int))) ∧ (j = 0 ∨ ws + j ≤ times) ∧ wr = W0) (fun _ v7 _ => (times - intOf v7).toNat)
          case atStart => exact ⟨0, by rw [HZ.out]; rfl, by simp, Or.inl rfl, rfl⟩
          case round =>
            obtain ⟨j, rfl, rfl, hj, rfl⟩ := hrel
            by_cases hlt2 : ws + (j : Int) < times
            · have hw1 : wrap64 (ws + (j : Int) + 1) = ws + ((j + 1 : Nat) : Int) := by rw [IntWalk.wrap64_in _ (by omega)]; omega
              have HEQ : Hid (wrap64 (wrap64 (L + (j : Int) * (n : Int)) + (n : Int)) = wrap64 (L + ((j + 1 : Nat) : Int) * (n : Int))) := Lib.hid (by
                rw [Lf.wrap_add1]
                congr 1
                have : ((j + 1 : Nat) : Int) * (n : Int) = (j : Int) * (n : Int) + (n : Int) := by
                  rw [show ((j + 1 : Nat) : Int) = (j : Int) + 1 by omega, Int.add_mul, Int.one_mul]
                rw [this, Int.add_assoc])
              go_wp2
              go_roundw
              case rel => exact ⟨j + 1, congrArg (Value.int .i64) (by omega), by first | exact congrArg _ HEQ.out | (rw [HEQ.out]), Or.inr (by omega), (by first | rfl | trivial)⟩
              case measure => simp [intOf]; omega
            · have HEQ : Hid (wrap64 (L + (j : Int) * (n : Int)) = wrap64 (Lf.left M.events c (k + 1))) := Lib.hid (by
                rw [HL.out, HWS.out]
                unfold Lf.one
                simp only
                rcases hj with h | h
                · subst h
                  rw [if_neg (by omega)]
                  simp
                · by_cases h3 : ws < times
                  · rw [if_pos h3, show times - ws = (j : Int) by omega, Int.mul_comm]
                  · have : (j : Int) = 0 := by omega
                    rw [if_neg h3, this]
                    simp)
              go_wp2
              go_roundw
              case rel => exact ⟨_, k + 1, rfl, by omega, by go_num, by first | exact congrArg _ HEQ.out | (rw [HEQ.out]), (by first | rfl | trivial)⟩
              case measure => simp [intOf]; omega
      · obtain ⟨ws, hws⟩ : ∃ ws : Int, ws = 0 := ⟨_, rfl⟩
        have HWS : Hid (Lf.was c k = ws) := Lib.hid (by unfold Lf.was; rw [if_neg hkc, hws])
        have hw0 : 0 ≤ ws := by omega
        have hwf : ws ≤ 9223372036854775807 := by omega
        have hkc' : ¬ (k : Int) < (c.length : Int) := by omega
        have HZ := Lib.hid hws
        clear hws
        go_wp2
        have hdum : True := trivial
        go_loopw [5, 7] (fun v5 v7 wr => ∃ j : Nat, v7 = .int .i64 (ws + j) ∧ v5 = .int .i64 (wrap64 (L + (j : Int) * (n : Int))) ∧ (j = 0 ∨ ws + j ≤ times) ∧ wr = W0) (fun _ v7 _ => (times - intOf v7).toNat)
        case atStart => exact ⟨0, by rw [HZ.out]; rfl, by simp, Or.inl rfl, rfl⟩
        case round =>
          obtain ⟨j, rfl, rfl, hj, rfl⟩ := hrel
          by_cases hlt2 : ws + (j : Int) < times
          · have hw1 : wrap64 (ws + (j : Int) + 1) = ws + ((j + 1 : Nat) : Int) := by rw [IntWalk.wrap64_in _ (by omega)]; omega
            have HEQ : Hid (wrap64 (wrap64 (L + (j : Int) * (n : Int)) + (n : Int)) = wrap64 (L + ((j + 1 : Nat) : Int) * (n : Int))) := Lib.hid (by
              rw [Lf.wrap_add1]
              congr 1
              have : ((j + 1 : Nat) : Int) * (n : Int) = (j : Int) * (n : Int) + (n : Int) := by
                rw [show ((j + 1 : Nat) : Int) = (j : Int) + 1 by omega, Int.add_mul, Int.one_mul]
              rw [this, Int.add_assoc])
            go_wp2
            go_roundw
            case rel => exact ⟨j + 1, congrArg (Value.int .i64) (by omega), by first | exact congrArg _ HEQ.out | (rw [HEQ.out]), Or.inr (by omega), (by first | rfl | trivial)⟩
            case measure => simp [intOf]; omega
          · have HEQ : Hid (wrap64 (L + (j : Int) * (n : Int)) = wrap64 (Lf.left M.events c (k + 1))) := Lib.hid (by
              rw [HL.out, HWS.out]
              unfold Lf.one
              simp only
              rcases hj with h | h
              · subst h
                rw [if_neg (by omega)]
                simp
              · by_cases h3 : ws < times
                · rw [if_pos h3, show times - ws = (j : Int) by omega, Int.mul_comm]
                · have : (j : Int) = 0 := by omega
                  rw [if_neg h3, this]
                  simp)
            go_wp2
            go_roundw
            case rel => exact ⟨_, k + 1, rfl, by omega, by go_num, by first | exact congrArg _ HEQ.out | (rw [HEQ.out]), (by first | rfl | trivial)⟩
            case measure => simp [intOf]; omega
    · obtain rfl : k = M.events.length := by omega
      go_wp2
      go_ret
      exact ⟨rfl, HB.out⟩
end Go.Proofs.YtbplkphjjfgkmaaDoor
