/-
  state.Left: by a walk.
-/
import Derived.Test.YtbplkphjjfgkmaaDoorStMo
import Derived.Test.YtbplkphjjfgkmaaDoorStText
import Derived.BigQuiet
import Derived.Deep.Cut
namespace Go.Proofs.YtbplkphjjfgkmaaDoor
open Go.RowKit
set_option linter.unusedVariables false
set_option linter.unusedSimpArgs false

namespace Lf
/-- How often an event was, as it is counted. -/
def was (c : List Int) (k : Nat) : Int := if k < c.length then max (c.getD k 0) 0 else 0
theorem was_pos (c : List Int) (k : Nat) : 0 ≤ was c k := by unfold was; split <;> omega
def one (x : Ev) (ws : Int) : Int := if ws < x.times then (x.sets.n : Int) * (x.times - ws) else 0
def left (es : List Ev) (c : List Int) : Nat → Int
  | 0 => 0
  | k + 1 => left es c k + (match es[k]? with | some x => one x (was c k) | none => 0)
theorem left_succ {es : List Ev} {c : List Int} {k : Nat} (h : k < es.length) : left es c (k + 1) = left es c k + one es[k] (was c k) := by
  simp [left, List.getElem?_eq_getElem h]
theorem wrap_add (x y : Int) : wrap64 (wrap64 x + wrap64 y) = wrap64 (x + y) := by unfold wrap64; omega
theorem wrap_add1 (x y : Int) : wrap64 (wrap64 x + y) = wrap64 (x + y) := by unfold wrap64; omega
theorem wrap_zero : wrap64 0 = 0 := by unfold wrap64; omega
end Lf
theorem lfsizeEv : (Tryd.prog.info? 74).map (·.size) = some 5 := by kernel_rfl
set_option maxHeartbeats 8000000 in
theorem left_any (M : Mo) (a : Option Addr) (cc : Nat) (c : List Int) (w : World) (hM : RdM w M) (hc : Reads w a (c.map (Value.int .i64))) (hcm : c.length ≤ 100) (hcf : ∀ x ∈ c, fits x) (hem : M.events.length ≤ 1000) :
    Calls Tryd.prog 48 #[M.val, .slice a c.length cc] w fun e w' => e = .returned (.int .i64 (wrap64 (Lf.left M.events c M.events.length))) ∧ Below w.heap.size w w' := by
  have hu : ∀ b : Bool, ¬ (some undef = some (Value.bool b)) := fun b h => by cases h
  have HMo := Lib.hid (mo_new w M 70)
  have HB := Lib.hid (mbel_new w (.cells #[.slice M.attrs.a M.attrs.n M.attrs.c, .slice M.inits.a M.inits.n M.inits.c, .slice M.users.a M.users.n M.users.c, .slice M.rolesa M.roles.length M.rolesc, .slice M.stagesa M.stages.length M.stagesc, .slice M.eventsa M.events.length M.eventsc, .slice M.guardsa M.guards.length M.guardsc, .slice M.milesa M.miles.length M.milesc, .slice M.sodsa M.sods.length M.sodsc, .slice M.order.a M.order.n M.order.c] 70))
  have HM := Lib.hid hM
  have HC := Lib.hid hc
  have HCF := Lib.hid hcf
  clear hM hc hcf
  unfold Mo.val
  go_enter Tryd.func48, Tryd.ntmps48
  go_upto_region 1 with fail
  generalize (w.alloc (.cells #[.slice M.attrs.a M.attrs.n M.attrs.c, .slice M.inits.a M.inits.n M.inits.c, .slice M.users.a M.users.n M.users.c, .slice M.rolesa M.roles.length M.rolesc, .slice M.stagesa M.stages.length M.stagesc, .slice M.eventsa M.events.length M.eventsc, .slice M.guardsa M.guards.length M.guardsc, .slice M.milesa M.miles.length M.milesc, .slice M.sodsa M.sods.length M.sodsc, .slice M.order.a M.order.n M.order.c] 70)) = W1 at *
  have m5 := HMo.out.c5
  go_wp2_with fail
  go_loopw [5, 6, 7, 8, 12] (fun v5 v6 v7 v8 v12 wr => ∃ (p6 p7 p8 : Value) (k : Nat), v6 = p6 ∧ v7 = p7 ∧ v8 = p8 ∧ k ≤ M.events.length ∧ v12 = .int .i64 k ∧ v5 = .int .i64 (wrap64 (Lf.left M.events c k)) ∧ Hid (Below W1.heap.size W1 wr)) (fun _ _ _ _ v12 _ => M.events.length - (intOf v12).toNat)
  case atStart => exact ⟨_, _, _, 0, rfl, rfl, rfl, by omega, rfl, by rw [show Lf.left M.events c 0 = 0 from rfl, Lf.wrap_zero], Lib.hid (Below.refl _ _)⟩
  case round =>
    obtain ⟨p6, p7, p8, k, rfl, rfl, rfl, hk, rfl, rfl, HBR⟩ := hrel
    have HBW := Lib.hid (HB.out.trans (HBR.out.mono HB.out.size))
    by_cases hlt : k < M.events.length
    · obtain ⟨b, off, ha, hrg⟩ := recs_at Ev.cells_len (by omega) HM.out.events k hlt
      have hrw : wr.rangeAt b (off + k * 5) M.events[k].cells := fun j v hj => mcell_mono (hrg k hlt j v hj) HBW.out (Nat.le_refl _)
      have HL := Lib.hid (Lf.left_succ (c := c) hlt)
      have HXO := HM.out.eventsk _ (List.getElem_mem hlt)
      have HT := HXO.times
      generalize M.events[k] = x at *
      obtain ⟨nm, role, stage, sets, times⟩ := x
      have hrw2 : wr.rangeAt b (off + k * 5) [.string nm, .int .i64 role, .int .i64 stage, .slice sets.a sets.n sets.c, .int .i64 times] := hrw
      rw [ha]
      have HBA : Hid (∀ o, Below W1.heap.size W1 (wr.alloc o)) := Lib.hid fun o => HBR.out.trans ((mbel_new wr o).mono HBR.out.size)
      clear hrg hrw HXO ha
      unfold fits at HT
      simp only at HT
      generalize Lf.left M.events c k = L at *
      by_cases hkc : k < c.length
      · obtain ⟨cb, co, rfl, hcc⟩ := HC.out.at (by simp; omega)
        have hck := mcell_mono (Reads.int hcc k hkc) HBW.out (Nat.le_refl _)
        have HWS : Hid (Lf.was c k = max c[k] 0) := Lib.hid (by unfold Lf.was; rw [if_pos hkc]; simp [List.getD_eq_getElem?_getD, hkc])
        have HFX := HCF.out _ (List.getElem_mem hkc)
        clear hcc
        generalize c[k] = x at *
        have hca : ∀ o, (wr.alloc o).cell? ⟨cb, co + k, none⟩ = some (.int .i64 x) := fun o => mcell_mono hck (mbel_new wr o) (Nat.le_refl _)
        have hkc' : (k : Int) < (c.length : Int) := by omega
        unfold fits at HFX
        generalize hws : max x 0 = ws at *
        have hmx : max x 0 = ws := hws
        have hw0 : 0 ≤ ws := by omega
        clear hws
        by_cases hlt2 : ws < times
        · have hs1 : wrap64 (times - ws) = times - ws := IntWalk.wrap64_in _ (by omega)
          have HEQ : Hid (wrap64 (wrap64 L + wrap64 ((sets.n : Int) * (times - ws))) = wrap64 (Lf.left M.events c (k + 1))) := Lib.hid (by rw [Lf.wrap_add, HL.out, HWS.out]; unfold Lf.one; rw [if_pos hlt2])
          clear HL HWS
          go_wp2_with (refine wpList_load_mid rfl 74 (.tmp 15) rfl b (off + k * 5) rfl _ _ hrw2 Tryd.underlying74 rfl lfsizeEv ?_)
          go_roundw
          case rel => exact ⟨_, _, _, k + 1, rfl, rfl, rfl, by omega, by go_num, by first | exact congrArg _ HEQ.out | (rw [← HEQ.out]), HBA.out _⟩
          case measure => simp [intOf]; omega
        · have HEQ : Hid (wrap64 L = wrap64 (Lf.left M.events c (k + 1))) := Lib.hid (by rw [HL.out, HWS.out]; unfold Lf.one; rw [if_neg hlt2, Int.add_zero])
          clear HL HWS
          go_wp2_with (refine wpList_load_mid rfl 74 (.tmp 15) rfl b (off + k * 5) rfl _ _ hrw2 Tryd.underlying74 rfl lfsizeEv ?_)
          go_roundw
          case rel => exact ⟨_, _, _, k + 1, rfl, rfl, rfl, by omega, by go_num, by first | exact congrArg _ HEQ.out | (rw [← HEQ.out]), HBA.out _⟩
          case measure => simp [intOf]; omega
      · have HWS : Hid (Lf.was c k = 0) := Lib.hid (by unfold Lf.was; rw [if_neg hkc])
        have hkc' : ¬ (k : Int) < (c.length : Int) := by omega
        by_cases hlt2 : 0 < times
        · have HEQ : Hid (wrap64 (wrap64 L + wrap64 ((sets.n : Int) * times)) = wrap64 (Lf.left M.events c (k + 1))) := Lib.hid (by rw [Lf.wrap_add, HL.out, HWS.out]; unfold Lf.one; rw [if_pos hlt2, Int.sub_zero])
          have hs1 : wrap64 times = times := IntWalk.wrap64_in _ (by omega)
          clear HL HWS
          go_wp2_with (refine wpList_load_mid rfl 74 (.tmp 15) rfl b (off + k * 5) rfl _ _ hrw2 Tryd.underlying74 rfl lfsizeEv ?_)
          go_roundw
          case rel => exact ⟨_, _, _, k + 1, rfl, rfl, rfl, by omega, by go_num, by first | exact congrArg _ HEQ.out | (rw [← HEQ.out]), HBA.out _⟩
          case measure => simp [intOf]; omega
        · have HEQ : Hid (wrap64 L = wrap64 (Lf.left M.events c (k + 1))) := Lib.hid (by rw [HL.out, HWS.out]; unfold Lf.one; rw [if_neg hlt2, Int.add_zero])
          clear HL HWS
          go_wp2_with (refine wpList_load_mid rfl 74 (.tmp 15) rfl b (off + k * 5) rfl _ _ hrw2 Tryd.underlying74 rfl lfsizeEv ?_)
          go_roundw
          case rel => exact ⟨_, _, _, k + 1, rfl, rfl, rfl, by omega, by go_num, by first | exact congrArg _ HEQ.out | (rw [← HEQ.out]), HBA.out _⟩
          case measure => simp [intOf]; omega
    · obtain rfl : k = M.events.length := by omega
      go_wp2
      go_ret
      exact ⟨rfl, HBW.out⟩
end Go.Proofs.YtbplkphjjfgkmaaDoor
