/-
  Rights: the document's answers: Free.
-/
import Derived.Test.YtdpmkhmjihgckaaRtRef
import Derived.Test.YtdpmkhmjihgckaaRtFree
import Derived.Deep.RegionHeld3
namespace Go.Proofs.Ytdpmkhmjihgckaa
open Go.RowKit
set_option linter.unusedVariables false
set_option linter.unusedSimpArgs false

set_option maxRecDepth 100000 in
set_option maxHeartbeats 80000000 in
theorem rf_free (M : Mo) (s : Sq) (e u : Int) (w : World) (hM : RdM w M) (hs : RdS w s) : Calls Try.prog 58 #[M.val, s.val, .int .i64 e, .int .i64 u] w fun r w' => r = .returned (.bool (freeB M s e u)) ∧ Below w.heap.size w w' := by
  have hu : ∀ b : Bool, ¬ (some undef = some (Value.bool b)) := fun b h => by cases h
  obtain ⟨hb, hMo, hSq⟩ := both_new w M s 32 35
  have hbz := hb.size
  have HB := Lib.hid hb
  have hM1 := hM.mono hb (Nat.le_refl _)
  have hs1 := hs.mono hb (Nat.le_refl _)
  have m2 := hMo.c2
  have m5 := hMo.c5
  have hin := fun (i : Int) (n : Nat) W => rf_in i n W
  unfold Mo.val Sq.val
  by_cases h1 : 0 ≤ e ∧ e < (M.events.length : Int)
  rotate_left
  · have HF : Hid (freeB M s e u = false) := Lib.hid (by unfold freeB; rw [inN_no h1]; simp)
    have w1 := hin e M.events.length ((w.alloc (.cells #[.slice M.attrs.a M.attrs.n M.attrs.c, .slice M.inits.a M.inits.n M.inits.c, .slice M.users.a M.users.n M.users.c, .slice M.rolesa M.roles.length M.rolesc, .slice M.stagesa M.stages.length M.stagesc, .slice M.eventsa M.events.length M.eventsc, .slice M.guardsa M.guards.length M.guardsc, .slice M.milesa M.miles.length M.milesc, .slice M.sodsa M.sods.length M.sodsc, .slice M.order.a M.order.n M.order.c] 32)).alloc (.cells #[.slice s.vals.a s.vals.n s.vals.c, .int .i64 s.op, .int .i64 s.dn, .slice s.dida s.did.length s.didc, .slice s.cnta s.cnt.length s.cntc] 35))
    rw [inN_no h1] at w1
    clear hM hs hM1 hs1 h1 hMo hSq hin
    go_enter Try.func58, Try.ntmps58
    go_wp2_with (go_at_call 97; refine w1.mono ?_; rintro e w' ⟨rfl, rfl⟩)
    go_ret
    exact ⟨ret_bool HF.out.symm, HB.out⟩
  by_cases h2 : 0 ≤ u ∧ u < (M.users.n : Int)
  rotate_left
  · have HF : Hid (freeB M s e u = false) := Lib.hid (by unfold freeB; rw [inN_no h2]; simp)
    have w1 := hin e M.events.length ((w.alloc (.cells #[.slice M.attrs.a M.attrs.n M.attrs.c, .slice M.inits.a M.inits.n M.inits.c, .slice M.users.a M.users.n M.users.c, .slice M.rolesa M.roles.length M.rolesc, .slice M.stagesa M.stages.length M.stagesc, .slice M.eventsa M.events.length M.eventsc, .slice M.guardsa M.guards.length M.guardsc, .slice M.milesa M.miles.length M.milesc, .slice M.sodsa M.sods.length M.sodsc, .slice M.order.a M.order.n M.order.c] 32)).alloc (.cells #[.slice s.vals.a s.vals.n s.vals.c, .int .i64 s.op, .int .i64 s.dn, .slice s.dida s.did.length s.didc, .slice s.cnta s.cnt.length s.cntc] 35))
    have w2 := hin u M.users.n ((w.alloc (.cells #[.slice M.attrs.a M.attrs.n M.attrs.c, .slice M.inits.a M.inits.n M.inits.c, .slice M.users.a M.users.n M.users.c, .slice M.rolesa M.roles.length M.rolesc, .slice M.stagesa M.stages.length M.stagesc, .slice M.eventsa M.events.length M.eventsc, .slice M.guardsa M.guards.length M.guardsc, .slice M.milesa M.miles.length M.milesc, .slice M.sodsa M.sods.length M.sodsc, .slice M.order.a M.order.n M.order.c] 32)).alloc (.cells #[.slice s.vals.a s.vals.n s.vals.c, .int .i64 s.op, .int .i64 s.dn, .slice s.dida s.did.length s.didc, .slice s.cnta s.cnt.length s.cntc] 35))
    rw [inN_iff.2 h1] at w1
    rw [inN_no h2] at w2
    clear hM hs hM1 hs1 h1 h2 hMo hSq hin
    go_enter Try.func58, Try.ntmps58
    go_wp2_with (go_at_call 97; first | (refine w1.mono ?_; clear w1; rintro e' w' ⟨rfl, rfl⟩) | (refine w2.mono ?_; rintro e' w' ⟨rfl, rfl⟩))
    go_ret
    exact ⟨ret_bool HF.out.symm, HB.out⟩
  obtain ⟨k, rfl⟩ : ∃ k : Nat, e = (k : Int) := ⟨e.toNat, by omega⟩
  have hk : k < M.events.length := by omega
  have hk2 : M.events.length ≤ 9223372036854775807 := by have := hM1.eventsm; unfold maxLen at this; omega
  have hr2 : M.roles.length ≤ 9223372036854775807 := by have := hM1.rolesm; unfold maxLen at this; omega
  have hc2 : s.cnt.length ≤ 9223372036854775807 := by have := hs1.cntm; unfold maxLen at this; omega
  have HEQ : Hid (freeB M s (k : Int) u = (!cpl M s && freeE M s M.events[k] (k : Int) u)) := Lib.hid (by
    unfold freeB
    rw [inN_iff.2 h1, inN_iff.2 h2]
    have : M.events[((k : Nat) : Int).toNat]? = some M.events[k] := by rw [Int.toNat_natCast]; exact List.getElem?_eq_getElem hk
    rw [this]
    simp)
  obtain ⟨eb, eoff, hea, herg⟩ := recs_at Ev.cells_len (by omega) hM1.events k hk
  have hrg0 := herg k hk
  have HEA := Lib.hid hea
  have HUSK : Hid (∀ x ∈ M.roles, x.ok) := Lib.hid hM1.rolesk
  have HEVK := hM1.eventsk M.events[k] (List.getElem_mem hk)
  have HM1 := Lib.hid hM1
  have HS1 := Lib.hid hs1
  have w1 := hin (k : Int) M.events.length ((w.alloc (.cells #[.slice M.attrs.a M.attrs.n M.attrs.c, .slice M.inits.a M.inits.n M.inits.c, .slice M.users.a M.users.n M.users.c, .slice M.rolesa M.roles.length M.rolesc, .slice M.stagesa M.stages.length M.stagesc, .slice M.eventsa M.events.length M.eventsc, .slice M.guardsa M.guards.length M.guardsc, .slice M.milesa M.miles.length M.milesc, .slice M.sodsa M.sods.length M.sodsc, .slice M.order.a M.order.n M.order.c] 32)).alloc (.cells #[.slice s.vals.a s.vals.n s.vals.c, .int .i64 s.op, .int .i64 s.dn, .slice s.dida s.did.length s.didc, .slice s.cnta s.cnt.length s.cntc] 35))
  have w2 := hin u M.users.n ((w.alloc (.cells #[.slice M.attrs.a M.attrs.n M.attrs.c, .slice M.inits.a M.inits.n M.inits.c, .slice M.users.a M.users.n M.users.c, .slice M.rolesa M.roles.length M.rolesc, .slice M.stagesa M.stages.length M.stagesc, .slice M.eventsa M.events.length M.eventsc, .slice M.guardsa M.guards.length M.guardsc, .slice M.milesa M.miles.length M.milesc, .slice M.sodsa M.sods.length M.sodsc, .slice M.order.a M.order.n M.order.c] 32)).alloc (.cells #[.slice s.vals.a s.vals.n s.vals.c, .int .i64 s.op, .int .i64 s.dn, .slice s.dida s.did.length s.didc, .slice s.cnta s.cnt.length s.cntc] 35))
  rw [inN_iff.2 h1] at w1
  rw [inN_iff.2 h2] at w2
  have m5e : ((w.alloc (.cells #[.slice M.attrs.a M.attrs.n M.attrs.c, .slice M.inits.a M.inits.n M.inits.c, .slice M.users.a M.users.n M.users.c, .slice M.rolesa M.roles.length M.rolesc, .slice M.stagesa M.stages.length M.stagesc, .slice M.eventsa M.events.length M.eventsc, .slice M.guardsa M.guards.length M.guardsc, .slice M.milesa M.miles.length M.milesc, .slice M.sodsa M.sods.length M.sodsc, .slice M.order.a M.order.n M.order.c] 32)).alloc (.cells #[.slice s.vals.a s.vals.n s.vals.c, .int .i64 s.op, .int .i64 s.dn, .slice s.dida s.did.length s.didc, .slice s.cnta s.cnt.length s.cntc] 35)).cell? ⟨w.heap.size, 5, none⟩ = some (.slice (some ⟨eb, eoff, none⟩) M.events.length M.eventsc) := m5.trans (by rw [hea])
  generalize M.events[k] = x at *
  obtain ⟨nm, role, stage, sets, times⟩ := x
  have hrw3 : ((w.alloc (.cells #[.slice M.attrs.a M.attrs.n M.attrs.c, .slice M.inits.a M.inits.n M.inits.c, .slice M.users.a M.users.n M.users.c, .slice M.rolesa M.roles.length M.rolesc, .slice M.stagesa M.stages.length M.stagesc, .slice M.eventsa M.events.length M.eventsc, .slice M.guardsa M.guards.length M.guardsc, .slice M.milesa M.miles.length M.milesc, .slice M.sodsa M.sods.length M.sodsc, .slice M.order.a M.order.n M.order.c] 32)).alloc (.cells #[.slice s.vals.a s.vals.n s.vals.c, .int .i64 s.op, .int .i64 s.dn, .slice s.dida s.did.length s.didc, .slice s.cnta s.cnt.length s.cntc] 35)).rangeAt eb (eoff + k * 5) [.string nm, .int .i64 role, .int .i64 stage, .slice sets.a sets.n sets.c, .int .i64 times] := hrg0
  clear hM hs h1 h2 herg hrg0 m5
  have w3 := hin (k : Int) s.cnt.length
  clear hin
  have hcp0 := fun o => rf_complete M s (((w.alloc (.cells #[.slice M.attrs.a M.attrs.n M.attrs.c, .slice M.inits.a M.inits.n M.inits.c, .slice M.users.a M.users.n M.users.c, .slice M.rolesa M.roles.length M.rolesc, .slice M.stagesa M.stages.length M.stagesc, .slice M.eventsa M.events.length M.eventsc, .slice M.guardsa M.guards.length M.guardsc, .slice M.milesa M.miles.length M.milesc, .slice M.sodsa M.sods.length M.sodsc, .slice M.order.a M.order.n M.order.c] 32)).alloc (.cells #[.slice s.vals.a s.vals.n s.vals.c, .int .i64 s.op, .int .i64 s.dn, .slice s.dida s.did.length s.didc, .slice s.cnta s.cnt.length s.cntc] 35)).alloc o) (hM1.mono (mbel_new _ o) (Nat.le_refl _)) (hs1.mono (mbel_new _ o) (Nat.le_refl _))
  have hcp : ∀ o, Calls Try.prog 21 #[.agg #[.slice M.attrs.a M.attrs.n M.attrs.c, .slice M.inits.a M.inits.n M.inits.c, .slice M.users.a M.users.n M.users.c, .slice M.rolesa M.roles.length M.rolesc, .slice M.stagesa M.stages.length M.stagesc, .slice M.eventsa M.events.length M.eventsc, .slice M.guardsa M.guards.length M.guardsc, .slice M.milesa M.miles.length M.milesc, .slice M.sodsa M.sods.length M.sodsc, .slice M.order.a M.order.n M.order.c], .agg #[.slice s.vals.a s.vals.n s.vals.c, .int .i64 s.op, .int .i64 s.dn, .slice s.dida s.did.length s.didc, .slice s.cnta s.cnt.length s.cntc]] (((w.alloc (.cells #[.slice M.attrs.a M.attrs.n M.attrs.c, .slice M.inits.a M.inits.n M.inits.c, .slice M.users.a M.users.n M.users.c, .slice M.rolesa M.roles.length M.rolesc, .slice M.stagesa M.stages.length M.stagesc, .slice M.eventsa M.events.length M.eventsc, .slice M.guardsa M.guards.length M.guardsc, .slice M.milesa M.miles.length M.milesc, .slice M.sodsa M.sods.length M.sodsc, .slice M.order.a M.order.n M.order.c] 32)).alloc (.cells #[.slice s.vals.a s.vals.n s.vals.c, .int .i64 s.op, .int .i64 s.dn, .slice s.dida s.did.length s.didc, .slice s.cnta s.cnt.length s.cntc] 35)).alloc o) fun e w' => e = .returned (.bool (cpl M s)) ∧ Below (((w.alloc (.cells #[.slice M.attrs.a M.attrs.n M.attrs.c, .slice M.inits.a M.inits.n M.inits.c, .slice M.users.a M.users.n M.users.c, .slice M.rolesa M.roles.length M.rolesc, .slice M.stagesa M.stages.length M.stagesc, .slice M.eventsa M.events.length M.eventsc, .slice M.guardsa M.guards.length M.guardsc, .slice M.milesa M.miles.length M.milesc, .slice M.sodsa M.sods.length M.sodsc, .slice M.order.a M.order.n M.order.c] 32)).alloc (.cells #[.slice s.vals.a s.vals.n s.vals.c, .int .i64 s.op, .int .i64 s.dn, .slice s.dida s.did.length s.didc, .slice s.cnta s.cnt.length s.cntc] 35)).alloc o).heap.size (((w.alloc (.cells #[.slice M.attrs.a M.attrs.n M.attrs.c, .slice M.inits.a M.inits.n M.inits.c, .slice M.users.a M.users.n M.users.c, .slice M.rolesa M.roles.length M.rolesc, .slice M.stagesa M.stages.length M.stagesc, .slice M.eventsa M.events.length M.eventsc, .slice M.guardsa M.guards.length M.guardsc, .slice M.milesa M.miles.length M.milesc, .slice M.sodsa M.sods.length M.sodsc, .slice M.order.a M.order.n M.order.c] 32)).alloc (.cells #[.slice s.vals.a s.vals.n s.vals.c, .int .i64 s.op, .int .i64 s.dn, .slice s.dida s.did.length s.didc, .slice s.cnta s.cnt.length s.cntc] 35)).alloc o) w' := hcp0
  clear hcp0
  have z2 : ((w.alloc (.cells #[.slice M.attrs.a M.attrs.n M.attrs.c, .slice M.inits.a M.inits.n M.inits.c, .slice M.users.a M.users.n M.users.c, .slice M.rolesa M.roles.length M.rolesc, .slice M.stagesa M.stages.length M.stagesc, .slice M.eventsa M.events.length M.eventsc, .slice M.guardsa M.guards.length M.guardsc, .slice M.milesa M.miles.length M.milesc, .slice M.sodsa M.sods.length M.sodsc, .slice M.order.a M.order.n M.order.c] 32)).alloc (.cells #[.slice s.vals.a s.vals.n s.vals.c, .int .i64 s.op, .int .i64 s.dn, .slice s.dida s.did.length s.didc, .slice s.cnta s.cnt.length s.cntc] 35)).heap.size = w.heap.size + 1 + 1 := by simp
  obtain ⟨V, hV⟩ : ∃ V, ((w.alloc (.cells #[.slice M.attrs.a M.attrs.n M.attrs.c, .slice M.inits.a M.inits.n M.inits.c, .slice M.users.a M.users.n M.users.c, .slice M.rolesa M.roles.length M.rolesc, .slice M.stagesa M.stages.length M.stagesc, .slice M.eventsa M.events.length M.eventsc, .slice M.guardsa M.guards.length M.guardsc, .slice M.milesa M.miles.length M.milesc, .slice M.sodsa M.sods.length M.sodsc, .slice M.order.a M.order.n M.order.c] 32)).alloc (.cells #[.slice s.vals.a s.vals.n s.vals.c, .int .i64 s.op, .int .i64 s.dn, .slice s.dida s.did.length s.didc, .slice s.cnta s.cnt.length s.cntc] 35)) = V := ⟨_, rfl⟩
  have HMV : Hid (RdM V M) := Lib.hid (by rw [← hV]; exact hM1)
  have HPOST : Hid (∀ w3, Below (((w.alloc (.cells #[.slice M.attrs.a M.attrs.n M.attrs.c, .slice M.inits.a M.inits.n M.inits.c, .slice M.users.a M.users.n M.users.c, .slice M.rolesa M.roles.length M.rolesc, .slice M.stagesa M.stages.length M.stagesc, .slice M.eventsa M.events.length M.eventsc, .slice M.guardsa M.guards.length M.guardsc, .slice M.milesa M.miles.length M.milesc, .slice M.sodsa M.sods.length M.sodsc, .slice M.order.a M.order.n M.order.c] 32)).alloc (.cells #[.slice s.vals.a s.vals.n s.vals.c, .int .i64 s.op, .int .i64 s.dn, .slice s.dida s.did.length s.didc, .slice s.cnta s.cnt.length s.cntc] 35)).alloc (.cells #[.string nm, .int .i64 role, .int .i64 stage, .slice sets.a sets.n sets.c, .int .i64 times] 105)).heap.size (((w.alloc (.cells #[.slice M.attrs.a M.attrs.n M.attrs.c, .slice M.inits.a M.inits.n M.inits.c, .slice M.users.a M.users.n M.users.c, .slice M.rolesa M.roles.length M.rolesc, .slice M.stagesa M.stages.length M.stagesc, .slice M.eventsa M.events.length M.eventsc, .slice M.guardsa M.guards.length M.guardsc, .slice M.milesa M.miles.length M.milesc, .slice M.sodsa M.sods.length M.sodsc, .slice M.order.a M.order.n M.order.c] 32)).alloc (.cells #[.slice s.vals.a s.vals.n s.vals.c, .int .i64 s.op, .int .i64 s.dn, .slice s.dida s.did.length s.didc, .slice s.cnta s.cnt.length s.cntc] 35)).alloc (.cells #[.string nm, .int .i64 role, .int .i64 stage, .slice sets.a sets.n sets.c, .int .i64 times] 105)) w3 → Below w.heap.size w w3 ∧ Below V.heap.size V w3 ∧ w3.cell? ⟨w.heap.size + 1 + 1, 1, none⟩ = some (.int .i64 role) ∧ w3.cell? ⟨w.heap.size + 1 + 1, 2, none⟩ = some (.int .i64 stage) ∧ w3.cell? ⟨w.heap.size + 1 + 1, 4, none⟩ = some (.int .i64 times) ∧ MoAt w3 w.heap.size M ∧ SqAt w3 (w.heap.size + 1) s) := Lib.hid fun w3 h3 => by
    have b := mbel_new ((w.alloc (.cells #[.slice M.attrs.a M.attrs.n M.attrs.c, .slice M.inits.a M.inits.n M.inits.c, .slice M.users.a M.users.n M.users.c, .slice M.rolesa M.roles.length M.rolesc, .slice M.stagesa M.stages.length M.stagesc, .slice M.eventsa M.events.length M.eventsc, .slice M.guardsa M.guards.length M.guardsc, .slice M.milesa M.miles.length M.milesc, .slice M.sodsa M.sods.length M.sodsc, .slice M.order.a M.order.n M.order.c] 32)).alloc (.cells #[.slice s.vals.a s.vals.n s.vals.c, .int .i64 s.op, .int .i64 s.dn, .slice s.dida s.did.length s.didc, .slice s.cnta s.cnt.length s.cntc] 35)) (.cells #[.string nm, .int .i64 role, .int .i64 stage, .slice sets.a sets.n sets.c, .int .i64 times] 105)
    have k3 : Below ((w.alloc (.cells #[.slice M.attrs.a M.attrs.n M.attrs.c, .slice M.inits.a M.inits.n M.inits.c, .slice M.users.a M.users.n M.users.c, .slice M.rolesa M.roles.length M.rolesc, .slice M.stagesa M.stages.length M.stagesc, .slice M.eventsa M.events.length M.eventsc, .slice M.guardsa M.guards.length M.guardsc, .slice M.milesa M.miles.length M.milesc, .slice M.sodsa M.sods.length M.sodsc, .slice M.order.a M.order.n M.order.c] 32)).alloc (.cells #[.slice s.vals.a s.vals.n s.vals.c, .int .i64 s.op, .int .i64 s.dn, .slice s.dida s.did.length s.didc, .slice s.cnta s.cnt.length s.cntc] 35)).heap.size ((w.alloc (.cells #[.slice M.attrs.a M.attrs.n M.attrs.c, .slice M.inits.a M.inits.n M.inits.c, .slice M.users.a M.users.n M.users.c, .slice M.rolesa M.roles.length M.rolesc, .slice M.stagesa M.stages.length M.stagesc, .slice M.eventsa M.events.length M.eventsc, .slice M.guardsa M.guards.length M.guardsc, .slice M.milesa M.miles.length M.milesc, .slice M.sodsa M.sods.length M.sodsc, .slice M.order.a M.order.n M.order.c] 32)).alloc (.cells #[.slice s.vals.a s.vals.n s.vals.c, .int .i64 s.op, .int .i64 s.dn, .slice s.dida s.did.length s.didc, .slice s.cnta s.cnt.length s.cntc] 35)) w3 := b.trans (h3.mono b.size)
    refine ⟨HB.out.trans (k3.mono hbz), by rw [← hV]; exact k3, ?_, ?_, ?_, hMo.mono k3 (Nat.le_refl _), hSq.mono k3 (Nat.le_refl _)⟩ <;>
      (rw [← z2]; refine mcell_mono ?_ h3 (Nat.le_refl _); rw [World.cell?_alloc_at _ _ _ _ rfl]; rfl)
  have w3s := fun W => rf_in stage M.stages.length W
  have w4r := fun W => rf_in role M.roles.length W
  have h5 := fun W => rhas_any s.op stage W HS1.out.op.1 HS1.out.op.2
  clear hV HM1
  have HK := Lib.hid hk
  have HEVF := Lib.hid HEVK
  clear HEVK

  by_cases hkc : k < s.cnt.length
  rotate_left
  · rw [inN_no (show ¬ ((0 : Int) ≤ (k : Int) ∧ (k : Int) < (s.cnt.length : Int)) by omega)] at w3
    have hz : ofL s.cnt (k : Int) = 0 := ofL_out (by omega)
    clear hM1 hs1 z2 hMo hSq
    generalize hEA : M.eventsa = ea at *
    subst hea
    cases hc : cpl M s with
    | true =>
      rw [hc] at hcp
      have HF : Hid (freeB M s (k : Int) u = false) := Lib.hid (by rw [HEQ.out]; unfold freeE; simp [hc])
      clear hc hz w3s w4r h5 HEQ
      go_enter Try.func58, Try.ntmps58
      go_wp2_with (first | (go_at_call 97; first | (refine w1.mono ?_; clear w1; rintro e' w' ⟨rfl, rfl⟩) | (refine w2.mono ?_; clear w2; rintro e' w' ⟨rfl, rfl⟩) | (refine (w3 _).mono ?_; clear w3; rintro e' w' ⟨rfl, rfl⟩) | (refine (w3s _).mono ?_; clear w3s; rintro e' w' ⟨rfl, rfl⟩) | (refine (w4r _).mono ?_; clear w4r; rintro e' w' ⟨rfl, rfl⟩)) | (go_at_call 57; first | (refine (h5 _).mono ?_; clear h5; rintro e' w' ⟨rfl, rfl⟩) | (refine (h7 _).mono ?_; clear h7; rintro e' w' ⟨rfl, rfl⟩)) | (go_at_call 21; refine (hcp _).mono ?_; clear hcp; rintro e' w3 ⟨rfl, hb3⟩; have HP3 := Lib.hid (HPOST.out w3 hb3); clear hb3 HPOST; have x1 := HP3.out.2.2.1; have x2 := HP3.out.2.2.2.1; have x4 := HP3.out.2.2.2.2.1; have m3 := HP3.out.2.2.2.2.2.1.c3; have m4 := HP3.out.2.2.2.2.2.1.c4; have s1 := HP3.out.2.2.2.2.2.2.c1; skip) | (have hq := hrw3; refine wpList_load_mid rfl 105 (.tmp 28) rfl eb (eoff + k * 5) rfl _ _ hq Try.underlying105 rfl msizeEvent ?_; clear hrw3 hq))
      go_ret
      exact ⟨ret_bool HF.out.symm, HP3.out.1⟩
    | false =>
      rw [hc] at hcp
      by_cases q1 : inN stage M.stages.length = true
      rotate_left
      · have q1 : inN stage M.stages.length = false := by simpa using q1
        rw [q1] at w3s
        have HF : Hid (freeB M s (k : Int) u = false) := Lib.hid (by rw [HEQ.out]; unfold freeE; simp [hc, q1])
        clear hc hz q1 w4r h5 HEQ
        go_enter Try.func58, Try.ntmps58
        go_wp2_with (first | (go_at_call 97; first | (refine w1.mono ?_; clear w1; rintro e' w' ⟨rfl, rfl⟩) | (refine w2.mono ?_; clear w2; rintro e' w' ⟨rfl, rfl⟩) | (refine (w3 _).mono ?_; clear w3; rintro e' w' ⟨rfl, rfl⟩) | (refine (w3s _).mono ?_; clear w3s; rintro e' w' ⟨rfl, rfl⟩) | (refine (w4r _).mono ?_; clear w4r; rintro e' w' ⟨rfl, rfl⟩)) | (go_at_call 57; first | (refine (h5 _).mono ?_; clear h5; rintro e' w' ⟨rfl, rfl⟩) | (refine (h7 _).mono ?_; clear h7; rintro e' w' ⟨rfl, rfl⟩)) | (go_at_call 21; refine (hcp _).mono ?_; clear hcp; rintro e' w3 ⟨rfl, hb3⟩; have HP3 := Lib.hid (HPOST.out w3 hb3); clear hb3 HPOST; have x1 := HP3.out.2.2.1; have x2 := HP3.out.2.2.2.1; have x4 := HP3.out.2.2.2.2.1; have m3 := HP3.out.2.2.2.2.2.1.c3; have m4 := HP3.out.2.2.2.2.2.1.c4; have s1 := HP3.out.2.2.2.2.2.2.c1; skip) | (have hq := hrw3; refine wpList_load_mid rfl 105 (.tmp 28) rfl eb (eoff + k * 5) rfl _ _ hq Try.underlying105 rfl msizeEvent ?_; clear hrw3 hq))
        go_ret
        exact ⟨ret_bool HF.out.symm, HP3.out.1⟩
      rw [q1] at w3s
      by_cases q2 : hasB s.op stage = true
      rotate_left
      · have q2 : hasB s.op stage = false := by simpa using q2
        rw [q2] at h5
        have HF : Hid (freeB M s (k : Int) u = false) := Lib.hid (by rw [HEQ.out]; unfold freeE; simp [hc, q1, q2])
        clear hc hz q1 q2 w4r HEQ
        go_enter Try.func58, Try.ntmps58
        go_wp2_with (first | (go_at_call 97; first | (refine w1.mono ?_; clear w1; rintro e' w' ⟨rfl, rfl⟩) | (refine w2.mono ?_; clear w2; rintro e' w' ⟨rfl, rfl⟩) | (refine (w3 _).mono ?_; clear w3; rintro e' w' ⟨rfl, rfl⟩) | (refine (w3s _).mono ?_; clear w3s; rintro e' w' ⟨rfl, rfl⟩) | (refine (w4r _).mono ?_; clear w4r; rintro e' w' ⟨rfl, rfl⟩)) | (go_at_call 57; first | (refine (h5 _).mono ?_; clear h5; rintro e' w' ⟨rfl, rfl⟩) | (refine (h7 _).mono ?_; clear h7; rintro e' w' ⟨rfl, rfl⟩)) | (go_at_call 21; refine (hcp _).mono ?_; clear hcp; rintro e' w3 ⟨rfl, hb3⟩; have HP3 := Lib.hid (HPOST.out w3 hb3); clear hb3 HPOST; have x1 := HP3.out.2.2.1; have x2 := HP3.out.2.2.2.1; have x4 := HP3.out.2.2.2.2.1; have m3 := HP3.out.2.2.2.2.2.1.c3; have m4 := HP3.out.2.2.2.2.2.1.c4; have s1 := HP3.out.2.2.2.2.2.2.c1; skip) | (have hq := hrw3; refine wpList_load_mid rfl 105 (.tmp 28) rfl eb (eoff + k * 5) rfl _ _ hq Try.underlying105 rfl msizeEvent ?_; clear hrw3 hq))
        go_ret
        exact ⟨ret_bool HF.out.symm, HP3.out.1⟩
      rw [q2] at h5
      by_cases q5 : times ≤ 0
      · have hd1 : decide (0 < times) = false := by simp; omega
        have hq5 : decide (times ≤ 0) = true := by simp; omega
        by_cases q3 : inN role M.roles.length = true
        rotate_left
        · have q3 : inN role M.roles.length = false := by simpa using q3
          rw [q3] at w4r
          have HF : Hid (freeB M s (k : Int) u = false) := Lib.hid (by rw [HEQ.out]; unfold freeE; simp [hc, q1, q2, hq5, q3])
          clear hc hz q1 q2 q3 hq5  HEQ
          go_enter Try.func58, Try.ntmps58
          go_wp2_with (first | (go_at_call 97; first | (refine w1.mono ?_; clear w1; rintro e' w' ⟨rfl, rfl⟩) | (refine w2.mono ?_; clear w2; rintro e' w' ⟨rfl, rfl⟩) | (refine (w3 _).mono ?_; clear w3; rintro e' w' ⟨rfl, rfl⟩) | (refine (w3s _).mono ?_; clear w3s; rintro e' w' ⟨rfl, rfl⟩) | (refine (w4r _).mono ?_; clear w4r; rintro e' w' ⟨rfl, rfl⟩)) | (go_at_call 57; first | (refine (h5 _).mono ?_; clear h5; rintro e' w' ⟨rfl, rfl⟩) | (refine (h7 _).mono ?_; clear h7; rintro e' w' ⟨rfl, rfl⟩)) | (go_at_call 21; refine (hcp _).mono ?_; clear hcp; rintro e' w3 ⟨rfl, hb3⟩; have HP3 := Lib.hid (HPOST.out w3 hb3); clear hb3 HPOST; have x1 := HP3.out.2.2.1; have x2 := HP3.out.2.2.2.1; have x4 := HP3.out.2.2.2.2.1; have m3 := HP3.out.2.2.2.2.2.1.c3; have m4 := HP3.out.2.2.2.2.2.1.c4; have s1 := HP3.out.2.2.2.2.2.2.c1; skip) | (have hq := hrw3; refine wpList_load_mid rfl 105 (.tmp 28) rfl eb (eoff + k * 5) rfl _ _ hq Try.underlying105 rfl msizeEvent ?_; clear hrw3 hq))
          go_ret
          exact ⟨ret_bool HF.out.symm, HP3.out.1⟩
        rw [q3] at w4r
        have q3' := inN_iff.1 q3
        obtain ⟨kr, rfl⟩ : ∃ kr : Nat, role = (kr : Int) := ⟨role.toNat, by omega⟩
        have hkr : kr < M.roles.length := by omega
        obtain ⟨rb, roff, hra, hrrg⟩ := recs_at Ro.cells_len (by omega) (HMV.out).roles kr hkr
        have HRA := Lib.hid hra
        have hget : M.roles[kr]? = some M.roles[kr] := List.getElem?_eq_getElem hkr
        have hfy := (HUSK.out M.roles[kr] (List.getElem_mem hkr)).us
        have HRO : Hid (∀ W, Below V.heap.size V W → W.cell? ⟨rb, roff + kr * 2 + 1, none⟩ = some (.int .i64 M.roles[kr].us)) := Lib.hid (fun W hb => by
          have h1 := hrrg kr hkr 1 _ (show (M.roles[kr].cells)[1]? = some (.int .i64 M.roles[kr].us) from rfl)
          exact (hb.cell (p := ⟨rb, roff + kr * 2 + 1, none⟩) (lt_of_cell h1)).trans h1)
        generalize M.roles[kr] = y at *
        clear hra hrrg q3'
        have h7 := fun W => rhas_any y.us u W hfy.1 hfy.2
        cases q4 : hasB y.us u with
        | true =>
          rw [q4] at h7
          have HF : Hid (freeB M s (k : Int) u = true) := Lib.hid (by rw [HEQ.out]; unfold freeE; simp [hc, q1, q2, hq5, q3, q4, hget])
          clear hc hz q1 q2 q3 q4 hget hq5  HEQ
          go_enter Try.func58, Try.ntmps58
          go_wp2_with (first | (go_at_call 97; first | (refine w1.mono ?_; clear w1; rintro e' w' ⟨rfl, rfl⟩) | (refine w2.mono ?_; clear w2; rintro e' w' ⟨rfl, rfl⟩) | (refine (w3 _).mono ?_; clear w3; rintro e' w' ⟨rfl, rfl⟩) | (refine (w3s _).mono ?_; clear w3s; rintro e' w' ⟨rfl, rfl⟩) | (refine (w4r _).mono ?_; clear w4r; rintro e' w' ⟨rfl, rfl⟩)) | (go_at_call 57; first | (refine (h5 _).mono ?_; clear h5; rintro e' w' ⟨rfl, rfl⟩) | (refine (h7 _).mono ?_; clear h7; rintro e' w' ⟨rfl, rfl⟩)) | (go_at_call 21; refine (hcp _).mono ?_; clear hcp; rintro e' w3 ⟨rfl, hb3⟩; have HP3 := Lib.hid (HPOST.out w3 hb3); clear hb3 HPOST; have x1 := HP3.out.2.2.1; have x2 := HP3.out.2.2.2.1; have x4 := HP3.out.2.2.2.2.1; have m3 := HP3.out.2.2.2.2.2.1.c3; have m4 := HP3.out.2.2.2.2.2.1.c4; have s1 := HP3.out.2.2.2.2.2.2.c1; have mr := HRO.out _ HP3.out.2.1; rw [HRA.out] at m3; skip) | (have hq := hrw3; refine wpList_load_mid rfl 105 (.tmp 28) rfl eb (eoff + k * 5) rfl _ _ hq Try.underlying105 rfl msizeEvent ?_; clear hrw3 hq))
          go_ret
          exact ⟨ret_bool HF.out.symm, HP3.out.1⟩
        | false =>
          rw [q4] at h7
          have HF : Hid (freeB M s (k : Int) u = false) := Lib.hid (by rw [HEQ.out]; unfold freeE; simp [hc, q1, q2, hq5, q3, q4, hget])
          clear hc hz q1 q2 q3 q4 hget hq5  HEQ
          go_enter Try.func58, Try.ntmps58
          go_wp2_with (first | (go_at_call 97; first | (refine w1.mono ?_; clear w1; rintro e' w' ⟨rfl, rfl⟩) | (refine w2.mono ?_; clear w2; rintro e' w' ⟨rfl, rfl⟩) | (refine (w3 _).mono ?_; clear w3; rintro e' w' ⟨rfl, rfl⟩) | (refine (w3s _).mono ?_; clear w3s; rintro e' w' ⟨rfl, rfl⟩) | (refine (w4r _).mono ?_; clear w4r; rintro e' w' ⟨rfl, rfl⟩)) | (go_at_call 57; first | (refine (h5 _).mono ?_; clear h5; rintro e' w' ⟨rfl, rfl⟩) | (refine (h7 _).mono ?_; clear h7; rintro e' w' ⟨rfl, rfl⟩)) | (go_at_call 21; refine (hcp _).mono ?_; clear hcp; rintro e' w3 ⟨rfl, hb3⟩; have HP3 := Lib.hid (HPOST.out w3 hb3); clear hb3 HPOST; have x1 := HP3.out.2.2.1; have x2 := HP3.out.2.2.2.1; have x4 := HP3.out.2.2.2.2.1; have m3 := HP3.out.2.2.2.2.2.1.c3; have m4 := HP3.out.2.2.2.2.2.1.c4; have s1 := HP3.out.2.2.2.2.2.2.c1; have mr := HRO.out _ HP3.out.2.1; rw [HRA.out] at m3; skip) | (have hq := hrw3; refine wpList_load_mid rfl 105 (.tmp 28) rfl eb (eoff + k * 5) rfl _ _ hq Try.underlying105 rfl msizeEvent ?_; clear hrw3 hq))
          go_ret
          exact ⟨ret_bool HF.out.symm, HP3.out.1⟩
      have hd1 : decide (0 < times) = true := by simp; omega
      have hq5 : decide (times ≤ 0) = false := by simp; omega
      have hd2 : decide (times ≤ 0) = false := by simp; omega
      have hq6 : decide (ofL s.cnt (k : Int) < times) = true := by rw [hz]; simp; omega
      by_cases q3 : inN role M.roles.length = true
      rotate_left
      · have q3 : inN role M.roles.length = false := by simpa using q3
        rw [q3] at w4r
        have HF : Hid (freeB M s (k : Int) u = false) := Lib.hid (by rw [HEQ.out]; unfold freeE; simp [hc, q1, q2, hq5, hq6, q3])
        clear hc hz q1 q2 q3 hq5 hq6  HEQ
        go_enter Try.func58, Try.ntmps58
        go_wp2_with (first | (go_at_call 97; first | (refine w1.mono ?_; clear w1; rintro e' w' ⟨rfl, rfl⟩) | (refine w2.mono ?_; clear w2; rintro e' w' ⟨rfl, rfl⟩) | (refine (w3 _).mono ?_; clear w3; rintro e' w' ⟨rfl, rfl⟩) | (refine (w3s _).mono ?_; clear w3s; rintro e' w' ⟨rfl, rfl⟩) | (refine (w4r _).mono ?_; clear w4r; rintro e' w' ⟨rfl, rfl⟩)) | (go_at_call 57; first | (refine (h5 _).mono ?_; clear h5; rintro e' w' ⟨rfl, rfl⟩) | (refine (h7 _).mono ?_; clear h7; rintro e' w' ⟨rfl, rfl⟩)) | (go_at_call 21; refine (hcp _).mono ?_; clear hcp; rintro e' w3 ⟨rfl, hb3⟩; have HP3 := Lib.hid (HPOST.out w3 hb3); clear hb3 HPOST; have x1 := HP3.out.2.2.1; have x2 := HP3.out.2.2.2.1; have x4 := HP3.out.2.2.2.2.1; have m3 := HP3.out.2.2.2.2.2.1.c3; have m4 := HP3.out.2.2.2.2.2.1.c4; have s1 := HP3.out.2.2.2.2.2.2.c1; skip) | (have hq := hrw3; refine wpList_load_mid rfl 105 (.tmp 28) rfl eb (eoff + k * 5) rfl _ _ hq Try.underlying105 rfl msizeEvent ?_; clear hrw3 hq))
        go_ret
        exact ⟨ret_bool HF.out.symm, HP3.out.1⟩
      rw [q3] at w4r
      have q3' := inN_iff.1 q3
      obtain ⟨kr, rfl⟩ : ∃ kr : Nat, role = (kr : Int) := ⟨role.toNat, by omega⟩
      have hkr : kr < M.roles.length := by omega
      obtain ⟨rb, roff, hra, hrrg⟩ := recs_at Ro.cells_len (by omega) (HMV.out).roles kr hkr
      have HRA := Lib.hid hra
      have hget : M.roles[kr]? = some M.roles[kr] := List.getElem?_eq_getElem hkr
      have hfy := (HUSK.out M.roles[kr] (List.getElem_mem hkr)).us
      have HRO : Hid (∀ W, Below V.heap.size V W → W.cell? ⟨rb, roff + kr * 2 + 1, none⟩ = some (.int .i64 M.roles[kr].us)) := Lib.hid (fun W hb => by
        have h1 := hrrg kr hkr 1 _ (show (M.roles[kr].cells)[1]? = some (.int .i64 M.roles[kr].us) from rfl)
        exact (hb.cell (p := ⟨rb, roff + kr * 2 + 1, none⟩) (lt_of_cell h1)).trans h1)
      generalize M.roles[kr] = y at *
      clear hra hrrg q3'
      have h7 := fun W => rhas_any y.us u W hfy.1 hfy.2
      cases q4 : hasB y.us u with
      | true =>
        rw [q4] at h7
        have HF : Hid (freeB M s (k : Int) u = true) := Lib.hid (by rw [HEQ.out]; unfold freeE; simp [hc, q1, q2, hq5, hq6, q3, q4, hget])
        clear hc hz q1 q2 q3 q4 hget hq5 hq6  HEQ
        go_enter Try.func58, Try.ntmps58
        go_wp2_with (first | (go_at_call 97; first | (refine w1.mono ?_; clear w1; rintro e' w' ⟨rfl, rfl⟩) | (refine w2.mono ?_; clear w2; rintro e' w' ⟨rfl, rfl⟩) | (refine (w3 _).mono ?_; clear w3; rintro e' w' ⟨rfl, rfl⟩) | (refine (w3s _).mono ?_; clear w3s; rintro e' w' ⟨rfl, rfl⟩) | (refine (w4r _).mono ?_; clear w4r; rintro e' w' ⟨rfl, rfl⟩)) | (go_at_call 57; first | (refine (h5 _).mono ?_; clear h5; rintro e' w' ⟨rfl, rfl⟩) | (refine (h7 _).mono ?_; clear h7; rintro e' w' ⟨rfl, rfl⟩)) | (go_at_call 21; refine (hcp _).mono ?_; clear hcp; rintro e' w3 ⟨rfl, hb3⟩; have HP3 := Lib.hid (HPOST.out w3 hb3); clear hb3 HPOST; have x1 := HP3.out.2.2.1; have x2 := HP3.out.2.2.2.1; have x4 := HP3.out.2.2.2.2.1; have m3 := HP3.out.2.2.2.2.2.1.c3; have m4 := HP3.out.2.2.2.2.2.1.c4; have s1 := HP3.out.2.2.2.2.2.2.c1; have mr := HRO.out _ HP3.out.2.1; rw [HRA.out] at m3; skip) | (have hq := hrw3; refine wpList_load_mid rfl 105 (.tmp 28) rfl eb (eoff + k * 5) rfl _ _ hq Try.underlying105 rfl msizeEvent ?_; clear hrw3 hq))
        go_ret
        exact ⟨ret_bool HF.out.symm, HP3.out.1⟩
      | false =>
        rw [q4] at h7
        have HF : Hid (freeB M s (k : Int) u = false) := Lib.hid (by rw [HEQ.out]; unfold freeE; simp [hc, q1, q2, hq5, hq6, q3, q4, hget])
        clear hc hz q1 q2 q3 q4 hget hq5 hq6  HEQ
        go_enter Try.func58, Try.ntmps58
        go_wp2_with (first | (go_at_call 97; first | (refine w1.mono ?_; clear w1; rintro e' w' ⟨rfl, rfl⟩) | (refine w2.mono ?_; clear w2; rintro e' w' ⟨rfl, rfl⟩) | (refine (w3 _).mono ?_; clear w3; rintro e' w' ⟨rfl, rfl⟩) | (refine (w3s _).mono ?_; clear w3s; rintro e' w' ⟨rfl, rfl⟩) | (refine (w4r _).mono ?_; clear w4r; rintro e' w' ⟨rfl, rfl⟩)) | (go_at_call 57; first | (refine (h5 _).mono ?_; clear h5; rintro e' w' ⟨rfl, rfl⟩) | (refine (h7 _).mono ?_; clear h7; rintro e' w' ⟨rfl, rfl⟩)) | (go_at_call 21; refine (hcp _).mono ?_; clear hcp; rintro e' w3 ⟨rfl, hb3⟩; have HP3 := Lib.hid (HPOST.out w3 hb3); clear hb3 HPOST; have x1 := HP3.out.2.2.1; have x2 := HP3.out.2.2.2.1; have x4 := HP3.out.2.2.2.2.1; have m3 := HP3.out.2.2.2.2.2.1.c3; have m4 := HP3.out.2.2.2.2.2.1.c4; have s1 := HP3.out.2.2.2.2.2.2.c1; have mr := HRO.out _ HP3.out.2.1; rw [HRA.out] at m3; skip) | (have hq := hrw3; refine wpList_load_mid rfl 105 (.tmp 28) rfl eb (eoff + k * 5) rfl _ _ hq Try.underlying105 rfl msizeEvent ?_; clear hrw3 hq))
        go_ret
        exact ⟨ret_bool HF.out.symm, HP3.out.1⟩
  rw [inN_iff.2 (show (0 : Int) ≤ (k : Int) ∧ (k : Int) < (s.cnt.length : Int) by omega)] at w3
  obtain ⟨cb, coff, hca, hcl⟩ := Reads.at hs1.cnt (by rw [List.length_map]; omega)
  have hck0 := Reads.int hcl k hkc
  have hck := fun o => mcell_mono hck0 (mbel_new _ o) (Nat.le_refl _)
  clear hck0
  have hz : ofL s.cnt (k : Int) = s.cnt[k] := ofL_in hkc
  generalize s.cnt[k] = z at *
  clear hcl hM1 hs1 z2 hMo hSq
  generalize hEA : M.eventsa = ea at *
  subst hea
  generalize hCA : s.cnta = ca at *
  subst hca
  cases hc : cpl M s with
  | true =>
    rw [hc] at hcp
    have HF : Hid (freeB M s (k : Int) u = false) := Lib.hid (by rw [HEQ.out]; unfold freeE; simp [hc])
    clear hc hz w3s w4r h5 HEQ
    go_enter Try.func58, Try.ntmps58
    go_wp2_with (first | (go_at_call 97; first | (refine w1.mono ?_; clear w1; rintro e' w' ⟨rfl, rfl⟩) | (refine w2.mono ?_; clear w2; rintro e' w' ⟨rfl, rfl⟩) | (refine (w3 _).mono ?_; clear w3; rintro e' w' ⟨rfl, rfl⟩) | (refine (w3s _).mono ?_; clear w3s; rintro e' w' ⟨rfl, rfl⟩) | (refine (w4r _).mono ?_; clear w4r; rintro e' w' ⟨rfl, rfl⟩)) | (go_at_call 57; first | (refine (h5 _).mono ?_; clear h5; rintro e' w' ⟨rfl, rfl⟩) | (refine (h7 _).mono ?_; clear h7; rintro e' w' ⟨rfl, rfl⟩)) | (go_at_call 21; refine (hcp _).mono ?_; clear hcp; rintro e' w3 ⟨rfl, hb3⟩; have HP3 := Lib.hid (HPOST.out w3 hb3); clear hb3 HPOST; have x1 := HP3.out.2.2.1; have x2 := HP3.out.2.2.2.1; have x4 := HP3.out.2.2.2.2.1; have m3 := HP3.out.2.2.2.2.2.1.c3; have m4 := HP3.out.2.2.2.2.2.1.c4; have s1 := HP3.out.2.2.2.2.2.2.c1; skip) | (have hq := hrw3; refine wpList_load_mid rfl 105 (.tmp 28) rfl eb (eoff + k * 5) rfl _ _ hq Try.underlying105 rfl msizeEvent ?_; clear hrw3 hq))
    go_ret
    exact ⟨ret_bool HF.out.symm, HP3.out.1⟩
  | false =>
    rw [hc] at hcp
    by_cases q1 : inN stage M.stages.length = true
    rotate_left
    · have q1 : inN stage M.stages.length = false := by simpa using q1
      rw [q1] at w3s
      have HF : Hid (freeB M s (k : Int) u = false) := Lib.hid (by rw [HEQ.out]; unfold freeE; simp [hc, q1])
      clear hc hz q1 w4r h5 HEQ
      go_enter Try.func58, Try.ntmps58
      go_wp2_with (first | (go_at_call 97; first | (refine w1.mono ?_; clear w1; rintro e' w' ⟨rfl, rfl⟩) | (refine w2.mono ?_; clear w2; rintro e' w' ⟨rfl, rfl⟩) | (refine (w3 _).mono ?_; clear w3; rintro e' w' ⟨rfl, rfl⟩) | (refine (w3s _).mono ?_; clear w3s; rintro e' w' ⟨rfl, rfl⟩) | (refine (w4r _).mono ?_; clear w4r; rintro e' w' ⟨rfl, rfl⟩)) | (go_at_call 57; first | (refine (h5 _).mono ?_; clear h5; rintro e' w' ⟨rfl, rfl⟩) | (refine (h7 _).mono ?_; clear h7; rintro e' w' ⟨rfl, rfl⟩)) | (go_at_call 21; refine (hcp _).mono ?_; clear hcp; rintro e' w3 ⟨rfl, hb3⟩; have HP3 := Lib.hid (HPOST.out w3 hb3); clear hb3 HPOST; have x1 := HP3.out.2.2.1; have x2 := HP3.out.2.2.2.1; have x4 := HP3.out.2.2.2.2.1; have m3 := HP3.out.2.2.2.2.2.1.c3; have m4 := HP3.out.2.2.2.2.2.1.c4; have s1 := HP3.out.2.2.2.2.2.2.c1; skip) | (have hq := hrw3; refine wpList_load_mid rfl 105 (.tmp 28) rfl eb (eoff + k * 5) rfl _ _ hq Try.underlying105 rfl msizeEvent ?_; clear hrw3 hq))
      go_ret
      exact ⟨ret_bool HF.out.symm, HP3.out.1⟩
    rw [q1] at w3s
    by_cases q2 : hasB s.op stage = true
    rotate_left
    · have q2 : hasB s.op stage = false := by simpa using q2
      rw [q2] at h5
      have HF : Hid (freeB M s (k : Int) u = false) := Lib.hid (by rw [HEQ.out]; unfold freeE; simp [hc, q1, q2])
      clear hc hz q1 q2 w4r HEQ
      go_enter Try.func58, Try.ntmps58
      go_wp2_with (first | (go_at_call 97; first | (refine w1.mono ?_; clear w1; rintro e' w' ⟨rfl, rfl⟩) | (refine w2.mono ?_; clear w2; rintro e' w' ⟨rfl, rfl⟩) | (refine (w3 _).mono ?_; clear w3; rintro e' w' ⟨rfl, rfl⟩) | (refine (w3s _).mono ?_; clear w3s; rintro e' w' ⟨rfl, rfl⟩) | (refine (w4r _).mono ?_; clear w4r; rintro e' w' ⟨rfl, rfl⟩)) | (go_at_call 57; first | (refine (h5 _).mono ?_; clear h5; rintro e' w' ⟨rfl, rfl⟩) | (refine (h7 _).mono ?_; clear h7; rintro e' w' ⟨rfl, rfl⟩)) | (go_at_call 21; refine (hcp _).mono ?_; clear hcp; rintro e' w3 ⟨rfl, hb3⟩; have HP3 := Lib.hid (HPOST.out w3 hb3); clear hb3 HPOST; have x1 := HP3.out.2.2.1; have x2 := HP3.out.2.2.2.1; have x4 := HP3.out.2.2.2.2.1; have m3 := HP3.out.2.2.2.2.2.1.c3; have m4 := HP3.out.2.2.2.2.2.1.c4; have s1 := HP3.out.2.2.2.2.2.2.c1; skip) | (have hq := hrw3; refine wpList_load_mid rfl 105 (.tmp 28) rfl eb (eoff + k * 5) rfl _ _ hq Try.underlying105 rfl msizeEvent ?_; clear hrw3 hq))
      go_ret
      exact ⟨ret_bool HF.out.symm, HP3.out.1⟩
    rw [q2] at h5
    by_cases q5 : times ≤ 0
    · have hd1 : decide (0 < times) = false := by simp; omega
      have hq5 : decide (times ≤ 0) = true := by simp; omega
      by_cases q3 : inN role M.roles.length = true
      rotate_left
      · have q3 : inN role M.roles.length = false := by simpa using q3
        rw [q3] at w4r
        have HF : Hid (freeB M s (k : Int) u = false) := Lib.hid (by rw [HEQ.out]; unfold freeE; simp [hc, q1, q2, hq5, q3])
        clear hc hz q1 q2 q3 hq5  HEQ
        go_enter Try.func58, Try.ntmps58
        go_wp2_with (first | (go_at_call 97; first | (refine w1.mono ?_; clear w1; rintro e' w' ⟨rfl, rfl⟩) | (refine w2.mono ?_; clear w2; rintro e' w' ⟨rfl, rfl⟩) | (refine (w3 _).mono ?_; clear w3; rintro e' w' ⟨rfl, rfl⟩) | (refine (w3s _).mono ?_; clear w3s; rintro e' w' ⟨rfl, rfl⟩) | (refine (w4r _).mono ?_; clear w4r; rintro e' w' ⟨rfl, rfl⟩)) | (go_at_call 57; first | (refine (h5 _).mono ?_; clear h5; rintro e' w' ⟨rfl, rfl⟩) | (refine (h7 _).mono ?_; clear h7; rintro e' w' ⟨rfl, rfl⟩)) | (go_at_call 21; refine (hcp _).mono ?_; clear hcp; rintro e' w3 ⟨rfl, hb3⟩; have HP3 := Lib.hid (HPOST.out w3 hb3); clear hb3 HPOST; have x1 := HP3.out.2.2.1; have x2 := HP3.out.2.2.2.1; have x4 := HP3.out.2.2.2.2.1; have m3 := HP3.out.2.2.2.2.2.1.c3; have m4 := HP3.out.2.2.2.2.2.1.c4; have s1 := HP3.out.2.2.2.2.2.2.c1; skip) | (have hq := hrw3; refine wpList_load_mid rfl 105 (.tmp 28) rfl eb (eoff + k * 5) rfl _ _ hq Try.underlying105 rfl msizeEvent ?_; clear hrw3 hq))
        go_ret
        exact ⟨ret_bool HF.out.symm, HP3.out.1⟩
      rw [q3] at w4r
      have q3' := inN_iff.1 q3
      obtain ⟨kr, rfl⟩ : ∃ kr : Nat, role = (kr : Int) := ⟨role.toNat, by omega⟩
      have hkr : kr < M.roles.length := by omega
      obtain ⟨rb, roff, hra, hrrg⟩ := recs_at Ro.cells_len (by omega) (HMV.out).roles kr hkr
      have HRA := Lib.hid hra
      have hget : M.roles[kr]? = some M.roles[kr] := List.getElem?_eq_getElem hkr
      have hfy := (HUSK.out M.roles[kr] (List.getElem_mem hkr)).us
      have HRO : Hid (∀ W, Below V.heap.size V W → W.cell? ⟨rb, roff + kr * 2 + 1, none⟩ = some (.int .i64 M.roles[kr].us)) := Lib.hid (fun W hb => by
        have h1 := hrrg kr hkr 1 _ (show (M.roles[kr].cells)[1]? = some (.int .i64 M.roles[kr].us) from rfl)
        exact (hb.cell (p := ⟨rb, roff + kr * 2 + 1, none⟩) (lt_of_cell h1)).trans h1)
      generalize M.roles[kr] = y at *
      clear hra hrrg q3'
      have h7 := fun W => rhas_any y.us u W hfy.1 hfy.2
      cases q4 : hasB y.us u with
      | true =>
        rw [q4] at h7
        have HF : Hid (freeB M s (k : Int) u = true) := Lib.hid (by rw [HEQ.out]; unfold freeE; simp [hc, q1, q2, hq5, q3, q4, hget])
        clear hc hz q1 q2 q3 q4 hget hq5  HEQ
        go_enter Try.func58, Try.ntmps58
        go_wp2_with (first | (go_at_call 97; first | (refine w1.mono ?_; clear w1; rintro e' w' ⟨rfl, rfl⟩) | (refine w2.mono ?_; clear w2; rintro e' w' ⟨rfl, rfl⟩) | (refine (w3 _).mono ?_; clear w3; rintro e' w' ⟨rfl, rfl⟩) | (refine (w3s _).mono ?_; clear w3s; rintro e' w' ⟨rfl, rfl⟩) | (refine (w4r _).mono ?_; clear w4r; rintro e' w' ⟨rfl, rfl⟩)) | (go_at_call 57; first | (refine (h5 _).mono ?_; clear h5; rintro e' w' ⟨rfl, rfl⟩) | (refine (h7 _).mono ?_; clear h7; rintro e' w' ⟨rfl, rfl⟩)) | (go_at_call 21; refine (hcp _).mono ?_; clear hcp; rintro e' w3 ⟨rfl, hb3⟩; have HP3 := Lib.hid (HPOST.out w3 hb3); clear hb3 HPOST; have x1 := HP3.out.2.2.1; have x2 := HP3.out.2.2.2.1; have x4 := HP3.out.2.2.2.2.1; have m3 := HP3.out.2.2.2.2.2.1.c3; have m4 := HP3.out.2.2.2.2.2.1.c4; have s1 := HP3.out.2.2.2.2.2.2.c1; have mr := HRO.out _ HP3.out.2.1; rw [HRA.out] at m3; skip) | (have hq := hrw3; refine wpList_load_mid rfl 105 (.tmp 28) rfl eb (eoff + k * 5) rfl _ _ hq Try.underlying105 rfl msizeEvent ?_; clear hrw3 hq))
        go_ret
        exact ⟨ret_bool HF.out.symm, HP3.out.1⟩
      | false =>
        rw [q4] at h7
        have HF : Hid (freeB M s (k : Int) u = false) := Lib.hid (by rw [HEQ.out]; unfold freeE; simp [hc, q1, q2, hq5, q3, q4, hget])
        clear hc hz q1 q2 q3 q4 hget hq5  HEQ
        go_enter Try.func58, Try.ntmps58
        go_wp2_with (first | (go_at_call 97; first | (refine w1.mono ?_; clear w1; rintro e' w' ⟨rfl, rfl⟩) | (refine w2.mono ?_; clear w2; rintro e' w' ⟨rfl, rfl⟩) | (refine (w3 _).mono ?_; clear w3; rintro e' w' ⟨rfl, rfl⟩) | (refine (w3s _).mono ?_; clear w3s; rintro e' w' ⟨rfl, rfl⟩) | (refine (w4r _).mono ?_; clear w4r; rintro e' w' ⟨rfl, rfl⟩)) | (go_at_call 57; first | (refine (h5 _).mono ?_; clear h5; rintro e' w' ⟨rfl, rfl⟩) | (refine (h7 _).mono ?_; clear h7; rintro e' w' ⟨rfl, rfl⟩)) | (go_at_call 21; refine (hcp _).mono ?_; clear hcp; rintro e' w3 ⟨rfl, hb3⟩; have HP3 := Lib.hid (HPOST.out w3 hb3); clear hb3 HPOST; have x1 := HP3.out.2.2.1; have x2 := HP3.out.2.2.2.1; have x4 := HP3.out.2.2.2.2.1; have m3 := HP3.out.2.2.2.2.2.1.c3; have m4 := HP3.out.2.2.2.2.2.1.c4; have s1 := HP3.out.2.2.2.2.2.2.c1; have mr := HRO.out _ HP3.out.2.1; rw [HRA.out] at m3; skip) | (have hq := hrw3; refine wpList_load_mid rfl 105 (.tmp 28) rfl eb (eoff + k * 5) rfl _ _ hq Try.underlying105 rfl msizeEvent ?_; clear hrw3 hq))
        go_ret
        exact ⟨ret_bool HF.out.symm, HP3.out.1⟩
    have hd1 : decide (0 < times) = true := by simp; omega
    have hq5 : decide (times ≤ 0) = false := by simp; omega
    by_cases q6 : times ≤ z
    · have hd2 : decide (times ≤ z) = true := by simp; omega
      have hq6 : decide (ofL s.cnt (k : Int) < times) = false := by rw [hz]; simp; omega
      have HF : Hid (freeB M s (k : Int) u = false) := Lib.hid (by rw [HEQ.out]; unfold freeE; simp [hc, q1, q2, hq5, hq6])
      clear hc hz q1 q2 hq5 hq6 w4r HEQ
      go_enter Try.func58, Try.ntmps58
      go_wp2_with (first | (go_at_call 97; first | (refine w1.mono ?_; clear w1; rintro e' w' ⟨rfl, rfl⟩) | (refine w2.mono ?_; clear w2; rintro e' w' ⟨rfl, rfl⟩) | (refine (w3 _).mono ?_; clear w3; rintro e' w' ⟨rfl, rfl⟩) | (refine (w3s _).mono ?_; clear w3s; rintro e' w' ⟨rfl, rfl⟩) | (refine (w4r _).mono ?_; clear w4r; rintro e' w' ⟨rfl, rfl⟩)) | (go_at_call 57; first | (refine (h5 _).mono ?_; clear h5; rintro e' w' ⟨rfl, rfl⟩) | (refine (h7 _).mono ?_; clear h7; rintro e' w' ⟨rfl, rfl⟩)) | (go_at_call 21; refine (hcp _).mono ?_; clear hcp; rintro e' w3 ⟨rfl, hb3⟩; have HP3 := Lib.hid (HPOST.out w3 hb3); clear hb3 HPOST; have x1 := HP3.out.2.2.1; have x2 := HP3.out.2.2.2.1; have x4 := HP3.out.2.2.2.2.1; have m3 := HP3.out.2.2.2.2.2.1.c3; have m4 := HP3.out.2.2.2.2.2.1.c4; have s1 := HP3.out.2.2.2.2.2.2.c1; skip) | (have hq := hrw3; refine wpList_load_mid rfl 105 (.tmp 28) rfl eb (eoff + k * 5) rfl _ _ hq Try.underlying105 rfl msizeEvent ?_; clear hrw3 hq))
      go_ret
      exact ⟨ret_bool HF.out.symm, HP3.out.1⟩
    have hd2 : decide (times ≤ z) = false := by simp; omega
    have hq6 : decide (ofL s.cnt (k : Int) < times) = true := by rw [hz]; simp; omega
    by_cases q3 : inN role M.roles.length = true
    rotate_left
    · have q3 : inN role M.roles.length = false := by simpa using q3
      rw [q3] at w4r
      have HF : Hid (freeB M s (k : Int) u = false) := Lib.hid (by rw [HEQ.out]; unfold freeE; simp [hc, q1, q2, hq5, hq6, q3])
      clear hc hz q1 q2 q3 hq5 hq6  HEQ
      go_enter Try.func58, Try.ntmps58
      go_wp2_with (first | (go_at_call 97; first | (refine w1.mono ?_; clear w1; rintro e' w' ⟨rfl, rfl⟩) | (refine w2.mono ?_; clear w2; rintro e' w' ⟨rfl, rfl⟩) | (refine (w3 _).mono ?_; clear w3; rintro e' w' ⟨rfl, rfl⟩) | (refine (w3s _).mono ?_; clear w3s; rintro e' w' ⟨rfl, rfl⟩) | (refine (w4r _).mono ?_; clear w4r; rintro e' w' ⟨rfl, rfl⟩)) | (go_at_call 57; first | (refine (h5 _).mono ?_; clear h5; rintro e' w' ⟨rfl, rfl⟩) | (refine (h7 _).mono ?_; clear h7; rintro e' w' ⟨rfl, rfl⟩)) | (go_at_call 21; refine (hcp _).mono ?_; clear hcp; rintro e' w3 ⟨rfl, hb3⟩; have HP3 := Lib.hid (HPOST.out w3 hb3); clear hb3 HPOST; have x1 := HP3.out.2.2.1; have x2 := HP3.out.2.2.2.1; have x4 := HP3.out.2.2.2.2.1; have m3 := HP3.out.2.2.2.2.2.1.c3; have m4 := HP3.out.2.2.2.2.2.1.c4; have s1 := HP3.out.2.2.2.2.2.2.c1; skip) | (have hq := hrw3; refine wpList_load_mid rfl 105 (.tmp 28) rfl eb (eoff + k * 5) rfl _ _ hq Try.underlying105 rfl msizeEvent ?_; clear hrw3 hq))
      go_ret
      exact ⟨ret_bool HF.out.symm, HP3.out.1⟩
    rw [q3] at w4r
    have q3' := inN_iff.1 q3
    obtain ⟨kr, rfl⟩ : ∃ kr : Nat, role = (kr : Int) := ⟨role.toNat, by omega⟩
    have hkr : kr < M.roles.length := by omega
    obtain ⟨rb, roff, hra, hrrg⟩ := recs_at Ro.cells_len (by omega) (HMV.out).roles kr hkr
    have HRA := Lib.hid hra
    have hget : M.roles[kr]? = some M.roles[kr] := List.getElem?_eq_getElem hkr
    have hfy := (HUSK.out M.roles[kr] (List.getElem_mem hkr)).us
    have HRO : Hid (∀ W, Below V.heap.size V W → W.cell? ⟨rb, roff + kr * 2 + 1, none⟩ = some (.int .i64 M.roles[kr].us)) := Lib.hid (fun W hb => by
      have h1 := hrrg kr hkr 1 _ (show (M.roles[kr].cells)[1]? = some (.int .i64 M.roles[kr].us) from rfl)
      exact (hb.cell (p := ⟨rb, roff + kr * 2 + 1, none⟩) (lt_of_cell h1)).trans h1)
    generalize M.roles[kr] = y at *
    clear hra hrrg q3'
    have h7 := fun W => rhas_any y.us u W hfy.1 hfy.2
    cases q4 : hasB y.us u with
    | true =>
      rw [q4] at h7
      have HF : Hid (freeB M s (k : Int) u = true) := Lib.hid (by rw [HEQ.out]; unfold freeE; simp [hc, q1, q2, hq5, hq6, q3, q4, hget])
      clear hc hz q1 q2 q3 q4 hget hq5 hq6  HEQ
      go_enter Try.func58, Try.ntmps58
      go_wp2_with (first | (go_at_call 97; first | (refine w1.mono ?_; clear w1; rintro e' w' ⟨rfl, rfl⟩) | (refine w2.mono ?_; clear w2; rintro e' w' ⟨rfl, rfl⟩) | (refine (w3 _).mono ?_; clear w3; rintro e' w' ⟨rfl, rfl⟩) | (refine (w3s _).mono ?_; clear w3s; rintro e' w' ⟨rfl, rfl⟩) | (refine (w4r _).mono ?_; clear w4r; rintro e' w' ⟨rfl, rfl⟩)) | (go_at_call 57; first | (refine (h5 _).mono ?_; clear h5; rintro e' w' ⟨rfl, rfl⟩) | (refine (h7 _).mono ?_; clear h7; rintro e' w' ⟨rfl, rfl⟩)) | (go_at_call 21; refine (hcp _).mono ?_; clear hcp; rintro e' w3 ⟨rfl, hb3⟩; have HP3 := Lib.hid (HPOST.out w3 hb3); clear hb3 HPOST; have x1 := HP3.out.2.2.1; have x2 := HP3.out.2.2.2.1; have x4 := HP3.out.2.2.2.2.1; have m3 := HP3.out.2.2.2.2.2.1.c3; have m4 := HP3.out.2.2.2.2.2.1.c4; have s1 := HP3.out.2.2.2.2.2.2.c1; have mr := HRO.out _ HP3.out.2.1; rw [HRA.out] at m3; skip) | (have hq := hrw3; refine wpList_load_mid rfl 105 (.tmp 28) rfl eb (eoff + k * 5) rfl _ _ hq Try.underlying105 rfl msizeEvent ?_; clear hrw3 hq))
      go_ret
      exact ⟨ret_bool HF.out.symm, HP3.out.1⟩
    | false =>
      rw [q4] at h7
      have HF : Hid (freeB M s (k : Int) u = false) := Lib.hid (by rw [HEQ.out]; unfold freeE; simp [hc, q1, q2, hq5, hq6, q3, q4, hget])
      clear hc hz q1 q2 q3 q4 hget hq5 hq6  HEQ
      go_enter Try.func58, Try.ntmps58
      go_wp2_with (first | (go_at_call 97; first | (refine w1.mono ?_; clear w1; rintro e' w' ⟨rfl, rfl⟩) | (refine w2.mono ?_; clear w2; rintro e' w' ⟨rfl, rfl⟩) | (refine (w3 _).mono ?_; clear w3; rintro e' w' ⟨rfl, rfl⟩) | (refine (w3s _).mono ?_; clear w3s; rintro e' w' ⟨rfl, rfl⟩) | (refine (w4r _).mono ?_; clear w4r; rintro e' w' ⟨rfl, rfl⟩)) | (go_at_call 57; first | (refine (h5 _).mono ?_; clear h5; rintro e' w' ⟨rfl, rfl⟩) | (refine (h7 _).mono ?_; clear h7; rintro e' w' ⟨rfl, rfl⟩)) | (go_at_call 21; refine (hcp _).mono ?_; clear hcp; rintro e' w3 ⟨rfl, hb3⟩; have HP3 := Lib.hid (HPOST.out w3 hb3); clear hb3 HPOST; have x1 := HP3.out.2.2.1; have x2 := HP3.out.2.2.2.1; have x4 := HP3.out.2.2.2.2.1; have m3 := HP3.out.2.2.2.2.2.1.c3; have m4 := HP3.out.2.2.2.2.2.1.c4; have s1 := HP3.out.2.2.2.2.2.2.c1; have mr := HRO.out _ HP3.out.2.1; rw [HRA.out] at m3; skip) | (have hq := hrw3; refine wpList_load_mid rfl 105 (.tmp 28) rfl eb (eoff + k * 5) rfl _ _ hq Try.underlying105 rfl msizeEvent ?_; clear hrw3 hq))
      go_ret
      exact ⟨ret_bool HF.out.symm, HP3.out.1⟩
end Go.Proofs.Ytdpmkhmjihgckaa
