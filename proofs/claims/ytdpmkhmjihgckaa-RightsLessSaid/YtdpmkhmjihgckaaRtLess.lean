/-
  Rights: what is enabled is free: the statement's walk.
-/
import Derived.Test.YtdpmkhmjihgckaaRtStuck
import Derived.Test.YtdpmkhmjihgckaaRtGreat
import Derived.Test.YtdpmkhmjihgckaaRtAw
import Derived.BigQuiet
import Derived.Deep.RegionHeld3
namespace Go.Proofs.Ytdpmkhmjihgckaa
open Go.RowKit
set_option linter.unusedVariables false
set_option linter.unusedSimpArgs false

/-- The boxes of the three that came in. -/
structure St3 (w W : World) (M : Mo) (s : Sq) (e u : Int) : Prop where
  below : Below w.heap.size w W
  mo : MoAt W w.heap.size M
  sq : SqAt W (w.heap.size + 1) s
  a0 : W.cell? ⟨w.heap.size + 1 + 1, 0, none⟩ = some (.int .i64 e)
  a1 : W.cell? ⟨w.heap.size + 1 + 1, 1, none⟩ = some (.int .i64 u)
theorem St3.then {w W W' : World} {M : Mo} {s : Sq} {e u : Int} (h : St3 w W M s e u) (hb : Below W.heap.size W W') : St3 w W' M s e u :=
  ⟨h.below.trans (hb.mono h.below.size), h.mo.mono hb (Nat.le_refl _), h.sq.mono hb (Nat.le_refl _), mcell_mono h.a0 hb (Nat.le_refl _), mcell_mono h.a1 hb (Nat.le_refl _)⟩
theorem st3_new (w : World) (M : Mo) (s : Sq) (e u : Int) : St3 w (((w.alloc (.cells #[.slice M.attrs.a M.attrs.n M.attrs.c, .slice M.inits.a M.inits.n M.inits.c, .slice M.users.a M.users.n M.users.c, .slice M.rolesa M.roles.length M.rolesc, .slice M.stagesa M.stages.length M.stagesc, .slice M.eventsa M.events.length M.eventsc, .slice M.guardsa M.guards.length M.guardsc, .slice M.milesa M.miles.length M.milesc, .slice M.sodsa M.sods.length M.sodsc, .slice M.order.a M.order.n M.order.c] 32)).alloc (.cells #[.slice s.vals.a s.vals.n s.vals.c, .int .i64 s.op, .int .i64 s.dn, .slice s.dida s.did.length s.didc, .slice s.cnta s.cnt.length s.cntc] 35)).alloc (.cells #[.int .i64 e, .int .i64 u] 43)) M s e u := by
  obtain ⟨b2, hm, hs⟩ := both_new w M s 32 35
  have z2 : ((w.alloc (.cells #[.slice M.attrs.a M.attrs.n M.attrs.c, .slice M.inits.a M.inits.n M.inits.c, .slice M.users.a M.users.n M.users.c, .slice M.rolesa M.roles.length M.rolesc, .slice M.stagesa M.stages.length M.stagesc, .slice M.eventsa M.events.length M.eventsc, .slice M.guardsa M.guards.length M.guardsc, .slice M.milesa M.miles.length M.milesc, .slice M.sodsa M.sods.length M.sodsc, .slice M.order.a M.order.n M.order.c] 32)).alloc (.cells #[.slice s.vals.a s.vals.n s.vals.c, .int .i64 s.op, .int .i64 s.dn, .slice s.dida s.did.length s.didc, .slice s.cnta s.cnt.length s.cntc] 35)).heap.size = w.heap.size + 1 + 1 := by simp
  generalize ((w.alloc (.cells #[.slice M.attrs.a M.attrs.n M.attrs.c, .slice M.inits.a M.inits.n M.inits.c, .slice M.users.a M.users.n M.users.c, .slice M.rolesa M.roles.length M.rolesc, .slice M.stagesa M.stages.length M.stagesc, .slice M.eventsa M.events.length M.eventsc, .slice M.guardsa M.guards.length M.guardsc, .slice M.milesa M.miles.length M.milesc, .slice M.sodsa M.sods.length M.sodsc, .slice M.order.a M.order.n M.order.c] 32)).alloc (.cells #[.slice s.vals.a s.vals.n s.vals.c, .int .i64 s.op, .int .i64 s.dn, .slice s.dida s.did.length s.didc, .slice s.cnta s.cnt.length s.cntc] 35)) = W2 at *
  have b3 := mbel_new W2 (.cells #[.int .i64 e, .int .i64 u] 43)
  refine ⟨b2.trans (b3.mono b2.size), hm.mono b3 (Nat.le_refl _), hs.mono b3 (Nat.le_refl _), ?_, ?_⟩ <;> (rw [← z2, World.cell?_alloc_at _ _ _ _ rfl]; rfl)
def noSods (M : Mo) : Mo := { M with sods := [], sodsa := none, sodsc := 0 }
theorem noSods_cpl (M : Mo) (s : Sq) : cpl (noSods M) s = cpl M s := rfl
theorem noSods_free (M : Mo) (s : Sq) (e u : Int) : freeB (noSods M) s e u = freeB M s e u := rfl
theorem noSods_rd {w : World} {M : Mo} (h : RdM w M) : RdM w (noSods M) := { h with sods := Or.inl rfl, sodsm := by simp [noSods], sodsk := by simp [noSods] }
set_option maxRecDepth 100000 in
set_option maxHeartbeats 40000000 in
theorem rightsLess_walk (M : Mo) (s : Sq) (e u : Int) (w : World) (hM : RdM w M) (hs : RdS w s) : Calls Try.prog 4 #[M.val, s.val, .agg #[.int .i64 e, .int .i64 u]] w fun r w' => r = .returned (.bool true) ∧ Below w.heap.size w w' := by
  have hu : ∀ b : Bool, ¬ (some undef = some (Value.bool b)) := fun b h => by cases h
  have HG12 : Hid (∀ W, St3 w W M s e u → Calls Try.prog 11 #[.agg #[.slice M.attrs.a M.attrs.n M.attrs.c, .slice M.inits.a M.inits.n M.inits.c, .slice M.users.a M.users.n M.users.c, .slice M.rolesa M.roles.length M.rolesc, .slice M.stagesa M.stages.length M.stagesc, .slice M.eventsa M.events.length M.eventsc, .slice M.guardsa M.guards.length M.guardsc, .slice M.milesa M.miles.length M.milesc, .slice M.sodsa M.sods.length M.sodsc, .slice M.order.a M.order.n M.order.c]] W (BoolR W fun b => b = false → M.events.length ≤ 10 ∧ M.users.n ≤ 10)) := Lib.hid fun W h => great12_any M W (hM.mono h.below (Nat.le_refl _))
  have HG15 : Hid (∀ W, St3 w W M s e u → Calls Try.prog 12 #[.agg #[.slice s.vals.a s.vals.n s.vals.c, .int .i64 s.op, .int .i64 s.dn, .slice s.dida s.did.length s.didc, .slice s.cnta s.cnt.length s.cntc]] W (BoolR W fun _ => True)) := Lib.hid fun W h => great15_any s W (hs.mono h.below (Nat.le_refl _))
  have HAW : Hid (∀ W, St3 w W M s e u → Calls Try.prog 13 #[] W fun r w' => r = .returned (.bool true) ∧ Below W.heap.size W w') := Lib.hid fun W _ => rawake_any W
  have HM := Lib.hid hM
  have HSS := Lib.hid hs
  have HS := Lib.hid (st3_new w M s e u)
  clear hM hs
  unfold Mo.val Sq.val
  go_enter Try.func4, Try.ntmps4
  go_wp2_with fail

  generalize (((w.alloc (.cells #[.slice M.attrs.a M.attrs.n M.attrs.c, .slice M.inits.a M.inits.n M.inits.c, .slice M.users.a M.users.n M.users.c, .slice M.rolesa M.roles.length M.rolesc, .slice M.stagesa M.stages.length M.stagesc, .slice M.eventsa M.events.length M.eventsc, .slice M.guardsa M.guards.length M.guardsc, .slice M.milesa M.miles.length M.milesc, .slice M.sodsa M.sods.length M.sodsc, .slice M.order.a M.order.n M.order.c] 32)).alloc (.cells #[.slice s.vals.a s.vals.n s.vals.c, .int .i64 s.op, .int .i64 s.dn, .slice s.dida s.did.length s.didc, .slice s.cnta s.cnt.length s.cntc] 35)).alloc (.cells #[.int .i64 e, .int .i64 u] 43)) = W0 at *
  refine (HG12.out _ HS.out).mono ?_
  rintro e' W' ⟨b1, rfl, hb, hb1⟩
  replace HS := Lib.hid (HS.out.then hb)
  clear hb HG12
  have m0 := HS.out.mo.c0; have m1 := HS.out.mo.c1; have m2 := HS.out.mo.c2; have m3 := HS.out.mo.c3; have m4 := HS.out.mo.c4; have m5 := HS.out.mo.c5; have m6 := HS.out.mo.c6; have m7 := HS.out.mo.c7; have m8 := HS.out.mo.c8; have m9 := HS.out.mo.c9; have s0 := HS.out.sq.c0; have s1 := HS.out.sq.c1; have s2 := HS.out.sq.c2; have s3 := HS.out.sq.c3; have s4 := HS.out.sq.c4; have a0 := HS.out.a0; have a1 := HS.out.a1
  cases b1 with
  | true =>
    go_wp2_with (go_at_call 13; (with_reducible refine (HAW.out _ HS.out).mono ?_); rintro e' W' ⟨rfl, hb⟩; replace HS := Lib.hid (HS.out.then hb); clear m0 m1 m2 m3 m4 m5 m6 m7 m8 m9 s0 s1 s2 s3 s4 a0 a1; clear hb; have m0 := HS.out.mo.c0; have m1 := HS.out.mo.c1; have m2 := HS.out.mo.c2; have m3 := HS.out.mo.c3; have m4 := HS.out.mo.c4; have m5 := HS.out.mo.c5; have m6 := HS.out.mo.c6; have m7 := HS.out.mo.c7; have m8 := HS.out.mo.c8; have m9 := HS.out.mo.c9; have s0 := HS.out.sq.c0; have s1 := HS.out.sq.c1; have s2 := HS.out.sq.c2; have s3 := HS.out.sq.c3; have s4 := HS.out.sq.c4; have a0 := HS.out.a0; have a1 := HS.out.a1)
    go_ret
    exact ⟨rfl, HS.out.below⟩
  | false =>
    obtain ⟨hE, hU⟩ := hb1 rfl
    clear hb1
    go_wp2_with fail
    refine (HG15.out _ HS.out).mono ?_
    rintro e' W' ⟨b2, rfl, hb, _⟩
    replace HS := Lib.hid (HS.out.then hb)
    clear m0 m1 m2 m3 m4 m5 m6 m7 m8 m9 s0 s1 s2 s3 s4 a0 a1
    clear hb HG15
    have m0 := HS.out.mo.c0; have m1 := HS.out.mo.c1; have m2 := HS.out.mo.c2; have m3 := HS.out.mo.c3; have m4 := HS.out.mo.c4; have m5 := HS.out.mo.c5; have m6 := HS.out.mo.c6; have m7 := HS.out.mo.c7; have m8 := HS.out.mo.c8; have m9 := HS.out.mo.c9; have s0 := HS.out.sq.c0; have s1 := HS.out.sq.c1; have s2 := HS.out.sq.c2; have s3 := HS.out.sq.c3; have s4 := HS.out.sq.c4; have a0 := HS.out.a0; have a1 := HS.out.a1
    cases b2 with
    | true =>
      go_wp2_with (go_at_call 13; (with_reducible refine (HAW.out _ HS.out).mono ?_); rintro e' W' ⟨rfl, hb⟩; replace HS := Lib.hid (HS.out.then hb); clear m0 m1 m2 m3 m4 m5 m6 m7 m8 m9 s0 s1 s2 s3 s4 a0 a1; clear hb; have m0 := HS.out.mo.c0; have m1 := HS.out.mo.c1; have m2 := HS.out.mo.c2; have m3 := HS.out.mo.c3; have m4 := HS.out.mo.c4; have m5 := HS.out.mo.c5; have m6 := HS.out.mo.c6; have m7 := HS.out.mo.c7; have m8 := HS.out.mo.c8; have m9 := HS.out.mo.c9; have s0 := HS.out.sq.c0; have s1 := HS.out.sq.c1; have s2 := HS.out.sq.c2; have s3 := HS.out.sq.c3; have s4 := HS.out.sq.c4; have a0 := HS.out.a0; have a1 := HS.out.a1)
      go_ret
      exact ⟨rfl, HS.out.below⟩
    | false =>
      go_wp2_with fail
      go_quiet (fail)
      replace HS := Lib.hid (HS.out.then (mbelow_dn (Below.refl _ _) nq))
      clear m0 m1 m2 m3 m4 m5 m6 m7 m8 m9 s0 s1 s2 s3 s4 a0 a1
      generalize W'.drewN nq = W1 at *
      have m0 := HS.out.mo.c0; have m1 := HS.out.mo.c1; have m2 := HS.out.mo.c2; have m3 := HS.out.mo.c3; have m4 := HS.out.mo.c4; have m5 := HS.out.mo.c5; have m6 := HS.out.mo.c6; have m7 := HS.out.mo.c7; have m8 := HS.out.mo.c8; have m9 := HS.out.mo.c9; have s0 := HS.out.sq.c0; have s1 := HS.out.sq.c1; have s2 := HS.out.sq.c2; have s3 := HS.out.sq.c3; have s4 := HS.out.sq.c4; have a0 := HS.out.a0; have a1 := HS.out.a1
      have HEN : Hid (∀ W, St3 w W M s e u → Calls Try.prog 24 #[.agg #[.slice M.attrs.a M.attrs.n M.attrs.c, .slice M.inits.a M.inits.n M.inits.c, .slice M.users.a M.users.n M.users.c, .slice M.rolesa M.roles.length M.rolesc, .slice M.stagesa M.stages.length M.stagesc, .slice M.eventsa M.events.length M.eventsc, .slice M.guardsa M.guards.length M.guardsc, .slice M.milesa M.miles.length M.milesc, .slice M.sodsa M.sods.length M.sodsc, .slice M.order.a M.order.n M.order.c], .agg #[.slice s.vals.a s.vals.n s.vals.c, .int .i64 s.op, .int .i64 s.dn, .slice s.dida s.did.length s.didc, .slice s.cnta s.cnt.length s.cntc], .int .i64 e, .int .i64 u] W fun r w' => r = .returned (.bool (enB M s e u)) ∧ Below W.heap.size W w') := Lib.hid fun W h => rt_enabled M s e u W (HM.out.mono h.below (Nat.le_refl _)) (HSS.out.mono h.below (Nat.le_refl _))
      have HFR : Hid (∀ W, St3 w W M s e u → Calls Try.prog 25 #[.agg #[.slice M.attrs.a M.attrs.n M.attrs.c, .slice M.inits.a M.inits.n M.inits.c, .slice M.users.a M.users.n M.users.c, .slice M.rolesa M.roles.length M.rolesc, .slice M.stagesa M.stages.length M.stagesc, .slice M.eventsa M.events.length M.eventsc, .slice M.guardsa M.guards.length M.guardsc, .slice M.milesa M.miles.length M.milesc, .slice M.sodsa M.sods.length M.sodsc, .slice M.order.a M.order.n M.order.c], .agg #[.slice s.vals.a s.vals.n s.vals.c, .int .i64 s.op, .int .i64 s.dn, .slice s.dida s.did.length s.didc, .slice s.cnta s.cnt.length s.cntc], .int .i64 e, .int .i64 u] W fun r w' => r = .returned (.bool (freeB M s e u)) ∧ Below W.heap.size W w') := Lib.hid fun W h => rt_free M s e u W (HM.out.mono h.below (Nat.le_refl _)) (HSS.out.mono h.below (Nat.le_refl _))
      have HAN : Hid (∀ W, St3 w W M s e u → Calls Try.prog 18 #[.agg #[.slice M.attrs.a M.attrs.n M.attrs.c, .slice M.inits.a M.inits.n M.inits.c, .slice M.users.a M.users.n M.users.c, .slice M.rolesa M.roles.length M.rolesc, .slice M.stagesa M.stages.length M.stagesc, .slice M.eventsa M.events.length M.eventsc, .slice M.guardsa M.guards.length M.guardsc, .slice M.milesa M.miles.length M.milesc, .slice M.sodsa M.sods.length M.sodsc, .slice M.order.a M.order.n M.order.c], .agg #[.slice s.vals.a s.vals.n s.vals.c, .int .i64 s.op, .int .i64 s.dn, .slice s.dida s.did.length s.didc, .slice s.cnta s.cnt.length s.cntc]] W fun r w' => r = .returned (.bool (anyB M s)) ∧ Below W.heap.size W w') := Lib.hid fun W h => rt_any M s W (HM.out.mono h.below (Nat.le_refl _)) (HSS.out.mono h.below (Nat.le_refl _)) (by omega) (by omega)
      have HST : Hid (∀ W, St3 w W M s e u → Calls Try.prog 22 #[.agg #[.slice M.attrs.a M.attrs.n M.attrs.c, .slice M.inits.a M.inits.n M.inits.c, .slice M.users.a M.users.n M.users.c, .slice M.rolesa M.roles.length M.rolesc, .slice M.stagesa M.stages.length M.stagesc, .slice M.eventsa M.events.length M.eventsc, .slice M.guardsa M.guards.length M.guardsc, .slice M.milesa M.miles.length M.milesc, .slice M.sodsa M.sods.length M.sodsc, .slice M.order.a M.order.n M.order.c], .agg #[.slice s.vals.a s.vals.n s.vals.c, .int .i64 s.op, .int .i64 s.dn, .slice s.dida s.did.length s.didc, .slice s.cnta s.cnt.length s.cntc]] W fun r w' => r = .returned (.bool (stuckB M s)) ∧ Below W.heap.size W w') := Lib.hid fun W h => rt_stuck M s W (HM.out.mono h.below (Nat.le_refl _)) (HSS.out.mono h.below (Nat.le_refl _)) (by omega) (by omega)
      have HCN : Hid (∀ W, St3 w W M s e u → Calls Try.prog 17 #[.agg #[.slice M.attrs.a M.attrs.n M.attrs.c, .slice M.inits.a M.inits.n M.inits.c, .slice M.users.a M.users.n M.users.c, .slice M.rolesa M.roles.length M.rolesc, .slice M.stagesa M.stages.length M.stagesc, .slice M.eventsa M.events.length M.eventsc, .slice M.guardsa M.guards.length M.guardsc, .slice M.milesa M.miles.length M.milesc, .slice M.sodsa M.sods.length M.sodsc, .slice M.order.a M.order.n M.order.c], .agg #[.slice s.vals.a s.vals.n s.vals.c, .int .i64 s.op, .int .i64 s.dn, .slice s.dida s.did.length s.didc, .slice s.cnta s.cnt.length s.cntc], .int .i64 e] W fun r w' => r = .returned (.bool (decide (0 < (whoL M s e M.users.n).length))) ∧ Below W.heap.size W w') := Lib.hid fun W h => rt_can M s e W (HM.out.mono h.below (Nat.le_refl _)) (HSS.out.mono h.below (Nat.le_refl _)) (by omega)
      have HCP : Hid (∀ W, St3 w W M s e u → Calls Try.prog 20 #[.agg #[.slice M.attrs.a M.attrs.n M.attrs.c, .slice M.inits.a M.inits.n M.inits.c, .slice M.users.a M.users.n M.users.c, .slice M.rolesa M.roles.length M.rolesc, .slice M.stagesa M.stages.length M.stagesc, .slice M.eventsa M.events.length M.eventsc, .slice M.guardsa M.guards.length M.guardsc, .slice M.milesa M.miles.length M.milesc, .slice M.sodsa M.sods.length M.sodsc, .slice M.order.a M.order.n M.order.c], .agg #[.slice s.vals.a s.vals.n s.vals.c, .int .i64 s.op, .int .i64 s.dn, .slice s.dida s.did.length s.didc, .slice s.cnta s.cnt.length s.cntc]] W fun r w' => r = .returned (.bool (cpl M s)) ∧ Below W.heap.size W w') := Lib.hid fun W h => rt_complete M s W (HM.out.mono h.below (Nat.le_refl _))
      cases hen : enB M s e u with
      | true =>
        have h1 := enB_free hen
        have h2 := stuck_not (any_of hen)
        have h3 : anyB M s = true := dcd_yes (any_of hen)
        have h4 := decide_eq_true (can_of hen)
        have h5 := (freeB_in h1).2.2
        rw [hen] at HEN
        rw [h1] at HFR
        rw [h2] at HST
        rw [h3] at HAN
        rw [h4] at HCN
        rw [h5] at HCP
        clear hen h2 h3 h4 h5
        go_wp2_with (first | (go_at_call 24; (with_reducible refine (HEN.out _ HS.out).mono ?_); rintro e' W' ⟨rfl, hb⟩; replace HS := Lib.hid (HS.out.then hb); clear m0 m1 m2 m3 m4 m5 m6 m7 m8 m9 s0 s1 s2 s3 s4 a0 a1; clear hb; have m0 := HS.out.mo.c0; have m1 := HS.out.mo.c1; have m2 := HS.out.mo.c2; have m3 := HS.out.mo.c3; have m4 := HS.out.mo.c4; have m5 := HS.out.mo.c5; have m6 := HS.out.mo.c6; have m7 := HS.out.mo.c7; have m8 := HS.out.mo.c8; have m9 := HS.out.mo.c9; have s0 := HS.out.sq.c0; have s1 := HS.out.sq.c1; have s2 := HS.out.sq.c2; have s3 := HS.out.sq.c3; have s4 := HS.out.sq.c4; have a0 := HS.out.a0; have a1 := HS.out.a1) | (go_at_call 25; (with_reducible refine (HFR.out _ HS.out).mono ?_); rintro e' W' ⟨rfl, hb⟩; replace HS := Lib.hid (HS.out.then hb); clear m0 m1 m2 m3 m4 m5 m6 m7 m8 m9 s0 s1 s2 s3 s4 a0 a1; clear hb; have m0 := HS.out.mo.c0; have m1 := HS.out.mo.c1; have m2 := HS.out.mo.c2; have m3 := HS.out.mo.c3; have m4 := HS.out.mo.c4; have m5 := HS.out.mo.c5; have m6 := HS.out.mo.c6; have m7 := HS.out.mo.c7; have m8 := HS.out.mo.c8; have m9 := HS.out.mo.c9; have s0 := HS.out.sq.c0; have s1 := HS.out.sq.c1; have s2 := HS.out.sq.c2; have s3 := HS.out.sq.c3; have s4 := HS.out.sq.c4; have a0 := HS.out.a0; have a1 := HS.out.a1) | (go_at_call 22; (with_reducible refine (HST.out _ HS.out).mono ?_); rintro e' W' ⟨rfl, hb⟩; replace HS := Lib.hid (HS.out.then hb); clear m0 m1 m2 m3 m4 m5 m6 m7 m8 m9 s0 s1 s2 s3 s4 a0 a1; clear hb; have m0 := HS.out.mo.c0; have m1 := HS.out.mo.c1; have m2 := HS.out.mo.c2; have m3 := HS.out.mo.c3; have m4 := HS.out.mo.c4; have m5 := HS.out.mo.c5; have m6 := HS.out.mo.c6; have m7 := HS.out.mo.c7; have m8 := HS.out.mo.c8; have m9 := HS.out.mo.c9; have s0 := HS.out.sq.c0; have s1 := HS.out.sq.c1; have s2 := HS.out.sq.c2; have s3 := HS.out.sq.c3; have s4 := HS.out.sq.c4; have a0 := HS.out.a0; have a1 := HS.out.a1) | (go_at_call 18; (with_reducible refine (HAN.out _ HS.out).mono ?_); rintro e' W' ⟨rfl, hb⟩; replace HS := Lib.hid (HS.out.then hb); clear m0 m1 m2 m3 m4 m5 m6 m7 m8 m9 s0 s1 s2 s3 s4 a0 a1; clear hb; have m0 := HS.out.mo.c0; have m1 := HS.out.mo.c1; have m2 := HS.out.mo.c2; have m3 := HS.out.mo.c3; have m4 := HS.out.mo.c4; have m5 := HS.out.mo.c5; have m6 := HS.out.mo.c6; have m7 := HS.out.mo.c7; have m8 := HS.out.mo.c8; have m9 := HS.out.mo.c9; have s0 := HS.out.sq.c0; have s1 := HS.out.sq.c1; have s2 := HS.out.sq.c2; have s3 := HS.out.sq.c3; have s4 := HS.out.sq.c4; have a0 := HS.out.a0; have a1 := HS.out.a1) | (go_at_call 17; (with_reducible refine (HCN.out _ HS.out).mono ?_); rintro e' W' ⟨rfl, hb⟩; replace HS := Lib.hid (HS.out.then hb); clear m0 m1 m2 m3 m4 m5 m6 m7 m8 m9 s0 s1 s2 s3 s4 a0 a1; clear hb; have m0 := HS.out.mo.c0; have m1 := HS.out.mo.c1; have m2 := HS.out.mo.c2; have m3 := HS.out.mo.c3; have m4 := HS.out.mo.c4; have m5 := HS.out.mo.c5; have m6 := HS.out.mo.c6; have m7 := HS.out.mo.c7; have m8 := HS.out.mo.c8; have m9 := HS.out.mo.c9; have s0 := HS.out.sq.c0; have s1 := HS.out.sq.c1; have s2 := HS.out.sq.c2; have s3 := HS.out.sq.c3; have s4 := HS.out.sq.c4; have a0 := HS.out.a0; have a1 := HS.out.a1) | (go_at_call 20; (with_reducible refine (HCP.out _ HS.out).mono ?_); rintro e' W' ⟨rfl, hb⟩; replace HS := Lib.hid (HS.out.then hb); clear m0 m1 m2 m3 m4 m5 m6 m7 m8 m9 s0 s1 s2 s3 s4 a0 a1; clear hb; have m0 := HS.out.mo.c0; have m1 := HS.out.mo.c1; have m2 := HS.out.mo.c2; have m3 := HS.out.mo.c3; have m4 := HS.out.mo.c4; have m5 := HS.out.mo.c5; have m6 := HS.out.mo.c6; have m7 := HS.out.mo.c7; have m8 := HS.out.mo.c8; have m9 := HS.out.mo.c9; have s0 := HS.out.sq.c0; have s1 := HS.out.sq.c1; have s2 := HS.out.sq.c2; have s3 := HS.out.sq.c3; have s4 := HS.out.sq.c4; have a0 := HS.out.a0; have a1 := HS.out.a1))
        have HFV := Lib.hid h1
        obtain ⟨nb, hnb⟩ : ∃ nb, W'.heap.size = nb := ⟨_, rfl⟩
        have HN := Lib.hid (mo_new W' (noSods M) 32)
        have HS1 := Lib.hid (HS.out.then (mbel_new W' (.cells #[.slice M.attrs.a M.attrs.n M.attrs.c, .slice M.inits.a M.inits.n M.inits.c, .slice M.users.a M.users.n M.users.c, .slice M.rolesa M.roles.length M.rolesc, .slice M.stagesa M.stages.length M.stagesc, .slice M.eventsa M.events.length M.eventsc, .slice M.guardsa M.guards.length M.guardsc, .slice M.milesa M.miles.length M.milesc, .slice none 0 0, .slice M.order.a M.order.n M.order.c] 32)))
        rw [hnb] at HN
        rw [hnb]
        change Hid (MoAt (W'.alloc (.cells #[.slice M.attrs.a M.attrs.n M.attrs.c, .slice M.inits.a M.inits.n M.inits.c, .slice M.users.a M.users.n M.users.c, .slice M.rolesa M.roles.length M.rolesc, .slice M.stagesa M.stages.length M.stagesc, .slice M.eventsa M.events.length M.eventsc, .slice M.guardsa M.guards.length M.guardsc, .slice M.milesa M.miles.length M.milesc, .slice none 0 0, .slice M.order.a M.order.n M.order.c] 32)) nb (noSods M)) at HN
        clear m0 m1 m2 m3 m4 m5 m6 m7 m8 m9 s0 s1 s2 s3 s4 a0 a1
        generalize W'.alloc (.cells #[.slice M.attrs.a M.attrs.n M.attrs.c, .slice M.inits.a M.inits.n M.inits.c, .slice M.users.a M.users.n M.users.c, .slice M.rolesa M.roles.length M.rolesc, .slice M.stagesa M.stages.length M.stagesc, .slice M.eventsa M.events.length M.eventsc, .slice M.guardsa M.guards.length M.guardsc, .slice M.milesa M.miles.length M.milesc, .slice none 0 0, .slice M.order.a M.order.n M.order.c] 32) = W1 at *
        have HENn : Hid (∀ W, Below W1.heap.size W1 W → Calls Try.prog 24 #[.agg #[.slice M.attrs.a M.attrs.n M.attrs.c, .slice M.inits.a M.inits.n M.inits.c, .slice M.users.a M.users.n M.users.c, .slice M.rolesa M.roles.length M.rolesc, .slice M.stagesa M.stages.length M.stagesc, .slice M.eventsa M.events.length M.eventsc, .slice M.guardsa M.guards.length M.guardsc, .slice M.milesa M.miles.length M.milesc, .slice none 0 0, .slice M.order.a M.order.n M.order.c], .agg #[.slice s.vals.a s.vals.n s.vals.c, .int .i64 s.op, .int .i64 s.dn, .slice s.dida s.did.length s.didc, .slice s.cnta s.cnt.length s.cntc], .int .i64 e, .int .i64 u] W fun r w' => r = .returned (.bool true) ∧ Below W.heap.size W w') := Lib.hid fun W hW => by
          have h := HS1.out.then hW
          have := rt_enabled (noSods M) s e u W (noSods_rd (HM.out.mono h.below (Nat.le_refl _))) (HSS.out.mono h.below (Nat.le_refl _))
          rw [enB_noSods rfl, noSods_free, HFV.out] at this
          exact this
        have HSTn : Hid (∀ W, Below W1.heap.size W1 W → Calls Try.prog 22 #[.agg #[.slice M.attrs.a M.attrs.n M.attrs.c, .slice M.inits.a M.inits.n M.inits.c, .slice M.users.a M.users.n M.users.c, .slice M.rolesa M.roles.length M.rolesc, .slice M.stagesa M.stages.length M.stagesc, .slice M.eventsa M.events.length M.eventsc, .slice M.guardsa M.guards.length M.guardsc, .slice M.milesa M.miles.length M.milesc, .slice none 0 0, .slice M.order.a M.order.n M.order.c], .agg #[.slice s.vals.a s.vals.n s.vals.c, .int .i64 s.op, .int .i64 s.dn, .slice s.dida s.did.length s.didc, .slice s.cnta s.cnt.length s.cntc]] W fun r w' => r = .returned (.bool false) ∧ Below W.heap.size W w') := Lib.hid fun W hW => by
          have h := HS1.out.then hW
          have := rt_stuck (noSods M) s W (noSods_rd (HM.out.mono h.below (Nat.le_refl _))) (HSS.out.mono h.below (Nat.le_refl _)) (by show M.events.length ≤ 100000; omega) (by show M.users.n ≤ 100000; omega)
          rw [stuck_noSods rfl] at this
          exact this
        have HFRn : Hid (∀ W, Below W1.heap.size W1 W → Calls Try.prog 25 #[.agg #[.slice M.attrs.a M.attrs.n M.attrs.c, .slice M.inits.a M.inits.n M.inits.c, .slice M.users.a M.users.n M.users.c, .slice M.rolesa M.roles.length M.rolesc, .slice M.stagesa M.stages.length M.stagesc, .slice M.eventsa M.events.length M.eventsc, .slice M.guardsa M.guards.length M.guardsc, .slice M.milesa M.miles.length M.milesc, .slice M.sodsa M.sods.length M.sodsc, .slice M.order.a M.order.n M.order.c], .agg #[.slice s.vals.a s.vals.n s.vals.c, .int .i64 s.op, .int .i64 s.dn, .slice s.dida s.did.length s.didc, .slice s.cnta s.cnt.length s.cntc], .int .i64 e, .int .i64 u] W fun r w' => r = .returned (.bool true) ∧ Below W.heap.size W w') := Lib.hid fun W hW => HFR.out W (HS1.out.then hW)
        have HAWn : Hid (∀ W, Below W1.heap.size W1 W → Calls Try.prog 13 #[] W fun r w' => r = .returned (.bool true) ∧ Below W.heap.size W w') := Lib.hid fun W hW => HAW.out W (HS1.out.then hW)
        have m0 := HS1.out.mo.c0
        have m1 := HS1.out.mo.c1
        have m2 := HS1.out.mo.c2
        have m3 := HS1.out.mo.c3
        have m4 := HS1.out.mo.c4
        have m5 := HS1.out.mo.c5
        have m6 := HS1.out.mo.c6
        have m7 := HS1.out.mo.c7
        have m8 := HS1.out.mo.c8
        have m9 := HS1.out.mo.c9
        have s0 := HS1.out.sq.c0
        have s1 := HS1.out.sq.c1
        have s2 := HS1.out.sq.c2
        have s3 := HS1.out.sq.c3
        have s4 := HS1.out.sq.c4
        have n0 : W1.cell? ⟨nb, 0, none⟩ = some (.slice M.attrs.a M.attrs.n M.attrs.c) := HN.out.c0
        have n1 : W1.cell? ⟨nb, 1, none⟩ = some (.slice M.inits.a M.inits.n M.inits.c) := HN.out.c1
        have n2 : W1.cell? ⟨nb, 2, none⟩ = some (.slice M.users.a M.users.n M.users.c) := HN.out.c2
        have n3 : W1.cell? ⟨nb, 3, none⟩ = some (.slice M.rolesa M.roles.length M.rolesc) := HN.out.c3
        have n4 : W1.cell? ⟨nb, 4, none⟩ = some (.slice M.stagesa M.stages.length M.stagesc) := HN.out.c4
        have n5 : W1.cell? ⟨nb, 5, none⟩ = some (.slice M.eventsa M.events.length M.eventsc) := HN.out.c5
        have n6 : W1.cell? ⟨nb, 6, none⟩ = some (.slice M.guardsa M.guards.length M.guardsc) := HN.out.c6
        have n7 : W1.cell? ⟨nb, 7, none⟩ = some (.slice M.milesa M.miles.length M.milesc) := HN.out.c7
        have n8 : W1.cell? ⟨nb, 8, none⟩ = some (.slice none 0 0) := HN.out.c8
        have n9 : W1.cell? ⟨nb, 9, none⟩ = some (.slice M.order.a M.order.n M.order.c) := HN.out.c9
        have HBW := Lib.hid HS1.out.below
        clear HS HS1 HN hnb HFR HAW HEN HAN HST HCN HCP HFV HM HSS
        go_region_held3 (fun w' => w'.cell? ⟨w.heap.size, 0, none⟩ = some (.slice M.attrs.a M.attrs.n M.attrs.c) ∧ w'.cell? ⟨w.heap.size, 1, none⟩ = some (.slice M.inits.a M.inits.n M.inits.c) ∧ w'.cell? ⟨w.heap.size, 2, none⟩ = some (.slice M.users.a M.users.n M.users.c) ∧ w'.cell? ⟨w.heap.size, 3, none⟩ = some (.slice M.rolesa M.roles.length M.rolesc) ∧ w'.cell? ⟨w.heap.size, 4, none⟩ = some (.slice M.stagesa M.stages.length M.stagesc) ∧ w'.cell? ⟨w.heap.size, 5, none⟩ = some (.slice M.eventsa M.events.length M.eventsc) ∧ w'.cell? ⟨w.heap.size, 6, none⟩ = some (.slice M.guardsa M.guards.length M.guardsc) ∧ w'.cell? ⟨w.heap.size, 7, none⟩ = some (.slice M.milesa M.miles.length M.milesc) ∧ w'.cell? ⟨w.heap.size, 8, none⟩ = some (.slice M.sodsa M.sods.length M.sodsc) ∧ w'.cell? ⟨w.heap.size, 9, none⟩ = some (.slice M.order.a M.order.n M.order.c) ∧ w'.cell? ⟨w.heap.size + 1, 0, none⟩ = some (.slice s.vals.a s.vals.n s.vals.c) ∧ w'.cell? ⟨w.heap.size + 1, 1, none⟩ = some (.int .i64 s.op) ∧ w'.cell? ⟨w.heap.size + 1, 2, none⟩ = some (.int .i64 s.dn) ∧ w'.cell? ⟨w.heap.size + 1, 3, none⟩ = some (.slice s.dida s.did.length s.didc) ∧ w'.cell? ⟨w.heap.size + 1, 4, none⟩ = some (.slice s.cnta s.cnt.length s.cntc) ∧ w'.cell? ⟨nb, 0, none⟩ = some (.slice M.attrs.a M.attrs.n M.attrs.c) ∧ w'.cell? ⟨nb, 1, none⟩ = some (.slice M.inits.a M.inits.n M.inits.c) ∧ w'.cell? ⟨nb, 2, none⟩ = some (.slice M.users.a M.users.n M.users.c) ∧ w'.cell? ⟨nb, 3, none⟩ = some (.slice M.rolesa M.roles.length M.rolesc) ∧ w'.cell? ⟨nb, 4, none⟩ = some (.slice M.stagesa M.stages.length M.stagesc) ∧ w'.cell? ⟨nb, 5, none⟩ = some (.slice M.eventsa M.events.length M.eventsc) ∧ w'.cell? ⟨nb, 6, none⟩ = some (.slice M.guardsa M.guards.length M.guardsc) ∧ w'.cell? ⟨nb, 7, none⟩ = some (.slice M.milesa M.miles.length M.milesc) ∧ w'.cell? ⟨nb, 8, none⟩ = some (.slice none 0 0) ∧ w'.cell? ⟨nb, 9, none⟩ = some (.slice M.order.a M.order.n M.order.c) ∧ Below W1.heap.size W1 w')
          (first
            | exact ⟨m0, m1, m2, m3, m4, m5, m6, m7, m8, m9, s0, s1, s2, s3, s4, n0, n1, n2, n3, n4, n5, n6, n7, n8, n9, (Below.refl _ _).drew⟩
            | go_keep
            | (go_split_ands
               refine ⟨?_, ?_, ?_, ?_, ?_, ?_, ?_, ?_, ?_, ?_, ?_, ?_, ?_, ?_, ?_, ?_, ?_, ?_, ?_, ?_, ?_, ?_, ?_, ?_, ?_, ?_⟩
               · exact mcell_mono (by assumption) hb (Nat.le_refl _)
               · exact mcell_mono (by assumption) hb (Nat.le_refl _)
               · exact mcell_mono (by assumption) hb (Nat.le_refl _)
               · exact mcell_mono (by assumption) hb (Nat.le_refl _)
               · exact mcell_mono (by assumption) hb (Nat.le_refl _)
               · exact mcell_mono (by assumption) hb (Nat.le_refl _)
               · exact mcell_mono (by assumption) hb (Nat.le_refl _)
               · exact mcell_mono (by assumption) hb (Nat.le_refl _)
               · exact mcell_mono (by assumption) hb (Nat.le_refl _)
               · exact mcell_mono (by assumption) hb (Nat.le_refl _)
               · exact mcell_mono (by assumption) hb (Nat.le_refl _)
               · exact mcell_mono (by assumption) hb (Nat.le_refl _)
               · exact mcell_mono (by assumption) hb (Nat.le_refl _)
               · exact mcell_mono (by assumption) hb (Nat.le_refl _)
               · exact mcell_mono (by assumption) hb (Nat.le_refl _)
               · exact mcell_mono (by assumption) hb (Nat.le_refl _)
               · exact mcell_mono (by assumption) hb (Nat.le_refl _)
               · exact mcell_mono (by assumption) hb (Nat.le_refl _)
               · exact mcell_mono (by assumption) hb (Nat.le_refl _)
               · exact mcell_mono (by assumption) hb (Nat.le_refl _)
               · exact mcell_mono (by assumption) hb (Nat.le_refl _)
               · exact mcell_mono (by assumption) hb (Nat.le_refl _)
               · exact mcell_mono (by assumption) hb (Nat.le_refl _)
               · exact mcell_mono (by assumption) hb (Nat.le_refl _)
               · exact mcell_mono (by assumption) hb (Nat.le_refl _)
               · exact Below.trans (by assumption) (hb.mono (Below.size (by assumption)))))
          (first | (go_at_call 24; ((with_reducible refine (HENn.out _ (by first | exact (Below.refl _ _).drew | assumption | (go_split_ands; assumption))).mono ?_); rintro e' w2 ⟨rfl, hb⟩)) | (go_at_call 25; ((with_reducible refine (HFRn.out _ (by first | exact (Below.refl _ _).drew | assumption | (go_split_ands; assumption))).mono ?_); rintro e' w2 ⟨rfl, hb⟩)) | (go_at_call 22; ((with_reducible refine (HSTn.out _ (by first | exact (Below.refl _ _).drew | assumption | (go_split_ands; assumption))).mono ?_); rintro e' w2 ⟨rfl, hb⟩)) | (go_at_call 13; ((with_reducible refine (HAWn.out _ (by first | exact (Below.refl _ _).drew | assumption | (go_split_ands; assumption))).mono ?_); rintro e' w2 ⟨rfl, hb⟩)))
        rename_i hh
        obtain ⟨-, -, -, -, -, -, -, -, -, -, -, -, -, -, -, -, -, -, -, -, -, -, -, -, -, hbl⟩ := hh
        have HF := Lib.hid (HBW.out.trans (hbl.mono HBW.out.size))
        clear hbl
        go_wp2_with fail
        go_ret
        exact ⟨rfl, HF.out⟩
      | false =>
        rw [hen] at HEN
        cases hcp : cpl M s with
        | true =>
          have h1 : freeB M s e u = false := by
            cases hf : freeB M s e u with
            | false => rfl
            | true => rw [(freeB_in hf).2.2] at hcp; cases hcp
          have h2 := (cpl_any hcp).1
          have h3 := (cpl_any hcp).2
          rw [h1] at HFR
          rw [h3] at HST
          rw [h2] at HAN
          rw [hcp] at HCP
          clear hen h2 h3 hcp
          go_wp2_with (first | (go_at_call 24; (with_reducible refine (HEN.out _ HS.out).mono ?_); rintro e' W' ⟨rfl, hb⟩; replace HS := Lib.hid (HS.out.then hb); clear m0 m1 m2 m3 m4 m5 m6 m7 m8 m9 s0 s1 s2 s3 s4 a0 a1; clear hb; have m0 := HS.out.mo.c0; have m1 := HS.out.mo.c1; have m2 := HS.out.mo.c2; have m3 := HS.out.mo.c3; have m4 := HS.out.mo.c4; have m5 := HS.out.mo.c5; have m6 := HS.out.mo.c6; have m7 := HS.out.mo.c7; have m8 := HS.out.mo.c8; have m9 := HS.out.mo.c9; have s0 := HS.out.sq.c0; have s1 := HS.out.sq.c1; have s2 := HS.out.sq.c2; have s3 := HS.out.sq.c3; have s4 := HS.out.sq.c4; have a0 := HS.out.a0; have a1 := HS.out.a1) | (go_at_call 25; (with_reducible refine (HFR.out _ HS.out).mono ?_); rintro e' W' ⟨rfl, hb⟩; replace HS := Lib.hid (HS.out.then hb); clear m0 m1 m2 m3 m4 m5 m6 m7 m8 m9 s0 s1 s2 s3 s4 a0 a1; clear hb; have m0 := HS.out.mo.c0; have m1 := HS.out.mo.c1; have m2 := HS.out.mo.c2; have m3 := HS.out.mo.c3; have m4 := HS.out.mo.c4; have m5 := HS.out.mo.c5; have m6 := HS.out.mo.c6; have m7 := HS.out.mo.c7; have m8 := HS.out.mo.c8; have m9 := HS.out.mo.c9; have s0 := HS.out.sq.c0; have s1 := HS.out.sq.c1; have s2 := HS.out.sq.c2; have s3 := HS.out.sq.c3; have s4 := HS.out.sq.c4; have a0 := HS.out.a0; have a1 := HS.out.a1) | (go_at_call 22; (with_reducible refine (HST.out _ HS.out).mono ?_); rintro e' W' ⟨rfl, hb⟩; replace HS := Lib.hid (HS.out.then hb); clear m0 m1 m2 m3 m4 m5 m6 m7 m8 m9 s0 s1 s2 s3 s4 a0 a1; clear hb; have m0 := HS.out.mo.c0; have m1 := HS.out.mo.c1; have m2 := HS.out.mo.c2; have m3 := HS.out.mo.c3; have m4 := HS.out.mo.c4; have m5 := HS.out.mo.c5; have m6 := HS.out.mo.c6; have m7 := HS.out.mo.c7; have m8 := HS.out.mo.c8; have m9 := HS.out.mo.c9; have s0 := HS.out.sq.c0; have s1 := HS.out.sq.c1; have s2 := HS.out.sq.c2; have s3 := HS.out.sq.c3; have s4 := HS.out.sq.c4; have a0 := HS.out.a0; have a1 := HS.out.a1) | (go_at_call 18; (with_reducible refine (HAN.out _ HS.out).mono ?_); rintro e' W' ⟨rfl, hb⟩; replace HS := Lib.hid (HS.out.then hb); clear m0 m1 m2 m3 m4 m5 m6 m7 m8 m9 s0 s1 s2 s3 s4 a0 a1; clear hb; have m0 := HS.out.mo.c0; have m1 := HS.out.mo.c1; have m2 := HS.out.mo.c2; have m3 := HS.out.mo.c3; have m4 := HS.out.mo.c4; have m5 := HS.out.mo.c5; have m6 := HS.out.mo.c6; have m7 := HS.out.mo.c7; have m8 := HS.out.mo.c8; have m9 := HS.out.mo.c9; have s0 := HS.out.sq.c0; have s1 := HS.out.sq.c1; have s2 := HS.out.sq.c2; have s3 := HS.out.sq.c3; have s4 := HS.out.sq.c4; have a0 := HS.out.a0; have a1 := HS.out.a1) | (go_at_call 17; (with_reducible refine (HCN.out _ HS.out).mono ?_); rintro e' W' ⟨rfl, hb⟩; replace HS := Lib.hid (HS.out.then hb); clear m0 m1 m2 m3 m4 m5 m6 m7 m8 m9 s0 s1 s2 s3 s4 a0 a1; clear hb; have m0 := HS.out.mo.c0; have m1 := HS.out.mo.c1; have m2 := HS.out.mo.c2; have m3 := HS.out.mo.c3; have m4 := HS.out.mo.c4; have m5 := HS.out.mo.c5; have m6 := HS.out.mo.c6; have m7 := HS.out.mo.c7; have m8 := HS.out.mo.c8; have m9 := HS.out.mo.c9; have s0 := HS.out.sq.c0; have s1 := HS.out.sq.c1; have s2 := HS.out.sq.c2; have s3 := HS.out.sq.c3; have s4 := HS.out.sq.c4; have a0 := HS.out.a0; have a1 := HS.out.a1) | (go_at_call 20; (with_reducible refine (HCP.out _ HS.out).mono ?_); rintro e' W' ⟨rfl, hb⟩; replace HS := Lib.hid (HS.out.then hb); clear m0 m1 m2 m3 m4 m5 m6 m7 m8 m9 s0 s1 s2 s3 s4 a0 a1; clear hb; have m0 := HS.out.mo.c0; have m1 := HS.out.mo.c1; have m2 := HS.out.mo.c2; have m3 := HS.out.mo.c3; have m4 := HS.out.mo.c4; have m5 := HS.out.mo.c5; have m6 := HS.out.mo.c6; have m7 := HS.out.mo.c7; have m8 := HS.out.mo.c8; have m9 := HS.out.mo.c9; have s0 := HS.out.sq.c0; have s1 := HS.out.sq.c1; have s2 := HS.out.sq.c2; have s3 := HS.out.sq.c3; have s4 := HS.out.sq.c4; have a0 := HS.out.a0; have a1 := HS.out.a1))
          have HFV := Lib.hid h1
          obtain ⟨nb, hnb⟩ : ∃ nb, W'.heap.size = nb := ⟨_, rfl⟩
          have HN := Lib.hid (mo_new W' (noSods M) 32)
          have HS1 := Lib.hid (HS.out.then (mbel_new W' (.cells #[.slice M.attrs.a M.attrs.n M.attrs.c, .slice M.inits.a M.inits.n M.inits.c, .slice M.users.a M.users.n M.users.c, .slice M.rolesa M.roles.length M.rolesc, .slice M.stagesa M.stages.length M.stagesc, .slice M.eventsa M.events.length M.eventsc, .slice M.guardsa M.guards.length M.guardsc, .slice M.milesa M.miles.length M.milesc, .slice none 0 0, .slice M.order.a M.order.n M.order.c] 32)))
          rw [hnb] at HN
          rw [hnb]
          change Hid (MoAt (W'.alloc (.cells #[.slice M.attrs.a M.attrs.n M.attrs.c, .slice M.inits.a M.inits.n M.inits.c, .slice M.users.a M.users.n M.users.c, .slice M.rolesa M.roles.length M.rolesc, .slice M.stagesa M.stages.length M.stagesc, .slice M.eventsa M.events.length M.eventsc, .slice M.guardsa M.guards.length M.guardsc, .slice M.milesa M.miles.length M.milesc, .slice none 0 0, .slice M.order.a M.order.n M.order.c] 32)) nb (noSods M)) at HN
          clear m0 m1 m2 m3 m4 m5 m6 m7 m8 m9 s0 s1 s2 s3 s4 a0 a1
          generalize W'.alloc (.cells #[.slice M.attrs.a M.attrs.n M.attrs.c, .slice M.inits.a M.inits.n M.inits.c, .slice M.users.a M.users.n M.users.c, .slice M.rolesa M.roles.length M.rolesc, .slice M.stagesa M.stages.length M.stagesc, .slice M.eventsa M.events.length M.eventsc, .slice M.guardsa M.guards.length M.guardsc, .slice M.milesa M.miles.length M.milesc, .slice none 0 0, .slice M.order.a M.order.n M.order.c] 32) = W1 at *
          have HENn : Hid (∀ W, Below W1.heap.size W1 W → Calls Try.prog 24 #[.agg #[.slice M.attrs.a M.attrs.n M.attrs.c, .slice M.inits.a M.inits.n M.inits.c, .slice M.users.a M.users.n M.users.c, .slice M.rolesa M.roles.length M.rolesc, .slice M.stagesa M.stages.length M.stagesc, .slice M.eventsa M.events.length M.eventsc, .slice M.guardsa M.guards.length M.guardsc, .slice M.milesa M.miles.length M.milesc, .slice none 0 0, .slice M.order.a M.order.n M.order.c], .agg #[.slice s.vals.a s.vals.n s.vals.c, .int .i64 s.op, .int .i64 s.dn, .slice s.dida s.did.length s.didc, .slice s.cnta s.cnt.length s.cntc], .int .i64 e, .int .i64 u] W fun r w' => r = .returned (.bool false) ∧ Below W.heap.size W w') := Lib.hid fun W hW => by
            have h := HS1.out.then hW
            have := rt_enabled (noSods M) s e u W (noSods_rd (HM.out.mono h.below (Nat.le_refl _))) (HSS.out.mono h.below (Nat.le_refl _))
            rw [enB_noSods rfl, noSods_free, HFV.out] at this
            exact this
          have HSTn : Hid (∀ W, Below W1.heap.size W1 W → Calls Try.prog 22 #[.agg #[.slice M.attrs.a M.attrs.n M.attrs.c, .slice M.inits.a M.inits.n M.inits.c, .slice M.users.a M.users.n M.users.c, .slice M.rolesa M.roles.length M.rolesc, .slice M.stagesa M.stages.length M.stagesc, .slice M.eventsa M.events.length M.eventsc, .slice M.guardsa M.guards.length M.guardsc, .slice M.milesa M.miles.length M.milesc, .slice none 0 0, .slice M.order.a M.order.n M.order.c], .agg #[.slice s.vals.a s.vals.n s.vals.c, .int .i64 s.op, .int .i64 s.dn, .slice s.dida s.did.length s.didc, .slice s.cnta s.cnt.length s.cntc]] W fun r w' => r = .returned (.bool false) ∧ Below W.heap.size W w') := Lib.hid fun W hW => by
            have h := HS1.out.then hW
            have := rt_stuck (noSods M) s W (noSods_rd (HM.out.mono h.below (Nat.le_refl _))) (HSS.out.mono h.below (Nat.le_refl _)) (by show M.events.length ≤ 100000; omega) (by show M.users.n ≤ 100000; omega)
            rw [stuck_noSods rfl] at this
            exact this
          have HFRn : Hid (∀ W, Below W1.heap.size W1 W → Calls Try.prog 25 #[.agg #[.slice M.attrs.a M.attrs.n M.attrs.c, .slice M.inits.a M.inits.n M.inits.c, .slice M.users.a M.users.n M.users.c, .slice M.rolesa M.roles.length M.rolesc, .slice M.stagesa M.stages.length M.stagesc, .slice M.eventsa M.events.length M.eventsc, .slice M.guardsa M.guards.length M.guardsc, .slice M.milesa M.miles.length M.milesc, .slice M.sodsa M.sods.length M.sodsc, .slice M.order.a M.order.n M.order.c], .agg #[.slice s.vals.a s.vals.n s.vals.c, .int .i64 s.op, .int .i64 s.dn, .slice s.dida s.did.length s.didc, .slice s.cnta s.cnt.length s.cntc], .int .i64 e, .int .i64 u] W fun r w' => r = .returned (.bool false) ∧ Below W.heap.size W w') := Lib.hid fun W hW => HFR.out W (HS1.out.then hW)
          have HAWn : Hid (∀ W, Below W1.heap.size W1 W → Calls Try.prog 13 #[] W fun r w' => r = .returned (.bool true) ∧ Below W.heap.size W w') := Lib.hid fun W hW => HAW.out W (HS1.out.then hW)
          have m0 := HS1.out.mo.c0
          have m1 := HS1.out.mo.c1
          have m2 := HS1.out.mo.c2
          have m3 := HS1.out.mo.c3
          have m4 := HS1.out.mo.c4
          have m5 := HS1.out.mo.c5
          have m6 := HS1.out.mo.c6
          have m7 := HS1.out.mo.c7
          have m8 := HS1.out.mo.c8
          have m9 := HS1.out.mo.c9
          have s0 := HS1.out.sq.c0
          have s1 := HS1.out.sq.c1
          have s2 := HS1.out.sq.c2
          have s3 := HS1.out.sq.c3
          have s4 := HS1.out.sq.c4
          have n0 : W1.cell? ⟨nb, 0, none⟩ = some (.slice M.attrs.a M.attrs.n M.attrs.c) := HN.out.c0
          have n1 : W1.cell? ⟨nb, 1, none⟩ = some (.slice M.inits.a M.inits.n M.inits.c) := HN.out.c1
          have n2 : W1.cell? ⟨nb, 2, none⟩ = some (.slice M.users.a M.users.n M.users.c) := HN.out.c2
          have n3 : W1.cell? ⟨nb, 3, none⟩ = some (.slice M.rolesa M.roles.length M.rolesc) := HN.out.c3
          have n4 : W1.cell? ⟨nb, 4, none⟩ = some (.slice M.stagesa M.stages.length M.stagesc) := HN.out.c4
          have n5 : W1.cell? ⟨nb, 5, none⟩ = some (.slice M.eventsa M.events.length M.eventsc) := HN.out.c5
          have n6 : W1.cell? ⟨nb, 6, none⟩ = some (.slice M.guardsa M.guards.length M.guardsc) := HN.out.c6
          have n7 : W1.cell? ⟨nb, 7, none⟩ = some (.slice M.milesa M.miles.length M.milesc) := HN.out.c7
          have n8 : W1.cell? ⟨nb, 8, none⟩ = some (.slice none 0 0) := HN.out.c8
          have n9 : W1.cell? ⟨nb, 9, none⟩ = some (.slice M.order.a M.order.n M.order.c) := HN.out.c9
          have HBW := Lib.hid HS1.out.below
          clear HS HS1 HN hnb HFR HAW HEN HAN HST HCN HCP HFV HM HSS
          go_region_held3 (fun w' => w'.cell? ⟨w.heap.size, 0, none⟩ = some (.slice M.attrs.a M.attrs.n M.attrs.c) ∧ w'.cell? ⟨w.heap.size, 1, none⟩ = some (.slice M.inits.a M.inits.n M.inits.c) ∧ w'.cell? ⟨w.heap.size, 2, none⟩ = some (.slice M.users.a M.users.n M.users.c) ∧ w'.cell? ⟨w.heap.size, 3, none⟩ = some (.slice M.rolesa M.roles.length M.rolesc) ∧ w'.cell? ⟨w.heap.size, 4, none⟩ = some (.slice M.stagesa M.stages.length M.stagesc) ∧ w'.cell? ⟨w.heap.size, 5, none⟩ = some (.slice M.eventsa M.events.length M.eventsc) ∧ w'.cell? ⟨w.heap.size, 6, none⟩ = some (.slice M.guardsa M.guards.length M.guardsc) ∧ w'.cell? ⟨w.heap.size, 7, none⟩ = some (.slice M.milesa M.miles.length M.milesc) ∧ w'.cell? ⟨w.heap.size, 8, none⟩ = some (.slice M.sodsa M.sods.length M.sodsc) ∧ w'.cell? ⟨w.heap.size, 9, none⟩ = some (.slice M.order.a M.order.n M.order.c) ∧ w'.cell? ⟨w.heap.size + 1, 0, none⟩ = some (.slice s.vals.a s.vals.n s.vals.c) ∧ w'.cell? ⟨w.heap.size + 1, 1, none⟩ = some (.int .i64 s.op) ∧ w'.cell? ⟨w.heap.size + 1, 2, none⟩ = some (.int .i64 s.dn) ∧ w'.cell? ⟨w.heap.size + 1, 3, none⟩ = some (.slice s.dida s.did.length s.didc) ∧ w'.cell? ⟨w.heap.size + 1, 4, none⟩ = some (.slice s.cnta s.cnt.length s.cntc) ∧ w'.cell? ⟨nb, 0, none⟩ = some (.slice M.attrs.a M.attrs.n M.attrs.c) ∧ w'.cell? ⟨nb, 1, none⟩ = some (.slice M.inits.a M.inits.n M.inits.c) ∧ w'.cell? ⟨nb, 2, none⟩ = some (.slice M.users.a M.users.n M.users.c) ∧ w'.cell? ⟨nb, 3, none⟩ = some (.slice M.rolesa M.roles.length M.rolesc) ∧ w'.cell? ⟨nb, 4, none⟩ = some (.slice M.stagesa M.stages.length M.stagesc) ∧ w'.cell? ⟨nb, 5, none⟩ = some (.slice M.eventsa M.events.length M.eventsc) ∧ w'.cell? ⟨nb, 6, none⟩ = some (.slice M.guardsa M.guards.length M.guardsc) ∧ w'.cell? ⟨nb, 7, none⟩ = some (.slice M.milesa M.miles.length M.milesc) ∧ w'.cell? ⟨nb, 8, none⟩ = some (.slice none 0 0) ∧ w'.cell? ⟨nb, 9, none⟩ = some (.slice M.order.a M.order.n M.order.c) ∧ Below W1.heap.size W1 w')
            (first
              | exact ⟨m0, m1, m2, m3, m4, m5, m6, m7, m8, m9, s0, s1, s2, s3, s4, n0, n1, n2, n3, n4, n5, n6, n7, n8, n9, (Below.refl _ _).drew⟩
              | go_keep
              | (go_split_ands
                 refine ⟨?_, ?_, ?_, ?_, ?_, ?_, ?_, ?_, ?_, ?_, ?_, ?_, ?_, ?_, ?_, ?_, ?_, ?_, ?_, ?_, ?_, ?_, ?_, ?_, ?_, ?_⟩
                 · exact mcell_mono (by assumption) hb (Nat.le_refl _)
                 · exact mcell_mono (by assumption) hb (Nat.le_refl _)
                 · exact mcell_mono (by assumption) hb (Nat.le_refl _)
                 · exact mcell_mono (by assumption) hb (Nat.le_refl _)
                 · exact mcell_mono (by assumption) hb (Nat.le_refl _)
                 · exact mcell_mono (by assumption) hb (Nat.le_refl _)
                 · exact mcell_mono (by assumption) hb (Nat.le_refl _)
                 · exact mcell_mono (by assumption) hb (Nat.le_refl _)
                 · exact mcell_mono (by assumption) hb (Nat.le_refl _)
                 · exact mcell_mono (by assumption) hb (Nat.le_refl _)
                 · exact mcell_mono (by assumption) hb (Nat.le_refl _)
                 · exact mcell_mono (by assumption) hb (Nat.le_refl _)
                 · exact mcell_mono (by assumption) hb (Nat.le_refl _)
                 · exact mcell_mono (by assumption) hb (Nat.le_refl _)
                 · exact mcell_mono (by assumption) hb (Nat.le_refl _)
                 · exact mcell_mono (by assumption) hb (Nat.le_refl _)
                 · exact mcell_mono (by assumption) hb (Nat.le_refl _)
                 · exact mcell_mono (by assumption) hb (Nat.le_refl _)
                 · exact mcell_mono (by assumption) hb (Nat.le_refl _)
                 · exact mcell_mono (by assumption) hb (Nat.le_refl _)
                 · exact mcell_mono (by assumption) hb (Nat.le_refl _)
                 · exact mcell_mono (by assumption) hb (Nat.le_refl _)
                 · exact mcell_mono (by assumption) hb (Nat.le_refl _)
                 · exact mcell_mono (by assumption) hb (Nat.le_refl _)
                 · exact mcell_mono (by assumption) hb (Nat.le_refl _)
                 · exact Below.trans (by assumption) (hb.mono (Below.size (by assumption)))))
            (first | (go_at_call 24; ((with_reducible refine (HENn.out _ (by first | exact (Below.refl _ _).drew | assumption | (go_split_ands; assumption))).mono ?_); rintro e' w2 ⟨rfl, hb⟩)) | (go_at_call 25; ((with_reducible refine (HFRn.out _ (by first | exact (Below.refl _ _).drew | assumption | (go_split_ands; assumption))).mono ?_); rintro e' w2 ⟨rfl, hb⟩)) | (go_at_call 22; ((with_reducible refine (HSTn.out _ (by first | exact (Below.refl _ _).drew | assumption | (go_split_ands; assumption))).mono ?_); rintro e' w2 ⟨rfl, hb⟩)) | (go_at_call 13; ((with_reducible refine (HAWn.out _ (by first | exact (Below.refl _ _).drew | assumption | (go_split_ands; assumption))).mono ?_); rintro e' w2 ⟨rfl, hb⟩)))
          rename_i hh
          obtain ⟨-, -, -, -, -, -, -, -, -, -, -, -, -, -, -, -, -, -, -, -, -, -, -, -, -, hbl⟩ := hh
          have HF := Lib.hid (HBW.out.trans (hbl.mono HBW.out.size))
          clear hbl
          go_wp2_with fail
          go_ret
          exact ⟨rfl, HF.out⟩
        | false =>
          rw [hcp] at HCP
          cases h1 : freeB M s e u with
          | true =>
            rw [h1] at HFR
            clear hen hcp
            go_wp2_with (first | (go_at_call 24; (with_reducible refine (HEN.out _ HS.out).mono ?_); rintro e' W' ⟨rfl, hb⟩; replace HS := Lib.hid (HS.out.then hb); clear m0 m1 m2 m3 m4 m5 m6 m7 m8 m9 s0 s1 s2 s3 s4 a0 a1; clear hb; have m0 := HS.out.mo.c0; have m1 := HS.out.mo.c1; have m2 := HS.out.mo.c2; have m3 := HS.out.mo.c3; have m4 := HS.out.mo.c4; have m5 := HS.out.mo.c5; have m6 := HS.out.mo.c6; have m7 := HS.out.mo.c7; have m8 := HS.out.mo.c8; have m9 := HS.out.mo.c9; have s0 := HS.out.sq.c0; have s1 := HS.out.sq.c1; have s2 := HS.out.sq.c2; have s3 := HS.out.sq.c3; have s4 := HS.out.sq.c4; have a0 := HS.out.a0; have a1 := HS.out.a1) | (go_at_call 25; (with_reducible refine (HFR.out _ HS.out).mono ?_); rintro e' W' ⟨rfl, hb⟩; replace HS := Lib.hid (HS.out.then hb); clear m0 m1 m2 m3 m4 m5 m6 m7 m8 m9 s0 s1 s2 s3 s4 a0 a1; clear hb; have m0 := HS.out.mo.c0; have m1 := HS.out.mo.c1; have m2 := HS.out.mo.c2; have m3 := HS.out.mo.c3; have m4 := HS.out.mo.c4; have m5 := HS.out.mo.c5; have m6 := HS.out.mo.c6; have m7 := HS.out.mo.c7; have m8 := HS.out.mo.c8; have m9 := HS.out.mo.c9; have s0 := HS.out.sq.c0; have s1 := HS.out.sq.c1; have s2 := HS.out.sq.c2; have s3 := HS.out.sq.c3; have s4 := HS.out.sq.c4; have a0 := HS.out.a0; have a1 := HS.out.a1) | (go_at_call 22; (with_reducible refine (HST.out _ HS.out).mono ?_); rintro e' W' ⟨rfl, hb⟩; replace HS := Lib.hid (HS.out.then hb); clear m0 m1 m2 m3 m4 m5 m6 m7 m8 m9 s0 s1 s2 s3 s4 a0 a1; clear hb; have m0 := HS.out.mo.c0; have m1 := HS.out.mo.c1; have m2 := HS.out.mo.c2; have m3 := HS.out.mo.c3; have m4 := HS.out.mo.c4; have m5 := HS.out.mo.c5; have m6 := HS.out.mo.c6; have m7 := HS.out.mo.c7; have m8 := HS.out.mo.c8; have m9 := HS.out.mo.c9; have s0 := HS.out.sq.c0; have s1 := HS.out.sq.c1; have s2 := HS.out.sq.c2; have s3 := HS.out.sq.c3; have s4 := HS.out.sq.c4; have a0 := HS.out.a0; have a1 := HS.out.a1) | (go_at_call 18; (with_reducible refine (HAN.out _ HS.out).mono ?_); rintro e' W' ⟨rfl, hb⟩; replace HS := Lib.hid (HS.out.then hb); clear m0 m1 m2 m3 m4 m5 m6 m7 m8 m9 s0 s1 s2 s3 s4 a0 a1; clear hb; have m0 := HS.out.mo.c0; have m1 := HS.out.mo.c1; have m2 := HS.out.mo.c2; have m3 := HS.out.mo.c3; have m4 := HS.out.mo.c4; have m5 := HS.out.mo.c5; have m6 := HS.out.mo.c6; have m7 := HS.out.mo.c7; have m8 := HS.out.mo.c8; have m9 := HS.out.mo.c9; have s0 := HS.out.sq.c0; have s1 := HS.out.sq.c1; have s2 := HS.out.sq.c2; have s3 := HS.out.sq.c3; have s4 := HS.out.sq.c4; have a0 := HS.out.a0; have a1 := HS.out.a1) | (go_at_call 17; (with_reducible refine (HCN.out _ HS.out).mono ?_); rintro e' W' ⟨rfl, hb⟩; replace HS := Lib.hid (HS.out.then hb); clear m0 m1 m2 m3 m4 m5 m6 m7 m8 m9 s0 s1 s2 s3 s4 a0 a1; clear hb; have m0 := HS.out.mo.c0; have m1 := HS.out.mo.c1; have m2 := HS.out.mo.c2; have m3 := HS.out.mo.c3; have m4 := HS.out.mo.c4; have m5 := HS.out.mo.c5; have m6 := HS.out.mo.c6; have m7 := HS.out.mo.c7; have m8 := HS.out.mo.c8; have m9 := HS.out.mo.c9; have s0 := HS.out.sq.c0; have s1 := HS.out.sq.c1; have s2 := HS.out.sq.c2; have s3 := HS.out.sq.c3; have s4 := HS.out.sq.c4; have a0 := HS.out.a0; have a1 := HS.out.a1) | (go_at_call 20; (with_reducible refine (HCP.out _ HS.out).mono ?_); rintro e' W' ⟨rfl, hb⟩; replace HS := Lib.hid (HS.out.then hb); clear m0 m1 m2 m3 m4 m5 m6 m7 m8 m9 s0 s1 s2 s3 s4 a0 a1; clear hb; have m0 := HS.out.mo.c0; have m1 := HS.out.mo.c1; have m2 := HS.out.mo.c2; have m3 := HS.out.mo.c3; have m4 := HS.out.mo.c4; have m5 := HS.out.mo.c5; have m6 := HS.out.mo.c6; have m7 := HS.out.mo.c7; have m8 := HS.out.mo.c8; have m9 := HS.out.mo.c9; have s0 := HS.out.sq.c0; have s1 := HS.out.sq.c1; have s2 := HS.out.sq.c2; have s3 := HS.out.sq.c3; have s4 := HS.out.sq.c4; have a0 := HS.out.a0; have a1 := HS.out.a1))
            have HFV := Lib.hid h1
            obtain ⟨nb, hnb⟩ : ∃ nb, W'.heap.size = nb := ⟨_, rfl⟩
            have HN := Lib.hid (mo_new W' (noSods M) 32)
            have HS1 := Lib.hid (HS.out.then (mbel_new W' (.cells #[.slice M.attrs.a M.attrs.n M.attrs.c, .slice M.inits.a M.inits.n M.inits.c, .slice M.users.a M.users.n M.users.c, .slice M.rolesa M.roles.length M.rolesc, .slice M.stagesa M.stages.length M.stagesc, .slice M.eventsa M.events.length M.eventsc, .slice M.guardsa M.guards.length M.guardsc, .slice M.milesa M.miles.length M.milesc, .slice none 0 0, .slice M.order.a M.order.n M.order.c] 32)))
            rw [hnb] at HN
            rw [hnb]
            change Hid (MoAt (W'.alloc (.cells #[.slice M.attrs.a M.attrs.n M.attrs.c, .slice M.inits.a M.inits.n M.inits.c, .slice M.users.a M.users.n M.users.c, .slice M.rolesa M.roles.length M.rolesc, .slice M.stagesa M.stages.length M.stagesc, .slice M.eventsa M.events.length M.eventsc, .slice M.guardsa M.guards.length M.guardsc, .slice M.milesa M.miles.length M.milesc, .slice none 0 0, .slice M.order.a M.order.n M.order.c] 32)) nb (noSods M)) at HN
            clear m0 m1 m2 m3 m4 m5 m6 m7 m8 m9 s0 s1 s2 s3 s4 a0 a1
            generalize W'.alloc (.cells #[.slice M.attrs.a M.attrs.n M.attrs.c, .slice M.inits.a M.inits.n M.inits.c, .slice M.users.a M.users.n M.users.c, .slice M.rolesa M.roles.length M.rolesc, .slice M.stagesa M.stages.length M.stagesc, .slice M.eventsa M.events.length M.eventsc, .slice M.guardsa M.guards.length M.guardsc, .slice M.milesa M.miles.length M.milesc, .slice none 0 0, .slice M.order.a M.order.n M.order.c] 32) = W1 at *
            have HENn : Hid (∀ W, Below W1.heap.size W1 W → Calls Try.prog 24 #[.agg #[.slice M.attrs.a M.attrs.n M.attrs.c, .slice M.inits.a M.inits.n M.inits.c, .slice M.users.a M.users.n M.users.c, .slice M.rolesa M.roles.length M.rolesc, .slice M.stagesa M.stages.length M.stagesc, .slice M.eventsa M.events.length M.eventsc, .slice M.guardsa M.guards.length M.guardsc, .slice M.milesa M.miles.length M.milesc, .slice none 0 0, .slice M.order.a M.order.n M.order.c], .agg #[.slice s.vals.a s.vals.n s.vals.c, .int .i64 s.op, .int .i64 s.dn, .slice s.dida s.did.length s.didc, .slice s.cnta s.cnt.length s.cntc], .int .i64 e, .int .i64 u] W fun r w' => r = .returned (.bool true) ∧ Below W.heap.size W w') := Lib.hid fun W hW => by
              have h := HS1.out.then hW
              have := rt_enabled (noSods M) s e u W (noSods_rd (HM.out.mono h.below (Nat.le_refl _))) (HSS.out.mono h.below (Nat.le_refl _))
              rw [enB_noSods rfl, noSods_free, HFV.out] at this
              exact this
            have HSTn : Hid (∀ W, Below W1.heap.size W1 W → Calls Try.prog 22 #[.agg #[.slice M.attrs.a M.attrs.n M.attrs.c, .slice M.inits.a M.inits.n M.inits.c, .slice M.users.a M.users.n M.users.c, .slice M.rolesa M.roles.length M.rolesc, .slice M.stagesa M.stages.length M.stagesc, .slice M.eventsa M.events.length M.eventsc, .slice M.guardsa M.guards.length M.guardsc, .slice M.milesa M.miles.length M.milesc, .slice none 0 0, .slice M.order.a M.order.n M.order.c], .agg #[.slice s.vals.a s.vals.n s.vals.c, .int .i64 s.op, .int .i64 s.dn, .slice s.dida s.did.length s.didc, .slice s.cnta s.cnt.length s.cntc]] W fun r w' => r = .returned (.bool false) ∧ Below W.heap.size W w') := Lib.hid fun W hW => by
              have h := HS1.out.then hW
              have := rt_stuck (noSods M) s W (noSods_rd (HM.out.mono h.below (Nat.le_refl _))) (HSS.out.mono h.below (Nat.le_refl _)) (by show M.events.length ≤ 100000; omega) (by show M.users.n ≤ 100000; omega)
              rw [stuck_noSods rfl] at this
              exact this
            have HFRn : Hid (∀ W, Below W1.heap.size W1 W → Calls Try.prog 25 #[.agg #[.slice M.attrs.a M.attrs.n M.attrs.c, .slice M.inits.a M.inits.n M.inits.c, .slice M.users.a M.users.n M.users.c, .slice M.rolesa M.roles.length M.rolesc, .slice M.stagesa M.stages.length M.stagesc, .slice M.eventsa M.events.length M.eventsc, .slice M.guardsa M.guards.length M.guardsc, .slice M.milesa M.miles.length M.milesc, .slice M.sodsa M.sods.length M.sodsc, .slice M.order.a M.order.n M.order.c], .agg #[.slice s.vals.a s.vals.n s.vals.c, .int .i64 s.op, .int .i64 s.dn, .slice s.dida s.did.length s.didc, .slice s.cnta s.cnt.length s.cntc], .int .i64 e, .int .i64 u] W fun r w' => r = .returned (.bool true) ∧ Below W.heap.size W w') := Lib.hid fun W hW => HFR.out W (HS1.out.then hW)
            have HAWn : Hid (∀ W, Below W1.heap.size W1 W → Calls Try.prog 13 #[] W fun r w' => r = .returned (.bool true) ∧ Below W.heap.size W w') := Lib.hid fun W hW => HAW.out W (HS1.out.then hW)
            have m0 := HS1.out.mo.c0
            have m1 := HS1.out.mo.c1
            have m2 := HS1.out.mo.c2
            have m3 := HS1.out.mo.c3
            have m4 := HS1.out.mo.c4
            have m5 := HS1.out.mo.c5
            have m6 := HS1.out.mo.c6
            have m7 := HS1.out.mo.c7
            have m8 := HS1.out.mo.c8
            have m9 := HS1.out.mo.c9
            have s0 := HS1.out.sq.c0
            have s1 := HS1.out.sq.c1
            have s2 := HS1.out.sq.c2
            have s3 := HS1.out.sq.c3
            have s4 := HS1.out.sq.c4
            have n0 : W1.cell? ⟨nb, 0, none⟩ = some (.slice M.attrs.a M.attrs.n M.attrs.c) := HN.out.c0
            have n1 : W1.cell? ⟨nb, 1, none⟩ = some (.slice M.inits.a M.inits.n M.inits.c) := HN.out.c1
            have n2 : W1.cell? ⟨nb, 2, none⟩ = some (.slice M.users.a M.users.n M.users.c) := HN.out.c2
            have n3 : W1.cell? ⟨nb, 3, none⟩ = some (.slice M.rolesa M.roles.length M.rolesc) := HN.out.c3
            have n4 : W1.cell? ⟨nb, 4, none⟩ = some (.slice M.stagesa M.stages.length M.stagesc) := HN.out.c4
            have n5 : W1.cell? ⟨nb, 5, none⟩ = some (.slice M.eventsa M.events.length M.eventsc) := HN.out.c5
            have n6 : W1.cell? ⟨nb, 6, none⟩ = some (.slice M.guardsa M.guards.length M.guardsc) := HN.out.c6
            have n7 : W1.cell? ⟨nb, 7, none⟩ = some (.slice M.milesa M.miles.length M.milesc) := HN.out.c7
            have n8 : W1.cell? ⟨nb, 8, none⟩ = some (.slice none 0 0) := HN.out.c8
            have n9 : W1.cell? ⟨nb, 9, none⟩ = some (.slice M.order.a M.order.n M.order.c) := HN.out.c9
            have HBW := Lib.hid HS1.out.below
            clear HS HS1 HN hnb HFR HAW HEN HAN HST HCN HCP HFV HM HSS
            go_region_held3 (fun w' => w'.cell? ⟨w.heap.size, 0, none⟩ = some (.slice M.attrs.a M.attrs.n M.attrs.c) ∧ w'.cell? ⟨w.heap.size, 1, none⟩ = some (.slice M.inits.a M.inits.n M.inits.c) ∧ w'.cell? ⟨w.heap.size, 2, none⟩ = some (.slice M.users.a M.users.n M.users.c) ∧ w'.cell? ⟨w.heap.size, 3, none⟩ = some (.slice M.rolesa M.roles.length M.rolesc) ∧ w'.cell? ⟨w.heap.size, 4, none⟩ = some (.slice M.stagesa M.stages.length M.stagesc) ∧ w'.cell? ⟨w.heap.size, 5, none⟩ = some (.slice M.eventsa M.events.length M.eventsc) ∧ w'.cell? ⟨w.heap.size, 6, none⟩ = some (.slice M.guardsa M.guards.length M.guardsc) ∧ w'.cell? ⟨w.heap.size, 7, none⟩ = some (.slice M.milesa M.miles.length M.milesc) ∧ w'.cell? ⟨w.heap.size, 8, none⟩ = some (.slice M.sodsa M.sods.length M.sodsc) ∧ w'.cell? ⟨w.heap.size, 9, none⟩ = some (.slice M.order.a M.order.n M.order.c) ∧ w'.cell? ⟨w.heap.size + 1, 0, none⟩ = some (.slice s.vals.a s.vals.n s.vals.c) ∧ w'.cell? ⟨w.heap.size + 1, 1, none⟩ = some (.int .i64 s.op) ∧ w'.cell? ⟨w.heap.size + 1, 2, none⟩ = some (.int .i64 s.dn) ∧ w'.cell? ⟨w.heap.size + 1, 3, none⟩ = some (.slice s.dida s.did.length s.didc) ∧ w'.cell? ⟨w.heap.size + 1, 4, none⟩ = some (.slice s.cnta s.cnt.length s.cntc) ∧ w'.cell? ⟨nb, 0, none⟩ = some (.slice M.attrs.a M.attrs.n M.attrs.c) ∧ w'.cell? ⟨nb, 1, none⟩ = some (.slice M.inits.a M.inits.n M.inits.c) ∧ w'.cell? ⟨nb, 2, none⟩ = some (.slice M.users.a M.users.n M.users.c) ∧ w'.cell? ⟨nb, 3, none⟩ = some (.slice M.rolesa M.roles.length M.rolesc) ∧ w'.cell? ⟨nb, 4, none⟩ = some (.slice M.stagesa M.stages.length M.stagesc) ∧ w'.cell? ⟨nb, 5, none⟩ = some (.slice M.eventsa M.events.length M.eventsc) ∧ w'.cell? ⟨nb, 6, none⟩ = some (.slice M.guardsa M.guards.length M.guardsc) ∧ w'.cell? ⟨nb, 7, none⟩ = some (.slice M.milesa M.miles.length M.milesc) ∧ w'.cell? ⟨nb, 8, none⟩ = some (.slice none 0 0) ∧ w'.cell? ⟨nb, 9, none⟩ = some (.slice M.order.a M.order.n M.order.c) ∧ Below W1.heap.size W1 w')
              (first
                | exact ⟨m0, m1, m2, m3, m4, m5, m6, m7, m8, m9, s0, s1, s2, s3, s4, n0, n1, n2, n3, n4, n5, n6, n7, n8, n9, (Below.refl _ _).drew⟩
                | go_keep
                | (go_split_ands
                   refine ⟨?_, ?_, ?_, ?_, ?_, ?_, ?_, ?_, ?_, ?_, ?_, ?_, ?_, ?_, ?_, ?_, ?_, ?_, ?_, ?_, ?_, ?_, ?_, ?_, ?_, ?_⟩
                   · exact mcell_mono (by assumption) hb (Nat.le_refl _)
                   · exact mcell_mono (by assumption) hb (Nat.le_refl _)
                   · exact mcell_mono (by assumption) hb (Nat.le_refl _)
                   · exact mcell_mono (by assumption) hb (Nat.le_refl _)
                   · exact mcell_mono (by assumption) hb (Nat.le_refl _)
                   · exact mcell_mono (by assumption) hb (Nat.le_refl _)
                   · exact mcell_mono (by assumption) hb (Nat.le_refl _)
                   · exact mcell_mono (by assumption) hb (Nat.le_refl _)
                   · exact mcell_mono (by assumption) hb (Nat.le_refl _)
                   · exact mcell_mono (by assumption) hb (Nat.le_refl _)
                   · exact mcell_mono (by assumption) hb (Nat.le_refl _)
                   · exact mcell_mono (by assumption) hb (Nat.le_refl _)
                   · exact mcell_mono (by assumption) hb (Nat.le_refl _)
                   · exact mcell_mono (by assumption) hb (Nat.le_refl _)
                   · exact mcell_mono (by assumption) hb (Nat.le_refl _)
                   · exact mcell_mono (by assumption) hb (Nat.le_refl _)
                   · exact mcell_mono (by assumption) hb (Nat.le_refl _)
                   · exact mcell_mono (by assumption) hb (Nat.le_refl _)
                   · exact mcell_mono (by assumption) hb (Nat.le_refl _)
                   · exact mcell_mono (by assumption) hb (Nat.le_refl _)
                   · exact mcell_mono (by assumption) hb (Nat.le_refl _)
                   · exact mcell_mono (by assumption) hb (Nat.le_refl _)
                   · exact mcell_mono (by assumption) hb (Nat.le_refl _)
                   · exact mcell_mono (by assumption) hb (Nat.le_refl _)
                   · exact mcell_mono (by assumption) hb (Nat.le_refl _)
                   · exact Below.trans (by assumption) (hb.mono (Below.size (by assumption)))))
              (first | (go_at_call 24; ((with_reducible refine (HENn.out _ (by first | exact (Below.refl _ _).drew | assumption | (go_split_ands; assumption))).mono ?_); rintro e' w2 ⟨rfl, hb⟩)) | (go_at_call 25; ((with_reducible refine (HFRn.out _ (by first | exact (Below.refl _ _).drew | assumption | (go_split_ands; assumption))).mono ?_); rintro e' w2 ⟨rfl, hb⟩)) | (go_at_call 22; ((with_reducible refine (HSTn.out _ (by first | exact (Below.refl _ _).drew | assumption | (go_split_ands; assumption))).mono ?_); rintro e' w2 ⟨rfl, hb⟩)) | (go_at_call 13; ((with_reducible refine (HAWn.out _ (by first | exact (Below.refl _ _).drew | assumption | (go_split_ands; assumption))).mono ?_); rintro e' w2 ⟨rfl, hb⟩)))
            rename_i hh
            obtain ⟨-, -, -, -, -, -, -, -, -, -, -, -, -, -, -, -, -, -, -, -, -, -, -, -, -, hbl⟩ := hh
            have HF := Lib.hid (HBW.out.trans (hbl.mono HBW.out.size))
            clear hbl
            go_wp2_with fail
            go_ret
            exact ⟨rfl, HF.out⟩
          | false =>
            rw [h1] at HFR
            clear hen hcp
            go_wp2_with (first | (go_at_call 24; (with_reducible refine (HEN.out _ HS.out).mono ?_); rintro e' W' ⟨rfl, hb⟩; replace HS := Lib.hid (HS.out.then hb); clear m0 m1 m2 m3 m4 m5 m6 m7 m8 m9 s0 s1 s2 s3 s4 a0 a1; clear hb; have m0 := HS.out.mo.c0; have m1 := HS.out.mo.c1; have m2 := HS.out.mo.c2; have m3 := HS.out.mo.c3; have m4 := HS.out.mo.c4; have m5 := HS.out.mo.c5; have m6 := HS.out.mo.c6; have m7 := HS.out.mo.c7; have m8 := HS.out.mo.c8; have m9 := HS.out.mo.c9; have s0 := HS.out.sq.c0; have s1 := HS.out.sq.c1; have s2 := HS.out.sq.c2; have s3 := HS.out.sq.c3; have s4 := HS.out.sq.c4; have a0 := HS.out.a0; have a1 := HS.out.a1) | (go_at_call 25; (with_reducible refine (HFR.out _ HS.out).mono ?_); rintro e' W' ⟨rfl, hb⟩; replace HS := Lib.hid (HS.out.then hb); clear m0 m1 m2 m3 m4 m5 m6 m7 m8 m9 s0 s1 s2 s3 s4 a0 a1; clear hb; have m0 := HS.out.mo.c0; have m1 := HS.out.mo.c1; have m2 := HS.out.mo.c2; have m3 := HS.out.mo.c3; have m4 := HS.out.mo.c4; have m5 := HS.out.mo.c5; have m6 := HS.out.mo.c6; have m7 := HS.out.mo.c7; have m8 := HS.out.mo.c8; have m9 := HS.out.mo.c9; have s0 := HS.out.sq.c0; have s1 := HS.out.sq.c1; have s2 := HS.out.sq.c2; have s3 := HS.out.sq.c3; have s4 := HS.out.sq.c4; have a0 := HS.out.a0; have a1 := HS.out.a1) | (go_at_call 22; (with_reducible refine (HST.out _ HS.out).mono ?_); rintro e' W' ⟨rfl, hb⟩; replace HS := Lib.hid (HS.out.then hb); clear m0 m1 m2 m3 m4 m5 m6 m7 m8 m9 s0 s1 s2 s3 s4 a0 a1; clear hb; have m0 := HS.out.mo.c0; have m1 := HS.out.mo.c1; have m2 := HS.out.mo.c2; have m3 := HS.out.mo.c3; have m4 := HS.out.mo.c4; have m5 := HS.out.mo.c5; have m6 := HS.out.mo.c6; have m7 := HS.out.mo.c7; have m8 := HS.out.mo.c8; have m9 := HS.out.mo.c9; have s0 := HS.out.sq.c0; have s1 := HS.out.sq.c1; have s2 := HS.out.sq.c2; have s3 := HS.out.sq.c3; have s4 := HS.out.sq.c4; have a0 := HS.out.a0; have a1 := HS.out.a1) | (go_at_call 18; (with_reducible refine (HAN.out _ HS.out).mono ?_); rintro e' W' ⟨rfl, hb⟩; replace HS := Lib.hid (HS.out.then hb); clear m0 m1 m2 m3 m4 m5 m6 m7 m8 m9 s0 s1 s2 s3 s4 a0 a1; clear hb; have m0 := HS.out.mo.c0; have m1 := HS.out.mo.c1; have m2 := HS.out.mo.c2; have m3 := HS.out.mo.c3; have m4 := HS.out.mo.c4; have m5 := HS.out.mo.c5; have m6 := HS.out.mo.c6; have m7 := HS.out.mo.c7; have m8 := HS.out.mo.c8; have m9 := HS.out.mo.c9; have s0 := HS.out.sq.c0; have s1 := HS.out.sq.c1; have s2 := HS.out.sq.c2; have s3 := HS.out.sq.c3; have s4 := HS.out.sq.c4; have a0 := HS.out.a0; have a1 := HS.out.a1) | (go_at_call 17; (with_reducible refine (HCN.out _ HS.out).mono ?_); rintro e' W' ⟨rfl, hb⟩; replace HS := Lib.hid (HS.out.then hb); clear m0 m1 m2 m3 m4 m5 m6 m7 m8 m9 s0 s1 s2 s3 s4 a0 a1; clear hb; have m0 := HS.out.mo.c0; have m1 := HS.out.mo.c1; have m2 := HS.out.mo.c2; have m3 := HS.out.mo.c3; have m4 := HS.out.mo.c4; have m5 := HS.out.mo.c5; have m6 := HS.out.mo.c6; have m7 := HS.out.mo.c7; have m8 := HS.out.mo.c8; have m9 := HS.out.mo.c9; have s0 := HS.out.sq.c0; have s1 := HS.out.sq.c1; have s2 := HS.out.sq.c2; have s3 := HS.out.sq.c3; have s4 := HS.out.sq.c4; have a0 := HS.out.a0; have a1 := HS.out.a1) | (go_at_call 20; (with_reducible refine (HCP.out _ HS.out).mono ?_); rintro e' W' ⟨rfl, hb⟩; replace HS := Lib.hid (HS.out.then hb); clear m0 m1 m2 m3 m4 m5 m6 m7 m8 m9 s0 s1 s2 s3 s4 a0 a1; clear hb; have m0 := HS.out.mo.c0; have m1 := HS.out.mo.c1; have m2 := HS.out.mo.c2; have m3 := HS.out.mo.c3; have m4 := HS.out.mo.c4; have m5 := HS.out.mo.c5; have m6 := HS.out.mo.c6; have m7 := HS.out.mo.c7; have m8 := HS.out.mo.c8; have m9 := HS.out.mo.c9; have s0 := HS.out.sq.c0; have s1 := HS.out.sq.c1; have s2 := HS.out.sq.c2; have s3 := HS.out.sq.c3; have s4 := HS.out.sq.c4; have a0 := HS.out.a0; have a1 := HS.out.a1))
            have HFV := Lib.hid h1
            obtain ⟨nb, hnb⟩ : ∃ nb, W'.heap.size = nb := ⟨_, rfl⟩
            have HN := Lib.hid (mo_new W' (noSods M) 32)
            have HS1 := Lib.hid (HS.out.then (mbel_new W' (.cells #[.slice M.attrs.a M.attrs.n M.attrs.c, .slice M.inits.a M.inits.n M.inits.c, .slice M.users.a M.users.n M.users.c, .slice M.rolesa M.roles.length M.rolesc, .slice M.stagesa M.stages.length M.stagesc, .slice M.eventsa M.events.length M.eventsc, .slice M.guardsa M.guards.length M.guardsc, .slice M.milesa M.miles.length M.milesc, .slice none 0 0, .slice M.order.a M.order.n M.order.c] 32)))
            rw [hnb] at HN
            rw [hnb]
            change Hid (MoAt (W'.alloc (.cells #[.slice M.attrs.a M.attrs.n M.attrs.c, .slice M.inits.a M.inits.n M.inits.c, .slice M.users.a M.users.n M.users.c, .slice M.rolesa M.roles.length M.rolesc, .slice M.stagesa M.stages.length M.stagesc, .slice M.eventsa M.events.length M.eventsc, .slice M.guardsa M.guards.length M.guardsc, .slice M.milesa M.miles.length M.milesc, .slice none 0 0, .slice M.order.a M.order.n M.order.c] 32)) nb (noSods M)) at HN
            clear m0 m1 m2 m3 m4 m5 m6 m7 m8 m9 s0 s1 s2 s3 s4 a0 a1
            generalize W'.alloc (.cells #[.slice M.attrs.a M.attrs.n M.attrs.c, .slice M.inits.a M.inits.n M.inits.c, .slice M.users.a M.users.n M.users.c, .slice M.rolesa M.roles.length M.rolesc, .slice M.stagesa M.stages.length M.stagesc, .slice M.eventsa M.events.length M.eventsc, .slice M.guardsa M.guards.length M.guardsc, .slice M.milesa M.miles.length M.milesc, .slice none 0 0, .slice M.order.a M.order.n M.order.c] 32) = W1 at *
            have HENn : Hid (∀ W, Below W1.heap.size W1 W → Calls Try.prog 24 #[.agg #[.slice M.attrs.a M.attrs.n M.attrs.c, .slice M.inits.a M.inits.n M.inits.c, .slice M.users.a M.users.n M.users.c, .slice M.rolesa M.roles.length M.rolesc, .slice M.stagesa M.stages.length M.stagesc, .slice M.eventsa M.events.length M.eventsc, .slice M.guardsa M.guards.length M.guardsc, .slice M.milesa M.miles.length M.milesc, .slice none 0 0, .slice M.order.a M.order.n M.order.c], .agg #[.slice s.vals.a s.vals.n s.vals.c, .int .i64 s.op, .int .i64 s.dn, .slice s.dida s.did.length s.didc, .slice s.cnta s.cnt.length s.cntc], .int .i64 e, .int .i64 u] W fun r w' => r = .returned (.bool false) ∧ Below W.heap.size W w') := Lib.hid fun W hW => by
              have h := HS1.out.then hW
              have := rt_enabled (noSods M) s e u W (noSods_rd (HM.out.mono h.below (Nat.le_refl _))) (HSS.out.mono h.below (Nat.le_refl _))
              rw [enB_noSods rfl, noSods_free, HFV.out] at this
              exact this
            have HSTn : Hid (∀ W, Below W1.heap.size W1 W → Calls Try.prog 22 #[.agg #[.slice M.attrs.a M.attrs.n M.attrs.c, .slice M.inits.a M.inits.n M.inits.c, .slice M.users.a M.users.n M.users.c, .slice M.rolesa M.roles.length M.rolesc, .slice M.stagesa M.stages.length M.stagesc, .slice M.eventsa M.events.length M.eventsc, .slice M.guardsa M.guards.length M.guardsc, .slice M.milesa M.miles.length M.milesc, .slice none 0 0, .slice M.order.a M.order.n M.order.c], .agg #[.slice s.vals.a s.vals.n s.vals.c, .int .i64 s.op, .int .i64 s.dn, .slice s.dida s.did.length s.didc, .slice s.cnta s.cnt.length s.cntc]] W fun r w' => r = .returned (.bool false) ∧ Below W.heap.size W w') := Lib.hid fun W hW => by
              have h := HS1.out.then hW
              have := rt_stuck (noSods M) s W (noSods_rd (HM.out.mono h.below (Nat.le_refl _))) (HSS.out.mono h.below (Nat.le_refl _)) (by show M.events.length ≤ 100000; omega) (by show M.users.n ≤ 100000; omega)
              rw [stuck_noSods rfl] at this
              exact this
            have HFRn : Hid (∀ W, Below W1.heap.size W1 W → Calls Try.prog 25 #[.agg #[.slice M.attrs.a M.attrs.n M.attrs.c, .slice M.inits.a M.inits.n M.inits.c, .slice M.users.a M.users.n M.users.c, .slice M.rolesa M.roles.length M.rolesc, .slice M.stagesa M.stages.length M.stagesc, .slice M.eventsa M.events.length M.eventsc, .slice M.guardsa M.guards.length M.guardsc, .slice M.milesa M.miles.length M.milesc, .slice M.sodsa M.sods.length M.sodsc, .slice M.order.a M.order.n M.order.c], .agg #[.slice s.vals.a s.vals.n s.vals.c, .int .i64 s.op, .int .i64 s.dn, .slice s.dida s.did.length s.didc, .slice s.cnta s.cnt.length s.cntc], .int .i64 e, .int .i64 u] W fun r w' => r = .returned (.bool false) ∧ Below W.heap.size W w') := Lib.hid fun W hW => HFR.out W (HS1.out.then hW)
            have HAWn : Hid (∀ W, Below W1.heap.size W1 W → Calls Try.prog 13 #[] W fun r w' => r = .returned (.bool true) ∧ Below W.heap.size W w') := Lib.hid fun W hW => HAW.out W (HS1.out.then hW)
            have m0 := HS1.out.mo.c0
            have m1 := HS1.out.mo.c1
            have m2 := HS1.out.mo.c2
            have m3 := HS1.out.mo.c3
            have m4 := HS1.out.mo.c4
            have m5 := HS1.out.mo.c5
            have m6 := HS1.out.mo.c6
            have m7 := HS1.out.mo.c7
            have m8 := HS1.out.mo.c8
            have m9 := HS1.out.mo.c9
            have s0 := HS1.out.sq.c0
            have s1 := HS1.out.sq.c1
            have s2 := HS1.out.sq.c2
            have s3 := HS1.out.sq.c3
            have s4 := HS1.out.sq.c4
            have n0 : W1.cell? ⟨nb, 0, none⟩ = some (.slice M.attrs.a M.attrs.n M.attrs.c) := HN.out.c0
            have n1 : W1.cell? ⟨nb, 1, none⟩ = some (.slice M.inits.a M.inits.n M.inits.c) := HN.out.c1
            have n2 : W1.cell? ⟨nb, 2, none⟩ = some (.slice M.users.a M.users.n M.users.c) := HN.out.c2
            have n3 : W1.cell? ⟨nb, 3, none⟩ = some (.slice M.rolesa M.roles.length M.rolesc) := HN.out.c3
            have n4 : W1.cell? ⟨nb, 4, none⟩ = some (.slice M.stagesa M.stages.length M.stagesc) := HN.out.c4
            have n5 : W1.cell? ⟨nb, 5, none⟩ = some (.slice M.eventsa M.events.length M.eventsc) := HN.out.c5
            have n6 : W1.cell? ⟨nb, 6, none⟩ = some (.slice M.guardsa M.guards.length M.guardsc) := HN.out.c6
            have n7 : W1.cell? ⟨nb, 7, none⟩ = some (.slice M.milesa M.miles.length M.milesc) := HN.out.c7
            have n8 : W1.cell? ⟨nb, 8, none⟩ = some (.slice none 0 0) := HN.out.c8
            have n9 : W1.cell? ⟨nb, 9, none⟩ = some (.slice M.order.a M.order.n M.order.c) := HN.out.c9
            have HBW := Lib.hid HS1.out.below
            clear HS HS1 HN hnb HFR HAW HEN HAN HST HCN HCP HFV HM HSS
            go_region_held3 (fun w' => w'.cell? ⟨w.heap.size, 0, none⟩ = some (.slice M.attrs.a M.attrs.n M.attrs.c) ∧ w'.cell? ⟨w.heap.size, 1, none⟩ = some (.slice M.inits.a M.inits.n M.inits.c) ∧ w'.cell? ⟨w.heap.size, 2, none⟩ = some (.slice M.users.a M.users.n M.users.c) ∧ w'.cell? ⟨w.heap.size, 3, none⟩ = some (.slice M.rolesa M.roles.length M.rolesc) ∧ w'.cell? ⟨w.heap.size, 4, none⟩ = some (.slice M.stagesa M.stages.length M.stagesc) ∧ w'.cell? ⟨w.heap.size, 5, none⟩ = some (.slice M.eventsa M.events.length M.eventsc) ∧ w'.cell? ⟨w.heap.size, 6, none⟩ = some (.slice M.guardsa M.guards.length M.guardsc) ∧ w'.cell? ⟨w.heap.size, 7, none⟩ = some (.slice M.milesa M.miles.length M.milesc) ∧ w'.cell? ⟨w.heap.size, 8, none⟩ = some (.slice M.sodsa M.sods.length M.sodsc) ∧ w'.cell? ⟨w.heap.size, 9, none⟩ = some (.slice M.order.a M.order.n M.order.c) ∧ w'.cell? ⟨w.heap.size + 1, 0, none⟩ = some (.slice s.vals.a s.vals.n s.vals.c) ∧ w'.cell? ⟨w.heap.size + 1, 1, none⟩ = some (.int .i64 s.op) ∧ w'.cell? ⟨w.heap.size + 1, 2, none⟩ = some (.int .i64 s.dn) ∧ w'.cell? ⟨w.heap.size + 1, 3, none⟩ = some (.slice s.dida s.did.length s.didc) ∧ w'.cell? ⟨w.heap.size + 1, 4, none⟩ = some (.slice s.cnta s.cnt.length s.cntc) ∧ w'.cell? ⟨nb, 0, none⟩ = some (.slice M.attrs.a M.attrs.n M.attrs.c) ∧ w'.cell? ⟨nb, 1, none⟩ = some (.slice M.inits.a M.inits.n M.inits.c) ∧ w'.cell? ⟨nb, 2, none⟩ = some (.slice M.users.a M.users.n M.users.c) ∧ w'.cell? ⟨nb, 3, none⟩ = some (.slice M.rolesa M.roles.length M.rolesc) ∧ w'.cell? ⟨nb, 4, none⟩ = some (.slice M.stagesa M.stages.length M.stagesc) ∧ w'.cell? ⟨nb, 5, none⟩ = some (.slice M.eventsa M.events.length M.eventsc) ∧ w'.cell? ⟨nb, 6, none⟩ = some (.slice M.guardsa M.guards.length M.guardsc) ∧ w'.cell? ⟨nb, 7, none⟩ = some (.slice M.milesa M.miles.length M.milesc) ∧ w'.cell? ⟨nb, 8, none⟩ = some (.slice none 0 0) ∧ w'.cell? ⟨nb, 9, none⟩ = some (.slice M.order.a M.order.n M.order.c) ∧ Below W1.heap.size W1 w')
              (first
                | exact ⟨m0, m1, m2, m3, m4, m5, m6, m7, m8, m9, s0, s1, s2, s3, s4, n0, n1, n2, n3, n4, n5, n6, n7, n8, n9, (Below.refl _ _).drew⟩
                | go_keep
                | (go_split_ands
                   refine ⟨?_, ?_, ?_, ?_, ?_, ?_, ?_, ?_, ?_, ?_, ?_, ?_, ?_, ?_, ?_, ?_, ?_, ?_, ?_, ?_, ?_, ?_, ?_, ?_, ?_, ?_⟩
                   · exact mcell_mono (by assumption) hb (Nat.le_refl _)
                   · exact mcell_mono (by assumption) hb (Nat.le_refl _)
                   · exact mcell_mono (by assumption) hb (Nat.le_refl _)
                   · exact mcell_mono (by assumption) hb (Nat.le_refl _)
                   · exact mcell_mono (by assumption) hb (Nat.le_refl _)
                   · exact mcell_mono (by assumption) hb (Nat.le_refl _)
                   · exact mcell_mono (by assumption) hb (Nat.le_refl _)
                   · exact mcell_mono (by assumption) hb (Nat.le_refl _)
                   · exact mcell_mono (by assumption) hb (Nat.le_refl _)
                   · exact mcell_mono (by assumption) hb (Nat.le_refl _)
                   · exact mcell_mono (by assumption) hb (Nat.le_refl _)
                   · exact mcell_mono (by assumption) hb (Nat.le_refl _)
                   · exact mcell_mono (by assumption) hb (Nat.le_refl _)
                   · exact mcell_mono (by assumption) hb (Nat.le_refl _)
                   · exact mcell_mono (by assumption) hb (Nat.le_refl _)
                   · exact mcell_mono (by assumption) hb (Nat.le_refl _)
                   · exact mcell_mono (by assumption) hb (Nat.le_refl _)
                   · exact mcell_mono (by assumption) hb (Nat.le_refl _)
                   · exact mcell_mono (by assumption) hb (Nat.le_refl _)
                   · exact mcell_mono (by assumption) hb (Nat.le_refl _)
                   · exact mcell_mono (by assumption) hb (Nat.le_refl _)
                   · exact mcell_mono (by assumption) hb (Nat.le_refl _)
                   · exact mcell_mono (by assumption) hb (Nat.le_refl _)
                   · exact mcell_mono (by assumption) hb (Nat.le_refl _)
                   · exact mcell_mono (by assumption) hb (Nat.le_refl _)
                   · exact Below.trans (by assumption) (hb.mono (Below.size (by assumption)))))
              (first | (go_at_call 24; ((with_reducible refine (HENn.out _ (by first | exact (Below.refl _ _).drew | assumption | (go_split_ands; assumption))).mono ?_); rintro e' w2 ⟨rfl, hb⟩)) | (go_at_call 25; ((with_reducible refine (HFRn.out _ (by first | exact (Below.refl _ _).drew | assumption | (go_split_ands; assumption))).mono ?_); rintro e' w2 ⟨rfl, hb⟩)) | (go_at_call 22; ((with_reducible refine (HSTn.out _ (by first | exact (Below.refl _ _).drew | assumption | (go_split_ands; assumption))).mono ?_); rintro e' w2 ⟨rfl, hb⟩)) | (go_at_call 13; ((with_reducible refine (HAWn.out _ (by first | exact (Below.refl _ _).drew | assumption | (go_split_ands; assumption))).mono ?_); rintro e' w2 ⟨rfl, hb⟩)))
            rename_i hh
            obtain ⟨-, -, -, -, -, -, -, -, -, -, -, -, -, -, -, -, -, -, -, -, -, -, -, -, -, hbl⟩ := hh
            have HF := Lib.hid (HBW.out.trans (hbl.mono HBW.out.size))
            clear hbl
            go_wp2_with fail
            go_ret
            exact ⟨rfl, HF.out⟩
end Go.Proofs.Ytdpmkhmjihgckaa
