/-
  Rights: who may: the statement's walk.
-/
import Derived.Test.YtdpmkhmjihgckaaRtRefStuck
import Derived.Test.YtdpmkhmjihgckaaRtGreat
import Derived.Test.YtdpmkhmjihgckaaRtAw
import Derived.Test.YtdpmkhmjihgckaaSame
import Derived.BigQuiet
import Derived.Deep.RegionHeld3
namespace Go.Proofs.Ytdpmkhmjihgckaa
open Go.RowKit
set_option linter.unusedVariables false
set_option linter.unusedSimpArgs false

/-- The boxes of the two that came in. -/
structure St2 (w W : World) (M : Mo) (s : Sq) : Prop where
  below : Below w.heap.size w W
  mo : MoAt W w.heap.size M
  sq : SqAt W (w.heap.size + 1) s
theorem St2.then {w W W' : World} {M : Mo} {s : Sq} (h : St2 w W M s) (hb : Below W.heap.size W W') : St2 w W' M s :=
  ⟨h.below.trans (hb.mono h.below.size), h.mo.mono hb (Nat.le_refl _), h.sq.mono hb (Nat.le_refl _)⟩
theorem mreads_own {w : World} {B n : Nat} {v : Value} {xs : List Int} (h : w.ownsRow B 3 1 v n (xs.map (Value.int .i64))) : ∃ a c, v = .slice a n c ∧ Reads w a (xs.map (Value.int .i64)) := by
  obtain ⟨a, c, rfl⟩ := own_len h
  refine ⟨a, c, rfl, ?_⟩
  by_cases h0 : n = 0
  · have hl := h.1
    subst h0
    have : xs = [] := List.eq_nil_of_length_eq_zero (by simpa using hl)
    subst this
    exact Or.inl rfl
  · obtain ⟨g, c', hv, _⟩ := own_some h (by omega)
    simp only [Value.slice.injEq] at hv
    obtain ⟨rfl, _, rfl⟩ := hv
    refine Or.inr ⟨g, 0, rfl, fun j hj => ?_⟩
    rw [Nat.zero_add]
    have hl := h.1
    exact h.cellAt j (by simp at hl hj; omega)
set_option maxRecDepth 100000 in
set_option maxHeartbeats 40000000 in
theorem rightsWho_walk (M : Mo) (s : Sq) (e : Int) (w : World) (hM : RdM w M) (hs : RdS w s) : Calls Try.prog 3 #[M.val, s.val, .int .i64 e] w fun r w' => r = .returned (.bool true) ∧ Below w.heap.size w w' := by
  have hu : ∀ b : Bool, ¬ (some undef = some (Value.bool b)) := fun b h => by cases h
  have HG12 : Hid (∀ W, St2 w W M s → Calls Try.prog 11 #[.agg #[.slice M.attrs.a M.attrs.n M.attrs.c, .slice M.inits.a M.inits.n M.inits.c, .slice M.users.a M.users.n M.users.c, .slice M.rolesa M.roles.length M.rolesc, .slice M.stagesa M.stages.length M.stagesc, .slice M.eventsa M.events.length M.eventsc, .slice M.guardsa M.guards.length M.guardsc, .slice M.milesa M.miles.length M.milesc, .slice M.sodsa M.sods.length M.sodsc, .slice M.order.a M.order.n M.order.c]] W (BoolR W fun b => b = false → M.events.length ≤ 10 ∧ M.users.n ≤ 10)) := Lib.hid fun W h => great12_any M W (hM.mono h.below (Nat.le_refl _))
  have HG15 : Hid (∀ W, St2 w W M s → Calls Try.prog 12 #[.agg #[.slice s.vals.a s.vals.n s.vals.c, .int .i64 s.op, .int .i64 s.dn, .slice s.dida s.did.length s.didc, .slice s.cnta s.cnt.length s.cntc]] W (BoolR W fun _ => True)) := Lib.hid fun W h => great15_any s W (hs.mono h.below (Nat.le_refl _))
  have HAW : Hid (∀ W, St2 w W M s → Calls Try.prog 13 #[] W fun r w' => r = .returned (.bool true) ∧ Below W.heap.size W w') := Lib.hid fun W _ => rawake_any W
  have HM := Lib.hid hM
  have HSS := Lib.hid hs
  have hbn := both_new w M s 32 35
  have HS : Hid (St2 w ((w.alloc (.cells #[.slice M.attrs.a M.attrs.n M.attrs.c, .slice M.inits.a M.inits.n M.inits.c, .slice M.users.a M.users.n M.users.c, .slice M.rolesa M.roles.length M.rolesc, .slice M.stagesa M.stages.length M.stagesc, .slice M.eventsa M.events.length M.eventsc, .slice M.guardsa M.guards.length M.guardsc, .slice M.milesa M.miles.length M.milesc, .slice M.sodsa M.sods.length M.sodsc, .slice M.order.a M.order.n M.order.c] 32)).alloc (.cells #[.slice s.vals.a s.vals.n s.vals.c, .int .i64 s.op, .int .i64 s.dn, .slice s.dida s.did.length s.didc, .slice s.cnta s.cnt.length s.cntc] 35)) M s) := Lib.hid ⟨hbn.1, hbn.2.1, hbn.2.2⟩
  clear hM hs hbn
  unfold Mo.val Sq.val
  go_enter Try.func3, Try.ntmps3
  go_wp2_with fail
  generalize ((w.alloc (.cells #[.slice M.attrs.a M.attrs.n M.attrs.c, .slice M.inits.a M.inits.n M.inits.c, .slice M.users.a M.users.n M.users.c, .slice M.rolesa M.roles.length M.rolesc, .slice M.stagesa M.stages.length M.stagesc, .slice M.eventsa M.events.length M.eventsc, .slice M.guardsa M.guards.length M.guardsc, .slice M.milesa M.miles.length M.milesc, .slice M.sodsa M.sods.length M.sodsc, .slice M.order.a M.order.n M.order.c] 32)).alloc (.cells #[.slice s.vals.a s.vals.n s.vals.c, .int .i64 s.op, .int .i64 s.dn, .slice s.dida s.did.length s.didc, .slice s.cnta s.cnt.length s.cntc] 35)) = W0 at *
  refine (HG12.out _ HS.out).mono ?_
  rintro e' W' ⟨b1, rfl, hb, hb1⟩
  replace HS := Lib.hid (HS.out.then hb)
  clear hb HG12
  have m0 := HS.out.mo.c0
  have m1 := HS.out.mo.c1
  have m2 := HS.out.mo.c2
  have m3 := HS.out.mo.c3
  have m4 := HS.out.mo.c4
  have m5 := HS.out.mo.c5
  have m6 := HS.out.mo.c6
  have m7 := HS.out.mo.c7
  have m8 := HS.out.mo.c8
  have m9 := HS.out.mo.c9
  have s0 := HS.out.sq.c0
  have s1 := HS.out.sq.c1
  have s2 := HS.out.sq.c2
  have s3 := HS.out.sq.c3
  have s4 := HS.out.sq.c4
  cases b1 with
  | true =>
    go_wp2_with (go_at_call 13; (with_reducible refine (HAW.out _ HS.out).mono ?_); rintro e' W' ⟨rfl, hb⟩; replace HS := Lib.hid (HS.out.then hb); clear m0 m1 m2 m3 m4 m5 m6 m7 m8 m9 s0 s1 s2 s3 s4; clear hb; have m0 := HS.out.mo.c0; have m1 := HS.out.mo.c1; have m2 := HS.out.mo.c2; have m3 := HS.out.mo.c3; have m4 := HS.out.mo.c4; have m5 := HS.out.mo.c5; have m6 := HS.out.mo.c6; have m7 := HS.out.mo.c7; have m8 := HS.out.mo.c8; have m9 := HS.out.mo.c9; have s0 := HS.out.sq.c0; have s1 := HS.out.sq.c1; have s2 := HS.out.sq.c2; have s3 := HS.out.sq.c3; have s4 := HS.out.sq.c4)
    go_ret
    exact ⟨rfl, HS.out.below⟩
  | false =>
    obtain ⟨hE, hU⟩ := hb1 rfl
    clear hb1
    go_wp2_with fail
    refine (HG15.out _ HS.out).mono ?_
    rintro e' W' ⟨b2, rfl, hb, _⟩
    replace HS := Lib.hid (HS.out.then hb)
    clear m0 m1 m2 m3 m4 m5 m6 m7 m8 m9 s0 s1 s2 s3 s4
    clear hb HG15
    have m0 := HS.out.mo.c0
    have m1 := HS.out.mo.c1
    have m2 := HS.out.mo.c2
    have m3 := HS.out.mo.c3
    have m4 := HS.out.mo.c4
    have m5 := HS.out.mo.c5
    have m6 := HS.out.mo.c6
    have m7 := HS.out.mo.c7
    have m8 := HS.out.mo.c8
    have m9 := HS.out.mo.c9
    have s0 := HS.out.sq.c0
    have s1 := HS.out.sq.c1
    have s2 := HS.out.sq.c2
    have s3 := HS.out.sq.c3
    have s4 := HS.out.sq.c4
    cases b2 with
    | true =>
      go_wp2_with (go_at_call 13; (with_reducible refine (HAW.out _ HS.out).mono ?_); rintro e' W' ⟨rfl, hb⟩; replace HS := Lib.hid (HS.out.then hb); clear m0 m1 m2 m3 m4 m5 m6 m7 m8 m9 s0 s1 s2 s3 s4; clear hb; have m0 := HS.out.mo.c0; have m1 := HS.out.mo.c1; have m2 := HS.out.mo.c2; have m3 := HS.out.mo.c3; have m4 := HS.out.mo.c4; have m5 := HS.out.mo.c5; have m6 := HS.out.mo.c6; have m7 := HS.out.mo.c7; have m8 := HS.out.mo.c8; have m9 := HS.out.mo.c9; have s0 := HS.out.sq.c0; have s1 := HS.out.sq.c1; have s2 := HS.out.sq.c2; have s3 := HS.out.sq.c3; have s4 := HS.out.sq.c4)
      go_ret
      exact ⟨rfl, HS.out.below⟩
    | false =>
      have HRW : Hid (∀ W, St2 w W M s → Calls Try.prog 14 #[.agg #[.slice M.attrs.a M.attrs.n M.attrs.c, .slice M.inits.a M.inits.n M.inits.c, .slice M.users.a M.users.n M.users.c, .slice M.rolesa M.roles.length M.rolesc, .slice M.stagesa M.stages.length M.stagesc, .slice M.eventsa M.events.length M.eventsc, .slice M.guardsa M.guards.length M.guardsc, .slice M.milesa M.miles.length M.milesc, .slice M.sodsa M.sods.length M.sodsc, .slice M.order.a M.order.n M.order.c], .agg #[.slice s.vals.a s.vals.n s.vals.c, .int .i64 s.op, .int .i64 s.dn, .slice s.dida s.did.length s.didc, .slice s.cnta s.cnt.length s.cntc], .int .i64 e] W fun r w' => ∃ a c, r = .returned (.slice a (whoL M s e M.users.n).length c) ∧ Below W.heap.size W w' ∧ Reads w' a ((whoL M s e M.users.n).map (Value.int .i64))) := Lib.hid fun W h => (rf_who M s e W (HM.out.mono h.below (Nat.le_refl _)) (HSS.out.mono h.below (Nat.le_refl _)) (by omega)).mono fun r w' hr => by
        obtain ⟨v, h1, h2, h3⟩ := hr
        obtain ⟨a, c, rfl, hrd⟩ := mreads_own h2
        exact ⟨a, c, h1, h3, hrd⟩
      have HRR : Hid (∀ W, St2 w W M s → Calls Try.prog 16 #[.agg #[.slice M.attrs.a M.attrs.n M.attrs.c, .slice M.inits.a M.inits.n M.inits.c, .slice M.users.a M.users.n M.users.c, .slice M.rolesa M.roles.length M.rolesc, .slice M.stagesa M.stages.length M.stagesc, .slice M.eventsa M.events.length M.eventsc, .slice M.guardsa M.guards.length M.guardsc, .slice M.milesa M.miles.length M.milesc, .slice M.sodsa M.sods.length M.sodsc, .slice M.order.a M.order.n M.order.c], .agg #[.slice s.vals.a s.vals.n s.vals.c, .int .i64 s.op, .int .i64 s.dn, .slice s.dida s.did.length s.didc, .slice s.cnta s.cnt.length s.cntc], .int .i64 e] W fun r w' => ∃ a c, r = .returned (.slice a (whoL M s e M.users.n).length c) ∧ Below W.heap.size W w' ∧ Reads w' a ((whoL M s e M.users.n).map (Value.int .i64))) := Lib.hid fun W h => (rt_who M s e W (HM.out.mono h.below (Nat.le_refl _)) (HSS.out.mono h.below (Nat.le_refl _)) (by omega)).mono fun r w' hr => by
        obtain ⟨v, h1, h2, h3⟩ := hr
        obtain ⟨a, c, rfl, hrd⟩ := mreads_own h2
        exact ⟨a, c, h1, h3, hrd⟩
      have hcan := fun W h => rt_can M s e W h
      have hxl : (whoL M s e M.users.n).length ≤ M.users.n := whoL_le
      go_wp2_with fail
      refine (HRW.out _ HS.out).mono ?_
      rintro e' W1 ⟨aw, cw, rfl, hb, hrd⟩
      have HS1 := Lib.hid (HS.out.then hb)
      clear m0 m1 m2 m3 m4 m5 m6 m7 m8 m9 s0 s1 s2 s3 s4
      clear hb HRW HS
      have HCN : Hid (∀ W, Below W1.heap.size W1 W → Calls Try.prog 17 #[.agg #[.slice M.attrs.a M.attrs.n M.attrs.c, .slice M.inits.a M.inits.n M.inits.c, .slice M.users.a M.users.n M.users.c, .slice M.rolesa M.roles.length M.rolesc, .slice M.stagesa M.stages.length M.stagesc, .slice M.eventsa M.events.length M.eventsc, .slice M.guardsa M.guards.length M.guardsc, .slice M.milesa M.miles.length M.milesc, .slice M.sodsa M.sods.length M.sodsc, .slice M.order.a M.order.n M.order.c], .agg #[.slice s.vals.a s.vals.n s.vals.c, .int .i64 s.op, .int .i64 s.dn, .slice s.dida s.did.length s.didc, .slice s.cnta s.cnt.length s.cntc], .int .i64 e] W fun r w' => r = .returned (.bool (decide (0 < (whoL M s e M.users.n).length))) ∧ Below W.heap.size W w') := Lib.hid fun W hW => by
        have h := HS1.out.then hW
        exact rt_can M s e W (HM.out.mono h.below (Nat.le_refl _)) (HSS.out.mono h.below (Nat.le_refl _)) (by omega)
      have HAN : Hid (∀ W, Below W1.heap.size W1 W → Calls Try.prog 18 #[.agg #[.slice M.attrs.a M.attrs.n M.attrs.c, .slice M.inits.a M.inits.n M.inits.c, .slice M.users.a M.users.n M.users.c, .slice M.rolesa M.roles.length M.rolesc, .slice M.stagesa M.stages.length M.stagesc, .slice M.eventsa M.events.length M.eventsc, .slice M.guardsa M.guards.length M.guardsc, .slice M.milesa M.miles.length M.milesc, .slice M.sodsa M.sods.length M.sodsc, .slice M.order.a M.order.n M.order.c], .agg #[.slice s.vals.a s.vals.n s.vals.c, .int .i64 s.op, .int .i64 s.dn, .slice s.dida s.did.length s.didc, .slice s.cnta s.cnt.length s.cntc]] W fun r w' => r = .returned (.bool (anyB M s)) ∧ Below W.heap.size W w') := Lib.hid fun W hW => by
        have h := HS1.out.then hW
        exact rt_any M s W (HM.out.mono h.below (Nat.le_refl _)) (HSS.out.mono h.below (Nat.le_refl _)) (by omega) (by omega)
      have HAR : Hid (∀ W, Below W1.heap.size W1 W → Calls Try.prog 19 #[.agg #[.slice M.attrs.a M.attrs.n M.attrs.c, .slice M.inits.a M.inits.n M.inits.c, .slice M.users.a M.users.n M.users.c, .slice M.rolesa M.roles.length M.rolesc, .slice M.stagesa M.stages.length M.stagesc, .slice M.eventsa M.events.length M.eventsc, .slice M.guardsa M.guards.length M.guardsc, .slice M.milesa M.miles.length M.milesc, .slice M.sodsa M.sods.length M.sodsc, .slice M.order.a M.order.n M.order.c], .agg #[.slice s.vals.a s.vals.n s.vals.c, .int .i64 s.op, .int .i64 s.dn, .slice s.dida s.did.length s.didc, .slice s.cnta s.cnt.length s.cntc]] W fun r w' => r = .returned (.bool (anyB M s)) ∧ Below W.heap.size W w') := Lib.hid fun W hW => by
        have h := HS1.out.then hW
        exact rf_any M s W (HM.out.mono h.below (Nat.le_refl _)) (HSS.out.mono h.below (Nat.le_refl _)) (by omega) (by omega)
      have HCP : Hid (∀ W, Below W1.heap.size W1 W → Calls Try.prog 20 #[.agg #[.slice M.attrs.a M.attrs.n M.attrs.c, .slice M.inits.a M.inits.n M.inits.c, .slice M.users.a M.users.n M.users.c, .slice M.rolesa M.roles.length M.rolesc, .slice M.stagesa M.stages.length M.stagesc, .slice M.eventsa M.events.length M.eventsc, .slice M.guardsa M.guards.length M.guardsc, .slice M.milesa M.miles.length M.milesc, .slice M.sodsa M.sods.length M.sodsc, .slice M.order.a M.order.n M.order.c], .agg #[.slice s.vals.a s.vals.n s.vals.c, .int .i64 s.op, .int .i64 s.dn, .slice s.dida s.did.length s.didc, .slice s.cnta s.cnt.length s.cntc]] W fun r w' => r = .returned (.bool (cpl M s)) ∧ Below W.heap.size W w') := Lib.hid fun W hW => by
        have h := HS1.out.then hW
        exact rt_complete M s W (HM.out.mono h.below (Nat.le_refl _))
      have HCR : Hid (∀ W, Below W1.heap.size W1 W → Calls Try.prog 21 #[.agg #[.slice M.attrs.a M.attrs.n M.attrs.c, .slice M.inits.a M.inits.n M.inits.c, .slice M.users.a M.users.n M.users.c, .slice M.rolesa M.roles.length M.rolesc, .slice M.stagesa M.stages.length M.stagesc, .slice M.eventsa M.events.length M.eventsc, .slice M.guardsa M.guards.length M.guardsc, .slice M.milesa M.miles.length M.milesc, .slice M.sodsa M.sods.length M.sodsc, .slice M.order.a M.order.n M.order.c], .agg #[.slice s.vals.a s.vals.n s.vals.c, .int .i64 s.op, .int .i64 s.dn, .slice s.dida s.did.length s.didc, .slice s.cnta s.cnt.length s.cntc]] W fun r w' => r = .returned (.bool (cpl M s)) ∧ Below W.heap.size W w') := Lib.hid fun W hW => by
        have h := HS1.out.then hW
        exact rf_complete M s W (HM.out.mono h.below (Nat.le_refl _)) (HSS.out.mono h.below (Nat.le_refl _))
      have HST : Hid (∀ W, Below W1.heap.size W1 W → Calls Try.prog 22 #[.agg #[.slice M.attrs.a M.attrs.n M.attrs.c, .slice M.inits.a M.inits.n M.inits.c, .slice M.users.a M.users.n M.users.c, .slice M.rolesa M.roles.length M.rolesc, .slice M.stagesa M.stages.length M.stagesc, .slice M.eventsa M.events.length M.eventsc, .slice M.guardsa M.guards.length M.guardsc, .slice M.milesa M.miles.length M.milesc, .slice M.sodsa M.sods.length M.sodsc, .slice M.order.a M.order.n M.order.c], .agg #[.slice s.vals.a s.vals.n s.vals.c, .int .i64 s.op, .int .i64 s.dn, .slice s.dida s.did.length s.didc, .slice s.cnta s.cnt.length s.cntc]] W fun r w' => r = .returned (.bool (stuckB M s)) ∧ Below W.heap.size W w') := Lib.hid fun W hW => by
        have h := HS1.out.then hW
        exact rt_stuck M s W (HM.out.mono h.below (Nat.le_refl _)) (HSS.out.mono h.below (Nat.le_refl _)) (by omega) (by omega)
      have HSR : Hid (∀ W, Below W1.heap.size W1 W → Calls Try.prog 23 #[.agg #[.slice M.attrs.a M.attrs.n M.attrs.c, .slice M.inits.a M.inits.n M.inits.c, .slice M.users.a M.users.n M.users.c, .slice M.rolesa M.roles.length M.rolesc, .slice M.stagesa M.stages.length M.stagesc, .slice M.eventsa M.events.length M.eventsc, .slice M.guardsa M.guards.length M.guardsc, .slice M.milesa M.miles.length M.milesc, .slice M.sodsa M.sods.length M.sodsc, .slice M.order.a M.order.n M.order.c], .agg #[.slice s.vals.a s.vals.n s.vals.c, .int .i64 s.op, .int .i64 s.dn, .slice s.dida s.did.length s.didc, .slice s.cnta s.cnt.length s.cntc]] W fun r w' => r = .returned (.bool (stuckB M s)) ∧ Below W.heap.size W w') := Lib.hid fun W hW => by
        have h := HS1.out.then hW
        exact rf_stuck M s W (HM.out.mono h.below (Nat.le_refl _)) (HSS.out.mono h.below (Nat.le_refl _)) (by omega) (by omega)
      have HWn : Hid (∀ W, Below W1.heap.size W1 W → Calls Try.prog 16 #[.agg #[.slice M.attrs.a M.attrs.n M.attrs.c, .slice M.inits.a M.inits.n M.inits.c, .slice M.users.a M.users.n M.users.c, .slice M.rolesa M.roles.length M.rolesc, .slice M.stagesa M.stages.length M.stagesc, .slice M.eventsa M.events.length M.eventsc, .slice M.guardsa M.guards.length M.guardsc, .slice M.milesa M.miles.length M.milesc, .slice M.sodsa M.sods.length M.sodsc, .slice M.order.a M.order.n M.order.c], .agg #[.slice s.vals.a s.vals.n s.vals.c, .int .i64 s.op, .int .i64 s.dn, .slice s.dida s.did.length s.didc, .slice s.cnta s.cnt.length s.cntc], .int .i64 e] W fun r w' => ∃ a c, r = .returned (.slice a (whoL M s e M.users.n).length c) ∧ Below W.heap.size W w' ∧ Reads w' a ((whoL M s e M.users.n).map (Value.int .i64))) := Lib.hid fun W hW => HRR.out W (HS1.out.then hW)
      have HAWn : Hid (∀ W, Below W1.heap.size W1 W → Calls Try.prog 13 #[] W fun r w' => r = .returned (.bool true) ∧ Below W.heap.size W w') := Lib.hid fun W hW => HAW.out W (HS1.out.then hW)
      have HFIN := Lib.hid HS1.out.below
      have m0 := HS1.out.mo.c0
      have m1 := HS1.out.mo.c1
      have m2 := HS1.out.mo.c2
      have m3 := HS1.out.mo.c3
      have m4 := HS1.out.mo.c4
      have m5 := HS1.out.mo.c5
      have m6 := HS1.out.mo.c6
      have m7 := HS1.out.mo.c7
      have m8 := HS1.out.mo.c8
      have m9 := HS1.out.mo.c9
      have s0 := HS1.out.sq.c0
      have s1 := HS1.out.sq.c1
      have s2 := HS1.out.sq.c2
      have s3 := HS1.out.sq.c3
      have s4 := HS1.out.sq.c4
      clear HS1 HRR HAW hcan HM HSS
      generalize whoL M s e M.users.n = xs at *
      generalize anyB M s = bA at *
      generalize cpl M s = bC at *
      generalize stuckB M s = bS at *
      have HSM : Hid (∀ W a c, Reads W a (xs.map (Value.int .i64)) → Reads W aw (xs.map (Value.int .i64)) → Calls Try.prog 15 #[.slice a xs.length c, .slice aw xs.length cw] W fun r w' => r = .returned (.bool true) ∧ Below W.heap.size W w') := Lib.hid fun W a c h1 h2 => (same_any a aw c cw xs xs W h1 h2 (by omega)).mono fun r w' hr => by
        obtain ⟨h3, n, h4⟩ := hr
        rw [decide_eq_true rfl] at h3
        exact ⟨h3, by rw [h4]; exact mbelow_dn (Below.refl _ _) n⟩
      clear hxl
      go_wp2_with fail
      go_region_held3 (fun w' => w'.cell? ⟨w.heap.size, 0, none⟩ = some (.slice M.attrs.a M.attrs.n M.attrs.c) ∧ w'.cell? ⟨w.heap.size, 1, none⟩ = some (.slice M.inits.a M.inits.n M.inits.c) ∧ w'.cell? ⟨w.heap.size, 2, none⟩ = some (.slice M.users.a M.users.n M.users.c) ∧ w'.cell? ⟨w.heap.size, 3, none⟩ = some (.slice M.rolesa M.roles.length M.rolesc) ∧ w'.cell? ⟨w.heap.size, 4, none⟩ = some (.slice M.stagesa M.stages.length M.stagesc) ∧ w'.cell? ⟨w.heap.size, 5, none⟩ = some (.slice M.eventsa M.events.length M.eventsc) ∧ w'.cell? ⟨w.heap.size, 6, none⟩ = some (.slice M.guardsa M.guards.length M.guardsc) ∧ w'.cell? ⟨w.heap.size, 7, none⟩ = some (.slice M.milesa M.miles.length M.milesc) ∧ w'.cell? ⟨w.heap.size, 8, none⟩ = some (.slice M.sodsa M.sods.length M.sodsc) ∧ w'.cell? ⟨w.heap.size, 9, none⟩ = some (.slice M.order.a M.order.n M.order.c) ∧ w'.cell? ⟨w.heap.size + 1, 0, none⟩ = some (.slice s.vals.a s.vals.n s.vals.c) ∧ w'.cell? ⟨w.heap.size + 1, 1, none⟩ = some (.int .i64 s.op) ∧ w'.cell? ⟨w.heap.size + 1, 2, none⟩ = some (.int .i64 s.dn) ∧ w'.cell? ⟨w.heap.size + 1, 3, none⟩ = some (.slice s.dida s.did.length s.didc) ∧ w'.cell? ⟨w.heap.size + 1, 4, none⟩ = some (.slice s.cnta s.cnt.length s.cntc) ∧ Reads w' aw (xs.map (Value.int .i64)) ∧ Below W1.heap.size W1 w')
        (first
          | exact ⟨m0, m1, m2, m3, m4, m5, m6, m7, m8, m9, s0, s1, s2, s3, s4, hrd, (Below.refl _ _).drew⟩
          | go_keep
          | (go_split_ands
             refine ⟨?_, ?_, ?_, ?_, ?_, ?_, ?_, ?_, ?_, ?_, ?_, ?_, ?_, ?_, ?_, ?_, ?_⟩
             · exact mcell_mono (by assumption) hb (Nat.le_refl _)
             · exact mcell_mono (by assumption) hb (Nat.le_refl _)
             · exact mcell_mono (by assumption) hb (Nat.le_refl _)
             · exact mcell_mono (by assumption) hb (Nat.le_refl _)
             · exact mcell_mono (by assumption) hb (Nat.le_refl _)
             · exact mcell_mono (by assumption) hb (Nat.le_refl _)
             · exact mcell_mono (by assumption) hb (Nat.le_refl _)
             · exact mcell_mono (by assumption) hb (Nat.le_refl _)
             · exact mcell_mono (by assumption) hb (Nat.le_refl _)
             · exact mcell_mono (by assumption) hb (Nat.le_refl _)
             · exact mcell_mono (by assumption) hb (Nat.le_refl _)
             · exact mcell_mono (by assumption) hb (Nat.le_refl _)
             · exact mcell_mono (by assumption) hb (Nat.le_refl _)
             · exact mcell_mono (by assumption) hb (Nat.le_refl _)
             · exact mcell_mono (by assumption) hb (Nat.le_refl _)
             · exact Reads.mono (by assumption) hb (Nat.le_refl _)
             · exact Below.trans (by assumption) (hb.mono (Below.size (by assumption)))))
        (first | (go_at_call 16; ((with_reducible refine (HWn.out _ (by first | exact (Below.refl _ _).drew | assumption | (go_split_ands; assumption))).mono ?_); rintro e' w2 ⟨a2, c2, rfl, hb, hrd2⟩)) | (go_at_call 15; ((with_reducible refine (HSM.out _ _ _ (by assumption) (by go_split_ands; assumption)).mono ?_); rintro e' w2 ⟨rfl, hb⟩)) | (go_at_call 17; ((with_reducible refine (HCN.out _ (by first | exact (Below.refl _ _).drew | assumption | (go_split_ands; assumption))).mono ?_); rintro e' w2 ⟨rfl, hb⟩)) | (go_at_call 18; ((with_reducible refine (HAN.out _ (by first | exact (Below.refl _ _).drew | assumption | (go_split_ands; assumption))).mono ?_); rintro e' w2 ⟨rfl, hb⟩)) | (go_at_call 19; ((with_reducible refine (HAR.out _ (by first | exact (Below.refl _ _).drew | assumption | (go_split_ands; assumption))).mono ?_); rintro e' w2 ⟨rfl, hb⟩)) | (go_at_call 20; ((with_reducible refine (HCP.out _ (by first | exact (Below.refl _ _).drew | assumption | (go_split_ands; assumption))).mono ?_); rintro e' w2 ⟨rfl, hb⟩)) | (go_at_call 21; ((with_reducible refine (HCR.out _ (by first | exact (Below.refl _ _).drew | assumption | (go_split_ands; assumption))).mono ?_); rintro e' w2 ⟨rfl, hb⟩)) | (go_at_call 22; ((with_reducible refine (HST.out _ (by first | exact (Below.refl _ _).drew | assumption | (go_split_ands; assumption))).mono ?_); rintro e' w2 ⟨rfl, hb⟩)) | (go_at_call 23; ((with_reducible refine (HSR.out _ (by first | exact (Below.refl _ _).drew | assumption | (go_split_ands; assumption))).mono ?_); rintro e' w2 ⟨rfl, hb⟩)) | (go_at_call 13; ((with_reducible refine (HAWn.out _ (by first | exact (Below.refl _ _).drew | assumption | (go_split_ands; assumption))).mono ?_); rintro e' w2 ⟨rfl, hb⟩)))
      rename_i hh
      obtain ⟨-, -, -, -, -, -, -, -, -, -, -, -, -, -, -, -, hbl⟩ := hh
      have HF := Lib.hid (HFIN.out.trans (hbl.mono HFIN.out.size))
      clear hbl
      go_wp2_with fail
      go_ret
      exact ⟨rfl, HF.out⟩
end Go.Proofs.Ytdpmkhmjihgckaa
