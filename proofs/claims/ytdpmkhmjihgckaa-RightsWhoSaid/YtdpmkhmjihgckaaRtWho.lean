/-
  Rights: Who, Can, by walks.
-/
import Derived.Test.YtdpmkhmjihgckaaRtEn
namespace Go.Proofs.Ytdpmkhmjihgckaa
open Go.RowKit
set_option linter.unusedVariables false
set_option linter.unusedSimpArgs false

theorem minfoInt : (Try.prog.info? 3).map (fun i => (i.zero, i.size, i.bytes)) = some (some (.int .i64 0), 1, 8) := by kernel_rfl
theorem mown_below {w w' : World} {B n size : Nat} {e : TypeId} {v : Value} {xs : List Value} (h : w.ownsRow B e size v n xs) (hb : Below w.heap.size w w') : w'.ownsRow B e size v n xs := by
  have k : Keeps (fun j => w.heap.size ≤ j) w w' := ⟨hb.os, hb.tape, hb.output, hb.size, fun j hj _ => hb.block j hj⟩
  exact k.own h (fun j hj e => by have := (h.lt j hj).2; omega)
theorem mown_base {w : World} {B B' n size : Nat} {e : TypeId} {v : Value} {xs : List Value} (h : w.ownsRow B e size v n xs) (hb : B' ≤ B) : w.ownsRow B' e size v n xs := by
  refine ⟨h.1, ?_⟩
  rcases h.2 with hn | ⟨g, cap, cur, rfl, hbg, rest⟩
  · exact .inl hn
  · exact .inr ⟨g, cap, cur, rfl, by omega, rest⟩
/-- What Who answers. -/
def WhoR (M : Mo) (s : Sq) (e : Int) (w : World) (r : Ending) (w' : World) : Prop :=
  ∃ v, r = .returned v ∧ w'.ownsRow w.heap.size 3 1 v (whoL M s e M.users.n).length ((whoL M s e M.users.n).map (Value.int .i64)) ∧ Below w.heap.size w w'
set_option maxRecDepth 100000 in
set_option maxHeartbeats 40000000 in
theorem rt_who (M : Mo) (s : Sq) (e : Int) (w : World) (hM : RdM w M) (hs : RdS w s) (hn : M.users.n ≤ 100000) : Calls Try.prog 16 #[M.val, s.val, .int .i64 e] w (WhoR M s e w) := by
  have hu : ∀ b : Bool, ¬ (some undef = some (Value.bool b)) := fun b h => by cases h
  have hbn := both_new w M s 32 35
  have hM1 := hM.mono hbn.1 (Nat.le_refl _)
  have hs1 := hs.mono hbn.1 (Nat.le_refl _)
  have HEN : Hid (∀ (u : Int) W, Below ((w.alloc (.cells #[.slice M.attrs.a M.attrs.n M.attrs.c, .slice M.inits.a M.inits.n M.inits.c, .slice M.users.a M.users.n M.users.c, .slice M.rolesa M.roles.length M.rolesc, .slice M.stagesa M.stages.length M.stagesc, .slice M.eventsa M.events.length M.eventsc, .slice M.guardsa M.guards.length M.guardsc, .slice M.milesa M.miles.length M.milesc, .slice M.sodsa M.sods.length M.sodsc, .slice M.order.a M.order.n M.order.c] 32)).alloc (.cells #[.slice s.vals.a s.vals.n s.vals.c, .int .i64 s.op, .int .i64 s.dn, .slice s.dida s.did.length s.didc, .slice s.cnta s.cnt.length s.cntc] 35)).heap.size ((w.alloc (.cells #[.slice M.attrs.a M.attrs.n M.attrs.c, .slice M.inits.a M.inits.n M.inits.c, .slice M.users.a M.users.n M.users.c, .slice M.rolesa M.roles.length M.rolesc, .slice M.stagesa M.stages.length M.stagesc, .slice M.eventsa M.events.length M.eventsc, .slice M.guardsa M.guards.length M.guardsc, .slice M.milesa M.miles.length M.milesc, .slice M.sodsa M.sods.length M.sodsc, .slice M.order.a M.order.n M.order.c] 32)).alloc (.cells #[.slice s.vals.a s.vals.n s.vals.c, .int .i64 s.op, .int .i64 s.dn, .slice s.dida s.did.length s.didc, .slice s.cnta s.cnt.length s.cntc] 35)) W → Calls Try.prog 24 #[.agg #[.slice M.attrs.a M.attrs.n M.attrs.c, .slice M.inits.a M.inits.n M.inits.c, .slice M.users.a M.users.n M.users.c, .slice M.rolesa M.roles.length M.rolesc, .slice M.stagesa M.stages.length M.stagesc, .slice M.eventsa M.events.length M.eventsc, .slice M.guardsa M.guards.length M.guardsc, .slice M.milesa M.miles.length M.milesc, .slice M.sodsa M.sods.length M.sodsc, .slice M.order.a M.order.n M.order.c], .agg #[.slice s.vals.a s.vals.n s.vals.c, .int .i64 s.op, .int .i64 s.dn, .slice s.dida s.did.length s.didc, .slice s.cnta s.cnt.length s.cntc], .int .i64 e, .int .i64 u] W fun r w' => r = .returned (.bool (enB M s e u)) ∧ Below W.heap.size W w') := Lib.hid fun u W hW => rt_enabled M s e u W (hM1.mono hW (Nat.le_refl _)) (hs1.mono hW (Nat.le_refl _))
  have HBN := Lib.hid hbn
  clear hM hs hM1 hs1 hbn
  unfold Mo.val Sq.val
  go_enter Try.func16, Try.ntmps16
  go_wp2_with fail
  generalize ((w.alloc (.cells #[.slice M.attrs.a M.attrs.n M.attrs.c, .slice M.inits.a M.inits.n M.inits.c, .slice M.users.a M.users.n M.users.c, .slice M.rolesa M.roles.length M.rolesc, .slice M.stagesa M.stages.length M.stagesc, .slice M.eventsa M.events.length M.eventsc, .slice M.guardsa M.guards.length M.guardsc, .slice M.milesa M.miles.length M.milesc, .slice M.sodsa M.sods.length M.sodsc, .slice M.order.a M.order.n M.order.c] 32)).alloc (.cells #[.slice s.vals.a s.vals.n s.vals.c, .int .i64 s.op, .int .i64 s.dn, .slice s.dida s.did.length s.didc, .slice s.cnta s.cnt.length s.cntc] 35)) = W at *
  have hbz := HBN.out.1.size
  go_loopw [7, 12] (fun v7 v12 wr => ∃ k : Nat, v12 = .int .i64 k ∧ k ≤ M.users.n ∧ wr.ownsRow W.heap.size 3 1 v7 (whoL M s e k).length ((whoL M s e k).map (Value.int .i64)) ∧ Below W.heap.size W wr) (fun _ v12 _ => M.users.n - (intOf v12).toNat)
  case atStart => exact ⟨0, rfl, by omega, World.ownsRow_nil _ _ _ _, Below.refl _ _⟩
  case round =>
    obtain ⟨k, rfl, hk, hown, hbel⟩ := hrel
    have hMo := HBN.out.2.1.mono hbel (Nat.le_refl _)
    have hSq := HBN.out.2.2.mono hbel (Nat.le_refl _)
    have m0 := hMo.c0
    have m1 := hMo.c1
    have m2 := hMo.c2
    have m3 := hMo.c3
    have m4 := hMo.c4
    have m5 := hMo.c5
    have m6 := hMo.c6
    have m7 := hMo.c7
    have m8 := hMo.c8
    have m9 := hMo.c9
    have s0 := hSq.c0
    have s1 := hSq.c1
    have s2 := hSq.c2
    have s3 := hSq.c3
    have s4 := hSq.c4
    clear hMo hSq
    have HBW := Lib.hid (HBN.out.1.trans (hbel.mono hbz))
    by_cases hlt : k < M.users.n
    · have hw1 : IntKind.i64.wrap ((k : Int) + 1) = ((k + 1 : Nat) : Int) := by rw [IntWalk.i64_in _ (by omega)]; omega
      have hc := HEN.out (k : Nat) wr hbel
      have HST : Hid (∀ w4, Below wr.heap.size wr w4 → Below W.heap.size W w4 ∧ w4.ownsRow W.heap.size 3 1 (_) (whoL M s e k).length ((whoL M s e k).map (Value.int .i64))) := Lib.hid fun w4 h4 => ⟨hbel.trans (h4.mono hbel.size), mown_below hown h4⟩
      obtain ⟨av, cv, rfl⟩ := own_len hown
      have hle : (whoL M s e k).length ≤ k := whoL_le
      clear hown hbel
      cases hen : enB M s e (k : Nat) with
      | false =>
        rw [hen] at hc
        have HW := Lib.hid (whoL_no hen)
        clear hen HEN
        go_wp2_with (go_at_call 24; refine hc.mono ?_; rintro e' w4 ⟨rfl, hb4⟩; have H4 := Lib.hid (HST.out w4 hb4); clear hb4)
        go_roundw
        case rel => exact ⟨k + 1, by go_num, by omega, by rw [HW.out]; exact H4.out.2, H4.out.1⟩
        case measure => simp [intOf] <;> omega
      | true =>
        rw [hen] at hc
        have HW := Lib.hid (whoL_yes hen)
        clear hen HEN
        go_wp2_with (first | (go_at_call 24; refine hc.mono ?_; rintro e' w4 ⟨rfl, hb4⟩; have H4 := Lib.hid (HST.out w4 hb4); have hsz4 := H4.out.1.size; clear hb4) | (at_builtin; refine append_at (v := .slice av (whoL M s e k).length cv) rfl (.tmp 20) (.tmp 22) 33 rfl 3 (.int .i64 0) 1 8 Try.underlying33 minfoInt rfl (by decide) rfl (H4.out).2 hsz4 [.int .i64 (k : Nat)] rfl (by simp [Value.oneCell']) rfl rfl (by decide) (by omega) ?_; intro g6 cap6 w6 own6 keep6 where6; have H6 := Lib.hid (And.intro own6 (keep6.below (B := W.heap.size) (fun j e => ((H4.out).2.lt j e).1) H4.out.1.size)); clear own6 keep6 where6))
        go_roundw
        case rel => exact ⟨k + 1, by go_num, by omega, by rw [HW.out, List.length_append, List.length_singleton, List.map_append]; exact H6.out.1, H4.out.1.trans H6.out.2⟩
        case measure => simp [intOf] <;> omega
    · have hke : k = M.users.n := by omega
      subst hke
      have HO := Lib.hid hown
      clear hown hbel
      go_wp2_with fail
      go_ret
      exact ⟨_, rfl, mown_base HO.out hbz, HBW.out⟩
set_option maxRecDepth 100000 in
theorem rt_can (M : Mo) (s : Sq) (e : Int) (w : World) (hM : RdM w M) (hs : RdS w s) (hn : M.users.n ≤ 100000) : Calls Try.prog 17 #[M.val, s.val, .int .i64 e] w fun r w' => r = .returned (.bool (decide (0 < (whoL M s e M.users.n).length))) ∧ Below w.heap.size w w' := by
  have hbn := both_new w M s 32 35
  have hw : Calls Try.prog 16 #[.agg #[.slice M.attrs.a M.attrs.n M.attrs.c, .slice M.inits.a M.inits.n M.inits.c, .slice M.users.a M.users.n M.users.c, .slice M.rolesa M.roles.length M.rolesc, .slice M.stagesa M.stages.length M.stagesc, .slice M.eventsa M.events.length M.eventsc, .slice M.guardsa M.guards.length M.guardsc, .slice M.milesa M.miles.length M.milesc, .slice M.sodsa M.sods.length M.sodsc, .slice M.order.a M.order.n M.order.c], .agg #[.slice s.vals.a s.vals.n s.vals.c, .int .i64 s.op, .int .i64 s.dn, .slice s.dida s.did.length s.didc, .slice s.cnta s.cnt.length s.cntc], .int .i64 e] ((w.alloc (.cells #[.slice M.attrs.a M.attrs.n M.attrs.c, .slice M.inits.a M.inits.n M.inits.c, .slice M.users.a M.users.n M.users.c, .slice M.rolesa M.roles.length M.rolesc, .slice M.stagesa M.stages.length M.stagesc, .slice M.eventsa M.events.length M.eventsc, .slice M.guardsa M.guards.length M.guardsc, .slice M.milesa M.miles.length M.milesc, .slice M.sodsa M.sods.length M.sodsc, .slice M.order.a M.order.n M.order.c] 32)).alloc (.cells #[.slice s.vals.a s.vals.n s.vals.c, .int .i64 s.op, .int .i64 s.dn, .slice s.dida s.did.length s.didc, .slice s.cnta s.cnt.length s.cntc] 35)) fun r w' => ∃ a c, r = .returned (.slice a (whoL M s e M.users.n).length c) ∧ Below w.heap.size w w' := (rt_who M s e ((w.alloc (.cells #[.slice M.attrs.a M.attrs.n M.attrs.c, .slice M.inits.a M.inits.n M.inits.c, .slice M.users.a M.users.n M.users.c, .slice M.rolesa M.roles.length M.rolesc, .slice M.stagesa M.stages.length M.stagesc, .slice M.eventsa M.events.length M.eventsc, .slice M.guardsa M.guards.length M.guardsc, .slice M.milesa M.miles.length M.milesc, .slice M.sodsa M.sods.length M.sodsc, .slice M.order.a M.order.n M.order.c] 32)).alloc (.cells #[.slice s.vals.a s.vals.n s.vals.c, .int .i64 s.op, .int .i64 s.dn, .slice s.dida s.did.length s.didc, .slice s.cnta s.cnt.length s.cntc] 35)) (hM.mono hbn.1 (Nat.le_refl _)) (hs.mono hbn.1 (Nat.le_refl _)) hn).mono fun r w' h => by
    obtain ⟨v, h1, h2, h3⟩ := h
    obtain ⟨a, c, rfl⟩ := own_len h2
    exact ⟨a, c, h1, hbn.1.trans (h3.mono hbn.1.size)⟩
  clear hbn hM hs
  unfold Mo.val Sq.val
  go_enter Try.func17, Try.ntmps17
  go_wp2_with (go_at_call 16; refine hw.mono ?_; rintro e' w4 ⟨a, c, rfl, hb4⟩; have H4 := Lib.hid hb4; clear hb4)
  go_ret
  refine ⟨ret_bool ?_, H4.out⟩
  simp
end Go.Proofs.Ytdpmkhmjihgckaa
