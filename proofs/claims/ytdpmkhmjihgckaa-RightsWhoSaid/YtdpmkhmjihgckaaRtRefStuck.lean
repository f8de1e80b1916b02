/-
  Rights: the document's answers: Stuck.
-/
import Derived.Test.YtdpmkhmjihgckaaRtRefWho
import Derived.Test.YtdpmkhmjihgckaaRtStuck
namespace Go.Proofs.Ytdpmkhmjihgckaa
open Go.RowKit
set_option linter.unusedVariables false
set_option linter.unusedSimpArgs false

/-- A stage below k is open. -/
noncomputable def opS (s : Sq) (k : Nat) : Bool := dcd (∃ i : Nat, i < k ∧ hasB s.op (i : Nat) = true)
theorem opS_zero (s : Sq) : opS s 0 = false := dcd_no (by rintro ⟨i, h, _⟩; omega)
theorem opS_old {s : Sq} {k : Nat} (h : opS s k = true) : opS s (k + 1) = true := by
  obtain ⟨i, hi, h1⟩ := dcd_iff.1 h
  exact dcd_yes ⟨i, by omega, h1⟩
theorem opS_new {s : Sq} {k : Nat} (h : opS s k = false) : opS s (k + 1) = hasB s.op (k : Nat) := by
  cases hh : hasB s.op (k : Nat) with
  | true => exact dcd_yes ⟨k, by omega, hh⟩
  | false =>
    refine dcd_no ?_
    rintro ⟨i, hi, h1⟩
    by_cases e : i = k
    · subst e; rw [hh] at h1; cases h1
    · have := dcd_yes (p := ∃ i : Nat, i < k ∧ hasB s.op (i : Nat) = true) ⟨i, by omega, h1⟩
      unfold opS at h
      rw [h] at this; cases this
theorem free_open {M : Mo} {s : Sq} {e u : Int} (h : freeB M s e u = true) : opS s M.stages.length = true ∧ cpl M s = false := by
  refine ⟨?_, (freeB_in h).2.2⟩
  unfold freeB at h
  rw [Bool.and_eq_true] at h
  have h2 := h.2
  cases hx : M.events[e.toNat]? with
  | none => rw [hx] at h2; simp at h2
  | some x =>
    rw [hx] at h2
    simp only [Option.elim_some, freeE, Bool.and_eq_true, inN_iff] at h2
    refine dcd_yes ⟨x.stage.toNat, by omega, ?_⟩
    rw [show ((x.stage.toNat : Nat) : Int) = x.stage by omega]
    exact h2.1.2
theorem stuck_parts (M : Mo) (s : Sq) : stuckB M s = (((opS s M.stages.length && frS M s (pl M.users.n M.events.length 0)) && !cpl M s) && !anyB M s) := by
  cases hf : frS M s (pl M.users.n M.events.length 0) with
  | false =>
    simp only [Bool.and_false, Bool.false_and]
    refine dcd_no ?_
    rintro ⟨⟨e, u, h1, h2, h3⟩, _⟩
    have := dcd_yes (p := ∃ x ∈ pl M.users.n M.events.length 0, freeB M s (x.1 : Nat) (x.2 : Nat) = true) ⟨(e, u), pl_mem.2 (Or.inl ⟨h1, h2⟩), h3⟩
    unfold frS at hf
    rw [hf] at this; cases this
  | true =>
    obtain ⟨x, hx, h3⟩ := dcd_iff.1 hf
    obtain ⟨h4, h5⟩ := free_open h3
    rw [h4, h5]
    have hF : FreeP M s := by
      rcases pl_mem.1 hx with h1 | h1
      · exact ⟨x.1, x.2, h1.1, h1.2, h3⟩
      · omega
    by_cases ha : AnyP M s
    · rw [show anyB M s = true from dcd_yes ha, stuck_not ha]; rfl
    · rw [show anyB M s = false from dcd_no ha, show stuckB M s = true from dcd_yes ⟨hF, ha⟩]; rfl
set_option maxRecDepth 100000 in
set_option maxHeartbeats 40000000 in
theorem rf_stuck (M : Mo) (s : Sq) (w : World) (hM : RdM w M) (hs : RdS w s) (hE : M.events.length ≤ 100000) (hn : M.users.n ≤ 100000) : Calls Try.prog 23 #[M.val, s.val] w fun r w' => r = .returned (.bool (stuckB M s)) ∧ Below w.heap.size w w' := by
  have hu : ∀ b : Bool, ¬ (some undef = some (Value.bool b)) := fun b h => by cases h
  have hst : M.stages.length ≤ 9223372036854775807 := by have := hM.stagesm; unfold maxLen at this; omega
  have hbn := both_new w M s 32 35
  have hM1 := hM.mono hbn.1 (Nat.le_refl _)
  have hs1 := hs.mono hbn.1 (Nat.le_refl _)
  have HOP := Lib.hid hs.op
  have HFR : Hid (∀ (e u : Int) W, Below ((w.alloc (.cells #[.slice M.attrs.a M.attrs.n M.attrs.c, .slice M.inits.a M.inits.n M.inits.c, .slice M.users.a M.users.n M.users.c, .slice M.rolesa M.roles.length M.rolesc, .slice M.stagesa M.stages.length M.stagesc, .slice M.eventsa M.events.length M.eventsc, .slice M.guardsa M.guards.length M.guardsc, .slice M.milesa M.miles.length M.milesc, .slice M.sodsa M.sods.length M.sodsc, .slice M.order.a M.order.n M.order.c] 32)).alloc (.cells #[.slice s.vals.a s.vals.n s.vals.c, .int .i64 s.op, .int .i64 s.dn, .slice s.dida s.did.length s.didc, .slice s.cnta s.cnt.length s.cntc] 35)).heap.size ((w.alloc (.cells #[.slice M.attrs.a M.attrs.n M.attrs.c, .slice M.inits.a M.inits.n M.inits.c, .slice M.users.a M.users.n M.users.c, .slice M.rolesa M.roles.length M.rolesc, .slice M.stagesa M.stages.length M.stagesc, .slice M.eventsa M.events.length M.eventsc, .slice M.guardsa M.guards.length M.guardsc, .slice M.milesa M.miles.length M.milesc, .slice M.sodsa M.sods.length M.sodsc, .slice M.order.a M.order.n M.order.c] 32)).alloc (.cells #[.slice s.vals.a s.vals.n s.vals.c, .int .i64 s.op, .int .i64 s.dn, .slice s.dida s.did.length s.didc, .slice s.cnta s.cnt.length s.cntc] 35)) W → Calls Try.prog 58 #[.agg #[.slice M.attrs.a M.attrs.n M.attrs.c, .slice M.inits.a M.inits.n M.inits.c, .slice M.users.a M.users.n M.users.c, .slice M.rolesa M.roles.length M.rolesc, .slice M.stagesa M.stages.length M.stagesc, .slice M.eventsa M.events.length M.eventsc, .slice M.guardsa M.guards.length M.guardsc, .slice M.milesa M.miles.length M.milesc, .slice M.sodsa M.sods.length M.sodsc, .slice M.order.a M.order.n M.order.c], .agg #[.slice s.vals.a s.vals.n s.vals.c, .int .i64 s.op, .int .i64 s.dn, .slice s.dida s.did.length s.didc, .slice s.cnta s.cnt.length s.cntc], .int .i64 e, .int .i64 u] W fun r w' => r = .returned (.bool (freeB M s e u)) ∧ Below W.heap.size W w') := Lib.hid fun e u W hW => rf_free M s e u W (hM1.mono hW (Nat.le_refl _)) (hs1.mono hW (Nat.le_refl _))
  have HCP : Hid (∀ W, Below ((w.alloc (.cells #[.slice M.attrs.a M.attrs.n M.attrs.c, .slice M.inits.a M.inits.n M.inits.c, .slice M.users.a M.users.n M.users.c, .slice M.rolesa M.roles.length M.rolesc, .slice M.stagesa M.stages.length M.stagesc, .slice M.eventsa M.events.length M.eventsc, .slice M.guardsa M.guards.length M.guardsc, .slice M.milesa M.miles.length M.milesc, .slice M.sodsa M.sods.length M.sodsc, .slice M.order.a M.order.n M.order.c] 32)).alloc (.cells #[.slice s.vals.a s.vals.n s.vals.c, .int .i64 s.op, .int .i64 s.dn, .slice s.dida s.did.length s.didc, .slice s.cnta s.cnt.length s.cntc] 35)).heap.size ((w.alloc (.cells #[.slice M.attrs.a M.attrs.n M.attrs.c, .slice M.inits.a M.inits.n M.inits.c, .slice M.users.a M.users.n M.users.c, .slice M.rolesa M.roles.length M.rolesc, .slice M.stagesa M.stages.length M.stagesc, .slice M.eventsa M.events.length M.eventsc, .slice M.guardsa M.guards.length M.guardsc, .slice M.milesa M.miles.length M.milesc, .slice M.sodsa M.sods.length M.sodsc, .slice M.order.a M.order.n M.order.c] 32)).alloc (.cells #[.slice s.vals.a s.vals.n s.vals.c, .int .i64 s.op, .int .i64 s.dn, .slice s.dida s.did.length s.didc, .slice s.cnta s.cnt.length s.cntc] 35)) W → Calls Try.prog 21 #[.agg #[.slice M.attrs.a M.attrs.n M.attrs.c, .slice M.inits.a M.inits.n M.inits.c, .slice M.users.a M.users.n M.users.c, .slice M.rolesa M.roles.length M.rolesc, .slice M.stagesa M.stages.length M.stagesc, .slice M.eventsa M.events.length M.eventsc, .slice M.guardsa M.guards.length M.guardsc, .slice M.milesa M.miles.length M.milesc, .slice M.sodsa M.sods.length M.sodsc, .slice M.order.a M.order.n M.order.c], .agg #[.slice s.vals.a s.vals.n s.vals.c, .int .i64 s.op, .int .i64 s.dn, .slice s.dida s.did.length s.didc, .slice s.cnta s.cnt.length s.cntc]] W fun r w' => r = .returned (.bool (cpl M s)) ∧ Below W.heap.size W w') := Lib.hid fun W hW => rf_complete M s W (hM1.mono hW (Nat.le_refl _)) (hs1.mono hW (Nat.le_refl _))
  have HAN : Hid (∀ W, Below ((w.alloc (.cells #[.slice M.attrs.a M.attrs.n M.attrs.c, .slice M.inits.a M.inits.n M.inits.c, .slice M.users.a M.users.n M.users.c, .slice M.rolesa M.roles.length M.rolesc, .slice M.stagesa M.stages.length M.stagesc, .slice M.eventsa M.events.length M.eventsc, .slice M.guardsa M.guards.length M.guardsc, .slice M.milesa M.miles.length M.milesc, .slice M.sodsa M.sods.length M.sodsc, .slice M.order.a M.order.n M.order.c] 32)).alloc (.cells #[.slice s.vals.a s.vals.n s.vals.c, .int .i64 s.op, .int .i64 s.dn, .slice s.dida s.did.length s.didc, .slice s.cnta s.cnt.length s.cntc] 35)).heap.size ((w.alloc (.cells #[.slice M.attrs.a M.attrs.n M.attrs.c, .slice M.inits.a M.inits.n M.inits.c, .slice M.users.a M.users.n M.users.c, .slice M.rolesa M.roles.length M.rolesc, .slice M.stagesa M.stages.length M.stagesc, .slice M.eventsa M.events.length M.eventsc, .slice M.guardsa M.guards.length M.guardsc, .slice M.milesa M.miles.length M.milesc, .slice M.sodsa M.sods.length M.sodsc, .slice M.order.a M.order.n M.order.c] 32)).alloc (.cells #[.slice s.vals.a s.vals.n s.vals.c, .int .i64 s.op, .int .i64 s.dn, .slice s.dida s.did.length s.didc, .slice s.cnta s.cnt.length s.cntc] 35)) W → Calls Try.prog 19 #[.agg #[.slice M.attrs.a M.attrs.n M.attrs.c, .slice M.inits.a M.inits.n M.inits.c, .slice M.users.a M.users.n M.users.c, .slice M.rolesa M.roles.length M.rolesc, .slice M.stagesa M.stages.length M.stagesc, .slice M.eventsa M.events.length M.eventsc, .slice M.guardsa M.guards.length M.guardsc, .slice M.milesa M.miles.length M.milesc, .slice M.sodsa M.sods.length M.sodsc, .slice M.order.a M.order.n M.order.c], .agg #[.slice s.vals.a s.vals.n s.vals.c, .int .i64 s.op, .int .i64 s.dn, .slice s.dida s.did.length s.didc, .slice s.cnta s.cnt.length s.cntc]] W fun r w' => r = .returned (.bool (anyB M s)) ∧ Below W.heap.size W w') := Lib.hid fun W hW => rf_any M s W (hM1.mono hW (Nat.le_refl _)) (hs1.mono hW (Nat.le_refl _)) hE hn
  have HBN := Lib.hid hbn
  have HPT := Lib.hid (stuck_parts M s)
  clear hM hs hM1 hs1 hbn
  unfold Mo.val Sq.val
  go_enter Try.func23, Try.ntmps23
  go_wp2_with fail
  generalize ((w.alloc (.cells #[.slice M.attrs.a M.attrs.n M.attrs.c, .slice M.inits.a M.inits.n M.inits.c, .slice M.users.a M.users.n M.users.c, .slice M.rolesa M.roles.length M.rolesc, .slice M.stagesa M.stages.length M.stagesc, .slice M.eventsa M.events.length M.eventsc, .slice M.guardsa M.guards.length M.guardsc, .slice M.milesa M.miles.length M.milesc, .slice M.sodsa M.sods.length M.sodsc, .slice M.order.a M.order.n M.order.c] 32)).alloc (.cells #[.slice s.vals.a s.vals.n s.vals.c, .int .i64 s.op, .int .i64 s.dn, .slice s.dida s.did.length s.didc, .slice s.cnta s.cnt.length s.cntc] 35)) = W at *
  have hbz := HBN.out.1.size
  go_loopw [5, 7] (fun v5 v7 wr => ∃ i : Nat, v7 = .int .i64 i ∧ i ≤ M.stages.length ∧ v5 = .bool (opS s i) ∧ Below W.heap.size W wr) (fun _ v7 _ => M.stages.length - (intOf v7).toNat)
  case atStart => exact ⟨0, rfl, by omega, by rw [opS_zero], Below.refl _ _⟩
  case round =>
    obtain ⟨i, rfl, hi, hv5, hbel⟩ := hrel
    have hMo := HBN.out.2.1.mono hbel (Nat.le_refl _)
    have hSq := HBN.out.2.2.mono hbel (Nat.le_refl _)
    have m0 := hMo.c0
    have m1 := hMo.c1
    have m2 := hMo.c2
    have m3 := hMo.c3
    have m4 := hMo.c4
    have m5 := hMo.c5
    have m6 := hMo.c6
    have m7 := hMo.c7
    have m8 := hMo.c8
    have m9 := hMo.c9
    have s0 := hSq.c0
    have s1 := hSq.c1
    have s2 := hSq.c2
    have s3 := hSq.c3
    have s4 := hSq.c4
    clear hMo hSq
    have HBEL := Lib.hid hbel
    clear hbel
    by_cases hlt : i < M.stages.length
    · have hli : (i : Int) < (M.stages.length : Int) := by omega
      have hw1 : IntKind.i64.wrap ((i : Int) + 1) = ((i + 1 : Nat) : Int) := by rw [IntWalk.i64_in _ (by omega)]; omega
      have hh := fun W => rhas_any s.op (i : Nat) W HOP.out.1 HOP.out.2
      cases hq : opS s i with
      | true =>
        rw [hq] at hv5
        subst hv5
        have HN := Lib.hid (opS_old hq)
        clear hq
        go_wp2_with fail
        go_roundw
        case rel => exact ⟨i + 1, by go_num, by omega, by rw [HN.out], HBEL.out⟩
        case measure => simp [intOf] <;> omega
      | false =>
        rw [hq] at hv5
        subst hv5
        have HN := Lib.hid (opS_new hq)
        clear hq
        go_wp2_with (go_at_call 57; refine (hh _).mono ?_; rintro e w' ⟨rfl, rfl⟩)
        go_roundw
        case rel => exact ⟨i + 1, by go_num, by omega, by rw [HN.out], HBEL.out⟩
        case measure => simp [intOf] <;> omega
    · have hie : i = M.stages.length := by omega
      subst hie
      subst hv5
      go_wp2_with fail
      clear m0 m1 m2 m3 m4 m5 m6 m7 m8 m9 s0 s1 s2 s3 s4
      go_loopw [6, 8] (fun v6 v8 wr => ∃ e : Nat, v8 = .int .i64 e ∧ e ≤ M.events.length ∧ v6 = .bool (frS M s (pl M.users.n e 0)) ∧ Below W.heap.size W wr) (fun _ v8 _ => M.events.length - (intOf v8).toNat)
      case atStart => exact ⟨0, rfl, by omega, by rw [pl_zero, frS_nil], HBEL.out⟩
      case round =>
        clear HBEL
        obtain ⟨e, rfl, he, hv6, hbel⟩ := hrel
        have hMo := HBN.out.2.1.mono hbel (Nat.le_refl _)
        have hSq := HBN.out.2.2.mono hbel (Nat.le_refl _)
        have m0 := hMo.c0
        have m1 := hMo.c1
        have m2 := hMo.c2
        have m3 := hMo.c3
        have m4 := hMo.c4
        have m5 := hMo.c5
        have m6 := hMo.c6
        have m7 := hMo.c7
        have m8 := hMo.c8
        have m9 := hMo.c9
        have s0 := hSq.c0
        have s1 := hSq.c1
        have s2 := hSq.c2
        have s3 := hSq.c3
        have s4 := hSq.c4
        clear hMo hSq
        have HBEL := Lib.hid hbel
        clear hbel
        by_cases hle : e < M.events.length
        · have hli : (e : Int) < (M.events.length : Int) := by omega
          have hw1 : IntKind.i64.wrap ((e : Int) + 1) = ((e + 1 : Nat) : Int) := by rw [IntWalk.i64_in _ (by omega)]; omega
          go_wp2_with fail
          clear m0 m1 m2 m3 m4 m5 m6 m7 m8 m9 s0 s1 s2 s3 s4
          go_loopw [6, 9] (fun v6 v9 wr => ∃ u : Nat, v9 = .int .i64 u ∧ u ≤ M.users.n ∧ v6 = .bool (frS M s (pl M.users.n e u)) ∧ Below W.heap.size W wr) (fun _ v9 _ => M.users.n - (intOf v9).toNat)
          case atStart => exact ⟨0, rfl, by omega, hv6, HBEL.out⟩
          case round =>
            clear HBEL hv6
            obtain ⟨u, rfl, hu2, hv6, hbel⟩ := hrel
            have hMo := HBN.out.2.1.mono hbel (Nat.le_refl _)
            have hSq := HBN.out.2.2.mono hbel (Nat.le_refl _)
            have m0 := hMo.c0
            have m1 := hMo.c1
            have m2 := hMo.c2
            have m3 := hMo.c3
            have m4 := hMo.c4
            have m5 := hMo.c5
            have m6 := hMo.c6
            have m7 := hMo.c7
            have m8 := hMo.c8
            have m9 := hMo.c9
            have s0 := hSq.c0
            have s1 := hSq.c1
            have s2 := hSq.c2
            have s3 := hSq.c3
            have s4 := hSq.c4
            clear hMo hSq
            have HBEL := Lib.hid hbel
            by_cases hlu : u < M.users.n
            · have hlj : (u : Int) < (M.users.n : Int) := by omega
              have hw2 : IntKind.i64.wrap ((u : Int) + 1) = ((u + 1 : Nat) : Int) := by rw [IntWalk.i64_in _ (by omega)]; omega
              have hc := HFR.out (e : Nat) (u : Nat) wr hbel
              have HST : Hid (∀ w4, Below wr.heap.size wr w4 → Below W.heap.size W w4 ∧ MoAt w4 w.heap.size M ∧ SqAt w4 (w.heap.size + 1) s) := Lib.hid fun w4 h4 => ⟨hbel.trans (h4.mono hbel.size), HBN.out.2.1.mono (hbel.trans (h4.mono hbel.size)) (Nat.le_refl _), HBN.out.2.2.mono (hbel.trans (h4.mono hbel.size)) (Nat.le_refl _)⟩
              clear hbel
              cases hq : frS M s (pl M.users.n e u) with
              | true =>
                rw [hq] at hv6
                subst hv6
                have HN := Lib.hid (frS_old (e, u) hq)
                clear hq hc HST
                go_wp2_with fail
                go_roundw
                case rel => exact ⟨u + 1, by go_num, by omega, by rw [pl_succ, HN.out], HBEL.out⟩
                case measure => simp [intOf] <;> omega
              | false =>
                rw [hq] at hv6
                subst hv6
                have HN := Lib.hid (frS_new (e, u) hq)
                clear hq
                cases hf : freeB M s (e : Nat) (u : Nat) with
                | true =>
                  rw [hf] at hc
                  have HN := Lib.hid (HN.out.trans hf)
                  clear hf
                  go_wp2_with (go_at_call 58; refine hc.mono ?_; rintro e' w4 ⟨rfl, hb4⟩; have H4 := Lib.hid (HST.out w4 hb4); clear m0 m1 m2 m3 m4 m5 m6 m7 m8 m9 s0 s1 s2 s3 s4; have hMo := H4.out.2.1; have hSq := H4.out.2.2; have m0 := hMo.c0; have m1 := hMo.c1; have m2 := hMo.c2; have m3 := hMo.c3; have m4 := hMo.c4; have m5 := hMo.c5; have m6 := hMo.c6; have m7 := hMo.c7; have m8 := hMo.c8; have m9 := hMo.c9; have s0 := hSq.c0; have s1 := hSq.c1; have s2 := hSq.c2; have s3 := hSq.c3; have s4 := hSq.c4; clear hb4 hMo hSq)
                  go_roundw
                  case rel => exact ⟨u + 1, by go_num, by omega, by rw [pl_succ, HN.out], H4.out.1⟩
                  case measure => simp [intOf] <;> omega
                | false =>
                  rw [hf] at hc
                  have HN := Lib.hid (HN.out.trans hf)
                  clear hf
                  go_wp2_with (go_at_call 58; refine hc.mono ?_; rintro e' w4 ⟨rfl, hb4⟩; have H4 := Lib.hid (HST.out w4 hb4); clear m0 m1 m2 m3 m4 m5 m6 m7 m8 m9 s0 s1 s2 s3 s4; have hMo := H4.out.2.1; have hSq := H4.out.2.2; have m0 := hMo.c0; have m1 := hMo.c1; have m2 := hMo.c2; have m3 := hMo.c3; have m4 := hMo.c4; have m5 := hMo.c5; have m6 := hMo.c6; have m7 := hMo.c7; have m8 := hMo.c8; have m9 := hMo.c9; have s0 := hSq.c0; have s1 := hSq.c1; have s2 := hSq.c2; have s3 := hSq.c3; have s4 := hSq.c4; clear hb4 hMo hSq)
                  go_roundw
                  case rel => exact ⟨u + 1, by go_num, by omega, by rw [pl_succ, HN.out], H4.out.1⟩
                  case measure => simp [intOf] <;> omega
            · have hie : u = M.users.n := by omega
              subst hie
              clear hbel
              go_wp2_with fail
              go_roundw
              case rel => exact ⟨e + 1, by go_num, by omega, by rw [hv6, pl_row], HBEL.out⟩
              case measure => simp [intOf] <;> omega
        · have hie : e = M.events.length := by omega
          subst hie
          have HBW := Lib.hid (HBN.out.1.trans (HBEL.out.mono hbz))
          have hcp := HCP.out _ HBEL.out
          have HAB : Hid (∀ w4, Below wr.heap.size wr w4 → (Below W.heap.size W w4 ∧ Below w.heap.size w w4) ∧ MoAt w4 w.heap.size M ∧ SqAt w4 (w.heap.size + 1) s) := Lib.hid fun w4 h4 => ⟨⟨HBEL.out.trans (h4.mono HBEL.out.size), HBW.out.trans (h4.mono HBW.out.size)⟩, HBN.out.2.1.mono (HBEL.out.trans (h4.mono HBEL.out.size)) (Nat.le_refl _), HBN.out.2.2.mono (HBEL.out.trans (h4.mono HBEL.out.size)) (Nat.le_refl _)⟩
          have HPQ := HPT.out
          cases ho : opS s M.stages.length with
          | false =>
            rw [ho] at HPQ
            have HV : Hid (stuckB M s = false) := Lib.hid (by rw [HPQ]; rfl)
            clear HPQ hcp HAB HPT
            subst hv6
            clear ho
            go_wp2_with fail
            go_ret
            exact ⟨ret_bool HV.out.symm, HBW.out⟩
          | true =>
            rw [ho] at HPQ
            clear ho
            cases hq : frS M s (pl M.users.n M.events.length 0) with
            | false =>
              rw [hq] at HPQ hv6
              subst hv6
              have HV : Hid (stuckB M s = false) := Lib.hid (by rw [HPQ]; rfl)
              clear HPQ hcp HAB HPT hq
              go_wp2_with fail
              go_ret
              exact ⟨ret_bool HV.out.symm, HBW.out⟩
            | true =>
              rw [hq] at HPQ hv6
              subst hv6
              cases hcc : cpl M s with
              | true =>
                rw [hcc] at HPQ hcp
                have HV : Hid (stuckB M s = false) := Lib.hid (by rw [HPQ]; rfl)
                clear HPQ HPT hq hcc
                go_wp2_with (go_at_call 21; refine hcp.mono ?_; rintro e' w4 ⟨rfl, hb4⟩; have H4 := Lib.hid (HAB.out w4 hb4); clear hb4)
                go_ret
                exact ⟨ret_bool HV.out.symm, H4.out.1.2⟩
              | false =>
                rw [hcc] at HPQ hcp
                have HV : Hid (stuckB M s = !anyB M s) := Lib.hid (by rw [HPQ]; simp)
                clear HPQ HPT hq hcc
                go_wp2_with (first | (go_at_call 21; refine hcp.mono ?_; rintro e' w4 ⟨rfl, hb4⟩; have H4 := Lib.hid (HAB.out w4 hb4); clear m0 m1 m2 m3 m4 m5 m6 m7 m8 m9 s0 s1 s2 s3 s4; have hMo := H4.out.2.1; have hSq := H4.out.2.2; have m0 := hMo.c0; have m1 := hMo.c1; have m2 := hMo.c2; have m3 := hMo.c3; have m4 := hMo.c4; have m5 := hMo.c5; have m6 := hMo.c6; have m7 := hMo.c7; have m8 := hMo.c8; have m9 := hMo.c9; have s0 := hSq.c0; have s1 := hSq.c1; have s2 := hSq.c2; have s3 := hSq.c3; have s4 := hSq.c4; clear hb4 hMo hSq) | (go_at_call 19; refine (HAN.out _ H4.out.1.1).mono ?_; rintro e' w5 ⟨rfl, hb5⟩; have H5 := Lib.hid (H4.out.1.2.trans (hb5.mono H4.out.1.2.size)); clear hb5))
                go_ret
                exact ⟨ret_bool HV.out.symm, H5.out⟩
end Go.Proofs.Ytdpmkhmjihgckaa
