/-
  Rights: the document's answers: Enabled.
-/
import Derived.Test.YtdpmkhmjihgckaaRtRefFree
import Derived.Test.YtdpmkhmjihgckaaRtEn
namespace Go.Proofs.Ytdpmkhmjihgckaa
open Go.RowKit
set_option linter.unusedVariables false
set_option linter.unusedSimpArgs false

set_option maxRecDepth 100000 in
set_option maxHeartbeats 40000000 in
theorem rf_enabled (M : Mo) (s : Sq) (e u : Int) (w : World) (hM : RdM w M) (hs : RdS w s) : Calls Try.prog 54 #[M.val, s.val, .int .i64 e, .int .i64 u] w fun r w' => r = .returned (.bool (enB M s e u)) ∧ Below w.heap.size w w' := by
  have hu : ∀ b : Bool, ¬ (some undef = some (Value.bool b)) := fun b h => by cases h
  have hm2 : M.sods.length ≤ 9223372036854775807 := by have := hM.sodsm; unfold maxLen at this; omega
  have hbn := both_new w M s 32 35
  have hM1 := hM.mono hbn.1 (Nat.le_refl _)
  have hs1 := hs.mono hbn.1 (Nat.le_refl _)
  have hf : Calls Try.prog 58 #[.agg #[.slice M.attrs.a M.attrs.n M.attrs.c, .slice M.inits.a M.inits.n M.inits.c, .slice M.users.a M.users.n M.users.c, .slice M.rolesa M.roles.length M.rolesc, .slice M.stagesa M.stages.length M.stagesc, .slice M.eventsa M.events.length M.eventsc, .slice M.guardsa M.guards.length M.guardsc, .slice M.milesa M.miles.length M.milesc, .slice M.sodsa M.sods.length M.sodsc, .slice M.order.a M.order.n M.order.c], .agg #[.slice s.vals.a s.vals.n s.vals.c, .int .i64 s.op, .int .i64 s.dn, .slice s.dida s.did.length s.didc, .slice s.cnta s.cnt.length s.cntc], .int .i64 e, .int .i64 u] ((w.alloc (.cells #[.slice M.attrs.a M.attrs.n M.attrs.c, .slice M.inits.a M.inits.n M.inits.c, .slice M.users.a M.users.n M.users.c, .slice M.rolesa M.roles.length M.rolesc, .slice M.stagesa M.stages.length M.stagesc, .slice M.eventsa M.events.length M.eventsc, .slice M.guardsa M.guards.length M.guardsc, .slice M.milesa M.miles.length M.milesc, .slice M.sodsa M.sods.length M.sodsc, .slice M.order.a M.order.n M.order.c] 32)).alloc (.cells #[.slice s.vals.a s.vals.n s.vals.c, .int .i64 s.op, .int .i64 s.dn, .slice s.dida s.did.length s.didc, .slice s.cnta s.cnt.length s.cntc] 35)) fun r w' => r = .returned (.bool (freeB M s e u)) ∧ Below ((w.alloc (.cells #[.slice M.attrs.a M.attrs.n M.attrs.c, .slice M.inits.a M.inits.n M.inits.c, .slice M.users.a M.users.n M.users.c, .slice M.rolesa M.roles.length M.rolesc, .slice M.stagesa M.stages.length M.stagesc, .slice M.eventsa M.events.length M.eventsc, .slice M.guardsa M.guards.length M.guardsc, .slice M.milesa M.miles.length M.milesc, .slice M.sodsa M.sods.length M.sodsc, .slice M.order.a M.order.n M.order.c] 32)).alloc (.cells #[.slice s.vals.a s.vals.n s.vals.c, .int .i64 s.op, .int .i64 s.dn, .slice s.dida s.did.length s.didc, .slice s.cnta s.cnt.length s.cntc] 35)).heap.size ((w.alloc (.cells #[.slice M.attrs.a M.attrs.n M.attrs.c, .slice M.inits.a M.inits.n M.inits.c, .slice M.users.a M.users.n M.users.c, .slice M.rolesa M.roles.length M.rolesc, .slice M.stagesa M.stages.length M.stagesc, .slice M.eventsa M.events.length M.eventsc, .slice M.guardsa M.guards.length M.guardsc, .slice M.milesa M.miles.length M.milesc, .slice M.sodsa M.sods.length M.sodsc, .slice M.order.a M.order.n M.order.c] 32)).alloc (.cells #[.slice s.vals.a s.vals.n s.vals.c, .int .i64 s.op, .int .i64 s.dn, .slice s.dida s.did.length s.didc, .slice s.cnta s.cnt.length s.cntc] 35)) w' := rf_free M s e u ((w.alloc (.cells #[.slice M.attrs.a M.attrs.n M.attrs.c, .slice M.inits.a M.inits.n M.inits.c, .slice M.users.a M.users.n M.users.c, .slice M.rolesa M.roles.length M.rolesc, .slice M.stagesa M.stages.length M.stagesc, .slice M.eventsa M.events.length M.eventsc, .slice M.guardsa M.guards.length M.guardsc, .slice M.milesa M.miles.length M.milesc, .slice M.sodsa M.sods.length M.sodsc, .slice M.order.a M.order.n M.order.c] 32)).alloc (.cells #[.slice s.vals.a s.vals.n s.vals.c, .int .i64 s.op, .int .i64 s.dn, .slice s.dida s.did.length s.didc, .slice s.cnta s.cnt.length s.cntc] 35)) hM1 hs1
  have HM1 := Lib.hid hM1
  have HS1 := Lib.hid hs1
  have HBN := Lib.hid hbn
  clear hM hs hM1 hs1 hbn
  unfold Mo.val Sq.val
  cases hfr : freeB M s e u with
  | false =>
    rw [hfr] at hf
    have HF : Hid (enB M s e u = false) := Lib.hid (by unfold enB; rw [hfr]; rfl)
    clear hfr
    go_enter Try.func54, Try.ntmps54
    go_wp2_with (go_at_call 58; refine hf.mono ?_; rintro e' w3 ⟨rfl, hb3⟩; have HB3 := Lib.hid (HBN.out.1.trans (hb3.mono HBN.out.1.size)); clear hb3)
    go_ret
    exact ⟨ret_bool HF.out.symm, HB3.out⟩
  | true =>
    rw [hfr] at hf
    have HF : Hid (enB M s e u = !dcd (Apt M s e u M.sods.length)) := Lib.hid (by unfold enB; rw [hfr]; rfl)
    clear hfr
    go_enter Try.func54, Try.ntmps54
    go_wp2_with (go_at_call 58; refine hf.mono ?_; rintro e' w3 ⟨rfl, hb3⟩; have HB3 := Lib.hid (HBN.out.1.trans (hb3.mono HBN.out.1.size)); have HMO3 := Lib.hid (HBN.out.2.1.mono hb3 (Nat.le_refl _)); have HSQ3 := Lib.hid (HBN.out.2.2.mono hb3 (Nat.le_refl _)); have HM3 := Lib.hid (HM1.out.mono hb3 (Nat.le_refl _)); have HS3 := Lib.hid (HS1.out.mono hb3 (Nat.le_refl _)); have m8 := HMO3.out.c8; clear hb3 HBN HM1 HS1 hf)
    go_loopw [9] (fun v9 wr => ∃ i : Nat, v9 = .int .i64 i ∧ i ≤ M.sods.length ∧ ¬ Apt M s e u i ∧ Below w3.heap.size w3 wr) (fun v9 _ => M.sods.length - (intOf v9).toNat)
    case atStart => exact ⟨0, rfl, by omega, apt_none, Below.refl _ _⟩
    case round =>
      obtain ⟨i, rfl, hi, hno, hbel⟩ := hrel
      have m8 := (HMO3.out.mono hbel (Nat.le_refl _)).c8
      have hz3 := HB3.out.size
      by_cases hlt : i < M.sods.length
      · obtain ⟨rb, roff, ha, hrg⟩ := recs_at Sd.cells_len (by omega) (HM3.out).sods i hlt
        have hli : (i : Int) < (M.sods.length : Int) := by omega
        have hA0 := hrg i hlt 0 _ (show (M.sods[i].cells)[0]? = some (.int .i64 M.sods[i].a) from rfl)
        have hB0 := hrg i hlt 1 _ (show (M.sods[i].cells)[1]? = some (.int .i64 M.sods[i].b) from rfl)
        have hA : wr.cell? ⟨rb, roff + i * 2, none⟩ = some (.int .i64 M.sods[i].a) := (hbel.cell (p := ⟨rb, roff + i * 2 + 0, none⟩) (lt_of_cell hA0)).trans hA0
        have hB : wr.cell? ⟨rb, roff + i * 2 + 1, none⟩ = some (.int .i64 M.sods[i].b) := (hbel.cell (p := ⟨rb, roff + i * 2 + 1, none⟩) (lt_of_cell hB0)).trans hB0
        rw [ha] at m8
        have HHIT : Hid ((M.sods[i].a = e ∧ hadB s M.sods[i].b u = true) ∨ (M.sods[i].b = e ∧ hadB s M.sods[i].a u = true) → enB M s e u = false) := Lib.hid fun h => by rw [HF.out, dcd_yes (apt_hit hlt h)]; rfl
        have HNEXT : Hid (¬ ((M.sods[i].a = e ∧ hadB s M.sods[i].b u = true) ∨ (M.sods[i].b = e ∧ hadB s M.sods[i].a u = true)) → ¬ Apt M s e u (i + 1)) := Lib.hid fun h => apt_next hno hlt h
        generalize M.sods[i] = x at *
        obtain ⟨a, b⟩ := x
        dsimp only at hA hB
        have HW : Hid (Below w3.heap.size w3 wr) := Lib.hid hbel
        have HAD : Hid (∀ (q : Int) W, Below w3.heap.size w3 W → Calls Try.prog 94 #[.agg #[.slice s.vals.a s.vals.n s.vals.c, .int .i64 s.op, .int .i64 s.dn, .slice s.dida s.did.length s.didc, .slice s.cnta s.cnt.length s.cntc], .int .i64 q, .int .i64 u] W fun r w' => r = .returned (.bool (hadB s q u)) ∧ Below W.heap.size W w') := Lib.hid fun q W hw => rf_had s q u W (HS3.out.mono hw (Nat.le_refl _))
        have HEND : Hid (∀ W, Below w3.heap.size w3 W → Below w.heap.size w W) := Lib.hid fun W hw => HB3.out.trans (hw.mono HB3.out.size)
        have hw1 : IntKind.i64.wrap ((i : Int) + 1) = ((i + 1 : Nat) : Int) := by rw [IntWalk.i64_in _ (by omega)]; omega
        clear hrg hno hbel ha hA0 hB0
        go_wp2_with fail
        go_quiet (fail)
        have HW := Lib.hid (HW.out.trans ((mbelow_dn (Below.refl wr.heap.size wr) nq).mono HW.out.size))
        clear hA hB m8
        generalize wr.drewN nq = W1 at *
        have hSq1 := HSQ3.out.mono HW.out (Nat.le_refl _)
        have s0 := hSq1.c0
        have s1 := hSq1.c1
        have s2 := hSq1.c2
        have s3 := hSq1.c3
        have s4 := hSq1.c4
        have m8 := (HMO3.out.mono HW.out (Nat.le_refl _)).c8
        clear hSq1
        by_cases q1 : a = e
        · have q1' : e = a := q1.symm
          subst q1'
          have h1 := fun W hw => HAD.out b W hw
          cases r1 : hadB s b u with
          | true =>
            rw [r1] at h1
            have HN := Lib.hid (HHIT.out (by exact Or.inl ⟨q1, r1⟩))
            clear q1 r1 HNEXT HHIT HAD
            go_wp2_with (first | (go_at_call 94; (with_reducible refine (h1 _ HW.out).mono ?_); clear h1; rintro e' w4 ⟨rfl, hb4⟩; replace HW := Lib.hid (HW.out.trans (hb4.mono HW.out.size)); clear hb4; clear s0 s1 s2 s3 s4; have hSq1 := HSQ3.out.mono HW.out (Nat.le_refl _); have s0 := hSq1.c0; have s1 := hSq1.c1; have s2 := hSq1.c2; have s3 := hSq1.c3; have s4 := hSq1.c4; clear hSq1))
            go_ret
            exact ⟨ret_bool HN.out.symm, HEND.out _ HW.out⟩
          | false =>
            rw [r1] at h1
            by_cases q2 : b = e
            · have q2' : e = b := q2.symm
              subst q2'
              have h2 := fun W hw => HAD.out e W hw
              cases r2 : hadB s e u with
              | true =>
                rw [r2] at h2
                have HN := Lib.hid (HHIT.out (by exact Or.inr ⟨q2, r2⟩))
                clear q2 r2 HNEXT HHIT HAD
                go_wp2_with (first | (go_at_call 94; (with_reducible refine (h1 _ HW.out).mono ?_); clear h1; rintro e' w4 ⟨rfl, hb4⟩; replace HW := Lib.hid (HW.out.trans (hb4.mono HW.out.size)); clear hb4; clear s0 s1 s2 s3 s4; have hSq1 := HSQ3.out.mono HW.out (Nat.le_refl _); have s0 := hSq1.c0; have s1 := hSq1.c1; have s2 := hSq1.c2; have s3 := hSq1.c3; have s4 := hSq1.c4; clear hSq1) | (go_at_call 94; (with_reducible refine (h2 _ HW.out).mono ?_); clear h2; rintro e' w4 ⟨rfl, hb4⟩; replace HW := Lib.hid (HW.out.trans (hb4.mono HW.out.size)); clear hb4; clear s0 s1 s2 s3 s4; have hSq1 := HSQ3.out.mono HW.out (Nat.le_refl _); have s0 := hSq1.c0; have s1 := hSq1.c1; have s2 := hSq1.c2; have s3 := hSq1.c3; have s4 := hSq1.c4; clear hSq1))
                go_ret
                exact ⟨ret_bool HN.out.symm, HEND.out _ HW.out⟩
              | false =>
                rw [r2] at h2
                have HN := Lib.hid (HNEXT.out (by rintro (h | h); (rw [r1] at h; cases h.2); rw [r2] at h; cases h.2))
                clear q2 r2 HNEXT HHIT HAD
                go_wp2_with (first | (go_at_call 94; (with_reducible refine (h1 _ HW.out).mono ?_); clear h1; rintro e' w4 ⟨rfl, hb4⟩; replace HW := Lib.hid (HW.out.trans (hb4.mono HW.out.size)); clear hb4; clear s0 s1 s2 s3 s4; have hSq1 := HSQ3.out.mono HW.out (Nat.le_refl _); have s0 := hSq1.c0; have s1 := hSq1.c1; have s2 := hSq1.c2; have s3 := hSq1.c3; have s4 := hSq1.c4; clear hSq1) | (go_at_call 94; (with_reducible refine (h2 _ HW.out).mono ?_); clear h2; rintro e' w4 ⟨rfl, hb4⟩; replace HW := Lib.hid (HW.out.trans (hb4.mono HW.out.size)); clear hb4; clear s0 s1 s2 s3 s4; have hSq1 := HSQ3.out.mono HW.out (Nat.le_refl _); have s0 := hSq1.c0; have s1 := hSq1.c1; have s2 := hSq1.c2; have s3 := hSq1.c3; have s4 := hSq1.c4; clear hSq1))
                go_roundw
                case rel => exact ⟨i + 1, by go_num, by omega, HN.out, HW.out⟩
                case measure => simp [intOf] <;> omega
            · have hd2 : (b == e) = false := by simpa using q2
              have HN := Lib.hid (HNEXT.out (by rintro (h | h); (rw [r1] at h; cases h.2); exact q2 h.1))
              clear q2 HNEXT HHIT HAD
              go_wp2_with (first | (go_at_call 94; (with_reducible refine (h1 _ HW.out).mono ?_); clear h1; rintro e' w4 ⟨rfl, hb4⟩; replace HW := Lib.hid (HW.out.trans (hb4.mono HW.out.size)); clear hb4; clear s0 s1 s2 s3 s4; have hSq1 := HSQ3.out.mono HW.out (Nat.le_refl _); have s0 := hSq1.c0; have s1 := hSq1.c1; have s2 := hSq1.c2; have s3 := hSq1.c3; have s4 := hSq1.c4; clear hSq1))
              go_roundw
              case rel => exact ⟨i + 1, by go_num, by omega, HN.out, HW.out⟩
              case measure => simp [intOf] <;> omega
        · have hd1 : (a == e) = false := by simpa using q1
          by_cases q2 : b = e
          · have q2' : e = b := q2.symm
            subst q2'
            have h2 := fun W hw => HAD.out a W hw
            cases r2 : hadB s a u with
            | true =>
              rw [r2] at h2
              have HN := Lib.hid (HHIT.out (by exact Or.inr ⟨q2, r2⟩))
              clear q2 r2 HNEXT HHIT HAD
              go_wp2_with (first | (go_at_call 94; (with_reducible refine (h2 _ HW.out).mono ?_); clear h2; rintro e' w4 ⟨rfl, hb4⟩; replace HW := Lib.hid (HW.out.trans (hb4.mono HW.out.size)); clear hb4; clear s0 s1 s2 s3 s4; have hSq1 := HSQ3.out.mono HW.out (Nat.le_refl _); have s0 := hSq1.c0; have s1 := hSq1.c1; have s2 := hSq1.c2; have s3 := hSq1.c3; have s4 := hSq1.c4; clear hSq1))
              go_ret
              exact ⟨ret_bool HN.out.symm, HEND.out _ HW.out⟩
            | false =>
              rw [r2] at h2
              have HN := Lib.hid (HNEXT.out (by rintro (h | h); (exact q1 h.1); rw [r2] at h; cases h.2))
              clear q2 r2 HNEXT HHIT HAD
              go_wp2_with (first | (go_at_call 94; (with_reducible refine (h2 _ HW.out).mono ?_); clear h2; rintro e' w4 ⟨rfl, hb4⟩; replace HW := Lib.hid (HW.out.trans (hb4.mono HW.out.size)); clear hb4; clear s0 s1 s2 s3 s4; have hSq1 := HSQ3.out.mono HW.out (Nat.le_refl _); have s0 := hSq1.c0; have s1 := hSq1.c1; have s2 := hSq1.c2; have s3 := hSq1.c3; have s4 := hSq1.c4; clear hSq1))
              go_roundw
              case rel => exact ⟨i + 1, by go_num, by omega, HN.out, HW.out⟩
              case measure => simp [intOf] <;> omega
          · have hd2 : (b == e) = false := by simpa using q2
            have HN := Lib.hid (HNEXT.out (by rintro (h | h); (exact q1 h.1); exact q2 h.1))
            clear q2 HNEXT HHIT HAD
            go_wp2_with (fail)
            go_roundw
            case rel => exact ⟨i + 1, by go_num, by omega, HN.out, HW.out⟩
            case measure => simp [intOf] <;> omega
      · have hie : i = M.sods.length := by omega
        subst hie
        have HN : Hid (enB M s e u = true) := Lib.hid (by rw [HF.out, dcd_no hno]; rfl)
        have HEND := Lib.hid (HB3.out.trans (hbel.mono HB3.out.size))
        clear hno hbel
        go_wp2_with fail
        go_ret
        exact ⟨ret_bool HN.out.symm, HEND.out⟩
end Go.Proofs.Ytdpmkhmjihgckaa
