/-
  Rights: Enabled, by a walk.
-/
import Derived.Test.YtdpmkhmjihgckaaRtFree
namespace Go.Proofs.Ytdpmkhmjihgckaa
open Go.RowKit
set_option linter.unusedVariables false
set_option linter.unusedSimpArgs false

theorem msizeSod : (Try.prog.info? 111).map (·.size) = some 2 := by kernel_rfl
set_option maxRecDepth 100000 in
set_option maxHeartbeats 40000000 in
theorem rt_enabled (M : Mo) (s : Sq) (e u : Int) (w : World) (hM : RdM w M) (hs : RdS w s) : Calls Try.prog 24 #[M.val, s.val, .int .i64 e, .int .i64 u] w fun r w' => r = .returned (.bool (enB M s e u)) ∧ Below w.heap.size w w' := by
  have hu : ∀ b : Bool, ¬ (some undef = some (Value.bool b)) := fun b h => by cases h
  have hm2 : M.sods.length ≤ 9223372036854775807 := by have := hM.sodsm; unfold maxLen at this; omega
  have hbn := both_new w M s 32 35
  have hM1 := hM.mono hbn.1 (Nat.le_refl _)
  have hs1 := hs.mono hbn.1 (Nat.le_refl _)
  have hf : Calls Try.prog 25 #[.agg #[.slice M.attrs.a M.attrs.n M.attrs.c, .slice M.inits.a M.inits.n M.inits.c, .slice M.users.a M.users.n M.users.c, .slice M.rolesa M.roles.length M.rolesc, .slice M.stagesa M.stages.length M.stagesc, .slice M.eventsa M.events.length M.eventsc, .slice M.guardsa M.guards.length M.guardsc, .slice M.milesa M.miles.length M.milesc, .slice M.sodsa M.sods.length M.sodsc, .slice M.order.a M.order.n M.order.c], .agg #[.slice s.vals.a s.vals.n s.vals.c, .int .i64 s.op, .int .i64 s.dn, .slice s.dida s.did.length s.didc, .slice s.cnta s.cnt.length s.cntc], .int .i64 e, .int .i64 u] ((w.alloc (.cells #[.slice M.attrs.a M.attrs.n M.attrs.c, .slice M.inits.a M.inits.n M.inits.c, .slice M.users.a M.users.n M.users.c, .slice M.rolesa M.roles.length M.rolesc, .slice M.stagesa M.stages.length M.stagesc, .slice M.eventsa M.events.length M.eventsc, .slice M.guardsa M.guards.length M.guardsc, .slice M.milesa M.miles.length M.milesc, .slice M.sodsa M.sods.length M.sodsc, .slice M.order.a M.order.n M.order.c] 32)).alloc (.cells #[.slice s.vals.a s.vals.n s.vals.c, .int .i64 s.op, .int .i64 s.dn, .slice s.dida s.did.length s.didc, .slice s.cnta s.cnt.length s.cntc] 35)) fun r w' => r = .returned (.bool (freeB M s e u)) ∧ Below ((w.alloc (.cells #[.slice M.attrs.a M.attrs.n M.attrs.c, .slice M.inits.a M.inits.n M.inits.c, .slice M.users.a M.users.n M.users.c, .slice M.rolesa M.roles.length M.rolesc, .slice M.stagesa M.stages.length M.stagesc, .slice M.eventsa M.events.length M.eventsc, .slice M.guardsa M.guards.length M.guardsc, .slice M.milesa M.miles.length M.milesc, .slice M.sodsa M.sods.length M.sodsc, .slice M.order.a M.order.n M.order.c] 32)).alloc (.cells #[.slice s.vals.a s.vals.n s.vals.c, .int .i64 s.op, .int .i64 s.dn, .slice s.dida s.did.length s.didc, .slice s.cnta s.cnt.length s.cntc] 35)).heap.size ((w.alloc (.cells #[.slice M.attrs.a M.attrs.n M.attrs.c, .slice M.inits.a M.inits.n M.inits.c, .slice M.users.a M.users.n M.users.c, .slice M.rolesa M.roles.length M.rolesc, .slice M.stagesa M.stages.length M.stagesc, .slice M.eventsa M.events.length M.eventsc, .slice M.guardsa M.guards.length M.guardsc, .slice M.milesa M.miles.length M.milesc, .slice M.sodsa M.sods.length M.sodsc, .slice M.order.a M.order.n M.order.c] 32)).alloc (.cells #[.slice s.vals.a s.vals.n s.vals.c, .int .i64 s.op, .int .i64 s.dn, .slice s.dida s.did.length s.didc, .slice s.cnta s.cnt.length s.cntc] 35)) w' := rt_free M s e u ((w.alloc (.cells #[.slice M.attrs.a M.attrs.n M.attrs.c, .slice M.inits.a M.inits.n M.inits.c, .slice M.users.a M.users.n M.users.c, .slice M.rolesa M.roles.length M.rolesc, .slice M.stagesa M.stages.length M.stagesc, .slice M.eventsa M.events.length M.eventsc, .slice M.guardsa M.guards.length M.guardsc, .slice M.milesa M.miles.length M.milesc, .slice M.sodsa M.sods.length M.sodsc, .slice M.order.a M.order.n M.order.c] 32)).alloc (.cells #[.slice s.vals.a s.vals.n s.vals.c, .int .i64 s.op, .int .i64 s.dn, .slice s.dida s.did.length s.didc, .slice s.cnta s.cnt.length s.cntc] 35)) hM1 hs1
  have HM1 := Lib.hid hM1
  have HS1 := Lib.hid hs1
  have HBN := Lib.hid hbn
  clear hM hs hM1 hs1 hbn
  unfold Mo.val Sq.val
  cases hfr : freeB M s e u with
  | false =>
    rw [hfr] at hf
    have HF : Hid (enB M s e u = false) := Lib.hid (by unfold enB; rw [hfr]; rfl)
    clear hfr
    go_enter Try.func24, Try.ntmps24
    go_wp2_with (go_at_call 25; refine hf.mono ?_; rintro e' w3 ⟨rfl, hb3⟩; have HB3 := Lib.hid (HBN.out.1.trans (hb3.mono HBN.out.1.size)); clear hb3)
    go_ret
    exact ⟨ret_bool HF.out.symm, HB3.out⟩
  | true =>
    rw [hfr] at hf
    have HF : Hid (enB M s e u = !dcd (Apt M s e u M.sods.length)) := Lib.hid (by unfold enB; rw [hfr]; rfl)
    clear hfr
    go_enter Try.func24, Try.ntmps24
    go_wp2_with (go_at_call 25; refine hf.mono ?_; rintro e' w3 ⟨rfl, hb3⟩; have HB3 := Lib.hid (HBN.out.1.trans (hb3.mono HBN.out.1.size)); have HMO3 := Lib.hid (HBN.out.2.1.mono hb3 (Nat.le_refl _)); have HSQ3 := Lib.hid (HBN.out.2.2.mono hb3 (Nat.le_refl _)); have HM3 := Lib.hid (HM1.out.mono hb3 (Nat.le_refl _)); have HS3 := Lib.hid (HS1.out.mono hb3 (Nat.le_refl _)); have m8 := HMO3.out.c8; clear hb3 HBN HM1 HS1 hf)
    go_loopw [20] (fun v20 wr => ∃ i : Nat, v20 = .int .i64 i ∧ i ≤ M.sods.length ∧ ¬ Apt M s e u i ∧ Below w3.heap.size w3 wr) (fun v20 _ => M.sods.length - (intOf v20).toNat)
    case atStart => exact ⟨0, rfl, by omega, apt_none, Below.refl _ _⟩
    case round =>
      obtain ⟨i, rfl, hi, hno, hbel⟩ := hrel
      have m8 := (HMO3.out.mono hbel (Nat.le_refl _)).c8
      have hz3 := HB3.out.size
      by_cases hlt : i < M.sods.length
      · obtain ⟨rb, roff, ha, hrg⟩ := recs_at Sd.cells_len (by omega) (HM3.out).sods i hlt
        have hrw : wr.rangeAt rb (roff + i * 2) M.sods[i].cells := fun j v hv => by
          have h1 := hrg i hlt j v hv
          exact (hbel.cell (p := ⟨rb, roff + i * 2 + j, none⟩) (lt_of_cell h1)).trans h1
        rw [ha] at m8 ⊢
        have HHIT : Hid ((M.sods[i].a = e ∧ hadB s M.sods[i].b u = true) ∨ (M.sods[i].b = e ∧ hadB s M.sods[i].a u = true) → enB M s e u = false) := Lib.hid fun h => by rw [HF.out, dcd_yes (apt_hit hlt h)]; rfl
        have HNEXT : Hid (¬ ((M.sods[i].a = e ∧ hadB s M.sods[i].b u = true) ∨ (M.sods[i].b = e ∧ hadB s M.sods[i].a u = true)) → ¬ Apt M s e u (i + 1)) := Lib.hid fun h => apt_next hno hlt h
        generalize M.sods[i] = x at *
        obtain ⟨a, b⟩ := x
        have hrw2 : wr.rangeAt rb (roff + i * 2) [.int .i64 a, .int .i64 b] := hrw
        have hSq1 := fun o => (HSQ3.out.mono hbel (Nat.le_refl _)).mono (mbel_new wr o) (Nat.le_refl _)
        have s0 := fun o => (hSq1 o).c0
        have s1 := fun o => (hSq1 o).c1
        have s2 := fun o => (hSq1 o).c2
        have s3 := fun o => (hSq1 o).c3
        have s4 := fun o => (hSq1 o).c4
        have XB : Hid (∀ W w4, Below w3.heap.size w3 W → wr.heap.size < W.heap.size → W.cell? ⟨wr.heap.size, 0, none⟩ = some (.int .i64 a) → W.cell? ⟨wr.heap.size, 1, none⟩ = some (.int .i64 b) → Below W.heap.size W w4 → Below w3.heap.size w3 w4 ∧ wr.heap.size < w4.heap.size ∧ w4.cell? ⟨wr.heap.size, 0, none⟩ = some (.int .i64 a) ∧ w4.cell? ⟨wr.heap.size, 1, none⟩ = some (.int .i64 b) ∧ SqAt w4 (w.heap.size + 1) s) := Lib.hid fun W w4 h1 h2 h3 h4 h5 => ⟨h1.trans (h5.mono h1.size), Nat.lt_of_lt_of_le h2 h5.size, mcell_mono h3 h5 (Nat.le_refl _), mcell_mono h4 h5 (Nat.le_refl _), (HSQ3.out.mono (h1.trans (h5.mono h1.size)) (Nat.le_refl _))⟩
        have HHB : Hid (∀ o, Below w3.heap.size w3 (wr.alloc o) ∧ wr.heap.size < (wr.alloc o).heap.size) := Lib.hid fun o => ⟨hbel.trans ((mbel_new wr o).mono hbel.size), by simp⟩
        have HX0 : Hid ((wr.alloc (.cells #[.int .i64 a, .int .i64 b] 111)).cell? ⟨wr.heap.size, 0, none⟩ = some (.int .i64 a) ∧ (wr.alloc (.cells #[.int .i64 a, .int .i64 b] 111)).cell? ⟨wr.heap.size, 1, none⟩ = some (.int .i64 b)) := Lib.hid ⟨by rw [World.cell?_alloc_at _ _ _ _ rfl]; rfl, by rw [World.cell?_alloc_at _ _ _ _ rfl]; rfl⟩
        have HAD : Hid (∀ (q : Int) W, Below w3.heap.size w3 W → Calls Try.prog 59 #[.agg #[.slice s.vals.a s.vals.n s.vals.c, .int .i64 s.op, .int .i64 s.dn, .slice s.dida s.did.length s.didc, .slice s.cnta s.cnt.length s.cntc], .int .i64 q, .int .i64 u] W fun r w' => r = .returned (.bool (hadB s q u)) ∧ Below W.heap.size W w') := Lib.hid fun q W hw => rt_had s q u W (HS3.out.mono hw (Nat.le_refl _))
        have HEND : Hid (∀ W, Below w3.heap.size w3 W → Below w.heap.size w W) := Lib.hid fun W hw => HB3.out.trans (hw.mono HB3.out.size)
        have hw1 : IntKind.i64.wrap ((i : Int) + 1) = ((i + 1 : Nat) : Int) := by rw [IntWalk.i64_in _ (by omega)]; omega
        clear hrg hrw hno hbel hSq1 ha
        by_cases q1 : a = e
        · have q1' : e = a := q1.symm
          subst q1'
          have h1 := fun W hw => HAD.out b W hw
          cases r1 : hadB s b u with
          | true =>
            rw [r1] at h1
            have HN := Lib.hid (HHIT.out (by exact Or.inl ⟨q1, r1⟩))
            clear q1 r1 HNEXT HHIT HAD
            go_wp2_with (first | (have hq := hrw2; refine wpList_load_mid rfl 111 (.tmp 22) rfl rb (roff + i * 2) rfl _ _ hq Try.underlying111 rfl msizeSod ?_; clear hrw2 hq) | (go_at_call 59; (with_reducible refine (h1 _ ((HHB.out _).1)).mono ?_); clear h1; rintro e' w4 ⟨rfl, hb4⟩; have HX4 := Lib.hid (XB.out _ _ (HHB.out _).1 (HHB.out _).2 HX0.out.1 HX0.out.2 hb4); have x0 := HX4.out.2.2.1; have x1 := HX4.out.2.2.2.1; have s0 := HX4.out.2.2.2.2.c0; have s1 := HX4.out.2.2.2.2.c1; have s2 := HX4.out.2.2.2.2.c2; have s3 := HX4.out.2.2.2.2.c3; have s4 := HX4.out.2.2.2.2.c4; clear hb4))
            go_ret
            exact ⟨ret_bool HN.out.symm, HEND.out _ (HX4.out).1⟩
          | false =>
            rw [r1] at h1
            by_cases q2 : b = e
            · have q2' : e = b := q2.symm
              subst q2'
              have h2 := fun W hw => HAD.out e W hw
              cases r2 : hadB s e u with
              | true =>
                rw [r2] at h2
                have HN := Lib.hid (HHIT.out (by exact Or.inr ⟨q2, r2⟩))
                clear q2 r2 HNEXT HHIT HAD
                go_wp2_with (first | (have hq := hrw2; refine wpList_load_mid rfl 111 (.tmp 22) rfl rb (roff + i * 2) rfl _ _ hq Try.underlying111 rfl msizeSod ?_; clear hrw2 hq) | (go_at_call 59; (with_reducible refine (h1 _ ((HHB.out _).1)).mono ?_); clear h1; rintro e' w4 ⟨rfl, hb4⟩; have HX4 := Lib.hid (XB.out _ _ (HHB.out _).1 (HHB.out _).2 HX0.out.1 HX0.out.2 hb4); have x0 := HX4.out.2.2.1; have x1 := HX4.out.2.2.2.1; have s0 := HX4.out.2.2.2.2.c0; have s1 := HX4.out.2.2.2.2.c1; have s2 := HX4.out.2.2.2.2.c2; have s3 := HX4.out.2.2.2.2.c3; have s4 := HX4.out.2.2.2.2.c4; clear hb4) | (go_at_call 59; (with_reducible refine (h2 _ (HX4.out).1).mono ?_); clear h2; rintro e' w5 ⟨rfl, hb5⟩; have HX5 := Lib.hid (XB.out _ _ HX4.out.1 HX4.out.2.1 HX4.out.2.2.1 HX4.out.2.2.2.1 hb5); clear hb5))
                go_ret
                exact ⟨ret_bool HN.out.symm, HEND.out _ (HX5.out).1⟩
              | false =>
                rw [r2] at h2
                have HN := Lib.hid (HNEXT.out (by rintro (h | h); (rw [r1] at h; cases h.2); rw [r2] at h; cases h.2))
                clear q2 r2 HNEXT HHIT HAD
                go_wp2_with (first | (have hq := hrw2; refine wpList_load_mid rfl 111 (.tmp 22) rfl rb (roff + i * 2) rfl _ _ hq Try.underlying111 rfl msizeSod ?_; clear hrw2 hq) | (go_at_call 59; (with_reducible refine (h1 _ ((HHB.out _).1)).mono ?_); clear h1; rintro e' w4 ⟨rfl, hb4⟩; have HX4 := Lib.hid (XB.out _ _ (HHB.out _).1 (HHB.out _).2 HX0.out.1 HX0.out.2 hb4); have x0 := HX4.out.2.2.1; have x1 := HX4.out.2.2.2.1; have s0 := HX4.out.2.2.2.2.c0; have s1 := HX4.out.2.2.2.2.c1; have s2 := HX4.out.2.2.2.2.c2; have s3 := HX4.out.2.2.2.2.c3; have s4 := HX4.out.2.2.2.2.c4; clear hb4) | (go_at_call 59; (with_reducible refine (h2 _ (HX4.out).1).mono ?_); clear h2; rintro e' w5 ⟨rfl, hb5⟩; have HX5 := Lib.hid (XB.out _ _ HX4.out.1 HX4.out.2.1 HX4.out.2.2.1 HX4.out.2.2.2.1 hb5); clear hb5))
                go_roundw
                case rel => exact ⟨i + 1, by go_num, by omega, HN.out, (HX5.out).1⟩
                case measure => simp [intOf] <;> omega
            · have hd2 : (b == e) = false := by simpa using q2
              have HN := Lib.hid (HNEXT.out (by rintro (h | h); (rw [r1] at h; cases h.2); exact q2 h.1))
              clear q2 HNEXT HHIT HAD
              go_wp2_with (first | (have hq := hrw2; refine wpList_load_mid rfl 111 (.tmp 22) rfl rb (roff + i * 2) rfl _ _ hq Try.underlying111 rfl msizeSod ?_; clear hrw2 hq) | (go_at_call 59; (with_reducible refine (h1 _ ((HHB.out _).1)).mono ?_); clear h1; rintro e' w4 ⟨rfl, hb4⟩; have HX4 := Lib.hid (XB.out _ _ (HHB.out _).1 (HHB.out _).2 HX0.out.1 HX0.out.2 hb4); have x0 := HX4.out.2.2.1; have x1 := HX4.out.2.2.2.1; have s0 := HX4.out.2.2.2.2.c0; have s1 := HX4.out.2.2.2.2.c1; have s2 := HX4.out.2.2.2.2.c2; have s3 := HX4.out.2.2.2.2.c3; have s4 := HX4.out.2.2.2.2.c4; clear hb4))
              go_roundw
              case rel => exact ⟨i + 1, by go_num, by omega, HN.out, (HX4.out).1⟩
              case measure => simp [intOf] <;> omega
        · have hd1 : (a == e) = false := by simpa using q1
          by_cases q2 : b = e
          · have q2' : e = b := q2.symm
            subst q2'
            have h2 := fun W hw => HAD.out a W hw
            cases r2 : hadB s a u with
            | true =>
              rw [r2] at h2
              have HN := Lib.hid (HHIT.out (by exact Or.inr ⟨q2, r2⟩))
              clear q2 r2 HNEXT HHIT HAD
              go_wp2_with (first | (have hq := hrw2; refine wpList_load_mid rfl 111 (.tmp 22) rfl rb (roff + i * 2) rfl _ _ hq Try.underlying111 rfl msizeSod ?_; clear hrw2 hq) | (go_at_call 59; (with_reducible refine (h2 _ ((HHB.out _).1)).mono ?_); clear h2; rintro e' w5 ⟨rfl, hb5⟩; have HX5 := Lib.hid (XB.out _ _ (HHB.out _).1 (HHB.out _).2 HX0.out.1 HX0.out.2 hb5); clear hb5))
              go_ret
              exact ⟨ret_bool HN.out.symm, HEND.out _ (HX5.out).1⟩
            | false =>
              rw [r2] at h2
              have HN := Lib.hid (HNEXT.out (by rintro (h | h); (exact q1 h.1); rw [r2] at h; cases h.2))
              clear q2 r2 HNEXT HHIT HAD
              go_wp2_with (first | (have hq := hrw2; refine wpList_load_mid rfl 111 (.tmp 22) rfl rb (roff + i * 2) rfl _ _ hq Try.underlying111 rfl msizeSod ?_; clear hrw2 hq) | (go_at_call 59; (with_reducible refine (h2 _ ((HHB.out _).1)).mono ?_); clear h2; rintro e' w5 ⟨rfl, hb5⟩; have HX5 := Lib.hid (XB.out _ _ (HHB.out _).1 (HHB.out _).2 HX0.out.1 HX0.out.2 hb5); clear hb5))
              go_roundw
              case rel => exact ⟨i + 1, by go_num, by omega, HN.out, (HX5.out).1⟩
              case measure => simp [intOf] <;> omega
          · have hd2 : (b == e) = false := by simpa using q2
            have HN := Lib.hid (HNEXT.out (by rintro (h | h); (exact q1 h.1); exact q2 h.1))
            clear q2 HNEXT HHIT HAD
            go_wp2_with (first | (have hq := hrw2; refine wpList_load_mid rfl 111 (.tmp 22) rfl rb (roff + i * 2) rfl _ _ hq Try.underlying111 rfl msizeSod ?_; clear hrw2 hq))
            go_roundw
            case rel => exact ⟨i + 1, by go_num, by omega, HN.out, (HHB.out _).1⟩
            case measure => simp [intOf] <;> omega
      · have hie : i = M.sods.length := by omega
        subst hie
        have HN : Hid (enB M s e u = true) := Lib.hid (by rw [HF.out, dcd_no hno]; rfl)
        have HEND := Lib.hid (HB3.out.trans (hbel.mono HB3.out.size))
        clear hno hbel
        go_wp2_with fail
        go_ret
        exact ⟨ret_bool HN.out.symm, HEND.out⟩
end Go.Proofs.Ytdpmkhmjihgckaa
