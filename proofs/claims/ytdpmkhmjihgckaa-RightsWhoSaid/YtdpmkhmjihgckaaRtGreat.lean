/-
  Rights: what is too much to be asked.
-/
import Derived.Test.YtdpmkhmjihgckaaRtCpl
namespace Go.Proofs.Ytdpmkhmjihgckaa
open Go.RowKit
set_option linter.unusedVariables false
set_option linter.unusedSimpArgs false

/-- A truth, of which something is known. -/
def BoolR (w : World) (P : Bool → Prop) (e : Ending) (w' : World) : Prop := ∃ b, e = .returned (.bool b) ∧ Below w.heap.size w w' ∧ P b
set_option maxRecDepth 100000 in
set_option maxHeartbeats 4000000 in
theorem great15_any (s : Sq) (w : World) (hs : RdS w s) : Calls Try.prog 12 #[s.val] w (BoolR w fun _ => True) := by
  have h0 := hs.vals
  have h1 := hs.didm
  have h2 := hs.cntm
  unfold maxLen at h0 h1 h2
  have HB := Lib.hid (mbel_new w (.cells #[.slice s.vals.a s.vals.n s.vals.c, .int .i64 s.op, .int .i64 s.dn, .slice s.dida s.did.length s.didc, .slice s.cnta s.cnt.length s.cntc] 35))
  have hSq := sq_new w s 35
  have s0 := hSq.c0
  have s3 := hSq.c3
  have s4 := hSq.c4
  clear hs hSq
  unfold Sq.val
  go_enter Try.func12, Try.ntmps12
  go_wp2
  all_goals go_ret
  all_goals exact ⟨_, rfl, HB.out, trivial⟩
set_option maxRecDepth 100000 in
set_option maxHeartbeats 4000000 in
theorem great12_any (M : Mo) (w : World) (hM : RdM w M) : Calls Try.prog 11 #[M.val] w (BoolR w fun b => b = false → M.events.length ≤ 10 ∧ M.users.n ≤ 10) := by
  have h0 := hM.attrs
  have h1 := hM.inits
  have h2 := hM.users
  have h3 := hM.rolesm
  have h4 := hM.stagesm
  have h5 := hM.eventsm
  have h6 := hM.guardsm
  have h7 := hM.milesm
  have h8 := hM.sodsm
  have h9 := hM.order
  unfold maxLen at h0 h1 h2 h3 h4 h5 h6 h7 h8 h9
  have HB := Lib.hid (mbel_new w (.cells #[.slice M.attrs.a M.attrs.n M.attrs.c, .slice M.inits.a M.inits.n M.inits.c, .slice M.users.a M.users.n M.users.c, .slice M.rolesa M.roles.length M.rolesc, .slice M.stagesa M.stages.length M.stagesc, .slice M.eventsa M.events.length M.eventsc, .slice M.guardsa M.guards.length M.guardsc, .slice M.milesa M.miles.length M.milesc, .slice M.sodsa M.sods.length M.sodsc, .slice M.order.a M.order.n M.order.c] 32))
  have HMO := Lib.hid (mo_new w M 32)
  have hMo := HMO.out
  have m0 := hMo.c0
  have m1 := hMo.c1
  have m2 := hMo.c2
  have m3 := hMo.c3
  have m4 := hMo.c4
  have m5 := hMo.c5
  have m6 := hMo.c6
  have m7 := hMo.c7
  have m8 := hMo.c8
  have m9 := hMo.c9
  have HM := Lib.hid hM
  clear hM hMo
  unfold Mo.val
  go_enter Try.func11, Try.ntmps11
  go_wp2
  all_goals (try (go_ret; exact ⟨_, rfl, HB.out, fun h => by cases h⟩))
  generalize (w.alloc (.cells #[.slice M.attrs.a M.attrs.n M.attrs.c, .slice M.inits.a M.inits.n M.inits.c, .slice M.users.a M.users.n M.users.c, .slice M.rolesa M.roles.length M.rolesc, .slice M.stagesa M.stages.length M.stagesc, .slice M.eventsa M.events.length M.eventsc, .slice M.guardsa M.guards.length M.guardsc, .slice M.milesa M.miles.length M.milesc, .slice M.sodsa M.sods.length M.sodsc, .slice M.order.a M.order.n M.order.c] 32)) = W at *
  go_loopw [3] (fun v3 wr => ∃ i : Nat, v3 = .int .i64 i ∧ i ≤ M.guards.length ∧ Below W.heap.size W wr) (fun v3 _ => M.guards.length - (intOf v3).toNat)
  case atStart => exact ⟨0, rfl, by omega, Below.refl _ _⟩
  case round =>
    obtain ⟨i, rfl, hi, hbel⟩ := hrel
    have hMoW := HMO.out.mono hbel (Nat.le_refl _)
    have m5 := hMoW.c5
    have m6 := hMoW.c6
    have m7 := hMoW.c7
    clear hMoW
    have HBW := Lib.hid (HB.out.trans (hbel.mono HB.out.size))
    have HBEL := Lib.hid hbel
    by_cases hlt : i < M.guards.length
    · obtain ⟨b, off, ha, hrg⟩ := recs_at Gu.cells_len (by omega) (HM.out).guards i hlt
      have hcell := hrg i hlt 2 _ (show (M.guards[i].cells)[2]? = some (.slice M.guards[i].cond.a M.guards[i].cond.n M.guards[i].cond.c) from rfl)
      have hc2 : wr.cell? ⟨b, off + i * 3 + 2, none⟩ = _ := (HBW.out.cell (p := ⟨b, off + i * 3 + 2, none⟩) (lt_of_cell hcell)).trans hcell
      rw [ha] at m6
      have hli : (i : Int) < (M.guards.length : Int) := by omega
      have hw1 : IntKind.i64.wrap ((i : Int) + 1) = ((i + 1 : Nat) : Int) := by rw [IntWalk.i64_in _ (by omega)]; omega
      generalize M.guards[i].cond = q at *
      clear hrg hcell hbel ha
      by_cases hq : 80 < q.n
      · go_wp2_with fail
        go_ret
        exact ⟨_, rfl, HBW.out, fun h => by cases h⟩
      · go_wp2_with fail
        go_roundw
        case rel => exact ⟨i + 1, by go_num, by omega, HBEL.out⟩
        case measure => simp [intOf] <;> omega
    · have hie : i = M.guards.length := by omega
      subst hie
      clear hbel
      go_wp2_with fail
      go_loopw [4] (fun v4 wr => ∃ i : Nat, v4 = .int .i64 i ∧ i ≤ M.miles.length ∧ Below W.heap.size W wr) (fun v4 _ => M.miles.length - (intOf v4).toNat)
      case atStart => exact ⟨0, rfl, by omega, HBEL.out⟩
      case round =>
        obtain ⟨i, rfl, hi, hbel⟩ := hrel
        have hMoW := HMO.out.mono hbel (Nat.le_refl _)
        have m5 := hMoW.c5
        have m6 := hMoW.c6
        have m7 := hMoW.c7
        clear hMoW
        have HBW := Lib.hid (HB.out.trans (hbel.mono HB.out.size))
        have HBEL := Lib.hid hbel
        by_cases hlt : i < M.miles.length
        · obtain ⟨b, off, ha, hrg⟩ := recs_at Ml.cells_len (by omega) (HM.out).miles i hlt
          have hcell := hrg i hlt 3 _ (show (M.miles[i].cells)[3]? = some (.slice M.miles[i].cond.a M.miles[i].cond.n M.miles[i].cond.c) from rfl)
          have hc2 : wr.cell? ⟨b, off + i * 5 + 3, none⟩ = _ := (HBW.out.cell (p := ⟨b, off + i * 5 + 3, none⟩) (lt_of_cell hcell)).trans hcell
          rw [ha] at m7
          have hli : (i : Int) < (M.miles.length : Int) := by omega
          have hw1 : IntKind.i64.wrap ((i : Int) + 1) = ((i + 1 : Nat) : Int) := by rw [IntWalk.i64_in _ (by omega)]; omega
          generalize M.miles[i].cond = q at *
          clear hrg hcell hbel ha
          by_cases hq : 80 < q.n
          · go_wp2_with fail
            go_ret
            exact ⟨_, rfl, HBW.out, fun h => by cases h⟩
          · go_wp2_with fail
            go_roundw
            case rel => exact ⟨i + 1, by go_num, by omega, HBEL.out⟩
            case measure => simp [intOf] <;> omega
        · have hie : i = M.miles.length := by omega
          subst hie
          clear hbel
          go_wp2_with fail
          go_loopw [5] (fun v5 wr => ∃ i : Nat, v5 = .int .i64 i ∧ i ≤ M.events.length ∧ Below W.heap.size W wr) (fun v5 _ => M.events.length - (intOf v5).toNat)
          case atStart => exact ⟨0, rfl, by omega, HBEL.out⟩
          case round =>
            obtain ⟨i, rfl, hi, hbel⟩ := hrel
            have hMoW := HMO.out.mono hbel (Nat.le_refl _)
            have m5 := hMoW.c5
            have m6 := hMoW.c6
            have m7 := hMoW.c7
            clear hMoW
            have HBW := Lib.hid (HB.out.trans (hbel.mono HB.out.size))
            have HBEL := Lib.hid hbel
            by_cases hlt : i < M.events.length
            · obtain ⟨b, off, ha, hrg⟩ := recs_at Ev.cells_len (by omega) (HM.out).events i hlt
              have hcell := hrg i hlt 3 _ (show (M.events[i].cells)[3]? = some (.slice M.events[i].sets.a M.events[i].sets.n M.events[i].sets.c) from rfl)
              have hc2 : wr.cell? ⟨b, off + i * 5 + 3, none⟩ = _ := (HBW.out.cell (p := ⟨b, off + i * 5 + 3, none⟩) (lt_of_cell hcell)).trans hcell
              rw [ha] at m5
              have hli : (i : Int) < (M.events.length : Int) := by omega
              have hw1 : IntKind.i64.wrap ((i : Int) + 1) = ((i + 1 : Nat) : Int) := by rw [IntWalk.i64_in _ (by omega)]; omega
              generalize M.events[i].sets = q at *
              clear hrg hcell hbel ha
              by_cases hq : 10 < q.n
              · go_wp2_with fail
                go_ret
                exact ⟨_, rfl, HBW.out, fun h => by cases h⟩
              · go_wp2_with fail
                go_roundw
                case rel => exact ⟨i + 1, by go_num, by omega, HBEL.out⟩
                case measure => simp [intOf] <;> omega
            · have hie : i = M.events.length := by omega
              subst hie
              clear hbel
              go_wp2_with fail
              go_ret
              exact ⟨_, rfl, HBW.out, fun _ => ⟨by omega, by omega⟩⟩
end Go.Proofs.Ytdpmkhmjihgckaa
