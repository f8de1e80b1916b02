/-
  How many numbers may be written yet: the statement's walk.
-/
import Derived.Test.YtbplkphjjfgkmaaDoorStLeftR
import Derived.Test.YtbplkphjjfgkmaaDoorStCk
namespace Go.Proofs.YtbplkphjjfgkmaaDoor
open Go.RowKit
set_option linter.unusedVariables false
set_option linter.unusedSimpArgs false

/-- A truth, of which something is known. -/
def BoolR (w : World) (P : Bool → Prop) (e : Ending) (w' : World) : Prop := ∃ b, e = .returned (.bool b) ∧ Below w.heap.size w w' ∧ P b
set_option maxRecDepth 100000 in
set_option maxHeartbeats 4000000 in
theorem great12_any (M : Mo) (w : World) (hM : RdM w M) : Calls Tryd.prog 46 #[M.val] w (BoolR w fun b => b = false → M.events.length ≤ 10 ∧ M.users.n ≤ 10) := by
  have h0 := hM.attrs
  have h1 := hM.inits
  have h2 := hM.users
  have h3 := hM.rolesm
  have h4 := hM.stagesm
  have h5 := hM.eventsm
  have h6 := hM.guardsm
  have h7 := hM.milesm
  have h8 := hM.sodsm
  have h9 := hM.order
  unfold maxLen at h0 h1 h2 h3 h4 h5 h6 h7 h8 h9
  have HB := Lib.hid (mbel_new w (.cells #[.slice M.attrs.a M.attrs.n M.attrs.c, .slice M.inits.a M.inits.n M.inits.c, .slice M.users.a M.users.n M.users.c, .slice M.rolesa M.roles.length M.rolesc, .slice M.stagesa M.stages.length M.stagesc, .slice M.eventsa M.events.length M.eventsc, .slice M.guardsa M.guards.length M.guardsc, .slice M.milesa M.miles.length M.milesc, .slice M.sodsa M.sods.length M.sodsc, .slice M.order.a M.order.n M.order.c] 70))
  have HMO := Lib.hid (mo_new w M 70)
  have hMo := HMO.out
  have m0 := hMo.c0
  have m1 := hMo.c1
  have m2 := hMo.c2
  have m3 := hMo.c3
  have m4 := hMo.c4
  have m5 := hMo.c5
  have m6 := hMo.c6
  have m7 := hMo.c7
  have m8 := hMo.c8
  have m9 := hMo.c9
  have HM := Lib.hid hM
  clear hM hMo
  unfold Mo.val
  go_enter Tryd.func46, Tryd.ntmps46
  go_wp2
  all_goals (try (go_ret; exact ⟨_, rfl, HB.out, fun h => by cases h⟩))
  generalize (w.alloc (.cells #[.slice M.attrs.a M.attrs.n M.attrs.c, .slice M.inits.a M.inits.n M.inits.c, .slice M.users.a M.users.n M.users.c, .slice M.rolesa M.roles.length M.rolesc, .slice M.stagesa M.stages.length M.stagesc, .slice M.eventsa M.events.length M.eventsc, .slice M.guardsa M.guards.length M.guardsc, .slice M.milesa M.miles.length M.milesc, .slice M.sodsa M.sods.length M.sodsc, .slice M.order.a M.order.n M.order.c] 70)) = W at *
  go_loopw [3] (fun v3 wr => ∃ i : Nat, v3 = .int .i64 i ∧ i ≤ M.guards.length ∧ Below W.heap.size W wr) (fun v3 _ => M.guards.length - (intOf v3).toNat)
  case atStart => exact ⟨0, rfl, by omega, Below.refl _ _⟩
  case round =>
    obtain ⟨i, rfl, hi, hbel⟩ := hrel
    have hMoW := HMO.out.mono hbel (Nat.le_refl _)
    have m5 := hMoW.c5
    have m6 := hMoW.c6
    have m7 := hMoW.c7
    clear hMoW
    have HBW := Lib.hid (HB.out.trans (hbel.mono HB.out.size))
    have HBEL := Lib.hid hbel
    by_cases hlt : i < M.guards.length
    · obtain ⟨b, off, ha, hrg⟩ := recs_at Gu.cells_len (by omega) (HM.out).guards i hlt
      have hcell := hrg i hlt 2 _ (show (M.guards[i].cells)[2]? = some (.slice M.guards[i].cond.a M.guards[i].cond.n M.guards[i].cond.c) from rfl)
      have hc2 : wr.cell? ⟨b, off + i * 3 + 2, none⟩ = _ := (HBW.out.cell (p := ⟨b, off + i * 3 + 2, none⟩) (lt_of_cell hcell)).trans hcell
      rw [ha] at m6
      have hli : (i : Int) < (M.guards.length : Int) := by omega
      have hw1 : IntKind.i64.wrap ((i : Int) + 1) = ((i + 1 : Nat) : Int) := by rw [IntWalk.i64_in _ (by omega)]; omega
      generalize M.guards[i].cond = q at *
      clear hrg hcell hbel ha
      by_cases hq : 80 < q.n
      · go_wp2_with fail
        go_ret
        exact ⟨_, rfl, HBW.out, fun h => by cases h⟩
      · go_wp2_with fail
        go_roundw
        case rel => exact ⟨i + 1, by go_num, by omega, HBEL.out⟩
        case measure => simp [intOf] <;> omega
    · have hie : i = M.guards.length := by omega
      subst hie
      clear hbel
      go_wp2_with fail
      go_loopw [4] (fun v4 wr => ∃ i : Nat, v4 = .int .i64 i ∧ i ≤ M.miles.length ∧ Below W.heap.size W wr) (fun v4 _ => M.miles.length - (intOf v4).toNat)
      case atStart => exact ⟨0, rfl, by omega, HBEL.out⟩
      case round =>
        obtain ⟨i, rfl, hi, hbel⟩ := hrel
        have hMoW := HMO.out.mono hbel (Nat.le_refl _)
        have m5 := hMoW.c5
        have m6 := hMoW.c6
        have m7 := hMoW.c7
        clear hMoW
        have HBW := Lib.hid (HB.out.trans (hbel.mono HB.out.size))
        have HBEL := Lib.hid hbel
        by_cases hlt : i < M.miles.length
        · obtain ⟨b, off, ha, hrg⟩ := recs_at Ml.cells_len (by omega) (HM.out).miles i hlt
          have hcell := hrg i hlt 3 _ (show (M.miles[i].cells)[3]? = some (.slice M.miles[i].cond.a M.miles[i].cond.n M.miles[i].cond.c) from rfl)
          have hc2 : wr.cell? ⟨b, off + i * 5 + 3, none⟩ = _ := (HBW.out.cell (p := ⟨b, off + i * 5 + 3, none⟩) (lt_of_cell hcell)).trans hcell
          rw [ha] at m7
          have hli : (i : Int) < (M.miles.length : Int) := by omega
          have hw1 : IntKind.i64.wrap ((i : Int) + 1) = ((i + 1 : Nat) : Int) := by rw [IntWalk.i64_in _ (by omega)]; omega
          generalize M.miles[i].cond = q at *
          clear hrg hcell hbel ha
          by_cases hq : 80 < q.n
          · go_wp2_with fail
            go_ret
            exact ⟨_, rfl, HBW.out, fun h => by cases h⟩
          · go_wp2_with fail
            go_roundw
            case rel => exact ⟨i + 1, by go_num, by omega, HBEL.out⟩
            case measure => simp [intOf] <;> omega
        · have hie : i = M.miles.length := by omega
          subst hie
          clear hbel
          go_wp2_with fail
          go_loopw [5] (fun v5 wr => ∃ i : Nat, v5 = .int .i64 i ∧ i ≤ M.events.length ∧ Below W.heap.size W wr) (fun v5 _ => M.events.length - (intOf v5).toNat)
          case atStart => exact ⟨0, rfl, by omega, HBEL.out⟩
          case round =>
            obtain ⟨i, rfl, hi, hbel⟩ := hrel
            have hMoW := HMO.out.mono hbel (Nat.le_refl _)
            have m5 := hMoW.c5
            have m6 := hMoW.c6
            have m7 := hMoW.c7
            clear hMoW
            have HBW := Lib.hid (HB.out.trans (hbel.mono HB.out.size))
            have HBEL := Lib.hid hbel
            by_cases hlt : i < M.events.length
            · obtain ⟨b, off, ha, hrg⟩ := recs_at Ev.cells_len (by omega) (HM.out).events i hlt
              have hcell := hrg i hlt 3 _ (show (M.events[i].cells)[3]? = some (.slice M.events[i].sets.a M.events[i].sets.n M.events[i].sets.c) from rfl)
              have hc2 : wr.cell? ⟨b, off + i * 5 + 3, none⟩ = _ := (HBW.out.cell (p := ⟨b, off + i * 5 + 3, none⟩) (lt_of_cell hcell)).trans hcell
              rw [ha] at m5
              have hli : (i : Int) < (M.events.length : Int) := by omega
              have hw1 : IntKind.i64.wrap ((i : Int) + 1) = ((i + 1 : Nat) : Int) := by rw [IntWalk.i64_in _ (by omega)]; omega
              generalize M.events[i].sets = q at *
              clear hrg hcell hbel ha
              by_cases hq : 10 < q.n
              · go_wp2_with fail
                go_ret
                exact ⟨_, rfl, HBW.out, fun h => by cases h⟩
              · go_wp2_with fail
                go_roundw
                case rel => exact ⟨i + 1, by go_num, by omega, HBEL.out⟩
                case measure => simp [intOf] <;> omega
            · have hie : i = M.events.length := by omega
              subst hie
              clear hbel
              go_wp2_with fail
              go_ret
              exact ⟨_, rfl, HBW.out, fun _ => ⟨by omega, by omega⟩⟩
set_option maxRecDepth 100000 in
set_option maxHeartbeats 16000000 in
theorem stateLeft_walk (M : Mo) (a : Option Addr) (cc : Nat) (c : List Int) (w : World) (hM : RdM w M) (hc : Reads w a (c.map (Value.int .i64))) (hcm : c.length ≤ maxLen) (hcf : ∀ x ∈ c, fits x) (hn : Tab10 w) :
    Calls Tryd.prog 13 #[M.val, .slice a c.length cc] w fun e w' => e = .returned (.bool true) ∧ Below w.heap.size w w' := by
  have hu : ∀ b : Bool, ¬ (some undef = some (Value.bool b)) := fun b h => by cases h
  obtain ⟨W1, hW1⟩ : ∃ W1 : World, W1 = (w.alloc (.cells #[.slice M.attrs.a M.attrs.n M.attrs.c, .slice M.inits.a M.inits.n M.inits.c, .slice M.users.a M.users.n M.users.c, .slice M.rolesa M.roles.length M.rolesc, .slice M.stagesa M.stages.length M.stagesc, .slice M.eventsa M.events.length M.eventsc, .slice M.guardsa M.guards.length M.guardsc, .slice M.milesa M.miles.length M.milesc, .slice M.sodsa M.sods.length M.sodsc, .slice M.order.a M.order.n M.order.c] 70)) := ⟨_, rfl⟩
  have hMo := mo_new w M 70
  have hb := mbel_new w (.cells #[.slice M.attrs.a M.attrs.n M.attrs.c, .slice M.inits.a M.inits.n M.inits.c, .slice M.users.a M.users.n M.users.c, .slice M.rolesa M.roles.length M.rolesc, .slice M.stagesa M.stages.length M.stagesc, .slice M.eventsa M.events.length M.eventsc, .slice M.guardsa M.guards.length M.guardsc, .slice M.milesa M.miles.length M.milesc, .slice M.sodsa M.sods.length M.sodsc, .slice M.order.a M.order.n M.order.c] 70)
  rw [← hW1] at hMo hb
  have HB := Lib.hid hb
  have HAW : Hid (∀ W, Below W1.heap.size W1 W → Calls Tryd.prog 47 #[] W fun e w' => e = .returned (.bool true) ∧ Below W.heap.size W w') := Lib.hid fun W hW => awake15_any W (hn.below (hb.trans (hW.mono hb.size)))
  have HG := Lib.hid (great12_any M W1 (hM.mono hb (Nat.le_refl _)))
  have HLF : Hid (c.length ≤ 100 → M.events.length ≤ 1000 → ∀ W, Below W1.heap.size W1 W → Calls Tryd.prog 48 #[.agg #[.slice M.attrs.a M.attrs.n M.attrs.c, .slice M.inits.a M.inits.n M.inits.c, .slice M.users.a M.users.n M.users.c, .slice M.rolesa M.roles.length M.rolesc, .slice M.stagesa M.stages.length M.stagesc, .slice M.eventsa M.events.length M.eventsc, .slice M.guardsa M.guards.length M.guardsc, .slice M.milesa M.miles.length M.milesc, .slice M.sodsa M.sods.length M.sodsc, .slice M.order.a M.order.n M.order.c], .slice a c.length cc] W fun e w' => e = .returned (.int .i64 (wrap64 (Lf.left M.events c M.events.length))) ∧ Below W.heap.size W w') := Lib.hid fun h1 h2 W hW => left_any M a cc c W ((hM.mono hb (Nat.le_refl _)).mono hW (Nat.le_refl _)) ((hc.mono hb (Nat.le_refl _)).mono hW (Nat.le_refl _)) h1 hcf h2
  have HLR : Hid (c.length ≤ 100 → M.events.length ≤ 1000 → ∀ W, Below W1.heap.size W1 W → Calls Tryd.prog 49 #[.agg #[.slice M.attrs.a M.attrs.n M.attrs.c, .slice M.inits.a M.inits.n M.inits.c, .slice M.users.a M.users.n M.users.c, .slice M.rolesa M.roles.length M.rolesc, .slice M.stagesa M.stages.length M.stagesc, .slice M.eventsa M.events.length M.eventsc, .slice M.guardsa M.guards.length M.guardsc, .slice M.milesa M.miles.length M.milesc, .slice M.sodsa M.sods.length M.sodsc, .slice M.order.a M.order.n M.order.c], .slice a c.length cc] W fun e w' => e = .returned (.int .i64 (wrap64 (Lf.left M.events c M.events.length))) ∧ Below W.heap.size W w') := Lib.hid fun h1 h2 W hW => rleft_any M a cc c W ((hM.mono hb (Nat.le_refl _)).mono hW (Nat.le_refl _)) ((hc.mono hb (Nat.le_refl _)).mono hW (Nat.le_refl _)) h1 hcf h2
  have HEV : Hid (RdM W1 M) := Lib.hid (hM.mono hb (Nat.le_refl _))
  have m0 := hMo.c0; have m1 := hMo.c1; have m2 := hMo.c2; have m3 := hMo.c3; have m4 := hMo.c4; have m5 := hMo.c5; have m6 := hMo.c6; have m7 := hMo.c7; have m8 := hMo.c8; have m9 := hMo.c9
  have HW := Lib.hid hW1
  have hcm2 : c.length ≤ 9223372036854775807 := by unfold maxLen at hcm; omega
  clear hW1 hM hc hcf hn hb hMo hcm
  unfold Mo.val at HG ⊢
  go_enter Tryd.func13, Tryd.ntmps13
  go_upto_region 1 with fail
  rw [← HW.out]
  clear HW
  go_wp2_with fail
  refine HG.out.mono ?_
  rintro e W2 ⟨g, rfl, h2, hg⟩
  have H2 := Lib.hid h2
  have n0 := mcell_mono m0 h2 (Nat.le_refl _); have n1 := mcell_mono m1 h2 (Nat.le_refl _); have n2 := mcell_mono m2 h2 (Nat.le_refl _); have n3 := mcell_mono m3 h2 (Nat.le_refl _); have n4 := mcell_mono m4 h2 (Nat.le_refl _); have n5 := mcell_mono m5 h2 (Nat.le_refl _); have n6 := mcell_mono m6 h2 (Nat.le_refl _); have n7 := mcell_mono m7 h2 (Nat.le_refl _); have n8 := mcell_mono m8 h2 (Nat.le_refl _); have n9 := mcell_mono m9 h2 (Nat.le_refl _)
  clear h2 m0 m1 m2 m3 m4 m5 m6 m7 m8 m9 HG
  cases g with
  | true =>
    go_wp2_with fail
    refine (HAW.out _ H2.out).mono ?_
    rintro e W5 ⟨rfl, h5⟩
    have H5 := Lib.hid (HB.out.trans ((H2.out.trans (h5.mono H2.out.size)).mono HB.out.size))
    clear h5
    go_wp2_with fail
    go_ret
    exact ⟨rfl, H5.out⟩
  | false =>
    have hev := (hg rfl).1
    clear hg
    by_cases hc100 : 100 < c.length
    · have hc100' : (100 : Int) < (c.length : Int) := by omega
      go_wp2_with fail
      refine (HAW.out _ H2.out).mono ?_
      rintro e W5 ⟨rfl, h5⟩
      have H5 := Lib.hid (HB.out.trans ((H2.out.trans (h5.mono H2.out.size)).mono HB.out.size))
      clear h5
      go_wp2_with fail
      go_ret
      exact ⟨rfl, H5.out⟩
    · have hc100' : ¬ (100 : Int) < (c.length : Int) := by omega
      replace HLF := Lib.hid (HLF.out (by omega) (by omega))
      replace HLR := Lib.hid (HLR.out (by omega) (by omega))
      have H2D : Below W1.heap.size W1 W2.drew := H2.out.drew
      have H20 := H2.out
      go_wp2_with fail
      go_loopw [5] (fun v5 wr => ∃ k : Nat, k ≤ M.events.length ∧ v5 = .int .i64 k ∧ wr = W2) (fun v5 _ => M.events.length - (intOf v5).toNat)
      case atStart => exact ⟨0, by omega, rfl, rfl⟩
      case round =>
        obtain ⟨k, hk, rfl, rfl⟩ := hrel
        obtain ⟨W0, rfl⟩ : ∃ W0 : World, W0 = wr := ⟨_, rfl⟩
        by_cases hlt : k < M.events.length
        · obtain ⟨b, off, ha, hrg⟩ := recs_at Ev.cells_len (by omega) HEV.out.events k hlt
          have he4 : W0.cell? ⟨b, off + k * 5 + 4, none⟩ = some (.int .i64 M.events[k].times) := mcell_mono (hrg k hlt 4 _ rfl) H2.out (Nat.le_refl _)
          rw [ha] at n5 ⊢
          have hli : (k : Int) < (M.events.length : Int) := by omega
          clear hrg ha
          generalize M.events[k].times = ti at *
          by_cases hti : 1000 < ti
          · go_wp2_with fail
            refine (HAW.out _ H2.out).mono ?_
            rintro e W5 ⟨rfl, h5⟩
            have H5 := Lib.hid (HB.out.trans ((H2.out.trans (h5.mono H2.out.size)).mono HB.out.size))
            clear h5
            go_wp2_with fail
            go_ret
            exact ⟨rfl, H5.out⟩
          · go_wp2_with fail
            go_roundw
            case rel => exact ⟨k + 1, by omega, by go_num, (by first | rfl | trivial)⟩
            case measure => simp [intOf]; omega
        · have hkn : k = M.events.length := by omega
          subst hkn
          generalize wrap64 (Lf.left M.events c M.events.length) = L at *
          have hLL : (L == L) = true := by simp
          go_wp2_with fail
          go_region_held3 (fun w' => w'.cell? ⟨w.heap.size, 0, none⟩ = some (.slice M.attrs.a M.attrs.n M.attrs.c) ∧ w'.cell? ⟨w.heap.size, 1, none⟩ = some (.slice M.inits.a M.inits.n M.inits.c) ∧ w'.cell? ⟨w.heap.size, 2, none⟩ = some (.slice M.users.a M.users.n M.users.c) ∧ w'.cell? ⟨w.heap.size, 3, none⟩ = some (.slice M.rolesa M.roles.length M.rolesc) ∧ w'.cell? ⟨w.heap.size, 4, none⟩ = some (.slice M.stagesa M.stages.length M.stagesc) ∧ w'.cell? ⟨w.heap.size, 5, none⟩ = some (.slice M.eventsa M.events.length M.eventsc) ∧ w'.cell? ⟨w.heap.size, 6, none⟩ = some (.slice M.guardsa M.guards.length M.guardsc) ∧ w'.cell? ⟨w.heap.size, 7, none⟩ = some (.slice M.milesa M.miles.length M.milesc) ∧ w'.cell? ⟨w.heap.size, 8, none⟩ = some (.slice M.sodsa M.sods.length M.sodsc) ∧ w'.cell? ⟨w.heap.size, 9, none⟩ = some (.slice M.order.a M.order.n M.order.c) ∧ Below W1.heap.size W1 w')
            (first
              | exact ⟨n0, n1, n2, n3, n4, n5, n6, n7, n8, n9, H2D⟩
              | exact ⟨n0, n1, n2, n3, n4, n5, n6, n7, n8, n9, H20⟩
              | (go_split_ands
                 refine ⟨?_, ?_, ?_, ?_, ?_, ?_, ?_, ?_, ?_, ?_, ?_⟩
                 · exact mcell_mono (by assumption) hb (Nat.le_refl _)
                 · exact mcell_mono (by assumption) hb (Nat.le_refl _)
                 · exact mcell_mono (by assumption) hb (Nat.le_refl _)
                 · exact mcell_mono (by assumption) hb (Nat.le_refl _)
                 · exact mcell_mono (by assumption) hb (Nat.le_refl _)
                 · exact mcell_mono (by assumption) hb (Nat.le_refl _)
                 · exact mcell_mono (by assumption) hb (Nat.le_refl _)
                 · exact mcell_mono (by assumption) hb (Nat.le_refl _)
                 · exact mcell_mono (by assumption) hb (Nat.le_refl _)
                 · exact mcell_mono (by assumption) hb (Nat.le_refl _)
                 · exact Below.trans (by assumption) (hb.mono (Below.size (by assumption))))
              | go_keep)
            (first
              | (go_at_call 48; ((with_reducible refine (HLF.out _ (by first | assumption | (go_split_ands; assumption))).mono ?_); rintro e' w2 ⟨rfl, hb⟩))
              | (go_at_call 49; ((with_reducible refine (HLR.out _ (by first | assumption | (go_split_ands; assumption))).mono ?_); rintro e' w2 ⟨rfl, hb⟩))
              | (go_at_call 47; ((with_reducible refine (HAW.out _ (by first | assumption | (go_split_ands; assumption))).mono ?_); rintro e' w2 ⟨rfl, hb⟩)))
          all_goals
            rename_i hh
            obtain ⟨-, -, -, -, -, -, -, -, -, -, hbl⟩ := hh
            have HF := Lib.hid (HB.out.trans (hbl.mono HB.out.size))
            clear hbl
            go_wp2_with fail
            go_ret
            exact ⟨rfl, HF.out⟩
end Go.Proofs.YtbplkphjjfgkmaaDoor
