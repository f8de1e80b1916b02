/-
  LabelSets: by a walk.
-/
import Derived.Test.YtnljihankodedaaLabAwake
import Derived.Test.YtnljihankodedaaLabAnd
import Derived.Test.YtnljihankodedaaLabOpen
namespace Go.Proofs.Ytnljihankodedaa
open Go.RowKit
set_option linter.unusedVariables false
set_option linter.unusedSimpArgs false

theorem bcell {w : World} {a : Option Addr} {F : List Bool} (h : Reads w a (F.map Value.bool)) (k : Nat) (hk : k < F.length) : ∃ b off, a = some ⟨b, off, none⟩ ∧ w.cell? ⟨b, off + k, none⟩ = some (.bool (Lb.inB F k)) := by
  obtain ⟨b, off, rfl, hc⟩ := h.at (by simp; omega)
  refine ⟨b, off, rfl, ?_⟩
  rw [Reads.bool hc k hk]
  unfold Lb.inB
  rw [List.getD_eq_getElem?_getD, List.getElem?_eq_getElem hk]; rfl
set_option maxHeartbeats 1000000 in
theorem not_any (a : Option Addr) (c : Nat) (A : List Bool) (w : World) (hA : Reads w a (A.map Value.bool)) (hn : A.length ≤ 140737488355328) :
    Calls Try.prog 53 #[.slice a A.length c] w (BoolsAns (fun R => R.length = A.length ∧ ∀ i, i < R.length → Lb.inB R i = !Lb.inB A i) w) := by
  have hu : ∀ b : Bool, ¬ (some undef = some (Value.bool b)) := fun b h => by cases h
  have HL := Lib.hid hA
  clear hA
  go_enter Try.func53, Try.ntmps53
  go_wp2_with (at_make; refine make_one rfl _ _ 57 rfl 4 (.bool false) 1 Try.underlying57 Try.infoB rfl _ A.length rfl rfl rfl (by omega) (by unfold maxLen; omega) ?_; intro w1 own1 keep1; rw [show List.replicate A.length (Value.bool false) = (List.replicate A.length false).map Value.bool by rw [List.map_replicate]] at own1)
  have bel1 := keep1.below (fun _ hf => hf.elim) (Nat.le_refl _)
  have O1 := Lib.hid (And.intro own1 bel1)
  clear own1 keep1 bel1
  go_loopw [4, 10] (fun _ v10 wr => ∃ (k : Nat) (R : List Bool), k ≤ A.length ∧ v10 = .int .i64 k ∧ R.length = A.length ∧ (∀ i, i < k → Lb.inB R i = !Lb.inB A i) ∧
    wr.ownsRow w.heap.size 4 1 (.slice (some ⟨w.heap.size, 0, none⟩) A.length A.length) A.length (R.map Value.bool) ∧ Below w.heap.size w wr) (fun _ v10 _ => A.length - (intOf v10).toNat)
  case atStart => exact ⟨0, _, by omega, rfl, by simp, fun i hi => by omega, (O1.out).1, (O1.out).2⟩
  case round =>
    obtain ⟨k, R, hk, rfl, hRl, hin, hO, hB⟩ := hrel
    by_cases hlt : k < A.length
    · obtain ⟨b, off, rfl, hca⟩ := bcell ((HL.out).mono hB (Nat.le_refl _)) k hlt
      have hfz := hO.frozenAt k
      have hgF := (hO.lt w.heap.size rfl).2
      have hcu := bool_cell hO k hlt
      have st := bool_stored hO k (!Lb.inB A k)
      have b3 : Below w.heap.size w (wr.setCell ⟨w.heap.size, k, none⟩ (.bool (!Lb.inB A k))) := hB.trans ((Keeps.setCell (S := fun j => j = w.heap.size) _ _ _ rfl).below (fun j e => by omega) hB.size)
      have HS := Lib.hid (And.intro st (And.intro b3 hin))
      clear st b3 hin hO hB
      generalize hak : Lb.inB A k = ak at *
      have HAK := Lib.hid hak
      clear hak
      go_wp2_with fail
      go_roundw
      case rel =>
        refine ⟨k + 1, R.set k (!ak), by omega, by go_num, by simpa using hRl, fun i hi => ?_, (HS.out).1, (HS.out).2.1⟩
        rw [inB_set _ _ _ _ (by omega)]
        by_cases e : i = k
        · rw [if_pos e, e, HAK.out]
        · rw [if_neg e]; exact (HS.out).2.2 i (by omega)
      case measure => simp [intOf]; omega
    · have hkl : k = A.length := by omega
      subst hkl
      have HS := Lib.hid (And.intro hin (And.intro hO hB))
      clear hin hO hB
      go_wp2_with fail
      go_ret
      exact ⟨_, R, rfl, ⟨hRl, fun i hi => (HS.out).1 i (by omega)⟩, by rw [hRl]; exact (HS.out).2.1, (HS.out).2.2⟩
theorem reads_drewN {w : World} {a : Option Addr} {xs : List Value} (h : Reads w a xs) (n : Nat) : Reads (w.drewN n) a xs := by
  rcases h with rfl | ⟨b, off, rfl, hc⟩
  · exact Or.inl rfl
  · exact Or.inr ⟨b, off, rfl, fun j hj => by rw [World.cell?_drewN]; exact hc j hj⟩
set_option maxHeartbeats 1000000 in
theorem labelSets_walk (a a2 : Option Addr) (c c2 : Nat) (A Bs : List Bool) (w : World) (hA : Reads w a (A.map Value.bool)) (hB : Reads w a2 (Bs.map Value.bool)) (hn : A.length ≤ 140737488355328) (hn2 : Bs.length ≤ 140737488355328) :
    Calls Try.prog 13 #[.slice a A.length c, .slice a2 Bs.length c2] w fun e w' => e = .returned (.bool true) ∧ Below w.heap.size w w' := by
  have hu : ∀ b : Bool, ¬ (some undef = some (Value.bool b)) := fun b h => by cases h
  have HL := Lib.hid (And.intro hA hB)
  clear hA hB
  go_enter Try.func13, Try.ntmps13
  go_wp2_with fail
  refine (not_any a c A w (HL.out).1 hn).mono ?_
  rintro e w1 ⟨x1, R1, rfl, ⟨hl1, h1⟩, hO1, b1⟩
  obtain ⟨xa, xc, hx1, hr1⟩ := Reads.of_own hO1
  rw [List.length_map] at hx1
  subst hx1
  have H1 := Lib.hid (And.intro h1 (And.intro hr1 b1))
  clear h1 hr1 b1 hO1
  go_wp2_with fail
  refine (and_any a a2 c c2 A Bs w1 ((HL.out).1.mono (H1.out).2.2 (Nat.le_refl _)) ((HL.out).2.mono (H1.out).2.2 (Nat.le_refl _)) hn hn2).mono ?_
  rintro e w2 ⟨x2, R2, rfl, ⟨hl2, h2⟩, hO2, b2⟩
  obtain ⟨ya, yc, hx2, hr2⟩ := Reads.of_own hO2
  rw [List.length_map] at hx2
  subst hx2
  have bb2 := (H1.out).2.2.trans (b2.mono (H1.out).2.2.size)
  have H2 := Lib.hid (And.intro h2 (And.intro hr2 (And.intro bb2 ((H1.out).2.1.mono b2 (Nat.le_refl _)))))
  clear h2 hr2 b2 bb2 hO2
  have hR2 : R2.length ≤ 140737488355328 := by omega
  have hU := Lib.hid hl2
  have HIS := Lib.hid (fun a c A (i : Int) w' (hR : Reads w' a (A.map Value.bool)) => ris_any a c A i w' hR)
  have hsp : (A.length < Bs.length ∧ R2.length = Bs.length) ∨ (¬ A.length < Bs.length ∧ R2.length = A.length) := by omega
  clear hl2
  rcases hsp with ⟨hab, hl3⟩ | ⟨hab, hl3⟩
  all_goals
    go_wp2_with fail
    go_loopw [7] (fun v7 wr => ∃ k : Nat, k ≤ A.length ∧ v7 = .int .i64 k ∧ ∃ m, wr = w2.drewN m) (fun v7 _ => A.length - (intOf v7).toNat)
    case atStart => exact ⟨0, by omega, rfl, 0, rfl⟩
    case round =>
      obtain ⟨k, hk, rfl, m, rfl⟩ := hrel
      by_cases hlt : k < A.length
      · obtain ⟨xb, xo, rfl, hcx⟩ := bcell (H2.out).2.2.2 k (by omega)
        obtain ⟨ab, ao, rfl, hca⟩ := bcell ((HL.out).1.mono (H2.out).2.2.1 (Nat.le_refl _)) k hlt
        rw [(H1.out).1 k (by omega)] at hcx
        generalize Lb.inB A k = ak at *
        have hne : ((!ak) == ak) = false := by cases ak <;> rfl
        go_wp2_with fail
        go_quiet (fail)
        go_wp2_with fail
        go_roundw
        case rel => exact ⟨k + 1, by omega, by go_num, by first | exact ⟨_, rfl⟩ | (simp only [World.drewN_drewN]; exact ⟨_, rfl⟩)⟩
        case measure => simp [intOf]; omega
      · go_wp2_with fail
        go_loopw [8] (fun v8 wr => ∃ k : Nat, k ≤ R2.length ∧ v8 = .int .i64 k ∧ ∃ m, wr = w2.drewN m) (fun v8 _ => R2.length - (intOf v8).toNat)
        case atStart => exact ⟨0, by omega, rfl, m, rfl⟩
        case round =>
          obtain ⟨k2, hk2, rfl, m2, hwr⟩ := hrel
          have bd := below_drewN (H2.out).2.2.1 m2
          rw [← hwr] at bd
          have hr2 : Reads wr ya (R2.map Value.bool) := by rw [hwr]; exact reads_drewN (H2.out).2.1 m2
          have HWR := Lib.hid hwr
          clear hwr
          by_cases hlt2 : k2 < R2.length
          · obtain ⟨yb, yo, rfl, hcy⟩ := bcell hr2 k2 hlt2
            rw [(H2.out).1 k2 hlt2] at hcy
            have HBD := Lib.hid bd
            clear bd hr2
            have RD := Lib.hid (And.intro (fun w' (hw : Below w.heap.size w w') => (HL.out).1.mono hw (Nat.le_refl _)) (fun w' (hw : Below w.heap.size w w') => (HL.out).2.mono hw (Nat.le_refl _)))
            have ISA := Lib.hid (fun w' (hw : ∃ n, w' = wr.drewN n) => ris_any a c A k2 w' ((RD.out).1 _ (by obtain ⟨n, rfl⟩ := hw; exact below_drewN HBD.out _)))
            have ISB := Lib.hid (fun w' (hw : ∃ n, w' = wr.drewN n) => ris_any a2 c2 Bs k2 w' ((RD.out).2 _ (by obtain ⟨n, rfl⟩ := hw; exact below_drewN HBD.out _)))
            rw [Int.toNat_natCast, decide_eq_true (by omega), Bool.true_and] at ISA ISB
            generalize Lb.inB A k2 = ak at *
            generalize Lb.inB Bs k2 = bk at *
            have hne : (bk != bk) = false := by simp
            cases ak with
            | true =>
              rw [Bool.true_and] at hcy
              go_wp2_with fail
              go_quiet ((go_at_call 55; first | with_reducible exact Calls.quiet_of_same ((ISA.out _ ⟨_, rfl⟩).mono (fun _ _ hq => ⟨hq.1, hq.2.symm⟩)) | with_reducible exact Calls.quiet_of_same ((ISB.out _ ⟨_, rfl⟩).mono (fun _ _ hq => ⟨hq.1, hq.2.symm⟩))))
              go_wp2_with fail
              go_roundw
              case rel => exact ⟨k2 + 1, by omega, by go_num, by rw [HWR.out]; simp only [World.drewN_drewN]; exact ⟨_, rfl⟩⟩
              case measure => simp [intOf]; omega
            | false =>
              rw [Bool.false_and] at hcy
              go_wp2_with fail
              go_quiet ((go_at_call 55; first | with_reducible exact Calls.quiet_of_same ((ISA.out _ ⟨_, rfl⟩).mono (fun _ _ hq => ⟨hq.1, hq.2.symm⟩)) | with_reducible exact Calls.quiet_of_same ((ISB.out _ ⟨_, rfl⟩).mono (fun _ _ hq => ⟨hq.1, hq.2.symm⟩))))
              go_wp2_with fail
              go_roundw
              case rel => exact ⟨k2 + 1, by omega, by go_num, by rw [HWR.out]; simp only [World.drewN_drewN]; exact ⟨_, rfl⟩⟩
              case measure => simp [intOf]; omega
          · go_wp2_with fail
            refine (awake32_end w _ bd).mono ?_
            rintro e w10 ⟨rfl, hb10⟩
            go_wp2_with fail
            go_ret
            exact ⟨rfl, hb10⟩
end Go.Proofs.Ytnljihankodedaa
