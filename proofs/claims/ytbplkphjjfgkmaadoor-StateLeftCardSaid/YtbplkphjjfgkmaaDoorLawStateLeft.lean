/-
  'StateLeft' answers true for every input, and writes nothing that was there. No condition.
-/
import Derived.Test.YtbplkphjjfgkmaaDoorStLeftW
import Derived.Test.YtbplkphjjfgkmaaDoorRows
import Derived.Test.YtbplkphjjfgkmaaDoorJf
import Derived.ShutString
import Derived.ChangeOld
import Derived.Below
import Derived.Test.YtbplkphjjfgkmaaDoorNmRow
import Derived.Test.YtbplkphjjfgkmaaDoorCards
import Derived.SevenTiedAt
import Derived.SizedLaws
namespace Go.Proofs.YtbplkphjjfgkmaaDoor.stateLeft
open Go.ChangeShapes Go.WideShapes Go.ChangeAt Go.RowKit
open Go.ChangeMaps (open_string shut_string)
set_option linter.unusedVariables false

theorem own : ownKnob Tryd.prog.godebug = none := by kernel_rfl
theorem laidOut : laidOutB Tryd.prog = true := by kernel_rfl

set_option maxRecDepth 100000 in
theorem lifted (os : Os) (started : os.Started) (H : Type) (enc : TypeId × Value → H) :
    ReturnsInHanded {} Tryd.checked os 13 .any (fun w args => (Rows.stateLeftSpec.pre enc Tryd.prog Tryd.f13 [] false w args ∧ laidMetH Tryd.prog laid3 w) ∧ sizedMet enc Tryd.prog Tryd.f13 (OpenSpec.ofChange Rows.stateLeftSpec) false w args)
      (Rows.stateLeftSpec.post enc Tryd.prog Tryd.f13 false true false false) := by
  refine returnsInHanded_of_change_and (C := Tryd.checked) (X := fun w _ => laidMetH Tryd.prog laid3 w) (fun _ _ _ hh h => h.of_heap hh) own started (by kernel_rfl) Tryd.func13
    (ChangeSpec.witness_shaped (enc := enc) (C := Tryd.checked) (os := os) (X := fun w _ => laidMetH Tryd.prog laid3 w) false (World.doorLaid Tryd.prog 400 os) #[.agg #[.slice none 0 0, .slice none 0 0, .slice none 0 0, .slice none 0 0, .slice none 0 0, .slice none 0 0, .slice none 0 0, .slice none 0 0, .slice none 0 0, .slice none 0 0], .slice none 0 0] 8 rfl (World.shaped_of_RefB (by kernel_rfl) (by kernel_rfl)) (by kernel_rfl) (by kernel_rfl) (by kernel_rfl) (door_met3 os _)) ?_
  intro W base args ds gs before hval0 hW hcnd hsz hL _
  have hval : ∀ (j : Nat) t v, Tryd.f13.params[j]? = some t → args[j]? = some v → Value.okWide Tryd.prog W .any base t v := hval0
  have hW' := hW
  obtain ⟨p, q, hA0, hV, rfl, hfz, hnd⟩ := hW
  have hA : DataW.TrodAll enc Tryd.prog W 0 (fun _ => true) true Tryd.f13.params.toList args.toList ds p := hA0
  rw [Tryd.params13] at hA hval
  obtain ⟨v0, vs0, d0, ds0, p0, q0, hargs, rfl, rfl, h0, r0⟩ := trodAll_cons hA
  obtain ⟨v1, vs1, d1, ds1, p1, q1, rfl, rfl, rfl, h1, r1⟩ := trodAll_cons r0
  obtain ⟨rfl, rfl, rfl⟩ := trodAll_nil r1
  obtain rfl : args = #[v0, v1] := by cases args; simp_all
  obtain ⟨rfl, rfl⟩ := trodVars_none hV
  have k0 := h0
  have lt0 : ∀ x ∈ p0, x.block < W.heap.size := by obtain ⟨m, hm⟩ := k0; exact DataW.trod_lt m _ _ _ hm
  obtain ⟨s0, e0, r0'⟩ : ∃ s : Mo, v0 = s.val ∧ RdM W s := open_model (hval 0 70 v0 rfl rfl) h0
  subst e0
  have k1 := h1
  have lt1 : ∀ x ∈ p1, x.block < W.heap.size := by obtain ⟨m, hm⟩ := k1; exact DataW.trod_lt m _ _ _ hm
  obtain ⟨a1, len1, c1, rfl⟩ := okWide_slice Tryd.underlying71 (hval 1 71 v1 rfl rfl)
  obtain ⟨xs1, e1, r1', x1, l1⟩ : ∃ xs : List Int, xs.length = len1 ∧ Reads W a1 (xs.map (Value.int .i64)) ∧ (∀ x ∈ xs, (Lit.int .i64 x).wf = true) ∧ xs.length ≤ maxLen := open_row Tryd.underlying71 Tryd.underlying3 (by kernel_rfl) h1
  subst e1
  clear hA0 hval0
  refine (stateLeft_walk s0 a1 c1 xs1 W r0' r1' l1 (fun x hx => bounds_i64 (x1 x hx)) (of_laid3 hL)).mono fun e W' ⟨he, bel⟩ => ?_
  subst he
  exact ⟨_, rfl, _, _, _, [], _, [], hW', trodAll_mk1 (shut_bool Tryd.underlying4 _), (trodAll_cons_mk (Below.trod laidOut (by kernel_rfl) (of_decide_eq_true (by kernel_rfl)) k0 bel lt0) (trodAll_cons_mk (Below.trod laidOut (by kernel_rfl) (of_decide_eq_true (by kernel_rfl)) k1 bel lt1) trodAll_mk0)), rfl, bel.frame _, fun h => by cases h⟩

theorem k_wf : Rows.stateLeftRow.wf (OpenSpec.ofChange Rows.stateLeftSpec) = true := by kernel_rfl
theorem k_params : Tryd.f13.params.all (Tryd.checked.prog.readableRec ·) = true := by kernel_rfl
theorem k_named0 : namedTie Tryd.checked.prog Rows.stateLeftRow.named Rows.stateLeftSpec.vars = true := by kernel_rfl
theorem k_stops : (Rows.stateLeftRow.stops == []) = true := by kernel_rfl
theorem k_knobs : (Rows.stateLeftRow.knobs == []) = true := by kernel_rfl
theorem k_inPlace : (Rows.stateLeftRow.inPlace == Tryd.checked.prog.inPlace 13) = true := by kernel_rfl
theorem k_unfollowed : (Rows.stateLeftRow.unfollowed == Tryd.checked.prog.unfollowed 13) = true := by kernel_rfl
theorem k_recurses : (Rows.stateLeftRow.recurses == Tryd.checked.prog.recurses 13) = true := by kernel_rfl
theorem k_named1 : (Rows.stateLeftRow.named == Tryd.checked.prog.varsNamed 13) = true := by kernel_rfl
theorem k_maps : (Rows.stateLeftRow.maps == (Tryd.f13.params.toList ++ Rows.stateLeftSpec.plain.varTypes Tryd.checked.prog).any (Tryd.checked.prog.mapsRec ·)) = true := by kernel_rfl
theorem k_ifaces : (Rows.stateLeftRow.ifaces == (Tryd.f13.params.toList ++ Rows.stateLeftSpec.plain.varTypes Tryd.checked.prog).any (Tryd.checked.prog.ifacesRec ·)) = true := by kernel_rfl
theorem k_mapsOut : (Rows.stateLeftRow.mapsOut == Tryd.checked.prog.mapsAmong Tryd.f13.resultTypes.toList) = true := by kernel_rfl
theorem k_loops : (Rows.stateLeftRow.loops == (Tryd.f13.params.toList ++ Rows.stateLeftSpec.plain.varTypes Tryd.checked.prog).any (Tryd.checked.prog.loopsFrom ·)) = true := by kernel_rfl
theorem k_wideKeys : (Rows.stateLeftRow.wideKeys == (Tryd.f13.params.toList ++ Rows.stateLeftSpec.plain.varTypes Tryd.checked.prog ++ Tryd.f13.resultTypes.toList).any (Tryd.checked.prog.wideKeysFrom ·)) = true := by kernel_rfl
theorem k_vars : Rows.stateLeftSpec.vars.all (Tryd.checked.prog.varReadable ·) = true := by kernel_rfl
theorem k_results : Tryd.f13.resultTypes.all (fun t => Tryd.checked.prog.readableRec t && decide (t < Tryd.checked.prog.types.size)) = true := by kernel_rfl
theorem k_ifacesOut : (Rows.stateLeftRow.ifacesOut == Tryd.f13.resultTypes.toList.any (Tryd.checked.prog.ifacesRec ·)) = true := by kernel_rfl
theorem k_loopsOut : (Rows.stateLeftRow.loopsOut == Tryd.f13.resultTypes.toList.any (Tryd.checked.prog.loopsFrom ·)) = true := by kernel_rfl
theorem k_short : Rows.stateLeftRow.shortTexts.isNone = true := by kernel_rfl
theorem k_kinds : (Rows.stateLeftRow.kinds == (if Rows.stateLeftRow.domain.isEmpty then [] else Tryd.f13.params.toList.map fun t => match Tryd.checked.prog.underlying t with | some (.int k) => some k | _ => none)) = true := by kernel_rfl
theorem k_pinned : (Rows.stateLeftRow.pinned == Rows.stateLeftRow.pinnedBy) = true := by kernel_rfl
theorem k_veiled : (Rows.stateLeftRow.veiled == (Tryd.f13.params.toList ++ Rows.stateLeftSpec.plain.varTypes Tryd.checked.prog ++ Tryd.f13.resultTypes.toList).any (Tryd.checked.prog.veiledRec ·)) = true := by kernel_rfl
theorem k_veiledFits : Rows.stateLeftRow.veiledFits Tryd.checked.prog Tryd.f13.params.toList (Tryd.f13.params.toList ++ Rows.stateLeftSpec.plain.varTypes Tryd.checked.prog ++ Tryd.f13.resultTypes.toList) = true := by kernel_rfl
set_option maxRecDepth 1000000 in
theorem closed : joinedFacts Tryd.checked.prog 13 Tryd.f13 Rows.stateLeftSpec Rows.stateLeftRow = true := and_mk (and_mk (and_mk (and_mk (and_mk (and_mk (and_mk (and_mk (and_mk (and_mk (and_mk (and_mk (and_mk (and_mk (and_mk (and_mk (and_mk (and_mk (and_mk (and_mk (and_mk (and_mk (and_mk (and_mk (and_mk (and_mk (and_mk (and_mk (and_mk (and_mk (and_mk k_wf jf_laidOut) jf_mapsRowed) k_params) k_named0) k_stops) jf_stops) k_knobs) jf_stopKnobs) k_inPlace) k_unfollowed) k_recurses) k_named1) k_maps) k_ifaces) k_mapsOut) k_loops) k_wideKeys) k_vars) k_results) k_ifacesOut) k_loopsOut) jf_plainKeys) k_short) jf_stopsHeard) jf_mayEnter) jf_lifted) jf_make) k_kinds) k_pinned) k_veiled) k_veiledFits
theorem over : Rows.stateLeftRow.holds Tryd.pinned (OpenSpec.ofChange Rows.stateLeftSpec) :=
  OpenClaim.holds_of_wide 13 Tryd.f13 rfl rfl rfl rfl rfl rfl rfl ⟨rfl, rfl, rfl, rfl, rfl⟩ rfl rfl rfl rfl rfl (by kernel_rfl) Tryd.func13 closed
    (of_decide_eq_true (by kernel_rfl)) (by unfold Func.isWrapper; first | (rw [if_pos (by decide +kernel)]; kernel_rfl) | (rw [if_neg (by decide +kernel)]; exact ⟨rfl, rfl⟩))
    (fun os started H enc _ => lifted os started H enc)


theorem proved : Rows.StateLeftCardSaid :=
  Claim7.holds_tied_plain_at .later [] [.data, .data, .data] true (true, "30a17a52bfd9e6651aa25a24f4181b8a0c58399ce24b7e4b90831ab35919ddb2") true
    over (fun _ h => by cases h) (by kernel_rfl) (fun _ h => by cases h) stateLeft_row_tie rfl ⟨rfl, rfl⟩ (by kernel_rfl) rfl
    (fun f fn hf hfn => by
      obtain rfl : f = 13 := Option.some.inj ((show Tryd.prog.funcNamed "warder/warderlaw15.StateLeft" = some 13 by kernel_rfl).symm.trans hf) |>.symm
      obtain rfl : fn = Tryd.f13 := (Option.some.inj (Tryd.func13.symm.trans hfn)).symm
      exact ⟨by kernel_rfl, fun j t ht => by
        rw [Tryd.params13] at ht
        rcases j with _ | _ | j
        · obtain rfl : t = 70 := by simpa using ht.symm
          exact (show Tryd.prog.wantsStandIn 70 = false by kernel_rfl)
        · obtain rfl : t = 71 := by simpa using ht.symm
          exact (show Tryd.prog.wantsStandIn 71 = false by kernel_rfl)
        · simp at ht⟩)
    (by kernel_rfl)
end Go.Proofs.YtbplkphjjfgkmaaDoor.stateLeft
