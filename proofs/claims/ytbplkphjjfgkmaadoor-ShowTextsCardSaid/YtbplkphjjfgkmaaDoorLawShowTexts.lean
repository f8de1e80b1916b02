/-
  'ShowTexts' answers true for every input, and writes nothing that was there. No condition.
-/
import Derived.Test.YtbplkphjjfgkmaaDoorShRf
import Derived.Test.YtbplkphjjfgkmaaDoorRows
import Derived.Test.YtbplkphjjfgkmaaDoorJf
import Derived.ShutString
import Derived.ChangeOld
import Derived.Below
import Derived.Test.YtbplkphjjfgkmaaDoorNmRow
import Derived.Test.YtbplkphjjfgkmaaDoorCards
import Derived.SevenTiedAt
import Derived.SizedLaws
namespace Go.Proofs.YtbplkphjjfgkmaaDoor.showTexts
open Go.ChangeShapes Go.WideShapes Go.ChangeAt Go.RowKit
open Go.ChangeMaps (open_string shut_string)
set_option linter.unusedVariables false

theorem own : ownKnob Tryd.prog.godebug = none := by kernel_rfl
theorem laidOut : laidOutB Tryd.prog = true := by kernel_rfl

set_option maxRecDepth 100000 in
theorem lifted (os : Os) (started : os.Started) (H : Type) (enc : TypeId × Value → H) :
    ReturnsInHanded {} Tryd.checked os 11 .any (fun w args => (Rows.showTextsSpec.pre enc Tryd.prog Tryd.f11 [] false w args ∧ laidMetH Tryd.prog laid3 w) ∧ sizedMet enc Tryd.prog Tryd.f11 (OpenSpec.ofChange Rows.showTextsSpec) false w args)
      (Rows.showTextsSpec.post enc Tryd.prog Tryd.f11 false true false false) := by
  refine returnsInHanded_of_change_and (C := Tryd.checked) (X := fun w _ => laidMetH Tryd.prog laid3 w) (fun _ _ _ hh h => h.of_heap hh) own started (by kernel_rfl) Tryd.func11
    (ChangeSpec.witness_shaped (enc := enc) (C := Tryd.checked) (os := os) (X := fun w _ => laidMetH Tryd.prog laid3 w) false (World.doorLaid Tryd.prog 400 os) #[.slice none 0 0] 8 rfl (World.shaped_of_RefB (by kernel_rfl) (by kernel_rfl)) (by kernel_rfl) (by kernel_rfl) (by kernel_rfl) (door_met3 os _)) ?_
  intro W base args ds gs before hval0 hW hcnd hsz hL _
  have hval : ∀ (j : Nat) t v, Tryd.f11.params[j]? = some t → args[j]? = some v → Value.okWide Tryd.prog W .any base t v := hval0
  have hW' := hW
  obtain ⟨p, q, hA0, hV, rfl, hfz, hnd⟩ := hW
  have hA : DataW.TrodAll enc Tryd.prog W 0 (fun _ => true) true Tryd.f11.params.toList args.toList ds p := hA0
  rw [Tryd.params11] at hA hval
  obtain ⟨v0, vs0, d0, ds0, p0, q0, hargs, rfl, rfl, h0, r0⟩ := trodAll_cons hA
  obtain ⟨rfl, rfl, rfl⟩ := trodAll_nil r0
  obtain rfl : args = #[v0] := by cases args; simp_all
  obtain ⟨rfl, rfl⟩ := trodVars_none hV
  have k0 := h0
  have lt0 : ∀ x ∈ p0, x.block < W.heap.size := by obtain ⟨m, hm⟩ := k0; exact DataW.trod_lt m _ _ _ hm
  obtain ⟨a0, len0, c0, rfl⟩ := okWide_slice Tryd.underlying43 (hval 0 43 v0 rfl rfl)
  obtain ⟨xs0, e0, r0', x0, l0⟩ := open_items h0
  subst e0
  clear hA0 hval0
  refine (showTexts_walk a0 c0 xs0 W r0' x0 l0 (of_laid3 hL)).mono fun e W' ⟨he, bel⟩ => ?_
  subst he
  exact ⟨_, rfl, _, _, _, [], _, [], hW', trodAll_mk1 (shut_bool Tryd.underlying4 _), (trodAll_cons_mk (Below.trod laidOut (by kernel_rfl) (of_decide_eq_true (by kernel_rfl)) k0 bel lt0) trodAll_mk0), rfl, bel.frame _, fun h => by cases h⟩

theorem k_wf : Rows.showTextsRow.wf (OpenSpec.ofChange Rows.showTextsSpec) = true := by kernel_rfl
theorem k_params : Tryd.f11.params.all (Tryd.checked.prog.readableRec ·) = true := by kernel_rfl
theorem k_named0 : namedTie Tryd.checked.prog Rows.showTextsRow.named Rows.showTextsSpec.vars = true := by kernel_rfl
theorem k_stops : (Rows.showTextsRow.stops == []) = true := by kernel_rfl
theorem k_knobs : (Rows.showTextsRow.knobs == []) = true := by kernel_rfl
theorem k_inPlace : (Rows.showTextsRow.inPlace == Tryd.checked.prog.inPlace 11) = true := by kernel_rfl
theorem k_unfollowed : (Rows.showTextsRow.unfollowed == Tryd.checked.prog.unfollowed 11) = true := by kernel_rfl
theorem k_recurses : (Rows.showTextsRow.recurses == Tryd.checked.prog.recurses 11) = true := by kernel_rfl
theorem k_named1 : (Rows.showTextsRow.named == Tryd.checked.prog.varsNamed 11) = true := by kernel_rfl
theorem k_maps : (Rows.showTextsRow.maps == (Tryd.f11.params.toList ++ Rows.showTextsSpec.plain.varTypes Tryd.checked.prog).any (Tryd.checked.prog.mapsRec ·)) = true := by kernel_rfl
theorem k_ifaces : (Rows.showTextsRow.ifaces == (Tryd.f11.params.toList ++ Rows.showTextsSpec.plain.varTypes Tryd.checked.prog).any (Tryd.checked.prog.ifacesRec ·)) = true := by kernel_rfl
theorem k_mapsOut : (Rows.showTextsRow.mapsOut == Tryd.checked.prog.mapsAmong Tryd.f11.resultTypes.toList) = true := by kernel_rfl
theorem k_loops : (Rows.showTextsRow.loops == (Tryd.f11.params.toList ++ Rows.showTextsSpec.plain.varTypes Tryd.checked.prog).any (Tryd.checked.prog.loopsFrom ·)) = true := by kernel_rfl
theorem k_wideKeys : (Rows.showTextsRow.wideKeys == (Tryd.f11.params.toList ++ Rows.showTextsSpec.plain.varTypes Tryd.checked.prog ++ Tryd.f11.resultTypes.toList).any (Tryd.checked.prog.wideKeysFrom ·)) = true := by kernel_rfl
theorem k_vars : Rows.showTextsSpec.vars.all (Tryd.checked.prog.varReadable ·) = true := by kernel_rfl
theorem k_results : Tryd.f11.resultTypes.all (fun t => Tryd.checked.prog.readableRec t && decide (t < Tryd.checked.prog.types.size)) = true := by kernel_rfl
theorem k_ifacesOut : (Rows.showTextsRow.ifacesOut == Tryd.f11.resultTypes.toList.any (Tryd.checked.prog.ifacesRec ·)) = true := by kernel_rfl
theorem k_loopsOut : (Rows.showTextsRow.loopsOut == Tryd.f11.resultTypes.toList.any (Tryd.checked.prog.loopsFrom ·)) = true := by kernel_rfl
theorem k_short : Rows.showTextsRow.shortTexts.isNone = true := by kernel_rfl
theorem k_kinds : (Rows.showTextsRow.kinds == (if Rows.showTextsRow.domain.isEmpty then [] else Tryd.f11.params.toList.map fun t => match Tryd.checked.prog.underlying t with | some (.int k) => some k | _ => none)) = true := by kernel_rfl
theorem k_pinned : (Rows.showTextsRow.pinned == Rows.showTextsRow.pinnedBy) = true := by kernel_rfl
theorem k_veiled : (Rows.showTextsRow.veiled == (Tryd.f11.params.toList ++ Rows.showTextsSpec.plain.varTypes Tryd.checked.prog ++ Tryd.f11.resultTypes.toList).any (Tryd.checked.prog.veiledRec ·)) = true := by kernel_rfl
theorem k_veiledFits : Rows.showTextsRow.veiledFits Tryd.checked.prog Tryd.f11.params.toList (Tryd.f11.params.toList ++ Rows.showTextsSpec.plain.varTypes Tryd.checked.prog ++ Tryd.f11.resultTypes.toList) = true := by kernel_rfl
set_option maxRecDepth 1000000 in
theorem closed : joinedFacts Tryd.checked.prog 11 Tryd.f11 Rows.showTextsSpec Rows.showTextsRow = true := and_mk (and_mk (and_mk (and_mk (and_mk (and_mk (and_mk (and_mk (and_mk (and_mk (and_mk (and_mk (and_mk (and_mk (and_mk (and_mk (and_mk (and_mk (and_mk (and_mk (and_mk (and_mk (and_mk (and_mk (and_mk (and_mk (and_mk (and_mk (and_mk (and_mk (and_mk k_wf jf_laidOut) jf_mapsRowed) k_params) k_named0) k_stops) jf_stops) k_knobs) jf_stopKnobs) k_inPlace) k_unfollowed) k_recurses) k_named1) k_maps) k_ifaces) k_mapsOut) k_loops) k_wideKeys) k_vars) k_results) k_ifacesOut) k_loopsOut) jf_plainKeys) k_short) jf_stopsHeard) jf_mayEnter) jf_lifted) jf_make) k_kinds) k_pinned) k_veiled) k_veiledFits
theorem over : Rows.showTextsRow.holds Tryd.pinned (OpenSpec.ofChange Rows.showTextsSpec) :=
  OpenClaim.holds_of_wide 11 Tryd.f11 rfl rfl rfl rfl rfl rfl rfl ⟨rfl, rfl, rfl, rfl, rfl⟩ rfl rfl rfl rfl rfl (by kernel_rfl) Tryd.func11 closed
    (of_decide_eq_true (by kernel_rfl)) (by unfold Func.isWrapper; first | (rw [if_pos (by decide +kernel)]; kernel_rfl) | (rw [if_neg (by decide +kernel)]; exact ⟨rfl, rfl⟩))
    (fun os started H enc _ => lifted os started H enc)


theorem proved : Rows.ShowTextsCardSaid :=
  Claim7.holds_tied_plain_at .later [] [.data, .data, .data] true (true, "30a17a52bfd9e6651aa25a24f4181b8a0c58399ce24b7e4b90831ab35919ddb2") true
    over (fun _ h => by cases h) (by kernel_rfl) (fun _ h => by cases h) showTexts_row_tie rfl ⟨rfl, rfl⟩ (by kernel_rfl) rfl
    (fun f fn hf hfn => by
      obtain rfl : f = 11 := Option.some.inj ((show Tryd.prog.funcNamed "warder/warderlaw06.ShowTexts" = some 11 by kernel_rfl).symm.trans hf) |>.symm
      obtain rfl : fn = Tryd.f11 := (Option.some.inj (Tryd.func11.symm.trans hfn)).symm
      exact ⟨by kernel_rfl, fun j t ht => by
        rw [Tryd.params11] at ht
        rcases j with _ | j
        · obtain rfl : t = 43 := by simpa using ht.symm
          exact (show Tryd.prog.wantsStandIn 43 = false by kernel_rfl)
        · simp at ht⟩)
    (by kernel_rfl)
end Go.Proofs.YtbplkphjjfgkmaaDoor.showTexts
