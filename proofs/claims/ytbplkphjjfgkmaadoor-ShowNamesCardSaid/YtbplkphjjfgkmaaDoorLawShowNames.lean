/-
  'ShowNames' answers true for every input, and writes nothing that was there. No condition.
-/
import Derived.Test.YtbplkphjjfgkmaaDoorShAw
import Derived.Test.YtbplkphjjfgkmaaDoorRows
import Derived.Test.YtbplkphjjfgkmaaDoorJf
import Derived.ShutString
import Derived.ChangeOld
import Derived.Below
import Derived.Test.YtbplkphjjfgkmaaDoorNmRow
import Derived.Test.YtbplkphjjfgkmaaDoorCards
import Derived.SevenTiedAt
import Derived.SizedLaws
namespace Go.Proofs.YtbplkphjjfgkmaaDoor.showNames
open Go.ChangeShapes Go.WideShapes Go.ChangeAt Go.RowKit
open Go.ChangeMaps (open_string shut_string)
set_option linter.unusedVariables false

theorem own : ownKnob Tryd.prog.godebug = none := by kernel_rfl
theorem laidOut : laidOutB Tryd.prog = true := by kernel_rfl

set_option maxRecDepth 100000 in
theorem lifted (os : Os) (started : os.Started) (H : Type) (enc : TypeId × Value → H) :
    ReturnsInHanded {} Tryd.checked os 12 .any (fun w args => (Rows.showNamesSpec.pre enc Tryd.prog Tryd.f12 [] false w args ∧ laidMetH Tryd.prog laid3 w) ∧ sizedMet enc Tryd.prog Tryd.f12 (OpenSpec.ofChange Rows.showNamesSpec) false w args)
      (Rows.showNamesSpec.post enc Tryd.prog Tryd.f12 false true false false) := by
  refine returnsInHanded_of_change_and (C := Tryd.checked) (X := fun w _ => laidMetH Tryd.prog laid3 w) (fun _ _ _ hh h => h.of_heap hh) own started (by kernel_rfl) Tryd.func12
    (ChangeSpec.witness_shaped (enc := enc) (C := Tryd.checked) (os := os) (X := fun w _ => laidMetH Tryd.prog laid3 w) false (World.doorLaid Tryd.prog 400 os) #[.string ByteArray.empty, .int .i64 0] 8 rfl (World.shaped_of_RefB (by kernel_rfl) (by kernel_rfl)) (by kernel_rfl) (by kernel_rfl) (by kernel_rfl) (door_met3 os _)) ?_
  intro W base args ds gs before hval0 hW hcnd hsz hL _
  have hval : ∀ (j : Nat) t v, Tryd.f12.params[j]? = some t → args[j]? = some v → Value.okWide Tryd.prog W .any base t v := hval0
  have hW' := hW
  obtain ⟨p, q, hA0, hV, rfl, hfz, hnd⟩ := hW
  have hA : DataW.TrodAll enc Tryd.prog W 0 (fun _ => true) true Tryd.f12.params.toList args.toList ds p := hA0
  rw [Tryd.params12] at hA hval
  obtain ⟨v0, vs0, d0, ds0, p0, q0, hargs, rfl, rfl, h0, r0⟩ := trodAll_cons hA
  obtain ⟨v1, vs1, d1, ds1, p1, q1, rfl, rfl, rfl, h1, r1⟩ := trodAll_cons r0
  obtain ⟨rfl, rfl, rfl⟩ := trodAll_nil r1
  obtain rfl : args = #[v0, v1] := by cases args; simp_all
  obtain ⟨rfl, rfl⟩ := trodVars_none hV
  have k0 := h0
  have lt0 : ∀ x ∈ p0, x.block < W.heap.size := by obtain ⟨m, hm⟩ := k0; exact DataW.trod_lt m _ _ _ hm
  obtain ⟨s0, rfl, rfl, rfl, l0⟩ := open_string Tryd.underlying9 (hval 0 9 v0 rfl rfl) h0
  have k1 := h1
  have lt1 : ∀ x ∈ p1, x.block < W.heap.size := by obtain ⟨m, hm⟩ := k1; exact DataW.trod_lt m _ _ _ hm
  obtain ⟨a1, rfl, rfl, rfl, w1⟩ := open_int Tryd.underlying3 (hval 1 3 v1 rfl rfl) h1
  have b1 := bounds_i64 w1
  have z0 : s0.size ≤ 140737488355328 := by
    have h1 := Go.sized_string hsz (j := 0) (t := 9) (bytes := s0.data.toList) rfl rfl
    have h2 := Go.reachBytes_lt
    have h3 : s0.data.toList.length = s0.size := by simp
    omega
  clear hA0 hval0
  refine (showNames_walk s0 a1 W (of_laid3 hL)).mono fun e W' ⟨he, bel⟩ => ?_
  subst he
  exact ⟨_, rfl, _, _, _, [], _, [], hW', trodAll_mk1 (shut_bool Tryd.underlying4 _), (trodAll_cons_mk (Below.trod laidOut (by kernel_rfl) (of_decide_eq_true (by kernel_rfl)) k0 bel lt0) (trodAll_cons_mk (Below.trod laidOut (by kernel_rfl) (of_decide_eq_true (by kernel_rfl)) k1 bel lt1) trodAll_mk0)), rfl, bel.frame _, fun h => by cases h⟩

theorem k_wf : Rows.showNamesRow.wf (OpenSpec.ofChange Rows.showNamesSpec) = true := by kernel_rfl
theorem k_params : Tryd.f12.params.all (Tryd.checked.prog.readableRec ·) = true := by kernel_rfl
theorem k_named0 : namedTie Tryd.checked.prog Rows.showNamesRow.named Rows.showNamesSpec.vars = true := by kernel_rfl
theorem k_stops : (Rows.showNamesRow.stops == []) = true := by kernel_rfl
theorem k_knobs : (Rows.showNamesRow.knobs == []) = true := by kernel_rfl
theorem k_inPlace : (Rows.showNamesRow.inPlace == Tryd.checked.prog.inPlace 12) = true := by kernel_rfl
theorem k_unfollowed : (Rows.showNamesRow.unfollowed == Tryd.checked.prog.unfollowed 12) = true := by kernel_rfl
theorem k_recurses : (Rows.showNamesRow.recurses == Tryd.checked.prog.recurses 12) = true := by kernel_rfl
theorem k_named1 : (Rows.showNamesRow.named == Tryd.checked.prog.varsNamed 12) = true := by kernel_rfl
theorem k_maps : (Rows.showNamesRow.maps == (Tryd.f12.params.toList ++ Rows.showNamesSpec.plain.varTypes Tryd.checked.prog).any (Tryd.checked.prog.mapsRec ·)) = true := by kernel_rfl
theorem k_ifaces : (Rows.showNamesRow.ifaces == (Tryd.f12.params.toList ++ Rows.showNamesSpec.plain.varTypes Tryd.checked.prog).any (Tryd.checked.prog.ifacesRec ·)) = true := by kernel_rfl
theorem k_mapsOut : (Rows.showNamesRow.mapsOut == Tryd.checked.prog.mapsAmong Tryd.f12.resultTypes.toList) = true := by kernel_rfl
theorem k_loops : (Rows.showNamesRow.loops == (Tryd.f12.params.toList ++ Rows.showNamesSpec.plain.varTypes Tryd.checked.prog).any (Tryd.checked.prog.loopsFrom ·)) = true := by kernel_rfl
theorem k_wideKeys : (Rows.showNamesRow.wideKeys == (Tryd.f12.params.toList ++ Rows.showNamesSpec.plain.varTypes Tryd.checked.prog ++ Tryd.f12.resultTypes.toList).any (Tryd.checked.prog.wideKeysFrom ·)) = true := by kernel_rfl
theorem k_vars : Rows.showNamesSpec.vars.all (Tryd.checked.prog.varReadable ·) = true := by kernel_rfl
theorem k_results : Tryd.f12.resultTypes.all (fun t => Tryd.checked.prog.readableRec t && decide (t < Tryd.checked.prog.types.size)) = true := by kernel_rfl
theorem k_ifacesOut : (Rows.showNamesRow.ifacesOut == Tryd.f12.resultTypes.toList.any (Tryd.checked.prog.ifacesRec ·)) = true := by kernel_rfl
theorem k_loopsOut : (Rows.showNamesRow.loopsOut == Tryd.f12.resultTypes.toList.any (Tryd.checked.prog.loopsFrom ·)) = true := by kernel_rfl
theorem k_short : Rows.showNamesRow.shortTexts.isNone = true := by kernel_rfl
theorem k_kinds : (Rows.showNamesRow.kinds == (if Rows.showNamesRow.domain.isEmpty then [] else Tryd.f12.params.toList.map fun t => match Tryd.checked.prog.underlying t with | some (.int k) => some k | _ => none)) = true := by kernel_rfl
theorem k_pinned : (Rows.showNamesRow.pinned == Rows.showNamesRow.pinnedBy) = true := by kernel_rfl
theorem k_veiled : (Rows.showNamesRow.veiled == (Tryd.f12.params.toList ++ Rows.showNamesSpec.plain.varTypes Tryd.checked.prog ++ Tryd.f12.resultTypes.toList).any (Tryd.checked.prog.veiledRec ·)) = true := by kernel_rfl
theorem k_veiledFits : Rows.showNamesRow.veiledFits Tryd.checked.prog Tryd.f12.params.toList (Tryd.f12.params.toList ++ Rows.showNamesSpec.plain.varTypes Tryd.checked.prog ++ Tryd.f12.resultTypes.toList) = true := by kernel_rfl
set_option maxRecDepth 1000000 in
theorem closed : joinedFacts Tryd.checked.prog 12 Tryd.f12 Rows.showNamesSpec Rows.showNamesRow = true := and_mk (and_mk (and_mk (and_mk (and_mk (and_mk (and_mk (and_mk (and_mk (and_mk (and_mk (and_mk (and_mk (and_mk (and_mk (and_mk (and_mk (and_mk (and_mk (and_mk (and_mk (and_mk (and_mk (and_mk (and_mk (and_mk (and_mk (and_mk (and_mk (and_mk (and_mk k_wf jf_laidOut) jf_mapsRowed) k_params) k_named0) k_stops) jf_stops) k_knobs) jf_stopKnobs) k_inPlace) k_unfollowed) k_recurses) k_named1) k_maps) k_ifaces) k_mapsOut) k_loops) k_wideKeys) k_vars) k_results) k_ifacesOut) k_loopsOut) jf_plainKeys) k_short) jf_stopsHeard) jf_mayEnter) jf_lifted) jf_make) k_kinds) k_pinned) k_veiled) k_veiledFits
theorem over : Rows.showNamesRow.holds Tryd.pinned (OpenSpec.ofChange Rows.showNamesSpec) :=
  OpenClaim.holds_of_wide 12 Tryd.f12 rfl rfl rfl rfl rfl rfl rfl ⟨rfl, rfl, rfl, rfl, rfl⟩ rfl rfl rfl rfl rfl (by kernel_rfl) Tryd.func12 closed
    (of_decide_eq_true (by kernel_rfl)) (by unfold Func.isWrapper; first | (rw [if_pos (by decide +kernel)]; kernel_rfl) | (rw [if_neg (by decide +kernel)]; exact ⟨rfl, rfl⟩))
    (fun os started H enc _ => lifted os started H enc)


theorem proved : Rows.ShowNamesCardSaid :=
  Claim7.holds_tied_plain_at .later [] [.data, .data, .data] true (true, "30a17a52bfd9e6651aa25a24f4181b8a0c58399ce24b7e4b90831ab35919ddb2") true
    over (fun _ h => by cases h) (by kernel_rfl) (fun _ h => by cases h) showNames_row_tie rfl ⟨rfl, rfl⟩ (by kernel_rfl) rfl
    (fun f fn hf hfn => by
      obtain rfl : f = 12 := Option.some.inj ((show Tryd.prog.funcNamed "warder/warderlaw06.ShowNames" = some 12 by kernel_rfl).symm.trans hf) |>.symm
      obtain rfl : fn = Tryd.f12 := (Option.some.inj (Tryd.func12.symm.trans hfn)).symm
      exact ⟨by kernel_rfl, fun j t ht => by
        rw [Tryd.params12] at ht
        rcases j with _ | _ | j
        · obtain rfl : t = 9 := by simpa using ht.symm
          exact (show Tryd.prog.wantsStandIn 9 = false by kernel_rfl)
        · obtain rfl : t = 3 := by simpa using ht.symm
          exact (show Tryd.prog.wantsStandIn 3 = false by kernel_rfl)
        · simp at ht⟩)
    (by kernel_rfl)
end Go.Proofs.YtbplkphjjfgkmaaDoor.showNames
