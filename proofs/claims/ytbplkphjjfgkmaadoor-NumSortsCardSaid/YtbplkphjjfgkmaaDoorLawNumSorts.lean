/-
  'NumSorts' answers true for every input, and writes nothing that was there. No condition.
-/
import Derived.Test.YtbplkphjjfgkmaaDoorSortLaw
import Derived.Test.YtbplkphjjfgkmaaDoorRows
import Derived.Test.YtbplkphjjfgkmaaDoorJf
import Derived.ShutString
import Derived.ChangeOld
import Derived.Below
import Derived.Test.YtbplkphjjfgkmaaDoorNmRow
import Derived.Test.YtbplkphjjfgkmaaDoorCards
import Derived.SevenTiedAt
import Derived.SizedLaws
namespace Go.Proofs.YtbplkphjjfgkmaaDoor.numSorts
open Go.ChangeShapes Go.WideShapes Go.ChangeAt Go.RowKit
open Go.ChangeMaps (open_string shut_string)
set_option linter.unusedVariables false

theorem own : ownKnob Tryd.prog.godebug = none := by kernel_rfl
theorem laidOut : laidOutB Tryd.prog = true := by kernel_rfl

set_option maxRecDepth 100000 in
theorem lifted (os : Os) (started : os.Started) (H : Type) (enc : TypeId × Value → H) :
    ReturnsInHanded {} Tryd.checked os 3 .any (fun w args => (Rows.numSortsSpec.pre enc Tryd.prog Tryd.f3 [] false w args ∧ laidMetH Tryd.prog laid5 w) ∧ sizedMet enc Tryd.prog Tryd.f3 (OpenSpec.ofChange Rows.numSortsSpec) false w args)
      (Rows.numSortsSpec.post enc Tryd.prog Tryd.f3 false true false false) := by
  refine returnsInHanded_of_change_and (C := Tryd.checked) (X := fun w _ => laidMetH Tryd.prog laid5 w) (fun _ _ _ hh h => h.of_heap hh) own started (by kernel_rfl) Tryd.func3
    (ChangeSpec.witness_shaped (enc := enc) (C := Tryd.checked) (os := os) (X := fun w _ => laidMetH Tryd.prog laid5 w) false (World.doorLaid Tryd.prog 400 os) #[.slice none 0 0, .int .i64 0] 8 rfl (World.shaped_of_RefB (by kernel_rfl) (by kernel_rfl)) (by kernel_rfl) (by kernel_rfl) (by kernel_rfl) (door_met os _)) ?_
  intro W base args ds gs before hval0 hW hcnd hsz hL _
  have hval : ∀ (j : Nat) t v, Tryd.f3.params[j]? = some t → args[j]? = some v → Value.okWide Tryd.prog W .any base t v := hval0
  have hW' := hW
  obtain ⟨p, q, hA0, hV, rfl, hfz, hnd⟩ := hW
  have hA : DataW.TrodAll enc Tryd.prog W 0 (fun _ => true) true Tryd.f3.params.toList args.toList ds p := hA0
  rw [Tryd.params3] at hA hval
  obtain ⟨v0, vs0, d0, ds0, p0, q0, hargs, rfl, rfl, h0, r0⟩ := trodAll_cons hA
  obtain ⟨v1, vs1, d1, ds1, p1, q1, rfl, rfl, rfl, h1, r1⟩ := trodAll_cons r0
  obtain ⟨rfl, rfl, rfl⟩ := trodAll_nil r1
  obtain rfl : args = #[v0, v1] := by cases args; simp_all
  obtain ⟨rfl, rfl⟩ := trodVars_none hV
  have k0 := h0
  have lt0 : ∀ x ∈ p0, x.block < W.heap.size := by obtain ⟨m, hm⟩ := k0; exact DataW.trod_lt m _ _ _ hm
  obtain ⟨a0, len0, c0, rfl⟩ := okWide_slice Tryd.underlying22 (hval 0 22 v0 rfl rfl)
  obtain ⟨xs0, e0, r0', x0, l0⟩ : ∃ xs : List Int, xs.length = len0 ∧ Reads W a0 (xs.map (Value.int .i64)) ∧ (∀ x ∈ xs, (Lit.int .i64 x).wf = true) ∧ xs.length ≤ maxLen := open_row Tryd.underlying22 Tryd.underlying2 (by kernel_rfl) h0
  subst e0
  have k1 := h1
  have lt1 : ∀ x ∈ p1, x.block < W.heap.size := by obtain ⟨m, hm⟩ := k1; exact DataW.trod_lt m _ _ _ hm
  obtain ⟨a1, rfl, rfl, rfl, w1⟩ := open_int Tryd.underlying2 (hval 1 2 v1 rfl rfl) h1
  have b1 := bounds_i64 w1
  clear hA0 hval0
  refine (numSorts_walk a0 c0 xs0 a1 W r0' l0 (of_laid hL)).mono fun e W' ⟨he, bel⟩ => ?_
  subst he
  exact ⟨_, rfl, _, _, _, [], _, [], hW', trodAll_mk1 (shut_bool Tryd.underlying4 _), (trodAll_cons_mk (Below.trod laidOut (by kernel_rfl) (of_decide_eq_true (by kernel_rfl)) k0 bel lt0) (trodAll_cons_mk (Below.trod laidOut (by kernel_rfl) (of_decide_eq_true (by kernel_rfl)) k1 bel lt1) trodAll_mk0)), rfl, bel.frame _, fun h => by cases h⟩

theorem k_wf : Rows.numSortsRow.wf (OpenSpec.ofChange Rows.numSortsSpec) = true := by kernel_rfl
theorem k_params : Tryd.f3.params.all (Tryd.checked.prog.readableRec ·) = true := by kernel_rfl
theorem k_named0 : namedTie Tryd.checked.prog Rows.numSortsRow.named Rows.numSortsSpec.vars = true := by kernel_rfl
theorem k_stops : (Rows.numSortsRow.stops == []) = true := by kernel_rfl
theorem k_knobs : (Rows.numSortsRow.knobs == []) = true := by kernel_rfl
theorem k_inPlace : (Rows.numSortsRow.inPlace == Tryd.checked.prog.inPlace 3) = true := by kernel_rfl
theorem k_unfollowed : (Rows.numSortsRow.unfollowed == Tryd.checked.prog.unfollowed 3) = true := by kernel_rfl
theorem k_recurses : (Rows.numSortsRow.recurses == Tryd.checked.prog.recurses 3) = true := by kernel_rfl
theorem k_named1 : (Rows.numSortsRow.named == Tryd.checked.prog.varsNamed 3) = true := by kernel_rfl
theorem k_maps : (Rows.numSortsRow.maps == (Tryd.f3.params.toList ++ Rows.numSortsSpec.plain.varTypes Tryd.checked.prog).any (Tryd.checked.prog.mapsRec ·)) = true := by kernel_rfl
theorem k_ifaces : (Rows.numSortsRow.ifaces == (Tryd.f3.params.toList ++ Rows.numSortsSpec.plain.varTypes Tryd.checked.prog).any (Tryd.checked.prog.ifacesRec ·)) = true := by kernel_rfl
theorem k_mapsOut : (Rows.numSortsRow.mapsOut == Tryd.checked.prog.mapsAmong Tryd.f3.resultTypes.toList) = true := by kernel_rfl
theorem k_loops : (Rows.numSortsRow.loops == (Tryd.f3.params.toList ++ Rows.numSortsSpec.plain.varTypes Tryd.checked.prog).any (Tryd.checked.prog.loopsFrom ·)) = true := by kernel_rfl
theorem k_wideKeys : (Rows.numSortsRow.wideKeys == (Tryd.f3.params.toList ++ Rows.numSortsSpec.plain.varTypes Tryd.checked.prog ++ Tryd.f3.resultTypes.toList).any (Tryd.checked.prog.wideKeysFrom ·)) = true := by kernel_rfl
theorem k_vars : Rows.numSortsSpec.vars.all (Tryd.checked.prog.varReadable ·) = true := by kernel_rfl
theorem k_results : Tryd.f3.resultTypes.all (fun t => Tryd.checked.prog.readableRec t && decide (t < Tryd.checked.prog.types.size)) = true := by kernel_rfl
theorem k_ifacesOut : (Rows.numSortsRow.ifacesOut == Tryd.f3.resultTypes.toList.any (Tryd.checked.prog.ifacesRec ·)) = true := by kernel_rfl
theorem k_loopsOut : (Rows.numSortsRow.loopsOut == Tryd.f3.resultTypes.toList.any (Tryd.checked.prog.loopsFrom ·)) = true := by kernel_rfl
theorem k_short : Rows.numSortsRow.shortTexts.isNone = true := by kernel_rfl
theorem k_kinds : (Rows.numSortsRow.kinds == (if Rows.numSortsRow.domain.isEmpty then [] else Tryd.f3.params.toList.map fun t => match Tryd.checked.prog.underlying t with | some (.int k) => some k | _ => none)) = true := by kernel_rfl
theorem k_pinned : (Rows.numSortsRow.pinned == Rows.numSortsRow.pinnedBy) = true := by kernel_rfl
theorem k_veiled : (Rows.numSortsRow.veiled == (Tryd.f3.params.toList ++ Rows.numSortsSpec.plain.varTypes Tryd.checked.prog ++ Tryd.f3.resultTypes.toList).any (Tryd.checked.prog.veiledRec ·)) = true := by kernel_rfl
theorem k_veiledFits : Rows.numSortsRow.veiledFits Tryd.checked.prog Tryd.f3.params.toList (Tryd.f3.params.toList ++ Rows.numSortsSpec.plain.varTypes Tryd.checked.prog ++ Tryd.f3.resultTypes.toList) = true := by kernel_rfl
set_option maxRecDepth 1000000 in
theorem closed : joinedFacts Tryd.checked.prog 3 Tryd.f3 Rows.numSortsSpec Rows.numSortsRow = true := and_mk (and_mk (and_mk (and_mk (and_mk (and_mk (and_mk (and_mk (and_mk (and_mk (and_mk (and_mk (and_mk (and_mk (and_mk (and_mk (and_mk (and_mk (and_mk (and_mk (and_mk (and_mk (and_mk (and_mk (and_mk (and_mk (and_mk (and_mk (and_mk (and_mk (and_mk k_wf jf_laidOut) jf_mapsRowed) k_params) k_named0) k_stops) jf_stops) k_knobs) jf_stopKnobs) k_inPlace) k_unfollowed) k_recurses) k_named1) k_maps) k_ifaces) k_mapsOut) k_loops) k_wideKeys) k_vars) k_results) k_ifacesOut) k_loopsOut) jf_plainKeys) k_short) jf_stopsHeard) jf_mayEnter) jf_lifted) jf_make) k_kinds) k_pinned) k_veiled) k_veiledFits
theorem over : Rows.numSortsRow.holds Tryd.pinned (OpenSpec.ofChange Rows.numSortsSpec) :=
  OpenClaim.holds_of_wide 3 Tryd.f3 rfl rfl rfl rfl rfl rfl rfl ⟨rfl, rfl, rfl, rfl, rfl⟩ rfl rfl rfl rfl rfl (by kernel_rfl) Tryd.func3 closed
    (of_decide_eq_true (by kernel_rfl)) (by unfold Func.isWrapper; first | (rw [if_pos (by decide +kernel)]; kernel_rfl) | (rw [if_neg (by decide +kernel)]; exact ⟨rfl, rfl⟩))
    (fun os started H enc _ => lifted os started H enc)


theorem proved : Rows.NumSortsCardSaid :=
  Claim7.holds_tied_plain_at .later [] [.data, .data, .data, .sentinel, .sentinel] true (true, "30a17a52bfd9e6651aa25a24f4181b8a0c58399ce24b7e4b90831ab35919ddb2") true
    over (fun _ h => by cases h) (by kernel_rfl) (fun _ h => by cases h) numSorts_row_tie rfl ⟨rfl, rfl⟩ (by kernel_rfl) rfl
    (fun f fn hf hfn => by
      obtain rfl : f = 3 := Option.some.inj ((show Tryd.prog.funcNamed "warder/warderlaw03.NumSorts" = some 3 by kernel_rfl).symm.trans hf) |>.symm
      obtain rfl : fn = Tryd.f3 := (Option.some.inj (Tryd.func3.symm.trans hfn)).symm
      exact ⟨by kernel_rfl, fun j t ht => by
        rw [Tryd.params3] at ht
        rcases j with _ | _ | j
        · obtain rfl : t = 22 := by simpa using ht.symm
          exact (show Tryd.prog.wantsStandIn 22 = false by kernel_rfl)
        · obtain rfl : t = 2 := by simpa using ht.symm
          exact (show Tryd.prog.wantsStandIn 2 = false by kernel_rfl)
        · simp at ht⟩)
    (by kernel_rfl)
end Go.Proofs.YtbplkphjjfgkmaaDoor.numSorts
