/-
  'LabelSets' answers true for every input, and writes nothing that was there. No condition.
-/
import Derived.Test.YtnljihankodedaaLabSets
import Derived.ShutString
import Derived.ChangeOld
import Derived.Below
import Derived.SizedLaws
namespace Go.Proofs.Ytnljihankodedaa.labelSets
open Go.ChangeShapes Go.WideShapes Go.ChangeAt Go.RowKit
open Go.ChangeMaps (open_string shut_string)
set_option linter.unusedVariables false

theorem own : ownKnob Try.prog.godebug = none := by kernel_rfl
theorem laidOut : laidOutB Try.prog = true := by kernel_rfl

set_option maxRecDepth 100000 in
theorem lifted (os : Os) (started : os.Started) (H : Type) (enc : TypeId × Value → H) :
    ReturnsInHanded {} Try.checked os 13 .any (Rows.labelSetsSpec.pre6 enc Try.prog Try.f13 Rows.labelSetsRow.domain false) (Rows.labelSetsSpec.post enc Try.prog Try.f13 false true false false) := by
  refine returnsInHanded_of_change_sized (C := Try.checked) own started (by kernel_rfl) Try.func13
    (ChangeSpec.witness6 (enc := enc) (C := Try.checked) false ⟨#[], #[.slice none 0 0, .slice none 0 0], []⟩ 8 (by kernel_rfl) (by kernel_rfl) (by kernel_rfl) (by kernel_rfl)) ?_
  intro W base args ds gs before hval0 hW hcnd hsz _
  have hval : ∀ (j : Nat) t v, Try.f13.params[j]? = some t → args[j]? = some v → Value.okWide Try.prog W .any base t v := hval0
  have hW' := hW
  obtain ⟨p, q, hA0, hV, rfl, hfz, hnd⟩ := hW
  have hA : DataW.TrodAll enc Try.prog W 0 (fun _ => true) true Try.f13.params.toList args.toList ds p := hA0
  rw [Try.params13] at hA hval
  obtain ⟨v0, vs0, d0, ds0, p0, q0, hargs, rfl, rfl, h0, r0⟩ := trodAll_cons hA
  obtain ⟨v1, vs1, d1, ds1, p1, q1, rfl, rfl, rfl, h1, r1⟩ := trodAll_cons r0
  obtain ⟨rfl, rfl, rfl⟩ := trodAll_nil r1
  obtain rfl : args = #[v0, v1] := by cases args; simp_all
  obtain ⟨rfl, rfl⟩ := trodVars_none hV
  have k0 := h0
  have lt0 : ∀ x ∈ p0, x.block < W.heap.size := by obtain ⟨m, hm⟩ := k0; exact DataW.trod_lt m _ _ _ hm
  obtain ⟨a0, len0, c0, rfl⟩ := okWide_slice Try.underlying57 (hval 0 57 v0 rfl rfl)
  obtain ⟨xs0, e0, r0', l0⟩ : ∃ xs : List Bool, xs.length = len0 ∧ Reads W a0 (xs.map Value.bool) ∧ xs.length ≤ maxLen := open_bools Try.underlying57 Try.underlying4 (by kernel_rfl) h0
  have z0 : xs0.length ≤ 140737488355328 := by
    rcases trod_len Try.underlying57 k0 with h | ⟨el, sp, hd, h⟩
    · omega
    · have hw := Go.sized_slice hsz (j := 0) (t := 57) (e := 4) (elems := el) (spare := sp) rfl (by rw [← hd]; rfl) Try.underlying57
      have hb : Try.checked.prog.bytesOf 4 = 1 := by kernel_rfl
      rw [hb] at hw
      have := Go.reachBytes_lt
      omega
  subst e0
  have k1 := h1
  have lt1 : ∀ x ∈ p1, x.block < W.heap.size := by obtain ⟨m, hm⟩ := k1; exact DataW.trod_lt m _ _ _ hm
  obtain ⟨a1, len1, c1, rfl⟩ := okWide_slice Try.underlying57 (hval 1 57 v1 rfl rfl)
  obtain ⟨xs1, e1, r1', l1⟩ : ∃ xs : List Bool, xs.length = len1 ∧ Reads W a1 (xs.map Value.bool) ∧ xs.length ≤ maxLen := open_bools Try.underlying57 Try.underlying4 (by kernel_rfl) h1
  have z1 : xs1.length ≤ 140737488355328 := by
    rcases trod_len Try.underlying57 k1 with h | ⟨el, sp, hd, h⟩
    · omega
    · have hw := Go.sized_slice hsz (j := 1) (t := 57) (e := 4) (elems := el) (spare := sp) rfl (by rw [← hd]; rfl) Try.underlying57
      have hb : Try.checked.prog.bytesOf 4 = 1 := by kernel_rfl
      rw [hb] at hw
      have := Go.reachBytes_lt
      omega
  subst e1
  clear hA0 hval0
  refine (labelSets_walk a0 a1 c0 c1 xs0 xs1 W r0' r1' z0 z1).mono fun e W' ⟨he, bel⟩ => ?_
  subst he
  exact ⟨_, rfl, _, _, _, [], _, [], hW', trodAll_mk1 (shut_bool Try.underlying4 _), (trodAll_cons_mk (Below.trod laidOut (by kernel_rfl) (of_decide_eq_true (by kernel_rfl)) k0 bel lt0) (trodAll_cons_mk (Below.trod laidOut (by kernel_rfl) (of_decide_eq_true (by kernel_rfl)) k1 bel lt1) trodAll_mk0)), rfl, bel.frame _, fun h => by cases h⟩

theorem over : Rows.labelSetsRow.holds Try.pinned (OpenSpec.ofChange Rows.labelSetsSpec) :=
  OpenClaim.holds_of_wide 13 Try.f13 rfl rfl rfl rfl rfl rfl rfl ⟨rfl, rfl, rfl, rfl, rfl⟩ rfl rfl rfl rfl rfl (by kernel_rfl) Try.func13 (by kernel_rfl)
    (of_decide_eq_true (by kernel_rfl)) (by unfold Func.isWrapper; first | (rw [if_pos (by decide +kernel)]; kernel_rfl) | (rw [if_neg (by decide +kernel)]; exact ⟨rfl, rfl⟩))
    (fun os started H enc _ => lifted os started H enc)

theorem proved : Rows.LabelSetsSaid := over
end Go.Proofs.Ytnljihankodedaa.labelSets
