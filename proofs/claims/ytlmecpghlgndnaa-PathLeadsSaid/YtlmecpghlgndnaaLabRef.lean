/-
  label.Not, And; warderref32.Is, Same, Great, EX: by walks.
-/
import Derived.Test.YtlmecpghlgndnaaLabEG
namespace Go.Proofs.Ytlmecpghlgndnaa
open Go.RowKit
set_option linter.unusedVariables false
set_option linter.unusedSimpArgs false

set_option maxHeartbeats 400000 in
theorem ris_any (a : Option Addr) (c : Nat) (A : List Bool) (i : Int) (w : World) (hl : Reads w a (A.map Value.bool)) :
    Calls Try.prog 19 #[.slice a A.length c, .int .i64 i] w fun e w' => e = .returned (.bool (decide (0 ≤ i) && Lb.inB A i.toNat)) ∧ w = w' := by
  have hu : ∀ b : Bool, ¬ (some undef = some (Value.bool b)) := fun b h => by cases h
  by_cases h0 : 0 ≤ i
  · rw [decide_eq_true h0, Bool.true_and]
    by_cases h : i < (A.length : Int)
    · obtain ⟨b, off, rfl, hc⟩ := hl.at (by simp; omega)
      have hx := Reads.bool hc i.toNat (by omega)
      have hd : A[i.toNat]'(by omega) = Lb.inB A i.toNat := by unfold Lb.inB; rw [List.getD_eq_getElem?_getD, List.getElem?_eq_getElem (by omega)]; rfl
      rw [hd] at hx
      clear hd hc hl
      generalize Lb.inB A i.toNat = b at *
      go_enter Try.func19, Try.ntmps19
      go_wp2
      go_ret
      exact ⟨rfl, rfl⟩
    · have hf : Lb.inB A i.toNat = false := by
        cases hb : Lb.inB A i.toNat with
        | false => rfl
        | true => have := Lb.inB_lt hb; omega
      rw [hf]
      clear hf
      go_enter Try.func19, Try.ntmps19
      go_wp2
      go_ret
      exact ⟨rfl, rfl⟩
  · rw [decide_eq_false h0, Bool.false_and]
    by_cases h : i < (A.length : Int)
    · go_enter Try.func19, Try.ntmps19
      go_wp2
      go_ret
      exact ⟨rfl, rfl⟩
    · omega
theorem bsame_pre (xs ys : List Bool) (h : xs.length = ys.length) (hall : ∀ j, j < xs.length → xs[j]? = ys[j]?) : xs = ys := by
  apply List.ext_getElem? ; intro i
  by_cases hi : i < xs.length
  · exact hall i hi
  · rw [List.getElem?_eq_none (by omega), List.getElem?_eq_none (by omega)]
set_option maxHeartbeats 400000 in
theorem rsame_any (a b : Option Addr) (c d : Nat) (xs : List Bool) (w : World) (ha : Reads w a (xs.map Value.bool)) (hb : Reads w b (xs.map Value.bool)) (hm : xs.length ≤ 4611686018427387904) :
    Calls Try.prog 12 #[.slice a xs.length c, .slice b xs.length d] w fun e w' => e = .returned (.bool true) ∧ ∃ n, w' = w.drewN n := by
  by_cases h0 : xs.length = 0
  · have e1 : xs = [] := List.eq_nil_of_length_eq_zero h0
    subst e1
    go_enter Try.func12, Try.ntmps12
    go_wp2
    refine wp_loop_rounds 1 ?_
    rw [rounds_succ]
    go_wp2
    go_ret
    exact ⟨rfl, 0, rfl⟩
  · obtain ⟨ba, oa, rfl, hca⟩ := ha.at (by simp; omega)
    obtain ⟨bb, ob, rfl, hcb⟩ := hb.at (by simp; omega)
    have HCA := Lib.hid (Reads.bool hca)
    have HCB := Lib.hid (Reads.bool hcb)
    clear hca hcb ha hb
    go_enter Try.func12, Try.ntmps12
    go_wp2
    go_loopw [5] (fun v5 wr => ∃ k : Nat, k ≤ xs.length ∧ v5 = .int .i64 k ∧ ∃ n, wr = w.drewN n) (fun v5 _ => xs.length - (intOf v5).toNat)
    case atStart => exact ⟨0, by omega, rfl, 0, rfl⟩
    case round =>
      obtain ⟨k, hk, rfl, n, rfl⟩ := hrel
      by_cases hlt : k < xs.length
      · have hx := HCA.out k hlt
        have hy := HCB.out k hlt
        generalize xs[k] = x at *
        have hne : (x != x) = false := by simp
        go_wp2
        go_quiet (fail)
        go_wp2
        go_roundw
        case rel => exact ⟨k + 1, by omega, by go_num, by first | exact ⟨_, rfl⟩ | (simp only [World.drewN_drewN]; exact ⟨_, rfl⟩)⟩
        case measure => simp [intOf]; omega
      · go_wp2
        go_ret
        exact ⟨rfl, n, rfl⟩
/-- Two lists that were handed back are told the same. -/
theorem rsame_ans {w1 w2 : World} {x y : Value} {xs ys : List Bool} {B C : Nat} (hx : w1.ownsRow B 4 1 x xs.length (xs.map Value.bool)) (hy : w2.ownsRow C 4 1 y ys.length (ys.map Value.bool)) (hb : Below w1.heap.size w1 w2) (hm : xs.length ≤ 1000000) (he : xs = ys) :
    Calls Try.prog 12 #[x, y] w2 fun e w' => e = .returned (.bool true) ∧ ∃ n, w' = w2.drewN n := by
  subst he
  obtain ⟨a, c, rfl, hr⟩ := Reads.of_own hx
  obtain ⟨b, d, rfl, hr2⟩ := Reads.of_own hy
  rw [List.length_map]
  exact rsame_any a b c d xs w2 (hr.mono hb (Nat.le_refl _)) hr2 (by omega)
end Go.Proofs.Ytlmecpghlgndnaa
