/-
  label.Not, And: by walks.
-/
import Derived.Test.YtlmecpghlgndnaaLabRef
namespace Go.Proofs.Ytlmecpghlgndnaa
open Go.RowKit
set_option linter.unusedVariables false
set_option linter.unusedSimpArgs false

set_option maxHeartbeats 2000000 in
theorem and_any (a a2 : Option Addr) (c c2 : Nat) (A Bs : List Bool) (w : World) (hA : Reads w a (A.map Value.bool)) (hB : Reads w a2 (Bs.map Value.bool)) (hn : A.length ≤ 140737488355328) (hn2 : Bs.length ≤ 140737488355328) :
    Calls Try.prog 20 #[.slice a A.length c, .slice a2 Bs.length c2] w (BoolsAns (fun R => R.length = max A.length Bs.length ∧ ∀ i, i < R.length → Lb.inB R i = (Lb.inB A i && Lb.inB Bs i)) w) := by
  have hu : ∀ b : Bool, ¬ (some undef = some (Value.bool b)) := fun b h => by cases h
  have HL := Lib.hid (And.intro hA hB)
  clear hA hB
  obtain ⟨n, hn0⟩ : ∃ n, n = max A.length Bs.length := ⟨_, rfl⟩
  have hnm : n ≤ 140737488355328 := by omega
  have hni : max (A.length : Int) (Bs.length : Int) = (n : Int) := by omega
  have go : ∀ (_ : (max (A.length : Int) (Bs.length : Int)) = (n : Int)), Calls Try.prog 20 #[.slice a A.length c, .slice a2 Bs.length c2] w (BoolsAns (fun R => R.length = n ∧ ∀ i, i < R.length → Lb.inB R i = (Lb.inB A i && Lb.inB Bs i)) w) := by
    intro _
    have hor : A.length = n ∨ Bs.length = n := by omega
    have hle : A.length ≤ n ∧ Bs.length ≤ n := by omega
    clear hn0 hni
    go_enter Try.func20, Try.ntmps20
    go_wp2_with (at_make; refine make_one rfl _ _ 23 rfl 4 (.bool false) 1 Try.underlying23 Try.infoB rfl _ n rfl rfl (by omega) (by omega) (by unfold maxLen; omega) ?_; intro w1 own1 keep1; rw [show List.replicate n (Value.bool false) = (List.replicate n false).map Value.bool by rw [List.map_replicate]] at own1)
    all_goals
      have bel1 := keep1.below (fun _ hf => hf.elim) (Nat.le_refl _)
      have O1 := Lib.hid (And.intro own1 bel1)
      clear own1 keep1 bel1
      go_loopw [6, 15] (fun _ v15 wr => ∃ (k : Nat) (R : List Bool), k ≤ n ∧ v15 = .int .i64 k ∧ R.length = n ∧ (∀ i, i < k → Lb.inB R i = (Lb.inB A i && Lb.inB Bs i)) ∧
        wr.ownsRow w.heap.size 4 1 (.slice (some ⟨w.heap.size, 0, none⟩) n n) n (R.map Value.bool) ∧ Below w.heap.size w wr) (fun _ v15 _ => n - (intOf v15).toNat)
      case atStart => exact ⟨0, _, by omega, rfl, by simp, fun i hi => by omega, (O1.out).1, (O1.out).2⟩
      case round =>
        obtain ⟨k, R, hk, rfl, hRl, hin, hO, hB⟩ := hrel
        by_cases hlt : k < n
        · have hfz := hO.frozenAt k
          have hgF := (hO.lt w.heap.size rfl).2
          have hcu := bool_cell hO k hlt
          have st : ∀ b, (wr.setCell ⟨w.heap.size, k, none⟩ (.bool b)).ownsRow w.heap.size 4 1 (.slice (some ⟨w.heap.size, 0, none⟩) n n) n ((R.set k b).map Value.bool) := fun b => bool_stored hO k b
          have b3 : ∀ b, Below w.heap.size w (wr.setCell ⟨w.heap.size, k, none⟩ (.bool b)) := fun b => hB.trans ((Keeps.setCell (S := fun j => j = w.heap.size) _ _ _ rfl).below (fun j e => by omega) hB.size)
          have INA := Lib.hid (in_any a c A k wr ((HL.out).1.mono hB (Nat.le_refl _)) (by omega))
          have INB := Lib.hid (in_any a2 c2 Bs k wr ((HL.out).2.mono hB (Nat.le_refl _)) (by omega))
          have HS := Lib.hid (And.intro st (And.intro b3 hin))
          clear st b3 hin hO hB
          cases hka : Lb.inB A k with
          | true =>
            have HK := Lib.hid hka
            clear hka
            go_wp2_with fail
            refine (INA.out).mono ?_
            rintro e w5 ⟨rfl, rfl⟩
            rw [Int.toNat_natCast, HK.out]
            go_wp2_with fail
            refine (INB.out).mono ?_
            rintro e w5 ⟨rfl, rfl⟩
            rw [Int.toNat_natCast]
            go_wp2_with fail
            go_roundw
            case rel =>
              refine ⟨k + 1, R.set k (Lb.inB Bs k), by omega, by go_num, by simpa using hRl, fun i hi => ?_, (HS.out).1 _, (HS.out).2.1 _⟩
              rw [inB_set _ _ _ _ (by omega)]
              by_cases e : i = k
              · rw [if_pos e, e, HK.out, Bool.true_and]
              · rw [if_neg e]; exact (HS.out).2.2 i (by omega)
            case measure => simp [intOf]; omega
          | false =>
            have HK := Lib.hid hka
            clear hka
            go_wp2_with fail
            refine (INA.out).mono ?_
            rintro e w5 ⟨rfl, rfl⟩
            rw [Int.toNat_natCast, HK.out]
            go_wp2_with fail
            go_roundw
            case rel =>
              refine ⟨k + 1, R.set k false, by omega, by go_num, by simpa using hRl, fun i hi => ?_, (HS.out).1 _, (HS.out).2.1 _⟩
              rw [inB_set _ _ _ _ (by omega)]
              by_cases e : i = k
              · rw [if_pos e, e, HK.out, Bool.false_and]
              · rw [if_neg e]; exact (HS.out).2.2 i (by omega)
            case measure => simp [intOf]; omega
        · have hkl : k = n := by omega
          subst hkl
          have HS := Lib.hid (And.intro hin (And.intro hO hB))
          clear hin hO hB
          go_wp2_with fail
          go_ret
          exact ⟨_, R, rfl, ⟨hRl, fun i hi => (HS.out).1 i (by omega)⟩, by rw [hRl]; exact (HS.out).2.1, (HS.out).2.2⟩
  rw [← hn0]
  exact go hni
end Go.Proofs.Ytlmecpghlgndnaa
