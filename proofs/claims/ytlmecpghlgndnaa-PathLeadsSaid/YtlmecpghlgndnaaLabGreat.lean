/-
  warderref32.Great: by a walk.
-/
import Derived.Test.YtlmecpghlgndnaaLabFroms
namespace Go.Proofs.Ytlmecpghlgndnaa
open Go.RowKit
set_option linter.unusedVariables false
set_option linter.unusedSimpArgs false

set_option maxHeartbeats 400000 in
theorem great_any (a : Option Addr) (c : Nat) (nx : List (List Int)) (w : World) (hl : RdG w a nx) (hm : nx.length ≤ maxLen) (hmr : ∀ i, (Lb.row nx i).length ≤ maxLen) :
    Calls Try.prog 10 #[.slice a nx.length c] w fun e w' => ∃ b, e = .returned (.bool b) ∧ (b = false → nx.length ≤ 100 ∧ ∀ i, (Lb.row nx i).length ≤ 200) ∧ w = w' := by
  have hm2 : nx.length ≤ 9223372036854775807 := by unfold maxLen at hm; omega
  have HL := Lib.hid hl
  clear hl hm
  go_enter Try.func10, Try.ntmps10
  go_wp2
  go_loopw [3] (fun v3 wr => ∃ k : Nat, k ≤ nx.length ∧ v3 = .int .i64 k ∧ (∀ i, i < k → (Lb.row nx i).length ≤ 200) ∧ w = wr) (fun v3 _ => nx.length - (intOf v3).toNat)
  case atStart => exact ⟨0, by omega, rfl, fun i hi => by omega, rfl⟩
  case round =>
    obtain ⟨k, hk, rfl, hall, rfl⟩ := hrel
    have HA := Lib.hid hall
    clear hall
    by_cases hlt : k < nx.length
    · obtain ⟨b, off, rfl, ra, rc, hck, hrk⟩ := (HL.out).cell k hlt
      have hrl : (Lb.row nx k).length ≤ 9223372036854775807 := by have := hmr k; unfold maxLen at this; omega
      clear hrk
      by_cases hgt : 200 < (Lb.row nx k).length
      · go_wp2
        go_ret
        exact ⟨true, rfl, fun h => absurd h (by simp), rfl⟩
      · go_wp2
        go_roundw
        case rel => exact ⟨k + 1, by omega, by go_num, fun i hi => by
          by_cases e : i = k
          · rw [e]; omega
          · exact HA.out i (by omega), trivial⟩
        case measure => simp [intOf]; omega
    · have hall2 : ∀ i, (Lb.row nx i).length ≤ 200 := fun i => by
        by_cases e : i < k
        · exact HA.out i e
        · unfold Lb.row
          rw [List.getD_eq_getElem?_getD, List.getElem?_eq_none (by omega)]
          simp
      have HA2 := Lib.hid hall2
      clear hall2
      by_cases hgt : 100 < nx.length
      · go_wp2
        go_ret
        exact ⟨_, rfl, fun h => by
          exfalso
          have : decide (100 < (nx.length : Int)) = true := by simp; omega
          simp at h; omega, rfl⟩
      · go_wp2
        go_ret
        exact ⟨_, rfl, fun _ => ⟨by omega, HA2.out⟩, rfl⟩
end Go.Proofs.Ytlmecpghlgndnaa
