/-
  NumAdds, NumGaps: the laws' bodies, by walks.
-/
import Derived.Test.YtlmecpghlgndnaaDoorNumRow
namespace Go.Proofs.YtlmecpghlgndnaaDoor
open Go.RowKit
set_option linter.unusedVariables false
set_option linter.unusedSimpArgs false

set_option maxHeartbeats 1000000 in
theorem adds_any (a b : Int) (w : World) (ha : -9223372036854775808 ≤ a ∧ a ≤ 9223372036854775807) (hb : -9223372036854775808 ≤ b ∧ b ≤ 9223372036854775807) (hn : NumIs w) :
    Calls Tryd.prog 5 #[.int .i64 a, .int .i64 b] w fun e w' => e = .returned (.bool true) ∧ Below w.heap.size w w' := by
  have hu : ∀ b : Bool, ¬ (some undef = some (Value.bool b)) := fun b h => by cases h
  have HW := Lib.hid (awake_any w hn)
  have hA := add_any a b w ha hb
  have hR := radd_any a b w ha hb
  by_cases hf : Nm.fits (a + b)
  · rw [Nm.addV_ok hf] at hA hR
    have HA := Lib.hid hA
    have HR := Lib.hid hR
    have hf' : -9223372036854775808 ≤ a + b ∧ a + b ≤ 9223372036854775807 := hf
    by_cases hm : b = -9223372036854775808
    · subst hm
      clear hA hR hf hn
      go_enter Tryd.func5, Tryd.ntmps5
      go_wp2_with (first | (go_at_call 13; refine HA.out.mono ?_; rintro e w2 ⟨rfl, rfl⟩) | (go_at_call 14; refine HR.out.mono ?_; rintro e w3 ⟨rfl, rfl⟩) | (go_at_call 10; refine HW.out.mono ?_; rintro e w5 ⟨rfl, hb5⟩))
      all_goals go_ret
      all_goals exact ⟨rfl, hb5⟩
    · have hw : wrap64 (-b) = -b := by unfold wrap64; omega
      have hB := add_any (a + b) (-b) w hf' (by omega)
      rw [Nm.addV_ok (show Nm.fits (a + b + -b) by unfold Nm.fits; omega), show a + b + -b = a by omega] at hB
      have HB := Lib.hid hB
      clear hA hR hB hf hn
      go_enter Tryd.func5, Tryd.ntmps5
      go_wp2_with (first | (go_at_call 13; first | (with_reducible refine HA.out.mono ?_; rintro e w2 ⟨rfl, rfl⟩) | (with_reducible refine HB.out.mono ?_; rintro e w2 ⟨rfl, rfl⟩)) | (go_at_call 14; refine HR.out.mono ?_; rintro e w3 ⟨rfl, rfl⟩) | (go_at_call 10; refine HW.out.mono ?_; rintro e w5 ⟨rfl, hb5⟩))
      all_goals go_ret
      all_goals exact ⟨rfl, hb5⟩
  · rw [Nm.addV_no hf] at hA hR
    have HA := Lib.hid hA
    have HR := Lib.hid hR
    clear hA hR hf hn
    go_enter Tryd.func5, Tryd.ntmps5
    go_wp2_with (first | (go_at_call 13; refine HA.out.mono ?_; rintro e w2 ⟨rfl, rfl⟩) | (go_at_call 14; refine HR.out.mono ?_; rintro e w3 ⟨rfl, rfl⟩) | (go_at_call 10; refine HW.out.mono ?_; rintro e w5 ⟨rfl, hb5⟩))
    all_goals go_ret
    all_goals exact ⟨rfl, hb5⟩

set_option maxHeartbeats 1000000 in
theorem gaps_any (a b m : Int) (w : World) (ha : -9223372036854775808 ≤ a ∧ a ≤ 9223372036854775807) (hb : -9223372036854775808 ≤ b ∧ b ≤ 9223372036854775807) (hm : -9223372036854775808 ≤ m ∧ m ≤ 9223372036854775807) (hn : NumIs w) :
    Calls Tryd.prog 6 #[.int .i64 a, .int .i64 b, .int .i64 m] w fun e w' => e = .returned (.bool true) ∧ Below w.heap.size w w' := by
  have hu : ∀ b : Bool, ¬ (some undef = some (Value.bool b)) := fun b h => by cases h
  have HW := Lib.hid (awake_any w hn)
  have HG := Lib.hid (gap_any a b m w ha hb hm)
  by_cases h1 : 5000 < m
  · have HG5 := Lib.hid (gap_any a b 5000 w ha hb (by omega))
    have h2 : Nm.gap a b 5000 ≤ Nm.gap a b m := by
      unfold Nm.gap
      split <;> split <;> omega
    have h3 : Nm.gap a b m ≤ m := by
      unfold Nm.gap
      split <;> omega
    generalize Nm.gap a b 5000 = G5 at *
    generalize Nm.gap a b m = G at *
    have hne : ¬ m = 5000 := by omega
    clear hn
    go_enter Tryd.func6, Tryd.ntmps6
    go_wp2_with (first | (go_at_call 15; first | (with_reducible refine HG.out.mono ?_; rintro e w2 ⟨rfl, rfl⟩) | (with_reducible refine HG5.out.mono ?_; rintro e w2 ⟨rfl, rfl⟩)) | (go_at_call 10; refine HW.out.mono ?_; rintro e w5 ⟨rfl, hb5⟩))
    all_goals go_ret
    all_goals exact ⟨rfl, hb5⟩
  · have HR := Lib.hid (rgap_any a b m w ha hb (by omega))
    generalize Nm.gap a b m = G at *
    clear hn
    go_enter Tryd.func6, Tryd.ntmps6
    go_wp2_with (first | (go_at_call 15; refine HG.out.mono ?_; rintro e w2 ⟨rfl, rfl⟩) | (go_at_call 16; refine HR.out.mono ?_; rintro e w3 ⟨rfl, rfl⟩) | (go_at_call 10; refine HW.out.mono ?_; rintro e w5 ⟨rfl, hb5⟩))
    all_goals go_ret
    all_goals exact ⟨rfl, hb5⟩
end Go.Proofs.YtlmecpghlgndnaaDoor
