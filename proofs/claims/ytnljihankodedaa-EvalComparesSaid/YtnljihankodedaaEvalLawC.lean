/-
  The law of how numbers compare: by a walk.
-/
import Derived.Test.YtnljihankodedaaEvalAw
namespace Go.Proofs.Ytnljihankodedaa
open Go.RowKit
set_option linter.unusedVariables false
set_option linter.unusedSimpArgs false

set_option maxHeartbeats 1000000 in
theorem rcmp_any (op a b : Int) (w : World) : Calls Try.prog 30 #[.int .i64 op, .int .i64 a, .int .i64 b] w fun e w' => e = .returned (.bool (cmpB op a b)) ∧ w = w' := by
  have hu : ∀ b : Bool, ¬ (some undef = some (Value.bool b)) := fun b h => by cases h
  refine cmp_cases op (fun op => Calls Try.prog 30 #[.int .i64 op, .int .i64 a, .int .i64 b] w fun e w' => e = .returned (.bool (cmpB op a b)) ∧ w = w') ?_ ?_ ?_ ?_ ?_ ?_ ?_
  iterate 6
    · go_enter Try.func30, Try.ntmps30
      go_wp2
      go_ret
      exact ⟨ret_bool (by simp [cmpB]), rfl⟩
  intro h3 h4 h5 h6 h7 h8
  have HN := Lib.hid (cmpB_none a b h3 h4 h5 h6 h7 h8)
  go_enter Try.func30, Try.ntmps30
  go_wp2
  go_ret
  exact ⟨ret_bool HN.out.symm, rfl⟩
set_option maxHeartbeats 1000000 in
theorem evalCompares_walk (op a b : Int) (w : World) : Calls Try.prog 6 #[.int .i64 op, .int .i64 a, .int .i64 b] w fun e w' => e = .returned (.bool true) ∧ Below w.heap.size w w' := by
  have hu : ∀ b : Bool, ¬ (some undef = some (Value.bool b)) := fun b h => by cases h
  have C1 := Lib.hid (cmp_any op a b w)
  have C2 := Lib.hid (rcmp_any op a b w)
  have C3 := Lib.hid (cmp_any 3 a b w)
  have C6 := Lib.hid (cmp_any 6 a b w)
  have C7 := Lib.hid (cmp_any 7 a b w)
  have C8 := Lib.hid (cmp_any 8 a b w)
  have e6 : cmpB 6 a b = !cmpB 3 a b := by
    simp only [cmpB]
    by_cases h : a < b
    · simp [h, show ¬ b ≤ a by omega]
    · simp [h, show b ≤ a by omega]
  have e8 : cmpB 8 a b = !cmpB 7 a b := by simp [cmpB, bne]
  rw [e6] at C6
  rw [e8] at C8
  clear e6 e8
  generalize cmpB op a b = x at *
  generalize cmpB 3 a b = y at *
  generalize cmpB 7 a b = z at *
  have hxx : (x == x) = true := by simp
  have hyy : (y == !!y) = true := by simp
  have hzz : (z == !!z) = true := by simp
  go_enter Try.func6, Try.ntmps6
  go_wp2_with fail
  refine C1.out.mono ?_
  rintro e w2 ⟨rfl, rfl⟩
  go_wp2_with fail
  refine C2.out.mono ?_
  rintro e w2 ⟨rfl, rfl⟩
  go_wp2_with fail
  refine C3.out.mono ?_
  rintro e w2 ⟨rfl, rfl⟩
  go_wp2_with fail
  refine C6.out.mono ?_
  rintro e w2 ⟨rfl, rfl⟩
  go_wp2_with fail
  refine C7.out.mono ?_
  rintro e w2 ⟨rfl, rfl⟩
  go_wp2_with fail
  refine C8.out.mono ?_
  rintro e w2 ⟨rfl, rfl⟩
  go_wp2_with fail
  refine (awake16_any w).mono ?_
  rintro e w7 ⟨rfl, hb7⟩
  go_wp2_with fail
  go_ret
  exact ⟨rfl, hb7⟩
end Go.Proofs.Ytnljihankodedaa
