/-
  Layer 41: the chapter's example; BoundTimes' walk.
-/
import Derived.Test.YtnljihankodedaaBoundWalks
import Derived.Deep.RegionWith
import Derived.Deep.RegionHeld3
namespace Go.Proofs.Ytnljihankodedaa
open Go.RowKit
set_option linter.unusedVariables false

def zeroModel : Array Value := #[.slice none 0 0, .slice none 0 0, .slice none 0 0, .slice none 0 0, .slice none 0 0, .slice none 0 0, .slice none 0 0, .slice none 0 0, .slice none 0 0, .slice none 0 0]
set_option maxHeartbeats 400000 in
theorem left0 (w : World) : Calls Try.prog 81 #[.agg zeroModel, .slice none 0 0] w fun e w' => e = .returned (.int .i64 0) ∧ w.alloc (.cells zeroModel 90) = w' := by
  unfold zeroModel
  go_enter Try.func81, Try.ntmps81
  go_wp2
  refine wp_loop_rounds 1 ?_
  rw [rounds_succ]
  go_wp2
  go_ret
  exact ⟨rfl, rfl⟩
set_option maxHeartbeats 400000 in
theorem cap0 (w : World) : Calls Try.prog 32 #[.int .i64 0] w fun e w' => e = .returned (.int .i64 0) ∧ w = w' := by
  go_enter Try.func32, Try.ntmps32
  go_wp2
  go_ret
  exact ⟨rfl, rfl⟩
theorem power20 (w : World) : Calls Try.prog 59 #[.int .i64 2, .int .i64 0] w fun e w' => e = .returned (.int .i64 1) ∧ w = w' := power_any 2 0 w (by omega) (by omega)
theorem power10 (w : World) : Calls Try.prog 59 #[.int .i64 1, .int .i64 0] w fun e w' => e = .returned (.int .i64 1) ∧ w = w' := power_any 1 0 w (by omega) (by omega)
theorem times11 (w : World) : Calls Try.prog 57 #[.int .i64 1, .int .i64 1] w fun e w' => e = .returned (.int .i64 1) ∧ w = w' := by
  have h := times_any 1 1 w (by omega) (by omega)
  have e : tm2 1 1 = 1 := by decide
  rwa [e] at h
theorem power23 (w : World) : Calls Try.prog 59 #[.int .i64 2, .int .i64 3] w fun e w' => e = .returned (.int .i64 8) ∧ w = w' := by
  have h := power_any 2 3 w (by omega) (by omega)
  have e : pw 2 (3 : Int).toNat = 8 := by decide
  rwa [e] at h
set_option maxHeartbeats 1000000 in
theorem nodes0 (w : World) : Calls Try.prog 72 #[.agg zeroModel, .int .i64 0] w fun e w' => e = .returned (.int .i64 1) ∧ Keeps (fun _ => False) w w' := by
  have hleft := fun w => left0 w
  unfold zeroModel at hleft ⊢
  have HLEFT := Lib.hid hleft
  have hc : ∀ j, (w.alloc (.cells #[.slice none 0 0, .slice none 0 0, .slice none 0 0, .slice none 0 0, .slice none 0 0, .slice none 0 0, .slice none 0 0, .slice none 0 0, .slice none 0 0, .slice none 0 0] 90)).cell? ⟨w.heap.size, j, none⟩ = (#[.slice none 0 0, .slice none 0 0, .slice none 0 0, .slice none 0 0, .slice none 0 0, .slice none 0 0, .slice none 0 0, .slice none 0 0, .slice none 0 0, .slice none 0 0] : Array Value)[j]? := fun j => World.cell?_alloc_at _ _ _ _ rfl
  clear hleft
  go_enter Try.func72, Try.ntmps72
  go_wp2_with (first | (go_at_call 59; refine (power20 _).mono ?_; rintro e w1 ⟨rfl, rfl⟩) | (go_at_call 57; refine (times11 _).mono ?_; rintro e w1 ⟨rfl, rfl⟩))
  refine wp_loop_rounds 1 ?_
  rw [rounds_succ]
  go_wp2
  refine wp_loop_rounds 1 ?_
  rw [rounds_succ]
  go_wp2_with fail
  go_region_with (first | (go_at_call 59; refine (power10 _).mono ?_; rintro e w1 ⟨rfl, rfl⟩) | (go_at_call 57; refine (times11 _).mono ?_; rintro e w1 ⟨rfl, rfl⟩) | (go_at_call 81; refine (HLEFT.out _).mono ?_; rintro e w1 ⟨rfl, rfl⟩) | (go_at_call 32; refine (cap0 _).mono ?_; rintro e w1 ⟨rfl, rfl⟩))
  all_goals go_wp2
  all_goals go_ret
  all_goals refine ⟨rfl, ?_⟩
  all_goals repeat' (first | (with_reducible exact Keeps.refl _ _) | (with_reducible refine Keeps.trans ?_ (Keeps.drew _ _)) | (with_reducible refine Keeps.trans ?_ (Keeps.alloc _ _ _)))
set_option maxHeartbeats 400000 in
theorem awake41_any (w : World) : Calls Try.prog 61 #[] w fun e w' => e = .returned (.bool true) ∧ Below w.heap.size w w' := by
  have hn := fun w => nodes0 w
  unfold zeroModel at hn
  have HN := Lib.hid hn
  clear hn
  go_enter Try.func61, Try.ntmps61
  go_wp2_with fail
  refine (HN.out _).mono ?_
  rintro e w1 ⟨rfl, k1⟩
  have b1 := k1.below (B := w.heap.size) (fun _ h => h.elim) (Nat.le_refl _)
  clear k1
  go_wp2_with fail
  refine (power23 _).mono ?_
  rintro e w2 ⟨rfl, rfl⟩
  go_wp2_with fail
  go_ret
  exact ⟨rfl, b1⟩
theorem pw_one (a : Int) : pw a (1 : Int).toNat = tm2 1 a := rfl
set_option maxHeartbeats 1000000 in
theorem boundTimes_walk (a b n : Int) (ha : -9223372036854775808 ≤ a ∧ a ≤ 9223372036854775807) (hb : -9223372036854775808 ≤ b ∧ b ≤ 9223372036854775807) (hn : -9223372036854775808 ≤ n ∧ n ≤ 9223372036854775807) (w : World) :
    Calls Try.prog 14 #[.int .i64 a, .int .i64 b, .int .i64 n] w fun e w' => e = .returned (.bool true) ∧ Below w.heap.size w w' := by
  have T1 := Lib.hid (fun w => times_any a b w ha hb)
  have R1 := Lib.hid (fun w => rtimes_any a b w (by omega) ha.2 hb.2)
  have t2 := fun w => times_any b a w hb ha
  rw [tm2_comm b a] at t2
  have T2 := Lib.hid t2
  have p1 := fun w => power_any a 1 w ha (by omega)
  rw [pw_one] at p1
  have P1 := Lib.hid p1
  have R2 := Lib.hid (fun w => rtimes_any 1 a w (by omega) (by omega) ha.2)
  have PN := Lib.hid (fun w => power_any a n w ha hn.2)
  clear t2 p1
  by_cases h90 : n ≤ 90
  · have RN := Lib.hid (fun w => rpower_any a n w ha h90)
    generalize tm2 a b = x at *
    generalize tm2 1 a = y at *
    generalize pw a n.toNat = z at *
    go_enter Try.func14, Try.ntmps14
    go_wp2_with fail
    refine (T1.out _).mono ?_
    rintro e w1 ⟨rfl, rfl⟩
    go_wp2_with fail
    refine (R1.out _).mono ?_
    rintro e w1 ⟨rfl, rfl⟩
    go_wp2_with fail
    refine (PN.out _).mono ?_
    rintro e w1 ⟨rfl, rfl⟩
    go_wp2_with fail
    refine (RN.out _).mono ?_
    rintro e w1 ⟨rfl, rfl⟩
    go_wp2_with fail
    refine (T2.out _).mono ?_
    rintro e w1 ⟨rfl, rfl⟩
    go_wp2_with fail
    refine (P1.out _).mono ?_
    rintro e w1 ⟨rfl, rfl⟩
    go_wp2_with fail
    refine (R2.out _).mono ?_
    rintro e w1 ⟨rfl, rfl⟩
    go_wp2_with fail
    refine (awake41_any _).mono ?_
    rintro e w1 ⟨rfl, hb1⟩
    go_wp2_with fail
    go_ret
    exact ⟨rfl, hb1⟩
  · generalize tm2 a b = x at *
    generalize tm2 1 a = y at *
    clear PN
    go_enter Try.func14, Try.ntmps14
    go_wp2_with fail
    refine (T1.out _).mono ?_
    rintro e w1 ⟨rfl, rfl⟩
    go_wp2_with fail
    refine (R1.out _).mono ?_
    rintro e w1 ⟨rfl, rfl⟩
    go_wp2_with fail
    refine (T2.out _).mono ?_
    rintro e w1 ⟨rfl, rfl⟩
    go_wp2_with fail
    refine (P1.out _).mono ?_
    rintro e w1 ⟨rfl, rfl⟩
    go_wp2_with fail
    refine (R2.out _).mono ?_
    rintro e w1 ⟨rfl, rfl⟩
    go_wp2_with fail
    refine (awake41_any _).mono ?_
    rintro e w1 ⟨rfl, hb1⟩
    go_wp2_with fail
    go_ret
    exact ⟨rfl, hb1⟩
end Go.Proofs.Ytnljihankodedaa
