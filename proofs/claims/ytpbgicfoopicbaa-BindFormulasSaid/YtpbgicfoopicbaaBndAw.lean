/-
  Bind: chapter 11's example: by a walk.
-/
import Derived.Test.YtpbgicfoopicbaaBndNeed
namespace Go.Proofs.Ytpbgicfoopicbaa
open Go.RowKit Go.Maps
set_option linter.unusedVariables false
set_option linter.unusedSimpArgs false

set_option maxHeartbeats 1000000 in
theorem bawake_any (w : World) : Calls Try.prog 30 #[] w fun e w' => e = .returned (.bool true) ∧ Below w.heap.size w w' := by
  have hq : ∀ w, (Op.equalIn 10000 48 (.agg #[.int .i64 0, .int .i64 0, .int .i64 0]) (.agg #[.int .i64 0, .int .i64 0, .int .i64 0])).run Try.prog w = .ok true w := fun w => neqFault 0 0 0 0 0 0 w
  have hv1 : ∀ w, (Op.equalIn 10000 68 (.agg #[.int .i64 1, .int .i64 0]) (.agg #[.int .i64 1, .int .i64 0])).run Try.prog w = .ok true w := fun w => beqVal 9998 1 0 1 0 w
  have hv2 : ∀ w, (Op.equalIn 10000 68 (.agg #[.int .i64 (-1), .int .i64 3]) (.agg #[.int .i64 (-1), .int .i64 3])).run Try.prog w = .ok true w := fun w => beqVal 9998 (-1) 3 (-1) 3 w
  go_enter Try.func30, Try.ntmps30
  go_wp2_with fail
  refine (bex_build w _ rfl).mono ?_
  rintro e w2 ⟨p, rfl, hb, hnd⟩
  have HB := Lib.hid hb
  have HND := Lib.hid hnd
  clear hb hnd
  go_wp2_with fail
  have HB3 : Hid (Below w2.heap.size w2 (w2.alloc (.cells #[.int .i64 0, .int .i64 0, .int .i64 0] 48))) := Lib.hid (bbel_alloc _ _)
  have z3 : (w2.alloc (.cells #[.int .i64 0, .int .i64 0, .int .i64 0] 48)).heap.size = w2.heap.size + 1 := by simp
  have hF := heap_alloc_new w2 (.cells #[.int .i64 0, .int .i64 0, .int .i64 0] 48)
  generalize w2.alloc (.cells #[.int .i64 0, .int .i64 0, .int .i64 0] 48) = w3 at *
  rw [← z3]
  clear z3 hF
  have HN2 : Hid (∀ o, NeedP (npOf bexL) p (w3.alloc o)) := Lib.hid fun o => HND.out _ (HB3.out.trans ((bbel_alloc w3 o).mono HB3.out.size))
  refine (bex_form p w3 _ rfl (HN2.out _)).mono ?_
  rintro e w4 ⟨g, cap, rfl, hb4, c1, c2, c3, c4⟩
  have HB5 : Hid (∀ o, Below w.heap.size w (w4.alloc o)) := Lib.hid fun o => ((HB.out.trans (HB3.out.mono HB.out.size)).trans (hb4.mono (Nat.le_trans HB.out.size HB3.out.size))).trans ((bbel_alloc w4 o).mono (Nat.le_trans (Nat.le_trans HB.out.size HB3.out.size) hb4.size))
  have hg := lt_of_cell c1
  have d1 : ∀ o, (w4.alloc o).cell? ⟨g, 1, none⟩ = some (.int .i64 1) := fun o => by rw [World.cell?_alloc_past _ _ _ hg]; exact c1
  have d2 : ∀ o, (w4.alloc o).cell? ⟨g, 2, none⟩ = some (.int .i64 0) := fun o => by rw [World.cell?_alloc_past _ _ _ hg]; exact c2
  have d3 : ∀ o, (w4.alloc o).cell? ⟨g, 3, none⟩ = some (.int .i64 (-1)) := fun o => by rw [World.cell?_alloc_past _ _ _ hg]; exact c3
  have d4 : ∀ o, (w4.alloc o).cell? ⟨g, 4, none⟩ = some (.int .i64 3) := fun o => by rw [World.cell?_alloc_past _ _ _ hg]; exact c4
  clear hb4 c1 c2 c3 c4 hg
  go_wp2_with fail
  go_ret
  exact ⟨rfl, HB5.out _⟩
end Go.Proofs.Ytpbgicfoopicbaa
