/-
  eval.truth of a comparison, the row of truths, the closure that recovers: by walks.
-/
import Derived.Test.YtpbgicfoopicbaaEvalClo
import Derived.Defers
import Derived.Recover
import Derived.BigQuiet
namespace Go.Proofs.Ytpbgicfoopicbaa
open Go.RowKit
set_option linter.unusedVariables false
set_option linter.unusedSimpArgs false

set_option maxHeartbeats 1000000 in
theorem truth_any (g h : Nat) (rp : Option Addr) (w : World) (s : StAt w h g) :
    Calls Try.prog 72 #[.agg #[.int .i64 3, .int .i64 0, .int .i64 0, .int .i64 (-1), .int .i64 3, .int .i64 0, .int .i64 0], .agg #[.slice (some ⟨g, 0, none⟩) 1 1, .int .i64 0, .int .i64 0, .slice none 0 0, .slice none 0 0], .pointer rp, .func (.func 57) #[] #[.pointer (some ⟨h, 0, none⟩)]] w fun e w' => e = .returned (.iface 4 (.bool true)) ∧ Below w.heap.size w w' := by
  have hu : ∀ b : Bool, ¬ (some undef = some (Value.bool b)) := fun b h => by cases h
  obtain ⟨W1, hW1⟩ : ∃ W1, w.alloc (.cells #[.int .i64 3, .int .i64 0, .int .i64 0, .int .i64 (-1), .int .i64 3, .int .i64 0, .int .i64 0] 70) = W1 := ⟨_, rfl⟩
  obtain ⟨W2, hW2⟩ : ∃ W2, W1.alloc (.cells #[.slice (some ⟨g, 0, none⟩) 1 1, .int .i64 0, .int .i64 0, .slice none 0 0, .slice none 0 0] 60) = W2 := ⟨_, rfl⟩
  have b1 := bel_new w (.cells #[.int .i64 3, .int .i64 0, .int .i64 0, .int .i64 (-1), .int .i64 3, .int .i64 0, .int .i64 0] 70)
  have i1 := inst_new w 70
  rw [hW1] at b1 i1
  have b2 := bel_new W1 (.cells #[.slice (some ⟨g, 0, none⟩) 1 1, .int .i64 0, .int .i64 0, .slice none 0 0, .slice none 0 0] 60)
  rw [hW2] at b2
  have i2 := i1.mono b2 (Nat.le_refl _)
  have B := Lib.hid (b1.trans (b2.mono b1.size))
  have C := Lib.hid (clo_any g h W2 (s.mono B.out (Nat.le_refl _)))
  obtain ⟨i0, i1', i2, i3, i4, i5, i6⟩ := i2
  clear s b1 b2 i1
  go_enter Try.func72, Try.ntmps72
  rw [← hW2, ← hW1] at i0 i1' i2 i3 i4 i5 i6 C B
  clear hW1 hW2
  go_wp2_with fail
  refine C.out.mono ?_
  rintro e w3 ⟨rfl, b3⟩
  have B3 := Lib.hid (B.out.trans (b3.mono B.out.size))
  clear b3
  go_wp2_with fail
  go_ret
  exact ⟨rfl, B3.out⟩
theorem infoAny : (Try.prog.info? 20).map (fun i => (i.zero, i.size, i.bytes)) = some (some .nilIface, 1, 16) := by kernel_rfl
set_option maxHeartbeats 1000000 in
theorem put_nil (p : Nat) (t : TypeId) (v : Value) (w : World) (hp : w.cell? ⟨p, 0, none⟩ = some (.slice none 0 0)) (hz : w.frozen? ⟨p, 0, none⟩ = false) :
    Calls Try.prog 71 #[.pointer (some ⟨p, 0, none⟩), .iface t v] w fun e w' => e = .returned (.tuple #[]) ∧ ∃ g cap, w'.cell? ⟨p, 0, none⟩ = some (.slice (some ⟨g, 0, none⟩) 1 cap) ∧ w'.frozen? ⟨p, 0, none⟩ = false ∧ 1 ≤ cap ∧ w'.cell? ⟨g, 0, none⟩ = some (.iface t v) ∧ w.heap.size ≤ g ∧ Keeps (fun j => j = p) w w' := by
  have hlt : p < w.heap.size := lt_of_cell hp
  have HP := Lib.hid (And.intro hp hz)
  go_enter Try.func71, Try.ntmps71
  go_wp2_with (at_builtin; refine append_at (v := .slice none 0 0) rfl _ _ 136 rfl 20 .nilIface 1 16 Try.underlying136 infoAny rfl (by decide) rfl (World.ownsRow_nil w 0 20 1) (by omega) [.iface t v] rfl (by simp [Value.oneCell']) rfl rfl (by decide) (by omega) ?_; intro g5 cap5 w5 own5 keep5 where5; have bel5 := keep5.below (B := w.heap.size) (fun j hj => by cases hj) (Nat.le_refl _); have p5 := (bel5.cell (p := ⟨p, 0, none⟩) hlt).trans (HP.out).1; have z5 := (bel5.frozen (p := ⟨p, 0, none⟩) hlt).trans (HP.out).2; have HW := Lib.hid (And.intro own5 (And.intro keep5 where5)); clear own5 keep5 where5 bel5)
  go_end0
  have hg : w.heap.size ≤ g5 := by
    rcases (HW.out).2.2 with h | h
    · cases h
    · exact h
  have hne : g5 ≠ p := by omega
  have own := (HW.out).1
  obtain ⟨g', cap', hv, _, hcap, _⟩ := own_some own (by decide)
  simp only [Value.slice.injEq, true_and] at hv
  obtain ⟨_, rfl⟩ := hv
  have hc : w5.cell? ⟨g5, 0, none⟩ = some (.iface t v) := by rw [own.cellAt 0 (by decide)]; rfl
  refine ⟨rfl, g5, cap5, ?_, ?_, hcap, ?_, hg, ?_⟩
  · simp [World.cell?_setCell_same, p5]
  · simp [z5]
  · rw [World.cell?_setCell_other _ _ _ _ (by simp)]; exact hc
  · have k5 : Keeps (fun j => j = p) w w5 := ⟨(HW.out).2.1.os, (HW.out).2.1.tape, (HW.out).2.1.output, (HW.out).2.1.size, fun k hk hs => (HW.out).2.1.block k hk (fun e => by cases e)⟩
    exact k5.trans (Keeps.setCell w5 ⟨p, 0, none⟩ _ rfl)
theorem ta_bool (b : Bool) (w : World) : (Instr.typeAssert (.iface 4 (.bool b)) 20 4 false).run Try.prog w = .ok (.bool b) w := by kernel_rfl
set_option maxHeartbeats 1000000 in
theorem take_any (p g cap : Nat) (b : Bool) (w : World) (hp : w.cell? ⟨p, 0, none⟩ = some (.slice (some ⟨g, 0, none⟩) 1 cap)) (hz : w.frozen? ⟨p, 0, none⟩ = false) (hc : 1 ≤ cap) (hg : w.cell? ⟨g, 0, none⟩ = some (.iface 4 (.bool b))) :
    Calls Try.prog 73 #[.pointer (some ⟨p, 0, none⟩)] w fun e w' => e = .returned (.bool b) ∧ w'.cell? ⟨p, 0, none⟩ = some (.slice (some ⟨g, 0, none⟩) 0 cap) ∧ Keeps (fun j => j = p) w w' := by
  have hu : ∀ b : Bool, ¬ (some undef = some (Value.bool b)) := fun b h => by cases h
  have ht := fun w => ta_bool b w
  go_enter Try.func73, Try.ntmps73
  go_wp2
  go_quiet (fail)
  go_wp2
  go_region
  all_goals (try go_wp2)
  all_goals go_ret
  all_goals refine ⟨rfl, ?_, ?_⟩
  all_goals first
    | (simp [World.cell?_setCell_same, hp]; done)
    | (repeat (first | exact Keeps.refl _ _ | exact (Keeps.drewN _ _ _).trans (Keeps.setCell _ ⟨p, 0, none⟩ _ rfl) | refine Keeps.trans ?_ (Keeps.setCell _ ⟨p, 0, none⟩ _ rfl) | refine Keeps.trans ?_ (Keeps.drewN _ _ 1)))
    | skip
theorem idle_any (p q : Nat) (w : World) :
    CallsD Try.prog 70 #[.pointer (some ⟨p, 0, none⟩), .pointer (some ⟨q, 0, none⟩)] .returning w fun e u' w' => e = .returned (.tuple #[]) ∧ u' = .returning ∧ w' = w := by
  refine callsD_of_wpS Try.func70 rfl fun c₀ cs hu => ?_
  apply wpS_seq
  apply wpS_region
  simp [wpOpsS, go_sem, recoverD, hu, Try.ntmps70, Exit.thenS]
  refine wpS_cond (t := false) (by simp [Act.eval, Array.replicate]) ?_
  simp only [Bool.false_eq_true, if_false]
  refine wpS_of_wp (wp_skip ?_)
  cases c₀
  simp_all [bodyPostS, results, Try.results70]
end Go.Proofs.Ytpbgicfoopicbaa
