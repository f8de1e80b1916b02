/-
  eval.Compare, eval.number: by walks.
-/
import Derived.Test.YtpbgicfoopicbaaRec
import Derived.WideLaws
namespace Go.Proofs.Ytpbgicfoopicbaa
open Go.RowKit
set_option linter.unusedVariables false
set_option linter.unusedSimpArgs false

/-- How two numbers compare. -/
def cmpB (op a b : Int) : Bool :=
  if op = 3 then decide (a < b) else if op = 4 then decide (a ≤ b) else if op = 5 then decide (b < a) else if op = 6 then decide (b ≤ a) else if op = 7 then a == b else if op = 8 then a != b else false
theorem cmp_cases (op : Int) (Q : Int → Prop) (h3 : Q 3) (h4 : Q 4) (h5 : Q 5) (h6 : Q 6) (h7 : Q 7) (h8 : Q 8)
    (hr : (op == 3) = false → (op == 4) = false → (op == 5) = false → (op == 6) = false → (op == 7) = false → (op == 8) = false → Q op) : Q op := by
  by_cases e3 : op = 3
  · rw [e3]; exact h3
  by_cases e4 : op = 4
  · rw [e4]; exact h4
  by_cases e5 : op = 5
  · rw [e5]; exact h5
  by_cases e6 : op = 6
  · rw [e6]; exact h6
  by_cases e7 : op = 7
  · rw [e7]; exact h7
  by_cases e8 : op = 8
  · rw [e8]; exact h8
  exact hr (by simpa using e3) (by simpa using e4) (by simpa using e5) (by simpa using e6) (by simpa using e7) (by simpa using e8)
theorem cmpB_none {op : Int} (a b : Int) (h3 : (op == 3) = false) (h4 : (op == 4) = false) (h5 : (op == 5) = false) (h6 : (op == 6) = false) (h7 : (op == 7) = false) (h8 : (op == 8) = false) : cmpB op a b = false := by
  simp only [beq_eq_false_iff_ne] at h3 h4 h5 h6 h7 h8
  unfold cmpB
  rw [if_neg h3, if_neg h4, if_neg h5, if_neg h6, if_neg h7, if_neg h8]
set_option maxHeartbeats 1000000 in
theorem cmp_any (op a b : Int) (w : World) : Calls Try.prog 55 #[.int .i64 op, .int .i64 a, .int .i64 b] w fun e w' => e = .returned (.bool (cmpB op a b)) ∧ w = w' := by
  have hu : ∀ b : Bool, ¬ (some undef = some (Value.bool b)) := fun b h => by cases h
  refine cmp_cases op (fun op => Calls Try.prog 55 #[.int .i64 op, .int .i64 a, .int .i64 b] w fun e w' => e = .returned (.bool (cmpB op a b)) ∧ w = w') ?_ ?_ ?_ ?_ ?_ ?_ ?_
  iterate 6
    · go_enter Try.func55, Try.ntmps55
      go_wp2
      go_ret
      exact ⟨ret_bool (by simp [cmpB]), rfl⟩
  intro h3 h4 h5 h6 h7 h8
  have HN := Lib.hid (cmpB_none a b h3 h4 h5 h6 h7 h8)
  go_enter Try.func55, Try.ntmps55
  go_wp2
  go_ret
  exact ⟨ret_bool HN.out.symm, rfl⟩
/-- A state whose numbers lie there. -/
def stV (g : Nat) : Value := .agg #[.slice (some ⟨g, 0, none⟩) 1 1, .int .i64 0, .int .i64 0, .slice none 0 0, .slice none 0 0]
theorem bel_new (w : World) (o : Obj) : Below w.heap.size w (w.alloc o) := (Keeps.alloc (fun _ => False) w o).below (fun _ h => h.elim) (Nat.le_refl _)
set_option maxHeartbeats 1000000 in
theorem number_lit (g : Nat) (w : World) : Calls Try.prog 58 #[.agg #[.slice (some ⟨g, 0, none⟩) 1 1, .int .i64 0, .int .i64 0, .slice none 0 0, .slice none 0 0], .agg #[.int .i64 (-1), .int .i64 3]] w fun e w' => e = .returned (.tuple #[.int .i64 3, .bool true]) ∧ Below w.heap.size w w' := by
  have hu : ∀ b : Bool, ¬ (some undef = some (Value.bool b)) := fun b h => by cases h
  go_enter Try.func58, Try.ntmps58
  go_wp2
  go_ret2
  exact ⟨rfl, ((Below.refl _ _).alloc (Nat.le_refl _) _).alloc (by simp) _⟩
set_option maxHeartbeats 1000000 in
theorem number_at (g : Nat) (w : World) (h0 : w.cell? ⟨g, 0, none⟩ = some (.int .i64 2)) : Calls Try.prog 58 #[.agg #[.slice (some ⟨g, 0, none⟩) 1 1, .int .i64 0, .int .i64 0, .slice none 0 0, .slice none 0 0], .agg #[.int .i64 0, .int .i64 0]] w fun e w' => e = .returned (.tuple #[.int .i64 2, .bool true]) ∧ Below w.heap.size w w' := by
  have hu : ∀ b : Bool, ¬ (some undef = some (Value.bool b)) := fun b h => by cases h
  have hg : g < w.heap.size := lt_of_cell h0
  go_enter Try.func58, Try.ntmps58
  go_wp2
  go_ret2
  exact ⟨rfl, ((Below.refl _ _).alloc (Nat.le_refl _) _).alloc (by simp) _⟩
end Go.Proofs.Ytpbgicfoopicbaa
