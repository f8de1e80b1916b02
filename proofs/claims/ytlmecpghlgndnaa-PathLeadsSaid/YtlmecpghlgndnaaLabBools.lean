/-
  Lists of truths that are handed back.
-/
import Derived.Test.YtlmecpghlgndnaaLabStack
namespace Go.Proofs.Ytlmecpghlgndnaa
open Go.RowKit
set_option linter.unusedVariables false
set_option linter.unusedSimpArgs false

/-- A list of truths of the call's own that is handed back. -/
def BoolsAns (Q : List Bool → Prop) (w : World) (e : Ending) (w' : World) : Prop :=
  ∃ x R, e = .returned x ∧ Q R ∧ w'.ownsRow w.heap.size 4 1 x R.length (R.map Value.bool) ∧ Below w.heap.size w w'
theorem bool_cell {w : World} {B g n : Nat} {F : List Bool} {e : TypeId} (h : w.ownsRow B e 1 (.slice (some ⟨g, 0, none⟩) n n) n (F.map Value.bool)) (i : Nat) (hi : i < n) : w.cell? ⟨g, i, none⟩ = some (.bool (Lb.inB F i)) := by
  have hl : F.length = n := by have := h.1; simpa using this
  rw [h.cellAt i (by omega), List.getElem?_map, Lb.getD_at F i false (by omega)]
  rfl
theorem own_blen {w : World} {B n : Nat} {v : Value} {F : List Bool} {e : TypeId} (h : w.ownsRow B e 1 v n (F.map Value.bool)) : F.length = n := by have := h.1; simpa using this
theorem bool_stored {w : World} {B g n : Nat} {F : List Bool} {e : TypeId} (h : w.ownsRow B e 1 (.slice (some ⟨g, 0, none⟩) n n) n (F.map Value.bool)) (i : Nat) (b : Bool) : (w.setCell ⟨g, i, none⟩ (.bool b)).ownsRow B e 1 (.slice (some ⟨g, 0, none⟩) n n) n ((F.set i b).map Value.bool) := by
  have := (h.stored i (.bool b)).1
  rwa [← List.map_set] at this
theorem inB_set (F : List Bool) (k j : Nat) (b : Bool) (hk : k < F.length) : Lb.inB (F.set k b) j = if j = k then b else Lb.inB F j := Lb.getD_set F k j b false hk
theorem inB_rep (n i : Nat) : Lb.inB (List.replicate n false) i = false := by
  unfold Lb.inB
  rw [List.getD_eq_getElem?_getD, List.getElem?_replicate]
  split <;> rfl
end Go.Proofs.Ytlmecpghlgndnaa
