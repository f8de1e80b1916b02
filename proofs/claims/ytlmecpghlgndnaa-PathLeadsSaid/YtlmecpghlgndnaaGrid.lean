/-
  A slice of slices of the call's own: its rows, what a store into it and an append to a row leave.
-/
import Derived.Test.YtlmecpghlgndnaaKit
namespace Go.Proofs.Ytlmecpghlgndnaa
open Go.RowKit
set_option linter.unusedVariables false

theorem lie_ne {w : World} {B : Nat} {e : TypeId} {v : Value} {n size : Nat} {xs : List Value} (h : w.ownsRow B e size v n xs) {k : Nat} {cs : Array Value} {t : TypeId} {fz : Nat × Nat} (hk : w.heap[k]? = some (.cells cs t fz)) (hne : e ≠ t) : v.ownBlock ≠ some k := by
  intro hv
  rcases h.2 with ⟨rfl, _⟩ | ⟨g, cap, cur, rfl, _, hg, _⟩
  · cases hv
  · simp [Value.ownBlock] at hv
    subst hv
    rw [hk] at hg
    simp at hg
    exact hne hg.2.1.symm
theorem lie_apart {w : World} {B B' : Nat} {e e' : TypeId} {v v' : Value} {n n' size size' : Nat} {xs xs' : List Value} (h : w.ownsRow B e size v n xs) (h' : w.ownsRow B' e' size' v' n' xs') (hne : e ≠ e') : ∀ k, v.ownBlock = some k → v'.ownBlock ≠ some k := by
  intro k hv hv'
  rcases h'.2 with ⟨rfl, _⟩ | ⟨g, cap, cur, rfl, _, hg, _⟩
  · cases hv'
  · simp [Value.ownBlock] at hv'
    subst hv'
    exact lie_ne h hg hne hv
/-- The outer slice v holds the slices vs, and these the rows; no two share memory. -/
structure Grid (w : World) (B : Nat) (te e : TypeId) (g n : Nat) (vs : List Value) (rows : List (List Value)) : Prop where
  outer : w.ownsRow B te 1 (.slice (some ⟨g, 0, none⟩) n n) n vs
  len : rows.length = n
  row : ∀ (p : Nat) (x : Value) (r : List Value), vs[p]? = some x → rows[p]? = some r → w.ownsRow B e 1 x r.length r
  apart : ∀ (p q : Nat) (x y : Value) (j : Nat), p ≠ q → vs[p]? = some x → vs[q]? = some y → x.ownBlock = some j → y.ownBlock ≠ some j
  ne : e ≠ te
section
variable {w w' : World} {B g n : Nat} {te e : TypeId} {vs : List Value} {rows : List (List Value)}
theorem Grid.vlen (h : Grid w B te e g n vs rows) : vs.length = n := by have := h.outer.1; omega
theorem Grid.base (h : Grid w B te e g n vs rows) : B ≤ g ∧ g < w.heap.size := by
  have := h.outer.lt g rfl
  exact this
/-- Which blocks it lies in. -/
def GridIn (g : Nat) (vs : List Value) (j : Nat) : Prop := j = g ∨ ∃ (p : Nat) (x : Value), vs[p]? = some x ∧ x.ownBlock = some j
theorem Grid.in_lt (h : Grid w B te e g n vs rows) (j : Nat) (hj : GridIn g vs j) : B ≤ j ∧ j < w.heap.size := by
  rcases hj with rfl | ⟨p, x, hp, hx⟩
  · exact h.base
  · have hl : p < rows.length := by rw [h.len, ← h.vlen]; exact (List.getElem?_eq_some_iff.1 hp).1
    exact (h.row p x _ hp (List.getElem?_eq_getElem hl)).lt j hx
theorem Grid.keeps {S : Nat → Prop} (h : Grid w B te e g n vs rows) (k : Keeps S w w') (hS : ∀ j, GridIn g vs j → ¬ S j) : Grid w' B te e g n vs rows :=
  ⟨k.own h.outer (fun j hj => hS j (by simp [Value.ownBlock] at hj; exact Or.inl hj.symm)), h.len, fun p x r hp hr => k.own (h.row p x r hp hr) (fun j hj => hS j (Or.inr ⟨p, x, hp, hj⟩)), h.apart, h.ne⟩
/-- Cell p of the outer slice. -/
theorem Grid.cell (h : Grid w B te e g n vs rows) (p : Nat) (hp : p < n) : ∃ x r, vs[p]? = some x ∧ rows[p]? = some r ∧ w.cell? ⟨g, p, none⟩ = some x ∧ w.ownsRow B e 1 x r.length r := by
  have h1 : p < vs.length := by rw [h.vlen]; exact hp
  have h2 : p < rows.length := by rw [h.len]; exact hp
  refine ⟨vs[p], rows[p], List.getElem?_eq_getElem h1, List.getElem?_eq_getElem h2, ?_, h.row p _ _ (List.getElem?_eq_getElem h1) (List.getElem?_eq_getElem h2)⟩
  rw [h.outer.cellAt p (by omega), List.getElem?_eq_getElem h1]
/-- While a row grows the outer slice stands. -/
theorem Grid.stands (h : Grid w B te e g n vs rows) (p : Nat) (x : Value) (r : List Value) (hx : vs[p]? = some x) (hr : rows[p]? = some r) (k : Keeps (fun j => x.ownBlock = some j) w w') :
    w'.ownsRow B te 1 (.slice (some ⟨g, 0, none⟩) n n) n vs :=
  k.own h.outer (fun j hj e0 => by simp [Value.ownBlock] at hj; subst hj; exact lie_apart (h.row p x r hx hr) h.outer h.ne g e0 rfl)
/-- A row has grown: its new slice is stored. -/
theorem Grid.append (h : Grid w B te e g n vs rows) (p : Nat) (x : Value) (r : List Value) (hx : vs[p]? = some x) (hr : rows[p]? = some r) (u : Value) {g' cap : Nat}
    (k : Keeps (fun j => x.ownBlock = some j) w w') (own : w'.ownsRow B e 1 (.slice (some ⟨g', 0, none⟩) (r.length + 1) cap) (r.length + 1) (r ++ [u])) (lies : x.ownBlock = some g' ∨ w.heap.size ≤ g') :
    Grid (w'.setCell ⟨g, p, none⟩ (.slice (some ⟨g', 0, none⟩) (r.length + 1) cap)) B te e g n (vs.set p (.slice (some ⟨g', 0, none⟩) (r.length + 1) cap)) (rows.set p (r ++ [u])) ∧
    Keeps (fun j => GridIn g vs j) w (w'.setCell ⟨g, p, none⟩ (.slice (some ⟨g', 0, none⟩) (r.length + 1) cap)) ∧
    (∀ j, GridIn g (vs.set p (.slice (some ⟨g', 0, none⟩) (r.length + 1) cap)) j → GridIn g vs j ∨ w.heap.size ≤ j) := by
  have hrow := h.row p x r hx hr
  have hgx : x.ownBlock ≠ some g := fun e0 => lie_apart hrow h.outer h.ne g e0 rfl
  have outer' : w'.ownsRow B te 1 (.slice (some ⟨g, 0, none⟩) n n) n vs := k.own h.outer (fun j hj e0 => by simp [Value.ownBlock] at hj; subst hj; exact hgx e0)
  have hkg : Keeps (fun j => j = g) w' (w'.setCell ⟨g, p, none⟩ (.slice (some ⟨g', 0, none⟩) (r.length + 1) cap)) := Keeps.setCell _ _ _ rfl
  have hgg : g' ≠ g := by
    intro e0
    rcases lies with h1 | h1
    · exact hgx (by rw [h1, e0])
    · have := h.base; omega
  refine ⟨⟨?_, by simpa using h.len, ?_, ?_, h.ne⟩, ?_, ?_⟩
  · exact (outer'.stored p _).1
  · intro q y s hq hs
    by_cases e0 : q = p
    · subst e0
      rw [List.getElem?_set_self (by exact (List.getElem?_eq_some_iff.1 hx).1)] at hq
      rw [List.getElem?_set_self (by exact (List.getElem?_eq_some_iff.1 hr).1)] at hs
      cases hq; cases hs
      rw [List.length_append]
      exact hkg.own own (fun j hj e1 => by simp [Value.ownBlock] at hj; omega)
    · rw [List.getElem?_set_ne (fun e1 => e0 e1.symm)] at hq hs
      have hy := h.row q y s hq hs
      have hy' := k.own hy (fun j hj e1 => h.apart p q x y j (fun e2 => e0 e2.symm) hx hq e1 hj)
      exact hkg.own hy' (fun j hj e1 => by subst e1; exact lie_apart hy h.outer h.ne j hj rfl)
  · intro q1 q2 y1 y2 j hne h1 h2 hb1 hb2
    by_cases e1 : q1 = p
    · subst e1
      rw [List.getElem?_set_self (by exact (List.getElem?_eq_some_iff.1 hx).1)] at h1
      rw [List.getElem?_set_ne hne] at h2
      cases h1
      simp [Value.ownBlock] at hb1
      subst hb1
      rcases lies with h3 | h3
      · exact h.apart q1 q2 x y2 g' hne hx h2 h3 hb2
      · have := (h.in_lt g' (Or.inr ⟨q2, y2, h2, hb2⟩)).2; omega
    · rw [List.getElem?_set_ne (fun e2 => e1 e2.symm)] at h1
      by_cases e2 : q2 = p
      · subst e2
        rw [List.getElem?_set_self (by exact (List.getElem?_eq_some_iff.1 hx).1)] at h2
        cases h2
        simp [Value.ownBlock] at hb2
        subst hb2
        rcases lies with h3 | h3
        · exact h.apart q1 q2 y1 x g' hne h1 hx hb1 h3
        · have := (h.in_lt g' (Or.inr ⟨q1, y1, h1, hb1⟩)).2; omega
      · rw [List.getElem?_set_ne (fun e3 => e2 e3.symm)] at h2
        exact h.apart q1 q2 y1 y2 j hne h1 h2 hb1 hb2
  · exact (k.weaken (fun j _ e0 => Or.inr ⟨p, x, hx, e0⟩)).trans (hkg.weaken (fun j _ e0 => Or.inl e0))
  · intro j hj
    rcases hj with rfl | ⟨q, y, hq, hy⟩
    · exact Or.inl (Or.inl rfl)
    · by_cases e0 : q = p
      · subst e0
        rw [List.getElem?_set_self (by exact (List.getElem?_eq_some_iff.1 hx).1)] at hq
        cases hq
        simp [Value.ownBlock] at hy
        subst hy
        exact lies.imp (fun h3 => Or.inr ⟨q, x, hx, h3⟩) id
      · rw [List.getElem?_set_ne (fun e1 => e0 e1.symm)] at hq
        exact Or.inl (Or.inr ⟨q, y, hq, hy⟩)
/-- Rows just made: all empty. -/
theorem grid_made (hne : e ≠ te) (h : w.ownsRow B te 1 (.slice (some ⟨g, 0, none⟩) n n) n (List.replicate n (.slice none 0 0))) : Grid w B te e g n (List.replicate n (.slice none 0 0)) (List.replicate n []) :=
  ⟨h, by simp, fun p x r hp hr => by
    have h1 := List.mem_replicate.1 (List.mem_of_getElem? hp)
    have h2 := List.mem_replicate.1 (List.mem_of_getElem? hr)
    rw [h1.2, h2.2]; exact World.ownsRow_nil _ _ _ _,
  fun p q x y j _ hp _ hx => absurd hx (by
    have h1 := List.mem_replicate.1 (List.mem_of_getElem? hp)
    rw [h1.2]; simp [Value.ownBlock]), hne⟩
theorem made_in (m g j : Nat) (h : GridIn g (List.replicate m (.slice none 0 0)) j) : j = g := by
  rcases h with h | ⟨p, x, hp, hx⟩
  · exact h
  · have h1 := List.mem_replicate.1 (List.mem_of_getElem? hp)
    rw [h1.2] at hx; cases hx
end
end Go.Proofs.Ytlmecpghlgndnaa
