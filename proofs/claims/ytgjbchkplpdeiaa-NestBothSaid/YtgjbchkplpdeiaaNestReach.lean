/-
  Who lies below whom, in plain words.
-/
import Derived.Test.YtgjbchkplpdeiaaNestAbove
namespace Go.Proofs.Ytgjbchkplpdeiaa
open Go.RowKit
set_option linter.unusedVariables false
set_option linter.unusedSimpArgs false

namespace Ns
/-- From a place one comes up to i. -/
inductive R (l : List Int) (i : Int) : Int → Prop
  | base : isP l.length i = true → R l i i
  | step (k : Int) : isP l.length k = true → R l i (nx l k) → R l i k
theorem R.place {l : List Int} {i k : Int} (h : R l i k) : isP l.length k = true := by
  cases h with
  | base h => exact h
  | step h _ => assumption
theorem trues_fit : ∀ (L : List Nat) (S : List Bool), L.Nodup → (∀ x ∈ L, S[x]? = some false) → trues S + L.length ≤ S.length
  | [], S, _, _ => by have := trues_le S; simpa using this
  | x :: L, S, hd, hx => by
    have hd' := List.nodup_cons.1 hd
    have h0 := hx x (List.mem_cons_self ..)
    have h1 := trues_fit L (S.set x true) hd'.2 (fun y hy => by
      rw [List.getElem?_set_ne (fun e => hd'.1 (by rw [e]; exact hy))]
      exact hx y (List.mem_cons_of_mem _ hy))
    rw [trues_set S x h0] at h1
    simp at h1 ⊢
    omega
theorem fit (n : Nat) (L : List Int) (hd : L.Nodup) (hp : ∀ x ∈ L, isP n x = true) : L.length ≤ n := by
  have h := trues_fit (L.map Int.toNat) (List.replicate n false) (by
    rw [List.nodup_iff_pairwise_ne, List.pairwise_map]
    refine List.Pairwise.imp_of_mem (fun {x y} hx hy hne e => ?_) (List.nodup_iff_pairwise_ne.1 hd)
    have h1 := (isP_iff _ _).1 (hp x hx)
    have h2 := (isP_iff _ _).1 (hp y hy)
    omega) (fun x hx => by
    obtain ⟨y, hy, rfl⟩ := List.mem_map.1 hx
    have h1 := (isP_iff _ _).1 (hp y hy)
    rw [List.getElem?_replicate, if_pos (by omega)])
  rw [trues_rep] at h
  simpa using h
theorem chain_places (l : List Int) : ∀ (f : Nat) (seen : List Int) (x : Int), ∀ y ∈ chain l f seen x, isP l.length y = true
  | 0, _, _, y, h => by simp [chain] at h
  | f + 1, seen, x, y, h => by
    by_cases hc : isP l.length x = true ∧ x ∉ seen
    · rw [chain_go l f seen x hc] at h
      rcases List.mem_cons.1 h with rfl | h
      · exact hc.1
      · exact chain_places l f _ _ y h
    · rw [chain_stop l _ seen x hc] at h; simp at h
theorem chain_closed (l : List Int) : ∀ (f : Nat) (seen : List Int) (x : Int), (∀ y ∈ seen, isP l.length y = true) → seen.Nodup → l.length ≤ f + seen.length →
    (x ∈ seen ∨ x ∈ chain l f seen x ∨ isP l.length x = false) ∧ ∀ y ∈ chain l f seen x, nx l y ∈ seen ∨ nx l y ∈ chain l f seen x ∨ isP l.length (nx l y) = false
  | 0, seen, x, hs, hd, hf => by
    refine ⟨?_, fun y hy => by simp [chain] at hy⟩
    by_cases h1 : x ∈ seen
    · exact Or.inl h1
    · by_cases h2 : isP l.length x = true
      · have := fit l.length (x :: seen) (List.nodup_cons.2 ⟨h1, hd⟩) (fun y hy => (List.mem_cons.1 hy).elim (fun e => by rw [e]; exact h2) (hs y))
        simp at this
        omega
      · exact Or.inr (Or.inr (by simpa using h2))
  | f + 1, seen, x, hs, hd, hf => by
    by_cases hc : isP l.length x = true ∧ x ∉ seen
    · rw [chain_go l f seen x hc]
      obtain ⟨h1, h2⟩ := chain_closed l f (x :: seen) (nx l x) (fun y hy => (List.mem_cons.1 hy).elim (fun e => by rw [e]; exact hc.1) (hs y)) (List.nodup_cons.2 ⟨hc.2, hd⟩) (by simp; omega)
      have key : ∀ z, (z ∈ x :: seen ∨ z ∈ chain l f (x :: seen) (nx l x) ∨ isP l.length z = false) → (z ∈ seen ∨ z ∈ x :: chain l f (x :: seen) (nx l x) ∨ isP l.length z = false) := by
        intro z hz
        rcases hz with h | h | h
        · rcases List.mem_cons.1 h with rfl | h
          · exact Or.inr (Or.inl (List.mem_cons_self ..))
          · exact Or.inl h
        · exact Or.inr (Or.inl (List.mem_cons_of_mem _ h))
        · exact Or.inr (Or.inr h)
      refine ⟨Or.inr (Or.inl (List.mem_cons_self ..)), fun y hy => ?_⟩
      rcases List.mem_cons.1 hy with rfl | hy
      · exact key _ h1
      · exact key _ (h2 y hy)
    · rw [chain_stop l _ seen x hc]
      refine ⟨?_, fun y hy => by simp at hy⟩
      by_cases h2 : isP l.length x = true
      · exact Or.inl (by by_cases h3 : x ∈ seen; exact h3; exact absurd ⟨h2, h3⟩ hc)
      · exact Or.inr (Or.inr (by simpa using h2))
theorem chain_up (l : List Int) : ∀ (f : Nat) (seen : List Int) (x y : Int), y ∈ chain l f seen x → ∃ j, j < f ∧ up l j x = y
  | 0, _, _, y, h => by simp [chain] at h
  | f + 1, seen, x, y, h => by
    by_cases hc : isP l.length x = true ∧ x ∉ seen
    · rw [chain_go l f seen x hc] at h
      rcases List.mem_cons.1 h with rfl | h
      · exact ⟨0, by omega, by simp [up, hc.1]⟩
      · obtain ⟨j, hj, he⟩ := chain_up l f _ _ y h
        exact ⟨j + 1, by omega, by rw [up, if_pos hc.1]; exact he⟩
    · rw [chain_stop l _ seen x hc] at h; simp at h
theorem above_of_R {l : List Int} {i k : Int} (h : R l i k) (hne : k ≠ i) : i ∈ aboveL l k := by
  have hk := h.place
  have hcl := chain_closed l l.length [k] (nx l k) (fun y hy => by rw [List.mem_singleton.1 hy]; exact hk) (by simp) (by simp)
  have key : ∀ x, R l i x → (x = k ∨ x ∈ aboveL l k) → (i = k ∨ i ∈ aboveL l k) := by
    intro x hx
    induction hx with
    | base _ => exact id
    | step y hy hR ih =>
      intro hm
      apply ih
      have hp := hR.place
      unfold aboveL at hm ⊢
      rw [if_pos hk] at hm ⊢
      rcases hm with rfl | hm
      · rcases hcl.1 with h1 | h1 | h1
        · exact Or.inl (List.mem_singleton.1 h1)
        · exact Or.inr h1
        · rw [hp] at h1; cases h1
      · rcases hcl.2 y hm with h1 | h1 | h1
        · exact Or.inl (List.mem_singleton.1 h1)
        · exact Or.inr h1
        · rw [hp] at h1; cases h1
  exact (key k h (Or.inl rfl)).elim (fun e => absurd e.symm hne) id
theorem R_of_up {l : List Int} {i : Int} (h0 : 0 ≤ i) : ∀ (j : Nat) (x : Int), up l j x = i → R l i x
  | 0, x, h => by
    by_cases hx : isP l.length x = true
    · simp only [up, if_pos hx] at h
      subst h
      exact R.base hx
    · simp only [up, if_neg hx] at h; omega
  | j + 1, x, h => by
    by_cases hx : isP l.length x = true
    · simp only [up, if_pos hx] at h
      exact R.step x hx (R_of_up h0 j _ h)
    · simp only [up, if_neg hx] at h; omega
theorem is_R {l : List Int} {i k : Int} (h : is l i k = true) : R l i k := by
  unfold is at h
  simp only [Bool.and_eq_true, decide_eq_true_eq, List.any_eq_true, beq_iff_eq] at h
  obtain ⟨h0, j, _, he⟩ := h
  exact R_of_up h0 _ _ he
theorem is_of_above {l : List Int} {i k : Int} (h : i ∈ aboveL l k) : is l i k = true := by
  unfold aboveL at h
  by_cases hk : isP l.length k = true
  · rw [if_pos hk] at h
    have hp := (isP_iff _ _).1 (chain_places l _ _ _ i h)
    obtain ⟨j, hj, he⟩ := chain_up l _ _ _ i h
    unfold is
    simp only [Bool.and_eq_true, decide_eq_true_eq, List.any_eq_true, beq_iff_eq]
    exact ⟨hp.1, j, List.mem_range.2 hj, by rw [up, if_pos hk]; exact he⟩
  · rw [if_neg hk] at h; simp at h
theorem is_iff {l : List Int} {i k : Int} (hne : k ≠ i) : is l i k = true ↔ R l i k :=
  ⟨is_R, fun h => is_of_above (above_of_R h hne)⟩
/-- The places below one. -/
def belowL (l : List Int) (i : Int) : List Int := ((List.range l.length).map (fun k : Nat => (k : Int))).filter (fun k => decide (k ≠ i) && is l i k)
/-- Of the first places those that lie in p. -/
def kids (l : List Int) (k p : Nat) : List Int := ((List.range k).filter (fun j => decide (l.getD j 0 = (p : Int)))).map (fun j : Nat => (j : Int))
theorem kids_succ (l : List Int) (k p : Nat) : kids l (k + 1) p = kids l k p ++ if l.getD k 0 = (p : Int) then [(k : Int)] else [] := by
  unfold kids
  rw [List.range_succ, List.filter_append, List.map_append]
  congr 1
  by_cases h : l.getD k 0 = (p : Int)
  · rw [if_pos h, List.filter_cons_of_pos (by simpa using h)]; rfl
  · rw [if_neg h, List.filter_cons_of_neg (by simpa using h)]; rfl
theorem kids_len (l : List Int) (k p : Nat) : (kids l k p).length ≤ k := by
  unfold kids
  rw [List.length_map]
  exact Nat.le_trans (List.length_filter_le _ _) (by simp)
theorem kids_mem (l : List Int) (k p : Nat) (x : Int) : x ∈ kids l k p ↔ ∃ j : Nat, x = (j : Int) ∧ j < k ∧ l.getD j 0 = (p : Int) := by
  unfold kids
  simp only [List.mem_map, List.mem_filter, List.mem_range, decide_eq_true_eq]
  constructor
  · rintro ⟨j, ⟨h1, h2⟩, rfl⟩; exact ⟨j, rfl, h1, h2⟩
  · rintro ⟨j, rfl, h1, h2⟩; exact ⟨j, ⟨h1, h2⟩, rfl⟩
def rowsV (l : List Int) (n k : Nat) : List (List Value) := (List.range n).map (fun p => (kids l k p).map (Value.int .i64))
theorem rowsV_at (l : List Int) (n k p : Nat) (h : p < n) : (rowsV l n k)[p]? = some ((kids l k p).map (Value.int .i64)) := by
  unfold rowsV; rw [List.getElem?_map, List.getElem?_range h]; rfl
theorem rowsV_zero (l : List Int) (n : Nat) : rowsV l n 0 = List.replicate n [] := by
  apply List.ext_getElem?
  intro p
  by_cases h : p < n
  · rw [rowsV_at _ _ _ _ h, List.getElem?_replicate, if_pos h]; rfl
  · rw [List.getElem?_eq_none (by unfold rowsV; simp; omega), List.getElem?_eq_none (by simp; omega)]
theorem rowsV_same (l : List Int) (n k : Nat) (h : isP n (l.getD k 0) = false) : rowsV l n (k + 1) = rowsV l n k := by
  unfold rowsV
  apply List.map_congr_left
  intro p hp
  rw [kids_succ, if_neg, List.append_nil]
  intro e
  rw [e, (isP_iff _ _).2 ⟨by omega, by have := List.mem_range.1 hp; omega⟩] at h
  cases h
theorem rowsV_set (l : List Int) (n k : Nat) (y : Int) (hy : l.getD k 0 = y) (h0 : 0 ≤ y) (h1 : y < (n : Int)) : rowsV l n (k + 1) = (rowsV l n k).set y.toNat ((kids l k y.toNat).map (Value.int .i64) ++ [.int .i64 k]) := by
  apply List.ext_getElem?
  intro p
  by_cases h : p < n
  · rw [rowsV_at _ _ _ _ h]
    by_cases e : p = y.toNat
    · subst e
      rw [List.getElem?_set_self (by unfold rowsV; simpa using h), kids_succ, if_pos (by omega)]
      simp
    · rw [List.getElem?_set_ne (fun e2 => e e2.symm), rowsV_at _ _ _ _ h, kids_succ, if_neg (by omega), List.append_nil]
  · rw [List.getElem?_eq_none (by unfold rowsV; simp; omega), List.getElem?_eq_none (by unfold rowsV; simp; omega)]
end Ns
end Go.Proofs.Ytgjbchkplpdeiaa
