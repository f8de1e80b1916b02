/-
  How much of a gap counts, in plain words.
-/
import Derived.Test.YtnljihankodedaaSame
namespace Go.Proofs.Ytnljihankodedaa
open Go.RowKit
set_option linter.unusedVariables false
set_option linter.unusedSimpArgs false

namespace Hv
/-- How much of a gap counts, with so many writes left. -/
def cap (r : Int) : Nat := 2 ^ (min (max r 0) 20).toNat - 1
def clip (g r : Int) : Nat := min g.toNat (cap r)
theorem cap_low (r : Int) (h : r ≤ 0) : cap r = 0 := by
  unfold cap
  rw [show (min (max r 0) 20).toNat = 0 by omega]
theorem cap_high (r : Int) (h : 20 ≤ r) : cap r = 1048575 := by
  unfold cap
  rw [show (min (max r 0) 20).toNat = 20 by omega]
theorem cap_step (r : Int) (h0 : 0 ≤ r) (h1 : r < 20) : cap (r + 1) = 2 * cap r + 1 := by
  unfold cap
  have e1 : (min (max r 0) 20).toNat = r.toNat := by omega
  have e2 : (min (max (r + 1) 0) 20).toNat = r.toNat + 1 := by omega
  rw [e1, e2, Nat.pow_succ]
  have := Nat.two_pow_pos r.toNat
  omega
theorem cap_le (r : Int) : cap r ≤ 1048575 := by
  by_cases h : r ≤ 0
  · rw [cap_low r h]; omega
  · by_cases h2 : 20 ≤ r
    · rw [cap_high r h2]; omega
    · unfold cap
      have : (2 : Nat) ^ (min (max r 0) 20).toNat ≤ 2 ^ 20 := Nat.pow_le_pow_right (by omega) (by omega)
      omega
theorem clip_le (g r : Int) : clip g r ≤ 1048575 := by have := cap_le r; unfold clip; omega
/-- The splits, with so much that counts of a part, and so many others. -/
def sp (m o : Nat) : List (Nat × Nat) := (List.range (min m (o + 1))).map (fun a => (a, min (o - a) m)) ++ (List.range (o + 1 - m)).map (fun b => (m, b))
/-- So many writes left, a gap: how many others. -/
def oth (g r : Int) : Nat := if clip g r = cap r then 2 * cap (r - 1) else clip g r - 1
def splits (g r : Int) : List (Nat × Nat) := if r < 1 ∨ g < 1 then [] else sp (cap (r - 1)) (oth g r)
/-- The pair that one place gives. -/
def pr (m n k : Nat) : Nat × Nat := (min k m, min (n - 1 - k) m)
/-- The pairs of the first places, each once. -/
def tru (m n : Nat) : Nat → List (Nat × Nat)
  | 0 => []
  | k + 1 => if pr m n k ∈ tru m n k then tru m n k else tru m n k ++ [pr m n k]
theorem tru_mem (m n : Nat) (p : Nat × Nat) : ∀ k, p ∈ tru m n k ↔ ∃ j, j < k ∧ p = pr m n j
  | 0 => by simp [tru]
  | k + 1 => by
    have ih := tru_mem m n p k
    unfold tru
    split
    · rename_i h
      rw [ih]
      constructor
      · rintro ⟨j, h1, h2⟩; exact ⟨j, by omega, h2⟩
      · rintro ⟨j, h1, h2⟩
        by_cases e : j = k
        · subst e
          obtain ⟨i, h3, h4⟩ := (tru_mem m n (pr m n j) j).1 h
          exact ⟨i, h3, h2.trans h4⟩
        · exact ⟨j, by omega, h2⟩
    · rw [List.mem_append, ih]
      constructor
      · rintro (⟨j, h1, h2⟩ | h)
        · exact ⟨j, by omega, h2⟩
        · exact ⟨k, by omega, List.mem_singleton.1 h⟩
      · rintro ⟨j, h1, h2⟩
        by_cases e : j = k
        · subst e; exact Or.inr (by simp [h2])
        · exact Or.inl ⟨j, by omega, h2⟩
theorem tru_nodup (m n : Nat) : ∀ k, (tru m n k).Nodup
  | 0 => by simp [tru]
  | k + 1 => by
    have ih := tru_nodup m n k
    unfold tru
    split
    · exact ih
    · rename_i h
      rw [List.nodup_append]
      exact ⟨ih, by simp, fun x hx y hy e => h (by rw [List.mem_singleton.1 hy] at e; rw [← e]; exact hx)⟩
theorem tru_len (m n : Nat) : ∀ k, (tru m n k).length ≤ k
  | 0 => by simp [tru]
  | k + 1 => by
    have := tru_len m n k
    unfold tru
    split
    · omega
    · simp; omega
/-- The pairs of all places, told by how they are. -/
def inS (m n a b : Nat) : Prop := (a < m ∧ a < n ∧ b = min (n - 1 - a) m) ∨ (a = m ∧ b ≤ m ∧ b + m + 1 ≤ n)
theorem mem_inS (m n a b : Nat) : (∃ j, j < n ∧ (a, b) = pr m n j) ↔ inS m n a b := by
  unfold pr inS
  constructor
  · rintro ⟨j, h1, h2⟩
    simp only [Prod.mk.injEq] at h2
    by_cases h : j < m
    · left; omega
    · right; omega
  · rintro (⟨h1, h2, h3⟩ | ⟨h1, h2, h3⟩)
    · exact ⟨a, h2, by rw [h3]; simp; omega⟩
    · by_cases e : b = m
      · refine ⟨m, by omega, ?_⟩
        simp only [Prod.mk.injEq]; omega
      · refine ⟨n - 1 - b, by omega, ?_⟩
        simp only [Prod.mk.injEq]; omega
theorem sp_mem (m o a b : Nat) : (a, b) ∈ sp m o ↔ (a < m ∧ a ≤ o ∧ b = min (o - a) m) ∨ (a = m ∧ b + m ≤ o) := by
  unfold sp
  simp only [List.mem_append, List.mem_map, List.mem_range, Prod.mk.injEq]
  constructor
  · rintro (⟨x, h1, h2, h3⟩ | ⟨x, h1, h2, h3⟩)
    · left; subst h2; exact ⟨by omega, by omega, h3.symm⟩
    · right; omega
  · rintro (⟨h1, h2, h3⟩ | ⟨h1, h2⟩)
    · exact Or.inl ⟨a, by omega, rfl, h3.symm⟩
    · exact Or.inr ⟨b, by omega, h1.symm, rfl⟩
theorem sp_nodup (m o : Nat) : (sp m o).Nodup := by
  unfold sp
  rw [List.nodup_append]
  refine ⟨?_, ?_, ?_⟩
  · rw [List.nodup_iff_pairwise_ne, List.pairwise_map]
    exact List.Pairwise.imp (fun {x y} h e => by simp only [Prod.mk.injEq] at e; omega) (List.nodup_iff_pairwise_ne.1 List.nodup_range)
  · rw [List.nodup_iff_pairwise_ne, List.pairwise_map]
    exact List.Pairwise.imp (fun {x y} h e => by simp only [Prod.mk.injEq] at e; omega) (List.nodup_iff_pairwise_ne.1 List.nodup_range)
  · intro x hx y hy e
    obtain ⟨a, ha, rfl⟩ := List.mem_map.1 hx
    obtain ⟨b, hb, rfl⟩ := List.mem_map.1 hy
    have := List.mem_range.1 ha
    simp only [Prod.mk.injEq] at e
    omega
theorem sp_len (m o : Nat) : (sp m o).length ≤ 2 * (o + 1) := by unfold sp; simp; omega
/-- All pairs, row by row, that are in a list. -/
def lexR (L : List (Nat × Nat)) (a k : Nat) : List (Nat × Nat) := ((List.range k).filter (fun b => decide ((a, b) ∈ L))).map (fun b => (a, b))
theorem lexR_succ (L : List (Nat × Nat)) (a k : Nat) : lexR L a (k + 1) = lexR L a k ++ if (a, k) ∈ L then [(a, k)] else [] := by
  unfold lexR
  rw [List.range_succ, List.filter_append, List.map_append]
  congr 1
  by_cases h : (a, k) ∈ L
  · rw [if_pos h, List.filter_cons_of_pos (by simpa using h)]; rfl
  · rw [if_neg h, List.filter_cons_of_neg (by simpa using h)]; rfl
def lexT (m : Nat) (L : List (Nat × Nat)) (k : Nat) : List (Nat × Nat) := (List.range k).flatMap (fun a => lexR L a (m + 1))
theorem lexT_succ (m : Nat) (L : List (Nat × Nat)) (k : Nat) : lexT m L (k + 1) = lexT m L k ++ lexR L k (m + 1) := by
  unfold lexT
  rw [List.range_succ, List.flatMap_append]; simp
def lex (m : Nat) (L : List (Nat × Nat)) : List (Nat × Nat) := lexT m L (m + 1)
theorem lexR_len (L : List (Nat × Nat)) (a : Nat) : ∀ k, (lexR L a k).length ≤ k
  | k => by unfold lexR; rw [List.length_map]; exact Nat.le_trans (List.length_filter_le _ _) (by simp)
theorem lexT_len (m : Nat) (L : List (Nat × Nat)) : ∀ k, (lexT m L k).length ≤ k * (m + 1)
  | 0 => by simp [lexT]
  | k + 1 => by
    rw [lexT_succ, List.length_append, Nat.succ_mul]
    have := lexT_len m L k
    have := lexR_len L k (m + 1)
    omega
theorem filter_one (n c : Nat) (h : c < n) : (List.range n).filter (fun b => decide (b = c)) = [c] := by
  induction n with
  | zero => omega
  | succ n ih =>
    rw [List.range_succ, List.filter_append]
    by_cases e : c = n
    · subst e
      have : (List.range c).filter (fun b => decide (b = c)) = [] := by
        rw [List.filter_eq_nil_iff]
        intro x hx; have := List.mem_range.1 hx; simp; omega
      rw [this]; simp
    · rw [ih (by omega)]
      have : ([n].filter (fun b => decide (b = c))) = [] := by
        rw [List.filter_eq_nil_iff]; intro x hx; simp at hx; subst hx; simp; omega
      rw [this]; rfl
theorem filter_low (n c : Nat) (h : c ≤ n) : (List.range n).filter (fun b => decide (b < c)) = List.range c := by
  induction n with
  | zero => have : c = 0 := by omega
            subst this; rfl
  | succ n ih =>
    rw [List.range_succ, List.filter_append]
    by_cases e : c = n + 1
    · subst e
      have h1 : (List.range n).filter (fun b => decide (b < n + 1)) = List.range n := by
        rw [List.filter_eq_self]; intro x hx; have := List.mem_range.1 hx; simp; omega
      rw [h1, List.range_succ]; simp
    · rw [ih (by omega)]
      have : ([n].filter (fun b => decide (b < c))) = [] := by
        rw [List.filter_eq_nil_iff]; intro x hx; simp at hx; subst hx; simp; omega
      rw [this]; simp
theorem lex_sp (m o n : Nat) (L : List (Nat × Nat)) (hL : ∀ a b, (a, b) ∈ L ↔ inS m n a b) (ho : (n ≤ 2 * m ∧ 1 ≤ n ∧ o = n - 1) ∨ (2 * m + 1 ≤ n ∧ o = 2 * m)) : lex m L = sp m o := by
  unfold lex sp
  rw [lexT_succ]
  congr 1
  · have h1 : ∀ k, k ≤ m → lexT m L k = (List.range (min k (o + 1))).map (fun a => (a, min (o - a) m)) := by
      intro k
      induction k with
      | zero => intro _; simp [lexT]
      | succ k ih =>
        intro hk
        rw [lexT_succ, ih (by omega)]
        unfold lexR
        by_cases hko : k ≤ o
        · rw [show min (k + 1) (o + 1) = k + 1 by omega, show min k (o + 1) = k by omega, List.range_succ (n := k), List.map_append]
          congr 1
          have : (List.range (m + 1)).filter (fun b => decide ((k, b) ∈ L)) = [min (o - k) m] := by
            rw [← filter_one (m + 1) (min (o - k) m) (by omega)]
            apply List.filter_congr
            intro b _
            rw [decide_eq_decide, hL]
            unfold inS
            omega
          rw [this]; rfl
        · rw [show min (k + 1) (o + 1) = o + 1 by omega, show min k (o + 1) = o + 1 by omega]
          have : (List.range (m + 1)).filter (fun b => decide ((k, b) ∈ L)) = [] := by
            rw [List.filter_eq_nil_iff]
            intro b _
            simp only [decide_eq_true_eq]
            rw [hL]; unfold inS; omega
          rw [this]; simp
    exact h1 m (Nat.le_refl _)
  · unfold lexR
    have : (List.range (m + 1)).filter (fun b => decide ((m, b) ∈ L)) = List.range (o + 1 - m) := by
      rw [← filter_low (m + 1) (o + 1 - m) (by omega)]
      apply List.filter_congr
      intro b hb
      have := List.mem_range.1 hb
      rw [decide_eq_decide, hL]
      unfold inS
      omega
    rw [this]
theorem sub_len {α : Type} [DecidableEq α] : ∀ (L M : List α), L.Nodup → (∀ x ∈ L, x ∈ M) → L.length ≤ M.length
  | [], M, _, _ => by simp
  | x :: L, M, hd, hs => by
    have hx := hs x (List.mem_cons_self ..)
    have hd' := List.nodup_cons.1 hd
    have := sub_len L (M.erase x) hd'.2 (fun y hy => (List.mem_erase_of_ne (fun e => hd'.1 (by rw [← e]; exact hy))).2 (hs y (List.mem_cons_of_mem _ hy)))
    rw [List.length_erase_of_mem hx] at this
    have := List.length_pos_of_mem hx
    simp; omega
end Hv
end Go.Proofs.Ytnljihankodedaa
