/-
  Without a circle all places are roots, or lie below just one root: in plain words.
-/
import Derived.Test.YtgjbchkplpdeiaaNestRound
namespace Go.Proofs.Ytgjbchkplpdeiaa
open Go.RowKit
set_option linter.unusedVariables false
set_option linter.unusedSimpArgs false

namespace Ns
theorem chain_new (l : List Int) : ∀ (f : Nat) (seen : List Int) (x y : Int), y ∈ chain l f seen x → y ∉ seen
  | 0, _, _, y, h => by simp [chain] at h
  | f + 1, seen, x, y, h => by
    by_cases hc : isP l.length x = true ∧ x ∉ seen
    · rw [chain_go l f seen x hc] at h
      rcases List.mem_cons.1 h with rfl | h
      · exact hc.2
      · exact fun hm => chain_new l f _ _ y h (List.mem_cons_of_mem _ hm)
    · rw [chain_stop l _ seen x hc] at h; simp at h
theorem above_self (l : List Int) (i : Int) : i ∉ aboveL l i := by
  intro h
  unfold aboveL at h
  split at h
  · exact chain_new l _ _ _ _ h (List.mem_singleton.2 rfl)
  · simp at h
theorem both (l : List Int) (i k : Int) (hk : isP l.length k = true) : i ∈ aboveL l k ↔ k ∈ belowL l i := by
  have hb := (isP_iff _ _).1 hk
  unfold belowL
  simp only [List.mem_filter, List.mem_map, List.mem_range, Bool.and_eq_true, decide_eq_true_eq]
  constructor
  · intro h
    refine ⟨⟨k.toNat, by omega, by omega⟩, fun e => ?_, is_of_above h⟩
    subst e
    exact above_self l k h
  · rintro ⟨_, hne, h⟩
    exact above_of_R ((is_iff hne).1 h) hne
theorem root_of {l : List Int} (hno : ∀ y, ¬ C l y) : ∀ (f : Nat) (seen : List Int) (x : Int), isP l.length x = true → seen.Nodup → (∀ s ∈ seen, isP l.length s = true ∧ R l x s ∧ (nx l s ∈ seen ∨ nx l s = x)) → l.length ≤ f + seen.length → ∃ r, isP l.length (nx l r) = false ∧ R l r x := by
  intro f
  induction f with
  | zero =>
    intro seen x hp hd hs hf
    have hn : x ∉ seen := fun hm => hno x ⟨hp, by
      rcases (hs x hm).2.2 with h1 | h1
      · exact (hs _ h1).2.1
      · rw [h1]; exact R.base hp⟩
    have := fit l.length (x :: seen) (List.nodup_cons.2 ⟨hn, hd⟩) (fun y hy => (List.mem_cons.1 hy).elim (fun e => by rw [e]; exact hp) (fun h => (hs y h).1))
    simp at this
    omega
  | succ f ih =>
    intro seen x hp hd hs hf
    have hn : x ∉ seen := fun hm => hno x ⟨hp, by
      rcases (hs x hm).2.2 with h1 | h1
      · exact (hs _ h1).2.1
      · rw [h1]; exact R.base hp⟩
    by_cases hq : isP l.length (nx l x) = true
    · have h1 : R l (nx l x) x := R.step x hp (R.base hq)
      obtain ⟨r, hr, hR⟩ := ih (x :: seen) (nx l x) hq (List.nodup_cons.2 ⟨hn, hd⟩) (fun s hm => by
        rcases List.mem_cons.1 hm with rfl | hm
        · exact ⟨hp, h1, Or.inr rfl⟩
        · refine ⟨(hs s hm).1, R_trans (hs s hm).2.1 h1, ?_⟩
          rcases (hs s hm).2.2 with h2 | h2
          · exact Or.inl (List.mem_cons_of_mem _ h2)
          · exact Or.inl (by rw [h2]; exact List.mem_cons_self ..)) (by simp; omega)
      exact ⟨r, hr, R.step x hp hR⟩
    · exact ⟨x, by simpa using hq, R.base hp⟩
theorem root_one {l : List Int} {r r' k : Int} (hr : isP l.length (nx l r) = false) (hr' : isP l.length (nx l r') = false) (h : R l r k) (h' : R l r' k) : r = r' := by
  induction h with
  | base _ =>
    cases h' with
    | base _ => rfl
    | step _ _ h2 => rw [h2.place] at hr; cases hr
  | step k hp hR ih =>
    cases h' with
    | base _ => rw [hR.place] at hr'; cases hr'
    | step _ _ h2 => exact ih h2
/-- Is a place a root? -/
def rootB (l : List Int) (r : Nat) : Bool := !isP l.length (nx l (r : Int))
def rootsTo (l : List Int) (m : Nat) : List Int := ((List.range m).filter (rootB l)).map (fun k : Nat => (k : Int))
theorem rootsTo_succ (l : List Int) (m : Nat) : rootsTo l (m + 1) = rootsTo l m ++ if rootB l m = true then [(m : Int)] else [] := by
  unfold rootsTo
  rw [List.range_succ, List.filter_append, List.map_append]
  congr 1
  by_cases h : rootB l m = true
  · rw [if_pos h, List.filter_cons_of_pos h]; rfl
  · rw [if_neg h, List.filter_cons_of_neg h]; rfl
theorem rootsTo_len (l : List Int) (m : Nat) : (rootsTo l m).length ≤ m := by
  unfold rootsTo
  rw [List.length_map]
  exact Nat.le_trans (List.length_filter_le _ _) (by simp)
/-- How many lie below the first roots. -/
def sumB (l : List Int) : Nat → Nat
  | 0 => 0
  | m + 1 => sumB l m + if (aboveL l (m : Int)).length = 0 then (belowL l (m : Int)).length else 0
/-- A place is a root, and another one it, or below it. -/
def under (l : List Int) (r k : Nat) : Bool := rootB l r && (decide (k = r) || is l (r : Int) (k : Int))
def cnt (l : List Int) (m : Nat) : Nat := ((List.range l.length).filter (fun k => (List.range m).any (fun r => under l r k))).length
theorem filter_two {α : Type} (p q : α → Bool) : ∀ (L : List α), (∀ x ∈ L, p x = true → q x = false) → (L.filter (fun x => p x || q x)).length = (L.filter p).length + (L.filter q).length
  | [], _ => rfl
  | x :: L, h => by
    have ih := filter_two p q L (fun y hy => h y (List.mem_cons_of_mem _ hy))
    have hx := h x (List.mem_cons_self ..)
    rw [List.filter_cons, List.filter_cons, List.filter_cons]
    cases hp : p x with
    | true => rw [hx hp]; simp [ih]; omega
    | false =>
      cases hq : q x with
      | true => simp [ih]; omega
      | false => simp [ih]
theorem under_R {l : List Int} {r k : Nat} (hk : k < l.length) (h : under l r k = true) : isP l.length (nx l (r : Int)) = false ∧ R l (r : Int) (k : Int) := by
  unfold under rootB at h
  simp only [Bool.and_eq_true, Bool.not_eq_true', Bool.or_eq_true, decide_eq_true_eq] at h
  refine ⟨h.1, ?_⟩
  rcases h.2 with rfl | h2
  · exact R.base ((isP_iff _ _).2 (by omega))
  · exact is_R h2
theorem cnt_succ (l : List Int) (m : Nat) : cnt l (m + 1) = cnt l m + ((List.range l.length).filter (under l m)).length := by
  unfold cnt
  rw [← filter_two]
  · congr 1
    apply List.filter_congr
    intro k _
    rw [List.range_succ, List.any_append]
    simp
  · intro k hk h
    have hk := List.mem_range.1 hk
    obtain ⟨r, hr, h1⟩ := List.any_eq_true.1 h
    have hr := List.mem_range.1 hr
    cases h2 : under l m k with
    | false => rfl
    | true =>
      have a := under_R hk h1
      have b := under_R hk h2
      have := root_one a.1 b.1 a.2 b.2
      omega
theorem cnt_all {l : List Int} (hno : ∀ y, ¬ C l y) : cnt l l.length = l.length := by
  unfold cnt
  have : (List.range l.length).filter (fun k => (List.range l.length).any (fun r => under l r k)) = List.range l.length := by
    rw [List.filter_eq_self]
    intro k hk
    have hk := List.mem_range.1 hk
    obtain ⟨r, hr, hR⟩ := root_of hno l.length [] (k : Int) ((isP_iff _ _).2 (by omega)) (by simp) (fun s h => by simp at h) (by simp)
    have hp := (isP_iff _ _).1 hR.top
    have e : ((r.toNat : Nat) : Int) = r := by omega
    rw [List.any_eq_true]
    refine ⟨r.toNat, List.mem_range.2 (by omega), ?_⟩
    unfold under rootB
    rw [e, hr]
    by_cases h : (k : Int) = r
    · simp; omega
    · rw [(is_iff h).2 hR]; simp
  rw [this]; simp
theorem above_nil {l : List Int} (hno : ∀ y, ¬ C l y) (m : Nat) (hm : m < l.length) : (aboveL l (m : Int)).length = 0 ↔ rootB l m = true := by
  have hp : isP l.length (m : Int) = true := (isP_iff _ _).2 (by omega)
  unfold aboveL rootB
  rw [if_pos hp]
  by_cases hq : isP l.length (nx l (m : Int)) = true
  · have hne : nx l (m : Int) ∉ [(m : Int)] := fun h => hno m ⟨hp, by rw [List.mem_singleton.1 h]; exact R.base hp⟩
    rw [hq]
    have := chain_go l (l.length - 1) [(m : Int)] (nx l m) ⟨hq, hne⟩
    rw [show l.length - 1 + 1 = l.length by omega] at this
    rw [this]; simp
  · rw [chain_stop l _ _ _ (fun h => hq h.1)]
    simp at hq
    simp [hq]
theorem sum_is {l : List Int} (hno : ∀ y, ¬ C l y) : ∀ m, m ≤ l.length → (rootsTo l m).length + sumB l m = cnt l m
  | 0, _ => by
    have : (List.range l.length).filter (fun k => (List.range 0).any (fun r => under l r k)) = [] := by rw [List.filter_eq_nil_iff]; intro k _; simp
    unfold rootsTo sumB cnt
    rw [this]; rfl
  | m + 1, hm => by
    have ih := sum_is hno m (by omega)
    have h0 := above_nil hno m (by omega)
    rw [cnt_succ, ← ih, rootsTo_succ, sumB]
    by_cases hr : rootB l m = true
    · rw [if_pos hr, if_pos (h0.2 hr)]
      have e1 : (List.range l.length).filter (under l m) = (List.range l.length).filter (fun k => decide (k = m) || (decide ((k : Int) ≠ (m : Int)) && is l (m : Int) (k : Int))) := by
        apply List.filter_congr
        intro k _
        unfold under
        rw [hr, Bool.true_and]
        by_cases e : k = m
        · simp [e]
        · have : decide ((k : Int) ≠ (m : Int)) = true := by simp; omega
          rw [this]; simp
      have e2 : (belowL l (m : Int)).length = ((List.range l.length).filter (fun k : Nat => decide ((k : Int) ≠ (m : Int)) && is l (m : Int) (k : Int))).length := by
        unfold belowL
        rw [List.filter_map, List.length_map]; rfl
      have e3 : ((List.range l.length).filter (fun k => decide (k = m))).length = 1 := by
        have : ∀ n, m < n → ((List.range n).filter (fun k => decide (k = m))).length = 1 := by
          intro n
          induction n with
          | zero => intro h; omega
          | succ n ih =>
            intro h
            rw [List.range_succ, List.filter_append, List.length_append]
            by_cases e : n = m
            · subst e
              have : (List.range n).filter (fun k => decide (k = n)) = [] := by
                rw [List.filter_eq_nil_iff]
                intro k hk
                have := List.mem_range.1 hk
                simp; omega
              rw [this]; simp
            · rw [ih (by omega)]; simp [e]
        exact this _ (by omega)
      rw [e1, filter_two _ _ _ (fun k _ h => by simp at h; simp [h]), e3, e2]
      simp
      omega
    · have hr2 : rootB l m = false := by simpa using hr
      rw [if_neg hr, if_neg (fun h => hr (h0.1 h))]
      have : (List.range l.length).filter (under l m) = [] := by
        rw [List.filter_eq_nil_iff]
        intro k _
        unfold under
        rw [hr2]; simp
      rw [this]; simp
theorem whole {l : List Int} (hno : ∀ y, ¬ C l y) : (rootsTo l l.length).length + sumB l l.length = l.length := by
  rw [sum_is hno _ (Nat.le_refl _), cnt_all hno]
theorem circ_neg {l : List Int} (h : circ l < 0) : ∀ y, ¬ C l y := by
  intro y hC
  have hp := (isP_iff _ _).1 hC.1
  unfold circ at h
  cases hq : (List.range l.length).find? (fun i : Nat => is l (i : Int) (i : Int)) with
  | none =>
    have := List.find?_eq_none.1 hq y.toNat (List.mem_range.2 (by omega))
    rw [show ((y.toNat : Nat) : Int) = y by omega, is_C] at this
    exact this hC
  | some i => rw [hq] at h; simp at h; omega
theorem below_len (l : List Int) (i : Int) : (belowL l i).length ≤ l.length := by
  unfold belowL
  refine Nat.le_trans (List.length_filter_le _ _) (by simp)
end Ns
end Go.Proofs.Ytgjbchkplpdeiaa
