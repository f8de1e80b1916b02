/-
  Formulas as lists of items, in plain words: of each item only how many it is put of.
-/
import Derived.Test.YtbplkphjjfgkmaaDoorKit
namespace Go.Proofs.YtbplkphjjfgkmaaDoor
open Go.RowKit
set_option linter.unusedVariables false
set_option linter.unusedSimpArgs false

namespace Tr
/-- Of how many an item is put. -/
def ar (op : Int) : Int :=
  if 1 ≤ op ∧ op ≤ 14 then 0
  else if op = 15 ∨ (19 ≤ op ∧ op ≤ 24) then 1
  else if op = 16 ∨ op = 17 ∨ op = 18 ∨ op = 25 ∨ op = 26 then 2 else -1
theorem ar_bd (op : Int) : -1 ≤ ar op ∧ ar op ≤ 2 := by unfold ar; repeat' split <;> omega
/-- From an item on towards the start: where as many begin as are wanted. -/
def bw (l : List Int) : Nat → Int → Int
  | 0, _ => -1
  | i + 1, w => if ar (l.getD i 0) < 0 then -1 else if w + ar (l.getD i 0) - 1 = 0 then (i : Int) else bw l i (w + ar (l.getD i 0) - 1)
inductive Pt where
  | leaf (at_ : Nat)
  | one (k : Pt) (at_ : Nat)
  | two (a b : Pt) (at_ : Nat)
def Pt.end_ : Pt → Nat
  | .leaf a => a
  | .one _ a => a
  | .two _ _ a => a
def Pt.start : Pt → Nat
  | .leaf a => a
  | .one k _ => k.start
  | .two a _ _ => a.start
def Pt.deep : Pt → Nat
  | .leaf _ => 1
  | .one k _ => 1 + k.deep
  | .two a b _ => 1 + max a.deep b.deep
/-- A part that is rightly put of the items from s to e. -/
inductive Span (l : List Int) : Nat → Nat → Pt → Prop
  | leaf (i : Nat) : i < l.length → ar (l.getD i 0) = 0 → Span l i i (.leaf i)
  | one (s e : Nat) (k : Pt) : e + 1 < l.length → ar (l.getD (e + 1) 0) = 1 → Span l s e k → Span l s (e + 1) (.one k (e + 1))
  | two (s m e : Nat) (a b : Pt) : e + 1 < l.length → ar (l.getD (e + 1) 0) = 2 → Span l s m a → Span l (m + 1) e b → Span l s (e + 1) (.two a b (e + 1))
theorem Span.le {l : List Int} {s e : Nat} {p : Pt} (h : Span l s e p) : s ≤ e ∧ e < l.length ∧ p.end_ = e ∧ p.start = s := by
  induction h with
  | leaf i h1 h2 => exact ⟨Nat.le_refl _, h1, rfl, rfl⟩
  | one s e k h1 h2 h3 ih => exact ⟨by omega, h1, rfl, ih.2.2.2⟩
  | two s m e a b h1 h2 h3 h4 ih1 ih2 => exact ⟨by omega, h1, rfl, ih1.2.2.2⟩
theorem Span.deep_le {l : List Int} {s e : Nat} {p : Pt} (h : Span l s e p) : 1 ≤ p.deep ∧ p.deep ≤ e + 1 - s := by
  induction h with
  | leaf i h1 h2 => unfold Pt.deep; omega
  | one s e k h1 h2 h3 ih => have := h3.le; unfold Pt.deep; omega
  | two s m e a b h1 h2 h3 h4 ih1 ih2 => have := h3.le; have := h4.le; unfold Pt.deep; omega
/-- Who looks for so many from the part's end on has one less to look for in front of it. -/
theorem Span.bw {l : List Int} {s e : Nat} {p : Pt} (h : Span l s e p) : ∀ w : Int, 1 ≤ w → bw l (e + 1) w = if w = 1 then (s : Int) else bw l s (w - 1) := by
  induction h with
  | leaf i h1 h2 =>
    intro w hw
    conv => lhs; unfold Tr.bw
    rw [h2, if_neg (by omega)]
    by_cases e : w = 1
    · rw [if_pos (by omega), if_pos e]
    · rw [if_neg (by omega), if_neg e, show w + 0 - 1 = w - 1 by omega]
  | one s e k h1 h2 h3 ih =>
    intro w hw
    conv => lhs; unfold Tr.bw
    rw [h2, if_neg (by omega), if_neg (by omega), show w + 1 - 1 = w by omega, ih w hw]
  | two s m e a b h1 h2 h3 h4 ih1 ih2 =>
    intro w hw
    conv => lhs; unfold Tr.bw
    rw [h2, if_neg (by omega), if_neg (by omega), show w + 2 - 1 = w + 1 by omega, ih2 (w + 1) (by omega), if_neg (by omega), show w + 1 - 1 = w by omega, ih1 w hw]
/-- Parts that lie one behind the other, from the start on. -/
inductive Rows (l : List Int) : Nat → List Pt → Prop
  | nil : Rows l 0 []
  | snoc (s e : Nat) (r : List Pt) (p : Pt) : Rows l s r → Span l s e p → Rows l (e + 1) (r ++ [p])
theorem Rows.last {l : List Int} {i : Nat} {r : List Pt} {p : Pt} (h : Rows l i (r ++ [p])) : ∃ s e, i = e + 1 ∧ Rows l s r ∧ Span l s e p := by
  generalize hr : r ++ [p] = rr at h
  cases h with
  | nil => simp at hr
  | snoc s e r' p' h1 h2 =>
    obtain ⟨h3, h4⟩ := List.append_inj' hr rfl
    simp at h4
    subst h3 h4
    exact ⟨s, e, rfl, h1, h2⟩
theorem Rows.le {l : List Int} {i : Nat} {r : List Pt} (h : Rows l i r) : r.length ≤ i ∧ i ≤ l.length := by
  induction h with
  | nil => simp
  | snoc s e r p h1 h2 ih => have := h2.le; simp; omega
/-- What one item does to the row. -/
def stp (l : List Int) (i : Nat) (r : List Pt) : Option (List Pt × Pt) :=
  if ar (l.getD i 0) = 0 then some (r ++ [.leaf i], .leaf i)
  else if ar (l.getD i 0) = 1 then (match r.reverse with
    | k :: r' => some (r'.reverse ++ [.one k i], .one k i)
    | [] => none)
  else if ar (l.getD i 0) = 2 then (match r.reverse with
    | b :: a :: r' => some (r'.reverse ++ [.two a b i], .two a b i)
    | _ => none)
  else none
/-- The row, and the parts, of so many items. -/
def run (l : List Int) : Nat → Option (List Pt × List Pt)
  | 0 => some ([], [])
  | i + 1 => match run l i with
    | none => none
    | some (r, ps) => match stp l i r with
      | none => none
      | some (r', p) => some (r', ps ++ [p])
theorem run_none {l : List Int} {i : Nat} (h : run l i = none) : ∀ j, i ≤ j → run l j = none := by
  intro j hj
  induction j with
  | zero => rw [show i = 0 by omega] at h; exact h
  | succ j ih =>
    by_cases e : i = j + 1
    · rw [← e]; exact h
    · have := ih (by omega)
      unfold run; rw [this]
theorem run_succ {l : List Int} {i : Nat} {r ps : List Pt} (h : run l i = some (r, ps)) : run l (i + 1) = match stp l i r with
      | none => none
      | some (r', p) => some (r', ps ++ [p]) := by
  conv => lhs; unfold run
  rw [h]
theorem stp_leaf {l : List Int} {i : Nat} {r : List Pt} (h : ar (l.getD i 0) = 0) : stp l i r = some (r ++ [.leaf i], .leaf i) := by unfold stp; rw [if_pos h]
theorem stp_one {l : List Int} {i : Nat} {r : List Pt} {k : Pt} (h : ar (l.getD i 0) = 1) : stp l i (r ++ [k]) = some (r ++ [.one k i], .one k i) := by
  unfold stp; rw [if_neg (by omega), if_pos h]; simp
theorem stp_two {l : List Int} {i : Nat} {r : List Pt} {a b : Pt} (h : ar (l.getD i 0) = 2) : stp l i (r ++ [a, b]) = some (r ++ [.two a b i], .two a b i) := by
  unfold stp; rw [if_neg (by omega), if_neg (by omega), if_pos h]; simp
theorem stp_bad {l : List Int} {i : Nat} {r : List Pt} (h : ar (l.getD i 0) < 0) : stp l i r = none := by
  unfold stp; rw [if_neg (by omega), if_neg (by omega), if_neg (by omega)]
theorem snoc_of {α : Type} {r : List α} {n : Nat} (h : r.length = n + 1) : ∃ r' x, r = r' ++ [x] ∧ r'.length = n := by
  refine ⟨r.dropLast, r.getLast (fun e => by subst e; simp at h), (List.dropLast_concat_getLast _).symm, by simp; omega⟩
theorem snoc2_of {α : Type} {r : List α} {n : Nat} (h : r.length = n + 2) : ∃ r' x y, r = r' ++ [x, y] ∧ r'.length = n := by
  obtain ⟨r1, y, h1, h2⟩ := snoc_of h
  obtain ⟨r2, x, h3, h4⟩ := snoc_of h2
  exact ⟨r2, x, y, by rw [h1, h3]; simp, h4⟩
theorem stp_few {l : List Int} {i : Nat} {r : List Pt} (h : (r.length : Int) < ar (l.getD i 0)) : stp l i r = none := by
  have hb := ar_bd (l.getD i 0)
  unfold stp
  rw [if_neg (by omega)]
  by_cases e1 : ar (l.getD i 0) = 1
  · rw [if_pos e1]
    have : r = [] := List.eq_nil_of_length_eq_zero (by omega)
    subst this; rfl
  · rw [if_neg e1, if_pos (by omega)]
    cases r with
    | nil => rfl
    | cons x r =>
      have : r = [] := List.eq_nil_of_length_eq_zero (by rw [List.length_cons] at h; omega)
      subst this; rfl
/-- What a run leaves: parts one behind the other; each part that any item ended. -/
structure Ran (l : List Int) (i : Nat) (r ps : List Pt) : Prop where
  rows : Rows l i r
  plen : ps.length = i
  parts : ∀ j, j < i → ∃ s p, ps[j]? = some p ∧ Span l s j p
theorem ran {l : List Int} : ∀ (i : Nat) (r ps : List Pt), i ≤ l.length → run l i = some (r, ps) → Ran l i r ps
  | 0, r, ps, _, h => by
    simp [run] at h
    obtain ⟨rfl, rfl⟩ := h
    exact ⟨.nil, rfl, fun j hj => by omega⟩
  | i + 1, r, ps, hi, h => by
    cases hr : run l i with
    | none => unfold run at h; rw [hr] at h; simp at h
    | some x =>
      obtain ⟨r0, ps0⟩ := x
      have ih := ran i r0 ps0 (by omega) hr
      rw [run_succ hr] at h
      have hb := ar_bd (l.getD i 0)
      have hpush : ∀ (s : Nat) (r' : List Pt) (p : Pt), Rows l s r' → Span l s i p → stp l i r0 = some (r' ++ [p], p) → Ran l (i + 1) r ps := fun s r' p h1 h2 h3 => by
        rw [h3] at h
        simp at h
        obtain ⟨rfl, rfl⟩ := h
        refine ⟨.snoc s i r' p h1 h2, by simp [ih.plen], fun j hj => ?_⟩
        by_cases e : j = i
        · subst e
          exact ⟨s, p, by rw [List.getElem?_append_right (by rw [ih.plen]; omega), ih.plen]; simp, h2⟩
        · obtain ⟨s', p', h4, h5⟩ := ih.parts j (by omega)
          exact ⟨s', p', by rw [List.getElem?_append_left (by rw [ih.plen]; omega)]; exact h4, h5⟩
      by_cases hneg : ar (l.getD i 0) < 0
      · rw [stp_bad hneg] at h; simp at h
      · by_cases hfew : (r0.length : Int) < ar (l.getD i 0)
        · rw [stp_few hfew] at h; simp at h
        · by_cases h0 : ar (l.getD i 0) = 0
          · exact hpush i r0 (.leaf i) ih.rows (.leaf i (by omega) h0) (stp_leaf h0)
          · by_cases h1 : ar (l.getD i 0) = 1
            · obtain ⟨r', k, h2, h3⟩ := snoc_of (r := r0) (n := r0.length - 1) (by omega)
              subst h2
              obtain ⟨s, e, h4, h5, h6⟩ := ih.rows.last
              subst h4
              exact hpush s r' (.one k (e + 1)) h5 (.one s e k (by omega) h1 h6) (stp_one h1)
            · have h2 : ar (l.getD i 0) = 2 := by omega
              obtain ⟨r', a, b, h3, h4⟩ := snoc2_of (r := r0) (n := r0.length - 2) (by omega)
              subst h3
              have hrw := ih.rows
              rw [show r' ++ [a, b] = (r' ++ [a]) ++ [b] by simp] at hrw
              obtain ⟨m1, e, h5, h6, h7⟩ := hrw.last
              obtain ⟨s, m, h8, h9, h10⟩ := h6.last
              subst h5 h8
              exact hpush s r' (.two a b (e + 1)) h9 (.two s m e a b (by omega) h2 h10 h7) (stp_two h2)
/-- Who finds the start has gone through a row. -/
theorem run_of_bw {l : List Int} : ∀ (i : Nat) (w : Int), 1 ≤ w → bw l i w = 0 → ∃ r ps, run l i = some (r, ps) ∧ (r.length : Int) = w
  | 0, w, _, h => by simp [bw] at h
  | i + 1, w, hw, h => by
    have hb := ar_bd (l.getD i 0)
    unfold bw at h
    by_cases hneg : ar (l.getD i 0) < 0
    · rw [if_pos hneg] at h; omega
    · rw [if_neg hneg] at h
      by_cases h0 : w + ar (l.getD i 0) - 1 = 0
      · rw [if_pos h0] at h
        have : i = 0 := by omega
        subst this
        refine ⟨[.leaf 0], [.leaf 0], ?_, by simp; omega⟩
        rw [run_succ (r := []) (ps := []) rfl, stp_leaf (by omega)]; rfl
      · rw [if_neg h0] at h
        obtain ⟨r, ps, h1, h2⟩ := run_of_bw i (w + ar (l.getD i 0) - 1) (by omega) h
        rw [run_succ h1]
        by_cases e0 : ar (l.getD i 0) = 0
        · exact ⟨_, _, by rw [stp_leaf e0], by simp; omega⟩
        · by_cases e1 : ar (l.getD i 0) = 1
          · obtain ⟨r', k, h3, h4⟩ := snoc_of (r := r) (n := r.length - 1) (by omega)
            subst h3
            exact ⟨_, _, by rw [stp_one e1], by rw [List.length_append, List.length_singleton] at h2 ⊢; omega⟩
          · have e2 : ar (l.getD i 0) = 2 := by omega
            obtain ⟨r', a, b, h3, h4⟩ := snoc2_of (r := r) (n := r.length - 2) (by omega)
            subst h3
            exact ⟨_, _, by rw [stp_two e2], by rw [List.length_append] at h2 ⊢; simp only [List.length_cons, List.length_nil] at h2 ⊢; omega⟩
/-- Is a list a formula? -/
def okF (l : List Int) : Bool := decide (bw l l.length 1 = 0)
theorem okF_yes {l : List Int} (h : okF l = true) : ∃ p ps, run l l.length = some ([p], ps) ∧ Ran l l.length [p] ps ∧ 0 < l.length := by
  have h1 := of_decide_eq_true h
  obtain ⟨r, ps, h2, h3⟩ := run_of_bw l.length 1 (by omega) h1
  obtain ⟨r', p, h4, h5⟩ := snoc_of (r := r) (n := 0) (by omega)
  have : r' = [] := List.eq_nil_of_length_eq_zero h5
  subst this
  subst h4
  have h6 := ran l.length _ _ (Nat.le_refl _) h2
  refine ⟨p, ps, h2, h6, ?_⟩
  have := h6.rows.le.1
  have h7 : ([p] : List Pt).length = 1 := rfl
  show 0 < l.length
  exact Nat.lt_of_lt_of_le (by decide : 0 < 1) this
theorem okF_of {l : List Int} {p : Pt} {ps : List Pt} (h : run l l.length = some ([p], ps)) : okF l = true := by
  have h1 := ran l.length _ _ (Nat.le_refl _) h
  have h2 := h1.rows
  rw [show [p] = [] ++ [p] by rfl] at h2
  obtain ⟨s, e, h3, h4, h5⟩ := h2.last
  have hs : s = 0 := by
    generalize hq : ([] : List Pt) = q at h4
    cases h4 with
    | nil => rfl
    | snoc => simp at hq
  subst hs
  have h6 := h5.bw 1 (by omega)
  rw [if_pos rfl, ← h3] at h6
  exact decide_eq_true h6
theorem okF_no {l : List Int} (h : okF l = false) : ∀ r ps, run l l.length = some (r, ps) → r.length ≠ 1 := fun r ps hr e => by
  obtain ⟨r', p, h4, h5⟩ := snoc_of (r := r) (n := 0) (by omega)
  have : r' = [] := List.eq_nil_of_length_eq_zero h5
  subst this
  subst h4
  rw [okF_of hr] at h; cases h
/-- The part that an item ends. -/
theorem part_of {l : List Int} (h : okF l = true) (j : Nat) (hj : j < l.length) : ∃ p ps pj s, run l l.length = some ([p], ps) ∧ ps[j]? = some pj ∧ Span l s j pj := by
  obtain ⟨p, ps, h1, h2, _⟩ := okF_yes h
  obtain ⟨s, pj, h3, h4⟩ := h2.parts j hj
  exact ⟨p, ps, pj, s, h1, h3, h4⟩
/-- Where a part begins. -/
theorem Span.begin {l : List Int} {s e : Nat} {p : Pt} (h : Span l s e p) : Tr.bw l (e + 1) 1 = (s : Int) := by rw [h.bw 1 (by omega), if_pos rfl]
end Tr
end Go.Proofs.YtbplkphjjfgkmaaDoor
