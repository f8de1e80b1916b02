/-
  How far places are, and which way is the shortest, in plain words.
-/
import Derived.Test.YtlmecpghlgndnaaLabPlain
namespace Go.Proofs.Ytlmecpghlgndnaa
open Go.RowKit
set_option linter.unusedVariables false
set_option linter.unusedSimpArgs false

namespace Pa
open Lb
/-- How far each place is, after so many rounds: -1: not found. -/
def far (nx : List (List Int)) (A B : List Bool) : Nat → Nat → Int
  | 0, i => if inB B i then 0 else -1
  | n + 1, i => if (decide (far nx A B n i < 0) && inB A i && (row nx i).any (fun x => decide (0 ≤ x) && decide (x < (nx.length : Int)) && decide (far nx A B n x.toNat = (n : Int)))) = true then ((n + 1 : Nat) : Int) else far nx A B n i
theorem far_keep {nx : List (List Int)} {A B : List Bool} {n i : Nat} (h : 0 ≤ far nx A B n i) : far nx A B (n + 1) i = far nx A B n i := by
  conv => lhs; unfold far
  rw [if_neg]
  rw [decide_eq_false (by omega)]; simp
theorem far_le (nx : List (List Int)) (A B : List Bool) (i : Nat) : ∀ n : Nat, -1 ≤ far nx A B n i ∧ far nx A B n i ≤ (n : Int)
  | 0 => by unfold far; split <;> omega
  | n + 1 => by
    have := far_le nx A B i n
    unfold far; split <;> omega
theorem far_keeps {nx : List (List Int)} {A B : List Bool} {n i : Nat} (h : 0 ≤ far nx A B n i) : ∀ m, far nx A B (n + m) i = far nx A B n i
  | 0 => rfl
  | m + 1 => by
    have h1 := far_keeps h m
    rw [show n + (m + 1) = (n + m) + 1 by omega, far_keep (by rw [h1]; exact h), h1]
/-- What is found with k steps is found in round k. -/
theorem far_at {nx : List (List Int)} {A B : List Bool} {n k i : Nat} (h : far nx A B n i = (k : Int)) : ∀ m, k ≤ m → far nx A B m i = (k : Int) := by
  have hk : far nx A B k i = (k : Int) := by
    induction n with
    | zero =>
      have := (far_le nx A B i 0).2
      have : k = 0 := by omega
      subst this; exact h
    | succ n ih =>
      by_cases hn : 0 ≤ far nx A B n i
      · rw [far_keep hn] at h; exact ih h
      · by_cases e : k = n + 1
        · rw [e] at h ⊢; exact h
        · exfalso
          unfold far at h
          split at h <;> omega
  intro m hm
  have := far_keeps (m := m - k) (by rw [hk]; omega : 0 ≤ far nx A B k i)
  rw [show k + (m - k) = m by omega] at this
  rw [this, hk]
theorem far_step {nx : List (List Int)} {A B : List Bool} {n k i : Nat} (h : far nx A B n i = ((k + 1 : Nat) : Int)) : inB A i = true ∧ ∃ x, E nx i x ∧ far nx A B k x = (k : Int) := by
  have h1 := far_at h (k + 1) (Nat.le_refl _)
  unfold far at h1
  split at h1
  · rename_i hc
    simp only [Bool.and_eq_true, List.any_eq_true, decide_eq_true_eq] at hc
    obtain ⟨⟨_, h2⟩, x, hx, ⟨h3, h4⟩, h5⟩ := hc
    exact ⟨h2, x.toNat, ⟨by omega, by rw [show ((x.toNat : Nat) : Int) = x by omega]; exact hx⟩, h5⟩
  · have := (far_le nx A B i k).2; omega
theorem far_tri {nx : List (List Int)} {A B : List Bool} {k i x : Nat} (hA : inB A i = true) (hE : E nx i x) (h : far nx A B k x = (k : Int)) : 0 ≤ far nx A B (k + 1) i ∧ far nx A B (k + 1) i ≤ (k : Int) + 1 := by
  by_cases h0 : 0 ≤ far nx A B k i
  · rw [far_keep h0]; have := (far_le nx A B i k).2; omega
  · unfold far
    rw [if_pos]
    · omega
    · simp only [Bool.and_eq_true, List.any_eq_true, decide_eq_true_eq]
      exact ⟨⟨by omega, hA⟩, (x : Int), hE.2, ⟨by omega, by have := hE.1; omega⟩, by rw [Int.toNat_natCast]; exact h⟩
/-- How far each place is. -/
def F (nx : List (List Int)) (A B : List Bool) (i : Nat) : Int := far nx A B nx.length i
/-- How many places are at most k steps from there. -/
def near (nx : List (List Int)) (A B : List Bool) (k : Nat) : Nat := ((List.range nx.length).filter (fun i => decide (0 ≤ F nx A B i) && decide (F nx A B i ≤ (k : Int)))).length
theorem filter_lt {α : Type} (p q : α → Bool) (hpq : ∀ x, p x = true → q x = true) : ∀ (l : List α) (y : α), y ∈ l → p y = false → q y = true → (l.filter p).length < (l.filter q).length
  | [], y, h, _, _ => by simp at h
  | x :: l, y, h, hp, hq => by
    have hle : (l.filter p).length ≤ (l.filter q).length := by
      clear h
      induction l with
      | nil => simp
      | cons z l ih =>
        simp only [List.filter_cons]
        by_cases hz : p z = true
        · rw [if_pos hz, if_pos (hpq z hz)]; simpa using ih
        · rw [if_neg hz]; split
          · simp; omega
          · exact ih
    rcases List.mem_cons.1 h with rfl | h
    · simp only [List.filter_cons]
      rw [if_neg (by rw [hp]; decide), if_pos hq]
      simp; omega
    · have := filter_lt p q hpq l y h hp hq
      simp only [List.filter_cons]
      by_cases hz : p x = true
      · rw [if_pos hz, if_pos (hpq x hz)]; simpa using this
      · rw [if_neg hz]; split
        · simp; omega
        · exact this
theorem near_up {nx : List (List Int)} {A B : List Bool} : ∀ (k i : Nat), i < nx.length → F nx A B i = (k : Int) → k + 1 ≤ near nx A B k
  | 0, i, hi, h => by
    unfold near
    refine List.length_pos_of_mem (List.mem_filter.2 ⟨List.mem_range.2 hi, ?_⟩)
    rw [h]; rfl
  | k + 1, i, hi, h => by
    obtain ⟨_, x, hx, h1⟩ := far_step h
    have h2 : F nx A B x = (k : Int) := far_at h1 nx.length (by have := (far_le nx A B i nx.length).2; unfold F at h; omega)
    have h3 := near_up k x hx.1 h2
    have h4 : near nx A B k < near nx A B (k + 1) := by
      unfold near
      refine filter_lt _ _ (fun y hy => ?_) _ i (List.mem_range.2 hi) ?_ ?_
      · simp only [Bool.and_eq_true, decide_eq_true_eq] at hy ⊢; omega
      · rw [h, decide_eq_false (show ¬ ((k + 1 : Nat) : Int) ≤ (k : Int) by omega)]; simp
      · rw [h]; simp; omega
    omega
theorem F_lt {nx : List (List Int)} {A B : List Bool} {i : Nat} (hi : i < nx.length) : F nx A B i < (nx.length : Int) := by
  rcases (by omega : F nx A B i < (nx.length : Int) ∨ (nx.length : Int) ≤ F nx A B i) with h | h
  · exact h
  · exfalso
    have h1 := (far_le nx A B i nx.length).2
    have h2 := near_up (A := A) (B := B) nx.length i hi (by unfold F at h ⊢; omega)
    have h3 : near nx A B nx.length ≤ nx.length := by
      unfold near
      refine Nat.le_trans (List.length_filter_le _ _) (by simp)
    omega
/-- What a function must tell of distances. -/
structure Dst (nx : List (List Int)) (A B : List Bool) (f : Nat → Int) : Prop where
  low : ∀ i, -1 ≤ f i
  zero : ∀ i, i < nx.length → (f i = 0 ↔ inB B i = true)
  tri : ∀ i x, inB A i = true → E nx i x → 0 ≤ f x → 0 ≤ f i ∧ f i ≤ f x + 1
  step : ∀ i (m : Nat), f i = ((m + 1 : Nat) : Int) → inB A i = true ∧ ∃ x, E nx i x ∧ f x = (m : Int)
theorem dst_F (nx : List (List Int)) (A B : List Bool) : Dst nx A B (F nx A B) := by
  refine ⟨fun i => (far_le nx A B i _).1, fun i hi => ?_, fun i x hA hE h0 => ?_, fun i m h => ?_⟩
  · constructor
    · intro h
      have := far_at (k := 0) h 0 (Nat.le_refl _)
      unfold far at this
      split at this
      · assumption
      · omega
    · intro h
      have : far nx A B 0 i = ((0 : Nat) : Int) := by unfold far; rw [if_pos h]; rfl
      exact far_at this _ (by omega)
  · obtain ⟨k, hk⟩ : ∃ k : Nat, F nx A B x = (k : Int) := ⟨(F nx A B x).toNat, by omega⟩
    have h1 : k < nx.length := by have := F_lt (A := A) (B := B) hE.1; omega
    have h2 := far_tri hA hE (far_at hk k (Nat.le_refl _))
    have h3 := far_keeps h2.1 (nx.length - (k + 1))
    rw [show k + 1 + (nx.length - (k + 1)) = nx.length by omega] at h3
    rw [hk]
    unfold F
    rw [h3]; omega
  · obtain ⟨h1, x, h2, h3⟩ := far_step h
    exact ⟨h1, x, h2, far_at h3 _ (by have := (far_le nx A B i nx.length).2; unfold F at h; omega)⟩
/-- Which edge is the first that leads to a place of a distance. -/
def edge (nx : List (List Int)) (f : Nat → Int) (m : Nat) (p : Nat) : Nat := (row nx p).findIdx (fun x => decide (0 ≤ x) && decide (x < (nx.length : Int)) && decide (f x.toNat = (m : Int)))
/-- The way that always leads nearer, by the first edge that does. -/
def gw (nx : List (List Int)) (f : Nat → Int) : Nat → Nat → List Int
  | 0, _ => []
  | m + 1, p => (edge nx f m p : Int) :: gw nx f m ((row nx p).getD (edge nx f m p) 0).toNat
theorem gw_succ (nx : List (List Int)) (f : Nat → Int) (m p : Nat) : gw nx f (m + 1) p = (edge nx f m p : Int) :: gw nx f m ((row nx p).getD (edge nx f m p) 0).toNat := rfl
theorem gw_zero (nx : List (List Int)) (f : Nat → Int) (p : Nat) : gw nx f 0 p = [] := rfl
theorem edge_lt {nx : List (List Int)} {A B : List Bool} {f : Nat → Int} (h : Dst nx A B f) {p m : Nat} (hp : f p = ((m + 1 : Nat) : Int)) :
    edge nx f m p < (row nx p).length ∧ 0 ≤ (row nx p).getD (edge nx f m p) 0 ∧ (row nx p).getD (edge nx f m p) 0 < (nx.length : Int) ∧ f ((row nx p).getD (edge nx f m p) 0).toNat = (m : Int) := by
  obtain ⟨_, x, hx, h1⟩ := h.step p m hp
  have hlt : edge nx f m p < (row nx p).length := by
    unfold edge
    rw [List.findIdx_lt_length]
    exact ⟨(x : Int), hx.2, by rw [Int.toNat_natCast, h1, decide_eq_true (by omega), decide_eq_true (by have := hx.1; omega)]; simp⟩
  have h2 := List.findIdx_getElem (xs := row nx p) (p := fun x => decide (0 ≤ x) && decide (x < (nx.length : Int)) && decide (f x.toNat = (m : Int))) (w := hlt)
  simp only [Bool.and_eq_true, decide_eq_true_eq] at h2
  have h3 : (row nx p).getD (edge nx f m p) 0 = (row nx p)[edge nx f m p] := by rw [List.getD_eq_getElem?_getD, List.getElem?_eq_getElem hlt]; rfl
  rw [h3]
  exact ⟨hlt, h2.1.1, h2.1.2, h2.2⟩
/-- The first edge is the first. -/
theorem edge_at {nx : List (List Int)} {f : Nat → Int} {p m k : Nat} (hk : k < (row nx p).length) (h : ∀ j, j < k → ∀ x : Nat, (row nx p).getD j 0 = (x : Int) → x < nx.length → f x ≠ (m : Int)) {x : Nat} (hx : (row nx p).getD k 0 = (x : Int)) (hxl : x < nx.length) (hf : f x = (m : Int)) : edge nx f m p = k := by
  unfold edge
  rw [List.findIdx_eq hk]
  have hg : ∀ j (hj : j < (row nx p).length), (row nx p).getD j 0 = (row nx p)[j] := fun j hj => by rw [List.getD_eq_getElem?_getD, List.getElem?_eq_getElem hj]; rfl
  refine ⟨?_, fun j hj => ?_⟩
  · rw [← hg k hk, hx, Int.toNat_natCast, hf, decide_eq_true (by omega), decide_eq_true (by omega)]; simp
  · rw [← hg j (by omega)]
    have h1 := h j hj
    generalize (row nx p).getD j 0 = z at h1 ⊢
    by_cases h0 : 0 ≤ z
    · by_cases h2 : z < (nx.length : Int)
      · have := h1 z.toNat (by omega) (by omega)
        rw [decide_eq_false this]; simp
      · rw [decide_eq_false h2]; simp
    · rw [decide_eq_false h0]; simp
/-- How each place was found: is it, from where, by which edge. -/
abbrev Hw := List (Bool × Int × Int)
def fnd (H : Hw) (p : Nat) : Bool := (H.getD p (false, 0, 0)).1
theorem fnd_set {H : Hw} {i p : Nat} {v : Bool × Int × Int} (hi : i < H.length) : fnd (H.set i v) p = if p = i then v.1 else fnd H p := by
  unfold fnd
  rw [getD_set H i p v _ hi]
  split <;> rfl
/-- By which way a place was found. -/
inductive Chain (H : Hw) : Nat → List Int → Prop
  | start (p : Nat) (z : Int) (e : Int) : p < H.length → H.getD p (false, 0, 0) = (true, z, e) → z < 0 → Chain H p []
  | next (q p : Nat) (e : Int) (w : List Int) : p < H.length → H.getD p (false, 0, 0) = (true, (q : Int), e) → Chain H q w → Chain H p (w ++ [e])
theorem Chain.mono {H : Hw} {p : Nat} {w : List Int} (h : Chain H p w) {i : Nat} {v : Bool × Int × Int} (hi : fnd H i = false) (hil : i < H.length) : Chain (H.set i v) p w := by
  induction h with
  | start p z e hl hp hz =>
    have hne : p ≠ i := fun e0 => by subst e0; unfold fnd at hi; rw [hp] at hi; cases hi
    exact .start p z e (by simpa using hl) (by rw [getD_set H i p v _ hil, if_neg hne]; exact hp) hz
  | next q p e w hl hp _ ih =>
    have hne : p ≠ i := fun e0 => by subst e0; unfold fnd at hi; rw [hp] at hi; cases hi
    exact .next q p e w (by simpa using hl) (by rw [getD_set H i p v _ hil, if_neg hne]; exact hp) ih
/-- In a row stands first, of those so far from there, one by which the way leads. -/
def Good (nx : List (List Int)) (f : Nat → Int) (G : List Int) (H : Hw) (L : List Int) (m : Nat) : Prop :=
  ∃ (pre post w : List Int) (g : Nat), L = pre ++ (g : Int) :: post ∧ f g = (m : Int) ∧ (∀ x ∈ pre, f x.toNat ≠ (m : Int)) ∧ Chain H g w ∧ G = w ++ gw nx f m g
def Bad (f : Nat → Int) (L : List Int) (m : Nat) : Prop := ∀ x ∈ L, f x.toNat ≠ (m : Int)
theorem Good.mono {nx : List (List Int)} {f : Nat → Int} {G : List Int} {H : Hw} {L : List Int} {m : Nat} (h : Good nx f G H L m) {i : Nat} {v : Bool × Int × Int} (hi : fnd H i = false) (hil : i < H.length) : Good nx f G (H.set i v) L m := by
  obtain ⟨pre, post, w, g, h1, h2, h3, h4, h5⟩ := h
  exact ⟨pre, post, w, g, h1, h2, h3, h4.mono hi hil, h5⟩
theorem Good.more {nx : List (List Int)} {f : Nat → Int} {G : List Int} {H : Hw} {L : List Int} {m : Nat} (h : Good nx f G H L m) (x : Int) : Good nx f G H (L ++ [x]) m := by
  obtain ⟨pre, post, w, g, h1, h2, h3, h4, h5⟩ := h
  exact ⟨pre, post ++ [x], w, g, by rw [h1]; simp, h2, h3, h4, h5⟩
theorem Good.tail {nx : List (List Int)} {f : Nat → Int} {G : List Int} {H : Hw} {L : List Int} {m p : Nat} (h : Good nx f G H ((p : Int) :: L) m) (hp : f p ≠ (m : Int)) : Good nx f G H L m := by
  obtain ⟨pre, post, w, g, h1, h2, h3, h4, h5⟩ := h
  cases pre with
  | nil =>
    simp at h1
    exact absurd (by rw [show p = g by omega]; exact h2) hp
  | cons y pre =>
    simp only [List.cons_append, List.cons.injEq] at h1
    exact ⟨pre, post, w, g, h1.2, h2, fun x hx => h3 x (by simp [hx]), h4, h5⟩
theorem Good.head {nx : List (List Int)} {f : Nat → Int} {G : List Int} {H : Hw} {L : List Int} {m p : Nat} (h : Good nx f G H ((p : Int) :: L) m) (hp : f p = (m : Int)) : ∃ w, Chain H p w ∧ G = w ++ gw nx f m p := by
  obtain ⟨pre, post, w, g, h1, h2, h3, h4, h5⟩ := h
  cases pre with
  | nil =>
    simp at h1
    have : g = p := by omega
    subst this
    exact ⟨w, h4, h5⟩
  | cons y pre =>
    simp only [List.cons_append, List.cons.injEq] at h1
    exact absurd hp (by have := h3 y (by simp); rw [← h1.1] at this; simpa using this)
theorem Good.mem {nx : List (List Int)} {f : Nat → Int} {G : List Int} {H : Hw} {L : List Int} {m : Nat} (h : Good nx f G H L m) : ∃ g : Nat, (g : Int) ∈ L ∧ f g = (m : Int) := by
  obtain ⟨pre, post, w, g, h1, h2, h3, h4, h5⟩ := h
  exact ⟨g, by rw [h1]; simp, h2⟩
theorem Good.nil {nx : List (List Int)} {f : Nat → Int} {G : List Int} {H : Hw} {m : Nat} (h : Good nx f G H [] m) : False := by
  obtain ⟨g, hg, _⟩ := h.mem
  simp at hg
end Pa
end Go.Proofs.Ytlmecpghlgndnaa
