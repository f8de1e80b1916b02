/-
  Slices of the call's own whose elements have several cells: what a cell holds, what a store of a whole element leaves.
-/
import Derived.Test.YtbplkphjjfgkmaaDoorKit
import Derived.Deep.MidRow
namespace Go.Proofs.YtbplkphjjfgkmaaDoor
open Go.RowKit
set_option linter.unusedVariables false
set_option linter.unusedSimpArgs false

namespace Rec
variable {α : Type}
/-- The cells of a list, one element behind the other. -/
def flat (enc : α → List Value) (l : List α) : List Value := l.flatMap enc
theorem flat_nil (enc : α → List Value) : flat enc [] = [] := rfl
theorem flat_cons (enc : α → List Value) (x : α) (l : List α) : flat enc (x :: l) = enc x ++ flat enc l := by simp [flat]
theorem flat_snoc (enc : α → List Value) (x : α) (l : List α) : flat enc (l ++ [x]) = flat enc l ++ enc x := by simp [flat]
theorem flat_len {enc : α → List Value} {k : Nat} (hk : ∀ x, (enc x).length = k) : ∀ l : List α, (flat enc l).length = l.length * k
  | [] => by simp [flat]
  | x :: l => by rw [flat_cons, List.length_append, hk, flat_len hk l, List.length_cons, Nat.add_mul]; omega
theorem flat_at {enc : α → List Value} {k : Nat} (hk : ∀ x, (enc x).length = k) : ∀ (l : List α) (p j : Nat) (hp : p < l.length), j < k → (flat enc l)[p * k + j]? = (enc l[p])[j]?
  | [], p, j, hp, _ => by simp at hp
  | x :: l, 0, j, hp, hj => by
    rw [flat_cons, Nat.zero_mul, Nat.zero_add, List.getElem?_append_left (by rw [hk]; exact hj)]; rfl
  | x :: l, p + 1, j, hp, hj => by
    rw [flat_cons, List.getElem?_append_right (by rw [hk, Nat.add_mul]; omega), hk, show (p + 1) * k + j - k = p * k + j by rw [Nat.add_mul]; omega]
    exact flat_at hk l p j (by simpa using hp) hj
def put (xs : List Value) : Nat → List Value → List Value
  | _, [] => xs
  | o, v :: r => put (xs.set o v) (o + 1) r
theorem put_at : ∀ (vs xs : List Value) (o i : Nat), (put xs o vs)[i]? = if o ≤ i ∧ i < o + vs.length then (if i < xs.length then vs[i - o]? else none) else xs[i]?
  | [], xs, o, i => by
    rw [if_neg (by simp)]; rfl
  | v :: r, xs, o, i => by
    rw [put, put_at r, List.length_set, List.length_cons]
    by_cases h : o = i
    · subst h
      rw [if_neg (by omega), if_pos (by omega), Nat.sub_self, List.getElem?_set]
      simp
    · by_cases h2 : o + 1 ≤ i ∧ i < o + 1 + r.length
      · rw [if_pos h2, if_pos (show o ≤ i ∧ i < o + (r.length + 1) by omega), show i - o = (i - (o + 1)) + 1 by omega, List.getElem?_cons_succ]
      · rw [if_neg h2, if_neg (by omega), List.getElem?_set_ne h]
theorem put_flat {enc : α → List Value} {k : Nat} (hk : ∀ x, (enc x).length = k) (l : List α) (p : Nat) (hp : p < l.length) (y : α) : put (flat enc l) (p * k) (enc y) = flat enc (l.set p y) := by
  apply List.ext_getElem?
  intro i
  rw [put_at, flat_len hk, hk]
  rcases Nat.eq_zero_or_pos k with h0 | h0
  · subst h0
    rw [if_neg (by omega), List.getElem?_eq_none (by rw [flat_len hk]; omega), List.getElem?_eq_none (by rw [flat_len hk]; omega)]
  · by_cases hi : i < l.length * k
    · have hq : i / k < l.length := (Nat.div_lt_iff_lt_mul h0).2 hi
      have hi2 : i = i / k * k + i % k := by rw [Nat.mul_comm]; exact (Nat.div_add_mod i k).symm
      have hm := Nat.mod_lt i h0
      by_cases e : i / k = p
      · rw [e] at hi2
        rw [if_pos (by omega), if_pos hi]
        rw [show i - p * k = i % k by omega]
        conv => rhs; rw [hi2, flat_at hk _ _ _ (by simpa using hp) hm]
        simp
      · rw [if_neg (by
          intro h
          apply e
          have h1 : p ≤ i / k := (Nat.le_div_iff_mul_le h0).2 h.1
          have h2 : i / k < p + 1 := (Nat.div_lt_iff_lt_mul h0).2 (by rw [Nat.add_mul]; omega)
          omega)]
        rw [hi2, flat_at hk _ _ _ hq hm, flat_at hk _ _ _ (by simpa using hq) hm]
        rw [List.getElem_set_ne (fun e2 => e e2.symm)]
    · rw [if_neg (by
        intro h
        have : (p + 1) * k ≤ l.length * k := Nat.mul_le_mul_right k hp
        rw [Nat.add_mul] at this
        omega), List.getElem?_eq_none (by rw [flat_len hk]; omega), List.getElem?_eq_none (by rw [flat_len hk, List.length_set]; omega)]
end Rec
section
variable {w : World} {base g n cap size : Nat} {e : TypeId}
theorem own_put : ∀ (vs : List Value) (o : Nat) (w : World) (xs : List Value), w.ownsRow base e size (.slice (some ⟨g, 0, none⟩) n cap) n xs →
    (w.setCells g o vs).ownsRow base e size (.slice (some ⟨g, 0, none⟩) n cap) n (Rec.put xs o vs) ∧ Keeps (fun j => j = g) w (w.setCells g o vs)
  | [], o, w, xs, h => ⟨h, Keeps.refl _ _⟩
  | v :: r, o, w, xs, h => by
    have h1 := own_put r (o + 1) (w.setCell ⟨g, o, none⟩ v) (xs.set o v) (h.stored o v).1
    have h2 : Keeps (fun j => j = g) w (w.setCell ⟨g, o, none⟩ v) := Keeps.setCell w ⟨g, o, none⟩ v rfl
    exact ⟨h1.1, h2.trans h1.2⟩
theorem Keeps.setCells {S : Nat → Prop} (hg : S g) : ∀ (vs : List Value) (o : Nat) (w : World), Keeps S w (w.setCells g o vs)
  | [], o, w => Keeps.refl _ _
  | v :: r, o, w => (Keeps.setCell w ⟨g, o, none⟩ v hg).trans (Keeps.setCells hg r (o + 1) _)
variable {α : Type} {enc : α → List Value} {k : Nat}
/-- A cell of an element. -/
theorem own_cell (hk : ∀ x, (enc x).length = k) {l : List α} (h : w.ownsRow base e k (.slice (some ⟨g, 0, none⟩) n cap) n (Rec.flat enc l)) (p j : Nat) (hp : p < l.length) (hj : j < k) : w.cell? ⟨g, p * k + j, none⟩ = (enc l[p])[j]? := by
  have hl := h.1
  rw [Rec.flat_len hk] at hl
  have hlen : (Rec.flat enc l).length = l.length * k := Rec.flat_len hk l
  have hlt : p * k + j < l.length * k := by
    have : (p + 1) * k ≤ l.length * k := Nat.mul_le_mul_right k hp
    rw [Nat.add_mul] at this; omega
  rw [h.cellAt (p * k + j) (by first | (rw [← hl]; exact hlt) | (rw [hlen]; exact hlt)), Rec.flat_at hk l p j hp hj]
theorem own_there (hk : ∀ x, (enc x).length = k) {l : List α} (h : w.ownsRow base e k (.slice (some ⟨g, 0, none⟩) n cap) n (Rec.flat enc l)) (p : Nat) (hp : p < l.length) : w.there g (p * k) k := fun j hj => by
  refine ⟨?_, h.frozenAt _⟩
  rw [own_cell hk h p j hp hj, List.getElem?_eq_getElem (by rw [hk]; exact hj)]; rfl
theorem own_range (hk : ∀ x, (enc x).length = k) {l : List α} (h : w.ownsRow base e k (.slice (some ⟨g, 0, none⟩) n cap) n (Rec.flat enc l)) (p : Nat) (hp : p < l.length) : w.rangeAt g (p * k) (enc l[p]) := fun j v hv => by
  have hj : j < k := by rw [← hk l[p]]; exact (List.getElem?_eq_some_iff.1 hv).1
  rw [own_cell hk h p j hp hj, hv]
/-- A whole element is stored. -/
theorem own_set (hk : ∀ x, (enc x).length = k) {l : List α} (h : w.ownsRow base e k (.slice (some ⟨g, 0, none⟩) n cap) n (Rec.flat enc l)) (p : Nat) (hp : p < l.length) (y : α) :
    (w.setCells g (p * k) (enc y)).ownsRow base e k (.slice (some ⟨g, 0, none⟩) n cap) n (Rec.flat enc (l.set p y)) ∧ Keeps (fun j => j = g) w (w.setCells g (p * k) (enc y)) := by
  have h1 := own_put (enc y) (p * k) w _ h
  rw [Rec.put_flat hk l p hp y] at h1
  exact h1
end
end Go.Proofs.YtbplkphjjfgkmaaDoor
