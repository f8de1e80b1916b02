/-
  Names: the document's own answers: lists alone.
-/
import Derived.Test.YtpbgicfoopicbaaNamPlain
namespace Go.Proofs.Ytpbgicfoopicbaa
open Go.RowKit
set_option linter.unusedVariables false
set_option linter.unusedSimpArgs false

namespace Nm
theorem good_at {l : List St} (h : Nm.Good l) : ∀ i (hi : i < l.length), Nm.errOf (l.take i) l[i] = 0 := by
  induction h with
  | nil => intro i hi; simp at hi
  | @snoc L x hL he ih =>
    intro i hi
    by_cases h1 : i < L.length
    · rw [List.getElem_append_left h1, List.take_append_of_le_length (by omega)]
      exact ih i h1
    · have h2 : i = L.length := by simp at hi; omega
      subst h2
      rw [List.getElem_append_right (by omega), List.take_left']
      · simpa using he
      · rfl
/-- A statement with a name has a place. -/
theorem place_of {l : List St} : ∀ i (hi : i < l.length), Nm.named l[i].kind = true → ∃ (j n : Nat), (Nm.names l)[j]? = some l[i].name ∧ (Nm.places l)[j]? = some (l[i].kind, n) ∧ n < Nm.cnt l l[i].kind ∧ n = Nm.cnt (l.take i) l[i].kind := by
  induction l using Nm.snocInd with
  | h0 => intro i hi; simp at hi
  | h1 L x ih =>
    intro i hi hn
    by_cases h1 : i < L.length
    · rw [List.getElem_append_left h1] at hn ⊢
      obtain ⟨j, n, a, b, c, d⟩ := ih i h1 hn
      refine ⟨j, n, ?_, ?_, by rw [Nm.cnt_snoc]; omega, ?_⟩
      · rw [Nm.names_snoc, List.getElem?_append_left (List.getElem?_eq_some_iff.1 a).1]; exact a
      · rw [Nm.places_snoc, List.getElem?_append_left (List.getElem?_eq_some_iff.1 b).1]; exact b
      · rw [List.take_append_of_le_length (by omega)]; exact d
    · have h2 : i = L.length := by simp at hi; omega
      subst h2
      have hx : (L ++ [x])[L.length] = x := by simp
      rw [hx] at hn ⊢
      refine ⟨(Nm.names L).length, Nm.cnt L x.kind, ?_, ?_, by rw [Nm.cnt_snoc, if_pos rfl]; omega, by rw [List.take_left' rfl]⟩
      · rw [Nm.names_snoc, if_pos hn]; simp
      · rw [Nm.places_snoc, if_pos hn, Nm.len_np]; simp
/-- Statement j has a name, and it is this one. -/
def isAt (l : List St) (s : ByteArray) (j : Nat) : Prop := ∃ h : j < l.length, named l[j].kind = true ∧ l[j].name = s
theorem mem_names {l : List St} {s : ByteArray} : s ∈ names l ↔ ∃ j, isAt l s j := by
  induction l using Nm.snocInd with
  | h0 => simp [names, ents, entsA, isAt]
  | h1 L x ih =>
    rw [names_snoc, List.mem_append, ih]
    constructor
    · rintro (⟨j, h, a, b⟩ | h)
      · exact ⟨j, by simp; omega, by rw [List.getElem_append_left h]; exact a, by rw [List.getElem_append_left h]; exact b⟩
      · split at h
        · rename_i hn
          rw [List.mem_singleton] at h
          exact ⟨L.length, by simp, by simpa using hn, by simpa using h.symm⟩
        · simp at h
    · rintro ⟨j, h, a, b⟩
      by_cases h1 : j < L.length
      · rw [List.getElem_append_left h1] at a b
        exact Or.inl ⟨j, h1, a, b⟩
      · have h2 : j = L.length := by simp at h; omega
        subst h2
        have hx : (L ++ [x])[L.length] = x := by simp
        rw [hx] at a b
        right
        rw [if_pos a, List.mem_singleton]; exact b.symm
theorem isAt_take {l : List St} {s : ByteArray} {i j : Nat} (hi : i ≤ l.length) : isAt (l.take i) s j ↔ j < i ∧ isAt l s j := by
  unfold isAt
  constructor
  · rintro ⟨h, a, b⟩
    have h1 : j < i := by simp at h; omega
    have h2 : j < l.length := by omega
    rw [List.getElem_take] at a b
    exact ⟨h1, h2, a, b⟩
  · rintro ⟨h1, h2, a, b⟩
    exact ⟨by simp; omega, by rw [List.getElem_take]; exact a, by rw [List.getElem_take]; exact b⟩
/-- What Find answers: the first one; or that there is none. -/
def FndAt (l : List St) (at_ : Nat) (s : ByteArray) (r : Int) : Prop := (r = -1 ∧ ∀ j, j < at_ → ¬ isAt l s j) ∨ (∃ i : Nat, r = i ∧ i < at_ ∧ isAt l s i ∧ ∀ j, j < i → ¬ isAt l s j)
theorem cnt_take {l : List St} {i : Nat} (hi : i < l.length) (k : Int) : cnt (l.take (i + 1)) k = cnt (l.take i) k + if l[i].kind = k then 1 else 0 := by
  rw [List.take_add_one, List.getElem?_eq_getElem hi, Option.toList_some, cnt_snoc]
/-- Where it stands is one place. -/
theorem bad_one {l : List St} {i i' : Nat} (hi : i < l.length) (hi' : i' < l.length) (hg : Good (l.take i)) (hg' : Good (l.take i')) (he : errOf (l.take i) l[i] ≠ 0) (he' : errOf (l.take i') l[i'] ≠ 0) : i = i' := by
  have key : ∀ {a b : Nat} (ha : a < l.length) (hb : b < l.length), a < b → Good (l.take b) → errOf (l.take a) l[a] ≠ 0 → False := fun {a b} ha hb hab hg he => by
    have h1 := good_at hg a (by simp; omega)
    rw [List.take_take, Nat.min_eq_left (by omega), List.getElem_take] at h1
    exact he h1
  rcases Nat.lt_trichotomy i i' with h | h | h
  · exact (key hi hi' h hg' he).elim
  · exact h
  · exact (key hi' hi h hg he').elim
theorem good_bad {l : List St} {i : Nat} (hi : i < l.length) (hg : Good l) (he : errOf (l.take i) l[i] ≠ 0) : False := he (good_at hg i hi)
end Nm
end Go.Proofs.Ytpbgicfoopicbaa
