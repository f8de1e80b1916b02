/-
  Names: which lists of statements have a table, and what is in it: the part that speaks of lists alone.
-/
import Derived.Test.YtpbgicfoopicbaaRec
import Derived.Maps.OwnSet
namespace Go.Proofs.Ytpbgicfoopicbaa
open Go.RowKit
set_option linter.unusedVariables false

structure St where
  kind : Int
  name : ByteArray
  line : Int
  col : Int
  c4 : Value
  c5 : Value
  c6 : Value
  c7 : Value
  c8 : Value
  c9 : Value
  c10 : Value
  c11 : Value
def St.cells (x : St) : List Value := [.int .i64 x.kind, .string x.name, .int .i64 x.line, .int .i64 x.col, x.c4, x.c5, x.c6, x.c7, x.c8, x.c9, x.c10, x.c11]
theorem St.cells_len (x : St) : x.cells.length = 12 := rfl
structure St.ok (x : St) : Prop where
  kind : -9223372036854775808 ≤ x.kind ∧ x.kind ≤ 9223372036854775807
  name : x.name.size ≤ maxLen
  line : -9223372036854775808 ≤ x.line ∧ x.line ≤ 9223372036854775807
  col : -9223372036854775808 ≤ x.col ∧ x.col ≤ 9223372036854775807
namespace Nm
theorem snocInd {α : Type} {P : List α → Prop} (h0 : P []) (h1 : ∀ l x, P l → P (l ++ [x])) (l : List α) : P l := by
  rw [← List.reverse_reverse l]
  induction l.reverse with
  | nil => exact h0
  | cons x r ih => rw [List.reverse_cons]; exact h1 _ _ ih
def most (k : Int) : Int := if k = 1 then 5 else if k = 2 then 4 else if k = 3 then 4 else if k = 4 then 8 else if k = 5 then 6 else if k = 6 then 12 else if k = 7 then 8 else if k = 8 then 6 else 0
theorem most_range (k : Int) : 0 ≤ most k ∧ most k ≤ 12 := by unfold most; repeat' split
                                                              all_goals omega
theorem most_zero {k : Int} : most k = 0 ↔ k < 1 ∨ 8 < k := by
  unfold most
  constructor
  · intro h
    repeat' split at h
    all_goals first | omega | (exfalso; omega)
  · intro h
    repeat' split
    all_goals first | rfl | (exfalso; omega)
def named (k : Int) : Bool := k != 6 && k != 8
def cnt (L : List St) (k : Int) : Nat := L.countP (fun y => y.kind == k)
abbrev Ent := ByteArray × Int × Nat
def entOf (L : List St) (x : St) : List Ent := if named x.kind then [(x.name, x.kind, cnt L x.kind)] else []
def entsA (pre : List St) : List St → List Ent
  | [] => []
  | y :: r => entOf pre y ++ entsA (pre ++ [y]) r
def ents (L : List St) : List Ent := entsA [] L
theorem entsA_snoc (L : List St) (x : St) : ∀ pre, entsA pre (L ++ [x]) = entsA pre L ++ entOf (pre ++ L) x := by
  induction L with
  | nil => intro pre; simp [entsA]
  | cons y r ih => intro pre; simp [entsA, ih, List.append_assoc]
theorem ents_snoc (L : List St) (x : St) : ents (L ++ [x]) = ents L ++ entOf L x := by unfold ents; rw [entsA_snoc]; rfl
theorem cnt_snoc (L : List St) (x : St) (k : Int) : cnt (L ++ [x]) k = cnt L k + (if x.kind = k then 1 else 0) := by
  unfold cnt
  rw [List.countP_append, List.countP_singleton]
  by_cases h : x.kind = k <;> simp [h]
theorem cnt_le (L : List St) (k : Int) : cnt L k ≤ L.length := List.countP_le_length
def names (L : List St) : List ByteArray := (ents L).map (·.1)
def places (L : List St) : List (Int × Nat) := (ents L).map (·.2)
open Classical in
noncomputable def errOf (L : List St) (x : St) : Int :=
  if most x.kind = 0 then 8 else if (cnt L x.kind : Int) = most x.kind then 3 else if named x.kind = true ∧ x.name ∈ names L then 6 else 0
/-- Each stands with what went before. -/
inductive Good : List St → Prop
  | nil : Good []
  | snoc {L : List St} {x : St} (hL : Good L) (h : errOf L x = 0) : Good (L ++ [x])
theorem err_kind {L : List St} {x : St} (h : errOf L x = 0) : 1 ≤ x.kind ∧ x.kind ≤ 8 := by
  unfold errOf at h
  split at h
  · omega
  · rename_i h1
    have := mt most_zero.2 h1
    omega
theorem err_cnt {L : List St} {x : St} (h : errOf L x = 0) : (cnt L x.kind : Int) ≠ most x.kind := by
  unfold errOf at h
  split at h
  · omega
  · split at h
    · omega
    · assumption
theorem err_name {L : List St} {x : St} (h : errOf L x = 0) (hn : named x.kind = true) : x.name ∉ names L := by
  unfold errOf at h
  split at h
  · omega
  · split at h
    · omega
    · split at h
      · omega
      · rename_i h3
        exact fun h4 => h3 ⟨hn, h4⟩
theorem Good.cnt_le {L : List St} (h : Good L) (k : Int) : (cnt L k : Int) ≤ most k := by
  induction h with
  | nil => have := most_range k; simpa [cnt] using this.1
  | @snoc L x hL he ih =>
    rw [cnt_snoc]
    by_cases h1 : x.kind = k
    · subst h1
      have := err_cnt he
      rw [if_pos rfl]; omega
    · rw [if_neg h1]; omega
theorem Good.length_le {L : List St} (h : Good L) : L.length ≤ 53 := by
  have key : L.length = cnt L 1 + cnt L 2 + cnt L 3 + cnt L 4 + cnt L 5 + cnt L 6 + cnt L 7 + cnt L 8 := by
    induction h with
    | nil => rfl
    | @snoc L x hL he ih =>
      have hk := err_kind he
      simp only [cnt_snoc, List.length_append, List.length_singleton]
      have : x.kind = 1 ∨ x.kind = 2 ∨ x.kind = 3 ∨ x.kind = 4 ∨ x.kind = 5 ∨ x.kind = 6 ∨ x.kind = 7 ∨ x.kind = 8 := by omega
      rcases this with e | e | e | e | e | e | e | e <;> rw [e] <;> simp <;> omega
  have h1 := h.cnt_le 1
  have h2 := h.cnt_le 2
  have h3 := h.cnt_le 3
  have h4 := h.cnt_le 4
  have h5 := h.cnt_le 5
  have h6 := h.cnt_le 6
  have h7 := h.cnt_le 7
  have h8 := h.cnt_le 8
  simp [most] at h1 h2 h3 h4 h5 h6 h7 h8
  omega
theorem names_snoc (L : List St) (x : St) : names (L ++ [x]) = names L ++ if named x.kind then [x.name] else [] := by
  unfold names
  rw [ents_snoc, List.map_append]
  unfold entOf
  split <;> rfl
theorem places_snoc (L : List St) (x : St) : places (L ++ [x]) = places L ++ if named x.kind then [(x.kind, cnt L x.kind)] else [] := by
  unfold places
  rw [ents_snoc, List.map_append]
  unfold entOf
  split <;> rfl
theorem len_np (L : List St) : (names L).length = (places L).length := by simp [names, places]
theorem Good.names_nodup {L : List St} (h : Good L) : (names L).Nodup := by
  induction h with
  | nil => exact List.nodup_nil
  | @snoc L x hL he ih =>
    rw [names_snoc]
    by_cases hn : named x.kind = true
    · rw [if_pos hn]
      refine List.nodup_append.2 ⟨ih, by simp, fun a ha b hb e => ?_⟩
      rw [List.mem_singleton] at hb
      subst hb; subst e
      exact err_name he hn ha
    · rw [if_neg hn]; simpa using ih
theorem places_mem {L : List St} {k : Int} {n : Nat} (h : (k, n) ∈ places L) : n < cnt L k ∧ named k = true := by
  induction L using snocInd with
  | h0 => simp [places, ents, entsA] at h
  | h1 L x ih =>
    rw [places_snoc] at h
    rcases List.mem_append.1 h with h | h
    · have := ih h
      rw [cnt_snoc]
      exact ⟨by omega, this.2⟩
    · split at h
      · rename_i hn
        simp only [List.mem_singleton, Prod.mk.injEq] at h
        obtain ⟨rfl, rfl⟩ := h
        rw [cnt_snoc, if_pos rfl]
        exact ⟨by omega, hn⟩
      · simp at h
theorem places_all {L : List St} {k : Int} {n : Nat} (hk : named k = true) (h : n < cnt L k) : (k, n) ∈ places L := by
  induction L using snocInd with
  | h0 => simp [cnt] at h
  | h1 L x ih =>
    rw [places_snoc]
    rw [cnt_snoc] at h
    by_cases h1 : n < cnt L k
    · exact List.mem_append.2 (Or.inl (ih h1))
    · by_cases hx : x.kind = k
      · subst hx
        rw [if_pos rfl] at h
        rw [if_pos hk]
        exact List.mem_append.2 (Or.inr (by simp; omega))
      · rw [if_neg hx] at h; omega
theorem places_nodup (L : List St) : (places L).Nodup := by
  induction L using snocInd with
  | h0 => exact List.nodup_nil
  | h1 L x ih =>
    rw [places_snoc]
    by_cases hn : named x.kind = true
    · rw [if_pos hn]
      refine List.nodup_append.2 ⟨ih, by simp, fun a ha b hb e => ?_⟩
      rw [List.mem_singleton] at hb
      subst hb; subst e
      have := (places_mem ha).1
      omega
    · rw [if_neg hn]; simpa using ih
end Nm
end Go.Proofs.Ytpbgicfoopicbaa
