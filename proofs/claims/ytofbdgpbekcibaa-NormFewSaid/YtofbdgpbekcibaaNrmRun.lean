/-
  Norm: which steps a formula has, as lists; what stays true of them.
-/
import Derived.Test.YtofbdgpbekcibaaNrmSig
import Derived.Test.YtofbdgpbekcibaaTreeAr
namespace Go.Proofs.Ytofbdgpbekcibaa
open Go.RowKit Go.Maps
set_option linter.unusedVariables false
set_option linter.unusedSimpArgs false

def nstp (A : List Sp × List Nat) (x : Inx) : Option (List Sp × List Nat) :=
  if Tr.ar x.t0 = 0 then some ((putP A.1 (atm x)).1, A.2 ++ [(putP A.1 (atm x)).2])
  else if Tr.ar x.t0 = 1 then (match A.2.reverse with
    | a :: r => some ((oneP A.1 x.t0 a).1, r.reverse ++ [(oneP A.1 x.t0 a).2])
    | [] => none)
  else if Tr.ar x.t0 = 2 then (match A.2.reverse with
    | c :: a :: r => some ((twoP A.1 x.t0 a c).1, r.reverse ++ [(twoP A.1 x.t0 a c).2])
    | _ => none)
  else none
def nrun (l : List Inx) : Nat → Option (List Sp × List Nat)
  | 0 => some ([], [])
  | i + 1 => match nrun l i with
    | some A => (match l[i]? with
      | some x => nstp A x
      | none => none)
    | none => none
theorem nstp_leaf {S : List Sp} {r : List Nat} {x : Inx} (h : Tr.ar x.t0 = 0) : nstp (S, r) x = some ((putP S (atm x)).1, r ++ [(putP S (atm x)).2]) := by
  unfold nstp; rw [if_pos h]
theorem nstp_one {S : List Sp} {r : List Nat} {a : Nat} {x : Inx} (h : Tr.ar x.t0 = 1) : nstp (S, r ++ [a]) x = some ((oneP S x.t0 a).1, r ++ [(oneP S x.t0 a).2]) := by
  unfold nstp; rw [if_neg (by omega), if_pos h]; simp
theorem nstp_two {S : List Sp} {r : List Nat} {a c : Nat} {x : Inx} (h : Tr.ar x.t0 = 2) : nstp (S, r ++ [a, c]) x = some ((twoP S x.t0 a c).1, r ++ [(twoP S x.t0 a c).2]) := by
  unfold nstp; rw [if_neg (by omega), if_neg (by omega), if_pos h]; simp
theorem nstp_few {S : List Sp} {r : List Nat} {x : Inx} (h : Tr.ar x.t0 < 0 ∨ (r.length : Int) < Tr.ar x.t0) : nstp (S, r) x = none := by
  have := Tr.ar_bd x.t0
  unfold nstp
  rw [if_neg (by omega)]
  by_cases h1 : Tr.ar x.t0 = 1
  · rw [if_pos h1]
    have : r = [] := List.eq_nil_of_length_eq_zero (by omega)
    subst this; rfl
  · rw [if_neg h1]
    by_cases h2 : Tr.ar x.t0 = 2
    · rw [if_pos h2]
      match r, h with
      | [], _ => rfl
      | [a], _ => rfl
      | _ :: _ :: _, h => simp at h; omega
    · rw [if_neg h2]
theorem nrun_succ {l : List Inx} {i : Nat} {A : List Sp × List Nat} {x : Inx} (h : nrun l i = some A) (hx : l[i]? = some x) : nrun l (i + 1) = nstp A x := by
  show (match nrun l i with
    | some A => (match l[i]? with
      | some x => nstp A x
      | none => none)
    | none => none) = _
  rw [h, hx]
theorem nrun_none {l : List Inx} {i : Nat} (h : nrun l i = none) : ∀ j, i ≤ j → nrun l j = none := by
  intro j hj
  induction j with
  | zero => have : i = 0 := by omega
            rw [← this]; exact h
  | succ j ih =>
    by_cases e : i = j + 1
    · rw [← e]; exact h
    · have := ih (by omega)
      show (match nrun l j with
        | some A => (match l[j]? with
          | some x => nstp A x
          | none => none)
        | none => none) = _
      rw [this]
structure NGd (i : Nat) (A : List Sp × List Nat) : Prop where
  gd : Gd A.1
  le : A.1.length ≤ 8 * i
  lt : ∀ a ∈ A.2, a < A.1.length
  few : A.2.length ≤ i
theorem NGd.step {i : Nat} {S : List Sp} {r r' : List Nat} {P : List Sp × Nat} {k : Nat} (h : NGd i (S, r)) (hr : ∀ a ∈ r', a ∈ r) (hl : r'.length ≤ r.length) (hp : Stp S P k) (hk : k ≤ 8) : NGd (i + 1) (P.1, r' ++ [P.2]) := by
  have h2 := h.le
  have h4 := h.few
  refine ⟨hp.gd, ?_, fun a ha => ?_, ?_⟩
  · show P.1.length ≤ 8 * (i + 1)
    have h1 := hp.le
    have h2 : S.length ≤ 8 * i := h2
    omega
  · rcases List.mem_append.1 ha with h1 | h1
    · have h3 := h.lt a (hr a h1)
      exact Nat.lt_of_lt_of_le h3 hp.ge
    · rw [List.mem_singleton.1 h1]; exact hp.lt
  · show (r' ++ [P.2]).length ≤ i + 1
    have h4 : r.length ≤ i := h4
    simp; omega
/-- What one item makes, whatever it is. -/
theorem nstp_gd {i : Nat} {A A' : List Sp × List Nat} {x : Inx} (h : NGd i A) (hs : nstp A x = some A') : NGd (i + 1) A' := by
  obtain ⟨S, r⟩ := A
  have hb := Tr.ar_bd x.t0
  by_cases hf : Tr.ar x.t0 < 0 ∨ (r.length : Int) < Tr.ar x.t0
  · rw [nstp_few hf] at hs; cases hs
  by_cases h0 : Tr.ar x.t0 = 0
  · rw [nstp_leaf h0] at hs
    cases hs
    exact h.step (fun a h => h) (Nat.le_refl _) (atm_stp h.gd x (by
      by_cases h1 : x.t0 < 1
      · rw [ar_low h1] at h0; omega
      by_cases h2 : x.t0 ≤ 14
      · omega
      · exfalso
        revert h0
        unfold Tr.ar; repeat' split <;> omega)) (by omega)
  by_cases h1 : Tr.ar x.t0 = 1
  · obtain ⟨r', a, rfl, _⟩ := Tr.snoc_of (r := r) (n := r.length - 1) (by omega)
    rw [nstp_one h1] at hs
    cases hs
    exact h.step (fun a h => List.mem_append_left _ h) (by simp) (one_stp h.gd x.t0 (h.lt a (by simp))) (Nat.le_refl _)
  · have h2 : Tr.ar x.t0 = 2 := by omega
    obtain ⟨r', a, c, rfl, _⟩ := Tr.snoc2_of (r := r) (n := r.length - 2) (by omega)
    rw [nstp_two h2] at hs
    cases hs
    exact h.step (fun a h => List.mem_append_left _ h) (by simp) (two_stp h.gd x.t0 (h.lt a (by simp)) (h.lt c (by simp))) (Nat.le_refl _)
theorem nrun_gd {l : List Inx} : ∀ (i : Nat) (A : List Sp × List Nat), nrun l i = some A → NGd i A
  | 0, A, h => by
    cases h
    exact ⟨Gd.nil, by simp, by simp, by simp⟩
  | i + 1, A, h => by
    cases hr : nrun l i with
    | none => rw [nrun_none hr (i + 1) (by omega)] at h; cases h
    | some A0 =>
      cases hx : l[i]? with
      | none =>
        have : nrun l (i + 1) = none := by
          show (match nrun l i with
            | some A => (match l[i]? with
              | some x => nstp A x
              | none => none)
            | none => none) = _
          rw [hr, hx]
        rw [this] at h; cases h
      | some x =>
        rw [nrun_succ hr hx] at h
        exact nstp_gd (nrun_gd i A0 hr) h
/-- The steps of the whole formula, if it is one. -/
def nall (l : List Inx) : Option (List Sp × Nat) :=
  match nrun l l.length with
  | some (S, [n]) => some (S, n)
  | _ => none
theorem nall_gd {l : List Inx} {S : List Sp} {n : Nat} (h : nall l = some (S, n)) : Gd S ∧ S.length ≤ 8 * l.length ∧ n < S.length := by
  unfold nall at h
  split at h
  · rename_i S' n' hr
    cases h
    have g := nrun_gd _ _ hr
    exact ⟨g.gd, g.le, g.lt n (by simp)⟩
  · cases h
theorem nall_ex : nall [tru, ⟨23, 0, 0, 0, 0, 0, 0⟩] = some ([atm tru, sgn 15 0 0, sgn 26 0 1, sgn 15 2 0], 3) := by decide
end Go.Proofs.Ytofbdgpbekcibaa
