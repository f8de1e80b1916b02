/-
  Norm: what signs make of steps, as lists; what stays true of them.
-/
import Derived.Test.YtofbdgpbekcibaaNrmOps
namespace Go.Proofs.Ytofbdgpbekcibaa
open Go.RowKit Go.Maps
set_option linter.unusedVariables false
set_option linter.unusedSimpArgs false

/-- A step may stand at i. -/
def Fits (x : Sp) (i : Nat) : Prop :=
  (1 ≤ x.op ∧ x.op ≤ 14) ∨ ((x.op = 15 ∨ x.op = 20 ∨ x.op = 24) ∧ 0 ≤ x.a ∧ x.a < i) ∨ ((x.op = 16 ∨ x.op = 26) ∧ (0 ≤ x.a ∧ x.a < i) ∧ (0 ≤ x.b ∧ x.b < i))
/-- A not is not of a not. -/
def NegOk (S : List Sp) (x : Sp) (i : Nat) : Prop := x.op = 15 → ∃ j z, j < i ∧ x.a = (j : Nat) ∧ S[j]? = some z ∧ z.op ≠ 15
structure Gd (S : List Sp) : Prop where
  nodup : S.Nodup
  neg : ∀ (i : Nat) (y : Sp), S[i]? = some y → NegOk S y i
  chk : ∀ (i : Nat) (y : Sp), S[i]? = some y → Fits y i
theorem Gd.nil : Gd [] := ⟨List.nodup_nil, by simp, by simp⟩
structure Stp (S : List Sp) (A : List Sp × Nat) (k : Nat) : Prop where
  gd : Gd A.1
  lt : A.2 < A.1.length
  ge : S.length ≤ A.1.length
  le : A.1.length ≤ S.length + k
  pre : ∀ (i : Nat) (y : Sp), S[i]? = some y → A.1[i]? = some y
theorem Gd.add {S : List Sp} (h : Gd S) {x : Sp} (hf : Fits x S.length) (hn : NegOk S x S.length) : Gd (addL S x) := by
  by_cases hx : x ∈ S
  · rw [addL_old hx]; exact h
  rw [addL_new hx]
  have up : ∀ j z, S[j]? = some z → (S ++ [x])[j]? = some z := fun j z hj => by
    rw [List.getElem?_append_left (List.getElem?_eq_some_iff.1 hj).1]; exact hj
  have both : ∀ i y, (S ++ [x])[i]? = some y → S[i]? = some y ∨ (i = S.length ∧ y = x) := fun i y hi => by
    rw [List.getElem?_append] at hi
    split at hi
    · exact Or.inl hi
    · rename_i hlt
      have h1 := (List.getElem?_eq_some_iff.1 hi).1
      have h2 : i = S.length := by simp at h1; omega
      subst h2
      simp at hi
      exact Or.inr ⟨rfl, hi.symm⟩
  refine ⟨?_, fun i y hi => ?_, fun i y hi => ?_⟩
  · rw [List.nodup_append]
    exact ⟨h.nodup, by simp, fun a ha b hb => by
      rw [List.mem_singleton.1 hb]; exact fun e => hx (e ▸ ha)⟩
  · rcases both i y hi with h1 | ⟨rfl, rfl⟩
    · intro ho
      obtain ⟨j, z, h2, h3, h4, h5⟩ := h.neg i y h1 ho
      exact ⟨j, z, h2, h3, up j z h4, h5⟩
    · intro ho
      obtain ⟨j, z, h2, h3, h4, h5⟩ := hn ho
      exact ⟨j, z, h2, h3, up j z h4, h5⟩
  · rcases both i y hi with h1 | ⟨rfl, rfl⟩
    · exact h.chk i y h1
    · exact hf
theorem putP_stp {S : List Sp} (h : Gd S) {x : Sp} (hf : Fits x S.length) (hn : NegOk S x S.length) : Stp S (putP S x) 1 := by
  have hm : x ∈ addL S x := by
    by_cases hx : x ∈ S
    · rw [addL_old hx]; exact hx
    · rw [addL_new hx]; simp
  refine ⟨h.add hf hn, List.idxOf_lt_length_of_mem hm, ?_, ?_, fun i y hi => ?_⟩
  · show S.length ≤ (addL S x).length
    unfold addL; split <;> simp
  · show (addL S x).length ≤ S.length + 1
    unfold addL; split <;> simp
  · show (addL S x)[i]? = some y
    unfold addL; split
    · exact hi
    · rw [List.getElem?_append_left (List.getElem?_eq_some_iff.1 hi).1]; exact hi
theorem putP_at (S : List Sp) (x : Sp) : (putP S x).1[(putP S x).2]? = some x := by
  have hm : x ∈ addL S x := by
    by_cases hx : x ∈ S
    · rw [addL_old hx]; exact hx
    · rw [addL_new hx]; simp
  have h1 := List.idxOf_lt_length_of_mem hm
  show (addL S x)[(addL S x).idxOf x]? = some x
  rw [List.getElem?_eq_getElem h1, List.getElem_idxOf]
theorem notP_stp {S : List Sp} (h : Gd S) {a : Nat} (ha : a < S.length) : Stp S (notP S a) 1 := by
  obtain ⟨y, hy⟩ : ∃ y, S[a]? = some y := ⟨_, List.getElem?_eq_getElem ha⟩
  unfold notP
  rw [hy]
  by_cases ho : y.op = 15
  · simp only [ho, if_true]
    obtain ⟨j, z, h2, h3, h4, h5⟩ := h.neg a y hy ho
    exact ⟨h, by show y.a.toNat < S.length; omega, Nat.le_refl _, Nat.le_succ _, fun _ _ h => h⟩
  · simp only [ho, if_false]
    exact putP_stp h (Or.inr (Or.inl ⟨Or.inl rfl, by show (0 : Int) ≤ ((a : Nat) : Int); omega, by show ((a : Nat) : Int) < _; omega⟩)) (fun _ => ⟨a, y, ha, rfl, hy, ho⟩)
theorem Gd.neg0 {S : List Sp} (h : Gd S) (a : Nat) : ∀ y, S[a]? = some y → y.op = 15 → 0 ≤ y.a := fun y hy ho => by
  obtain ⟨j, z, _, h3, _⟩ := h.neg a y hy ho; omega
theorem sgn1_stp {S : List Sp} (h : Gd S) (op : Int) (ho : op = 20 ∨ op = 24) {a : Nat} (ha : a < S.length) : Stp S (putP S (sgn op a 0)) 1 :=
  putP_stp h (Or.inr (Or.inl ⟨Or.inr ho, by show (0 : Int) ≤ ((a : Nat) : Int); omega, by show ((a : Nat) : Int) < _; omega⟩)) (fun e => by
    have e : op = 15 := e
    omega)
theorem sgn2_stp {S : List Sp} (h : Gd S) (op : Int) (ho : op = 16 ∨ op = 26) {a c : Nat} (ha : a < S.length) (hc : c < S.length) : Stp S (putP S (sgn op a c)) 1 :=
  putP_stp h (Or.inr (Or.inr ⟨ho, ⟨by show (0 : Int) ≤ ((a : Nat) : Int); omega, by show ((a : Nat) : Int) < _; omega⟩, ⟨by show (0 : Int) ≤ ((c : Nat) : Int); omega, by show ((c : Nat) : Int) < _; omega⟩⟩)) (fun e => by
    have e : op = 15 := e
    omega)
theorem atm_stp {S : List Sp} (h : Gd S) (x : Inx) (hx : 1 ≤ x.t0 ∧ x.t0 ≤ 14) : Stp S (putP S (atm x)) 1 :=
  putP_stp h (Or.inl hx) (fun e => by
    have e : x.t0 = 15 := e
    omega)
theorem Stp.trans {S : List Sp} {A A' : List Sp × Nat} {k m : Nat} (h : Stp S A k) (h' : Stp A.1 A' m) : Stp S A' (k + m) :=
  ⟨h'.gd, h'.lt, Nat.le_trans h.ge h'.ge, by have := h.le; have := h'.le; omega, fun i y hi => h'.pre i y (h.pre i y hi)⟩
theorem Stp.more {S : List Sp} {A : List Sp × Nat} {k m : Nat} (h : Stp S A k) (hm : k ≤ m) : Stp S A m := ⟨h.gd, h.lt, h.ge, by have := h.le; omega, h.pre⟩
def tru : Inx := ⟨1, 0, 0, 0, 0, 0, 0⟩
/-- not of a sign of not. -/
def nxnP (S : List Sp) (op : Int) (a : Nat) : List Sp × Nat :=
  notP (putP (notP S a).1 (sgn op (notP S a).2 0)).1 (putP (notP S a).1 (sgn op (notP S a).2 0)).2
def efP (S : List Sp) (a : Nat) : List Sp × Nat := putP (putP S (atm tru)).1 (sgn 26 (putP S (atm tru)).2 a)
def agP (S : List Sp) (a : Nat) : List Sp × Nat := notP (efP (notP S a).1 (notP S a).2).1 (efP (notP S a).1 (notP S a).2).2
def oneP (S : List Sp) (op : Int) (a : Nat) : List Sp × Nat :=
  if op = 15 then notP S a else if op = 19 then nxnP S 20 a else if op = 20 then putP S (sgn 20 a 0)
  else if op = 21 then nxnP S 24 a else if op = 22 then efP S a else if op = 23 then agP S a else putP S (sgn 24 a 0)
/-- not of an and. -/
def nandP (S : List Sp) (a c : Nat) : List Sp × Nat := notP (putP S (sgn 16 a c)).1 (putP S (sgn 16 a c)).2
def orP (S : List Sp) (a c : Nat) : List Sp × Nat := nandP (notP (notP S a).1 c).1 (notP S a).2 (notP (notP S a).1 c).2
def impP (S : List Sp) (a c : Nat) : List Sp × Nat := nandP (notP S c).1 a (notP S c).2
/-- The way that fails. -/
def failP (S : List Sp) (na nb : Nat) : List Sp × Nat :=
  notP (putP (putP S (sgn 16 na nb)).1 (sgn 26 nb (putP S (sgn 16 na nb)).2)).1 (putP (putP S (sgn 16 na nb)).1 (sgn 26 nb (putP S (sgn 16 na nb)).2)).2
def negP (S : List Sp) (nb : Nat) : List Sp × Nat := notP (putP S (sgn 24 nb 0)).1 (putP S (sgn 24 nb 0)).2
theorem nxn_stp {S : List Sp} (h : Gd S) (op : Int) (ho : op = 20 ∨ op = 24) {a : Nat} (ha : a < S.length) : Stp S (nxnP S op a) 3 :=
  have s1 := notP_stp h ha
  have s2 := sgn1_stp s1.gd op ho s1.lt
  (s1.trans s2).trans (notP_stp s2.gd s2.lt)
theorem ef_stp {S : List Sp} (h : Gd S) {a : Nat} (ha : a < S.length) : Stp S (efP S a) 2 :=
  have s1 := atm_stp h tru (by simp [tru])
  s1.trans (sgn2_stp s1.gd 26 (Or.inr rfl) s1.lt (Nat.lt_of_lt_of_le ha s1.ge))
theorem ag_stp {S : List Sp} (h : Gd S) {a : Nat} (ha : a < S.length) : Stp S (agP S a) 4 :=
  have s1 := notP_stp h ha
  have s2 := ef_stp s1.gd s1.lt
  (s1.trans s2).trans (notP_stp s2.gd s2.lt)
theorem one_stp {S : List Sp} (h : Gd S) (op : Int) {a : Nat} (ha : a < S.length) : Stp S (oneP S op a) 8 := by
  unfold oneP
  split
  · exact (notP_stp h ha).more (by omega)
  split
  · exact (nxn_stp h 20 (Or.inl rfl) ha).more (by omega)
  split
  · exact (sgn1_stp h 20 (Or.inl rfl) ha).more (by omega)
  split
  · exact (nxn_stp h 24 (Or.inr rfl) ha).more (by omega)
  split
  · exact (ef_stp h ha).more (by omega)
  split
  · exact (ag_stp h ha).more (by omega)
  · exact (sgn1_stp h 24 (Or.inr rfl) ha).more (by omega)
theorem nand_stp {S : List Sp} (h : Gd S) {a c : Nat} (ha : a < S.length) (hc : c < S.length) : Stp S (nandP S a c) 2 :=
  have s1 := sgn2_stp h 16 (Or.inl rfl) ha hc
  s1.trans (notP_stp s1.gd s1.lt)
theorem or_stp {S : List Sp} (h : Gd S) {a c : Nat} (ha : a < S.length) (hc : c < S.length) : Stp S (orP S a c) 4 :=
  have s1 := notP_stp h ha
  have s2 := notP_stp s1.gd (Nat.lt_of_lt_of_le hc s1.ge)
  (s1.trans s2).trans (nand_stp s2.gd (Nat.lt_of_lt_of_le s1.lt s2.ge) s2.lt)
theorem imp_stp {S : List Sp} (h : Gd S) {a c : Nat} (ha : a < S.length) (hc : c < S.length) : Stp S (impP S a c) 3 :=
  have s1 := notP_stp h hc
  s1.trans (nand_stp s1.gd (Nat.lt_of_lt_of_le ha s1.ge) s1.lt)
theorem fail_stp {S : List Sp} (h : Gd S) {na nb : Nat} (ha : na < S.length) (hb : nb < S.length) : Stp S (failP S na nb) 3 :=
  have s1 := sgn2_stp h 16 (Or.inl rfl) ha hb
  have s2 := sgn2_stp s1.gd 26 (Or.inr rfl) (Nat.lt_of_lt_of_le hb s1.ge) s1.lt
  (s1.trans s2).trans (notP_stp s2.gd s2.lt)
theorem neg_stp {S : List Sp} (h : Gd S) {nb : Nat} (hb : nb < S.length) : Stp S (negP S nb) 2 :=
  have s1 := sgn1_stp h 24 (Or.inr rfl) hb
  s1.trans (notP_stp s1.gd s1.lt)
/-- A sign AU. -/
def auP (S : List Sp) (a c : Nat) : List Sp × Nat :=
  let Sb := notP S c
  let Sa := notP Sb.1 a
  let F := failP Sa.1 Sa.2 Sb.2
  let V := negP F.1 Sb.2
  putP V.1 (sgn 16 F.2 V.2)
theorem au_stp {S : List Sp} (h : Gd S) {a c : Nat} (ha : a < S.length) (hc : c < S.length) : Stp S (auP S a c) 8 :=
  have s1 := notP_stp h hc
  have s2 := notP_stp s1.gd (Nat.lt_of_lt_of_le ha s1.ge)
  have s3 := fail_stp s2.gd s2.lt (Nat.lt_of_lt_of_le s1.lt s2.ge)
  have s4 := neg_stp s3.gd (Nat.lt_of_lt_of_le s1.lt (Nat.le_trans s2.ge s3.ge))
  (((s1.trans s2).trans s3).trans s4).trans (sgn2_stp s4.gd 16 (Or.inl rfl) (Nat.lt_of_lt_of_le s3.lt s4.ge) s4.lt)
def twoP (S : List Sp) (op : Int) (a c : Nat) : List Sp × Nat :=
  if op = 16 then putP S (sgn 16 a c) else if op = 17 then orP S a c else if op = 18 then impP S a c
  else if op = 26 then putP S (sgn 26 a c) else auP S a c
theorem two_stp {S : List Sp} (h : Gd S) (op : Int) {a c : Nat} (ha : a < S.length) (hc : c < S.length) : Stp S (twoP S op a c) 8 := by
  unfold twoP
  split
  · exact (sgn2_stp h 16 (Or.inl rfl) ha hc).more (by omega)
  split
  · exact (or_stp h ha hc).more (by omega)
  split
  · exact (imp_stp h ha hc).more (by omega)
  split
  · exact (sgn2_stp h 26 (Or.inr rfl) ha hc).more (by omega)
  · exact au_stp h ha hc
end Go.Proofs.Ytofbdgpbekcibaa
