/-
  Where ways lead, in plain words.
-/
import Derived.Test.YtlmecpghlgndnaaGrid
namespace Go.Proofs.Ytlmecpghlgndnaa
open Go.RowKit
set_option linter.unusedVariables false
set_option linter.unusedSimpArgs false

namespace Lb
def inB (a : List Bool) (i : Nat) : Bool := a.getD i false
def row (nx : List (List Int)) (i : Nat) : List Int := nx.getD i []
theorem getD_set {α : Type} (B : List α) (k j : Nat) (m d : α) (hk : k < B.length) : (B.set k m).getD j d = if j = k then m else B.getD j d := by
  rw [List.getD_eq_getElem?_getD, List.getD_eq_getElem?_getD]
  by_cases e : j = k
  · subst e; rw [if_pos rfl, List.getElem?_set_self hk]; rfl
  · rw [if_neg e, List.getElem?_set_ne (fun e2 => e e2.symm)]
theorem getD_at {α : Type} (B : List α) (k : Nat) (d : α) (h : k < B.length) : B[k]? = some (B.getD k d) := by
  rw [List.getD_eq_getElem?_getD, List.getElem?_eq_getElem h]; rfl
theorem inB_lt {a : List Bool} {i : Nat} (h : inB a i = true) : i < a.length := by
  unfold inB at h
  rcases Nat.lt_or_ge i a.length with h1 | h1
  · exact h1
  · rw [List.getD_eq_getElem?_getD, List.getElem?_eq_none h1] at h; cases h
/-- One place leads to another one. -/
def E (nx : List (List Int)) (i t : Nat) : Prop := t < nx.length ∧ (t : Int) ∈ row nx i
/-- How often a number stands in a list. -/
def occ (r : List Int) (t : Nat) : Nat := (r.filter (fun x => decide (x = (t : Int)))).length
theorem occ_nil (t : Nat) : occ [] t = 0 := rfl
theorem occ_cons (x : Int) (r : List Int) (t : Nat) : occ (x :: r) t = (if x = (t : Int) then 1 else 0) + occ r t := by
  unfold occ
  rw [List.filter_cons]
  by_cases h : x = (t : Int)
  · rw [if_pos (by simpa using h), if_pos h]; simp; omega
  · rw [if_neg (by simpa using h), if_neg h]; simp
theorem occ_append (r s : List Int) (t : Nat) : occ (r ++ s) t = occ r t + occ s t := by
  unfold occ; rw [List.filter_append, List.length_append]
theorem occ_le (r : List Int) (t : Nat) : occ r t ≤ r.length := by unfold occ; exact List.length_filter_le _ _
theorem occ_rep (m : Nat) (x : Int) (t : Nat) : occ (List.replicate m x) t = if x = (t : Int) then m else 0 := by
  induction m with
  | zero => simp [occ]
  | succ m ih =>
    rw [List.replicate_succ, occ_cons, ih]
    split <;> omega
theorem occ_pos {r : List Int} {t : Nat} : 0 < occ r t ↔ (t : Int) ∈ r := by
  unfold occ
  rw [List.length_pos_iff_exists_mem]
  constructor
  · rintro ⟨x, hx⟩
    have := List.mem_filter.1 hx
    simp at this
    rw [← this.2]; exact this.1
  · intro h
    exact ⟨t, List.mem_filter.2 ⟨h, by simp⟩⟩
/-- Of the first places those that lead to one, each as often as it does. -/
def fr (nx : List (List Int)) : Nat → Nat → List Int
  | 0, _ => []
  | k + 1, t => fr nx k t ++ List.replicate (occ (row nx k) t) (k : Int)
theorem occ_fr (nx : List (List Int)) (t i : Nat) : ∀ k, occ (fr nx k t) i = if i < k then occ (row nx i) t else 0
  | 0 => by simp [fr, occ]
  | k + 1 => by
    rw [fr, occ_append, occ_fr nx t i k, occ_rep]
    by_cases h : i = k
    · subst h; simp
    · by_cases h2 : i < k
      · have h3 : ¬ ((k : Int) = (i : Int)) := by omega
        have h4 : i < k + 1 := by omega
        simp [h2, h3, h4]
      · have h3 : ¬ ((k : Int) = (i : Int)) := by omega
        have h4 : ¬ i < k + 1 := by omega
        simp [h2, h3, h4]
theorem fr_mem {nx : List (List Int)} {t : Nat} {x : Int} : ∀ {k : Nat}, x ∈ fr nx k t → ∃ i : Nat, x = (i : Int) ∧ i < k ∧ (t : Int) ∈ row nx i
  | 0, h => by simp [fr] at h
  | k + 1, h => by
    rw [fr] at h
    rcases List.mem_append.1 h with h | h
    · obtain ⟨i, h1, h2, h3⟩ := fr_mem h
      exact ⟨i, h1, by omega, h3⟩
    · have h1 := List.mem_replicate.1 h
      exact ⟨k, h1.2, by omega, occ_pos.1 (by omega)⟩
theorem mem_fr {nx : List (List Int)} {t i : Nat} {k : Nat} (hi : i < k) (h : (t : Int) ∈ row nx i) : (i : Int) ∈ fr nx k t := by
  rw [← occ_pos, occ_fr, if_pos hi, occ_pos]; exact h
/-- How many ways lead to places of a set. -/
def deg (n : Nat) (P : Nat → Bool) (r : List Int) : Nat := (r.filter (fun x => decide (0 ≤ x) && decide (x < (n : Int)) && P x.toNat)).length
theorem deg_le (n : Nat) (P : Nat → Bool) (r : List Int) : deg n P r ≤ r.length := List.length_filter_le _ _
theorem deg_cons (n : Nat) (P : Nat → Bool) (x : Int) (r : List Int) : deg n P (x :: r) = (if (decide (0 ≤ x) && decide (x < (n : Int)) && P x.toNat) = true then 1 else 0) + deg n P r := by
  unfold deg
  rw [List.filter_cons]
  split <;> simp <;> omega
theorem deg_congr (n : Nat) (P Q : Nat → Bool) (r : List Int) (h : ∀ t, t < n → P t = Q t) : deg n P r = deg n Q r := by
  unfold deg
  congr 1
  apply List.filter_congr
  intro x _
  by_cases h0 : 0 ≤ x
  · by_cases h1 : x < (n : Int)
    · rw [h x.toNat (by omega)]
    · rw [decide_eq_false h1]; simp
  · rw [decide_eq_false h0]; simp
theorem deg_split (n : Nat) (P Q : Nat → Bool) (t : Nat) (ht : t < n) (hP : P t = true) (hQ : Q t = false) (h : ∀ u, u < n → u ≠ t → P u = Q u) : ∀ r : List Int, deg n P r = deg n Q r + occ r t
  | [] => rfl
  | x :: r => by
    rw [deg_cons, deg_cons, occ_cons, deg_split n P Q t ht hP hQ h r]
    by_cases e : x = (t : Int)
    · subst e
      rw [if_pos (by rw [decide_eq_true (by omega), decide_eq_true (by omega), Int.toNat_natCast, hP]; rfl), if_neg (by rw [Int.toNat_natCast, hQ]; simp), if_pos rfl]
      omega
    · rw [if_neg e]
      have : (decide (0 ≤ x) && decide (x < (n : Int)) && P x.toNat) = (decide (0 ≤ x) && decide (x < (n : Int)) && Q x.toNat) := by
        by_cases h0 : 0 ≤ x
        · by_cases h1 : x < (n : Int)
          · rw [h x.toNat (by omega) (by omega)]
          · rw [decide_eq_false h1]; simp
        · rw [decide_eq_false h0]; simp
      rw [this]; omega
theorem deg_pos {n : Nat} {P : Nat → Bool} {r : List Int} : 0 < deg n P r ↔ ∃ t, t < n ∧ (t : Int) ∈ r ∧ P t = true := by
  unfold deg
  rw [List.length_pos_iff_exists_mem]
  constructor
  · rintro ⟨x, hx⟩
    have := List.mem_filter.1 hx
    simp at this
    exact ⟨x.toNat, by omega, by rw [show ((x.toNat : Nat) : Int) = x by omega]; exact this.1, this.2.2⟩
  · rintro ⟨t, h1, h2, h3⟩
    refine ⟨t, List.mem_filter.2 ⟨h2, ?_⟩⟩
    simp [h1, h3]
/-- One step leads to a set. -/
def exB (nx : List (List Int)) (a : List Bool) (i : Nat) : Bool := (row nx i).any (fun x => decide (0 ≤ x) && decide (x < (nx.length : Int)) && inB a x.toNat)
def exL (nx : List (List Int)) (a : List Bool) : List Bool := (List.range nx.length).map (exB nx a)
theorem exB_iff {nx : List (List Int)} {a : List Bool} {i : Nat} : exB nx a i = true ↔ ∃ t, E nx i t ∧ inB a t = true := by
  unfold exB E
  rw [List.any_eq_true]
  constructor
  · rintro ⟨x, hx, h⟩
    simp at h
    exact ⟨x.toNat, ⟨by omega, by rw [show ((x.toNat : Nat) : Int) = x by omega]; exact hx⟩, h.2⟩
  · rintro ⟨t, ⟨h1, h2⟩, h3⟩
    exact ⟨t, h2, by simp [h1, h3]⟩
/-- A list of truths is that of a set of places. -/
def IsSet (n : Nat) (S : Nat → Prop) (F : List Bool) : Prop := F.length = n ∧ ∀ i, i < n → (inB F i = true ↔ S i)
theorem isSet_one {n : Nat} {S : Nat → Prop} {F G : List Bool} (h : IsSet n S F) (k : IsSet n S G) : F = G := by
  apply List.ext_getElem?
  intro i
  by_cases hi : i < n
  · have h1 := (h.2 i hi).trans (k.2 i hi).symm
    rw [getD_at F i false (by rw [h.1]; exact hi), getD_at G i false (by rw [k.1]; exact hi)]
    unfold inB at h1
    rw [Bool.eq_iff_iff.2 h1]
  · rw [List.getElem?_eq_none (by rw [h.1]; omega), List.getElem?_eq_none (by rw [k.1]; omega)]
theorem exL_set (nx : List (List Int)) (a : List Bool) : IsSet nx.length (fun i => ∃ t, E nx i t ∧ inB a t = true) (exL nx a) := by
  refine ⟨by unfold exL; simp, fun i hi => ?_⟩
  show _ ↔ ∃ t, E nx i t ∧ inB a t = true
  rw [← exB_iff]
  unfold inB exL
  rw [List.getD_eq_getElem?_getD, List.getElem?_map, List.getElem?_range hi]
  rfl
/-- A way leads by one set to another one. -/
inductive EU (nx : List (List Int)) (a b : List Bool) : Nat → Prop
  | base (i : Nat) : i < nx.length → inB b i = true → EU nx a b i
  | step (i t : Nat) : i < nx.length → inB a i = true → E nx i t → EU nx a b t → EU nx a b i
theorem EU.lt {nx : List (List Int)} {a b : List Bool} {i : Nat} (h : EU nx a b i) : i < nx.length := by cases h <;> assumption
/-- A way goes on for ever within a set. -/
def EG (nx : List (List Int)) (a : List Bool) (i : Nat) : Prop := ∃ S : Nat → Prop, S i ∧ ∀ j, S j → j < nx.length ∧ inB a j = true ∧ ∃ t, S t ∧ E nx j t
theorem EG.out {nx : List (List Int)} {a : List Bool} {i : Nat} (h : EG nx a i) : i < nx.length ∧ inB a i = true ∧ ∃ t, EG nx a t ∧ E nx i t := by
  obtain ⟨S, hi, hS⟩ := h
  obtain ⟨h1, h2, t, h3, h4⟩ := hS i hi
  exact ⟨h1, h2, t, ⟨S, h3, hS⟩, h4⟩
theorem EG.into {nx : List (List Int)} {a : List Bool} {i t : Nat} (h1 : i < nx.length) (h2 : inB a i = true) (h3 : EG nx a t) (h4 : E nx i t) : EG nx a i :=
  ⟨fun j => j = i ∨ EG nx a j, Or.inl rfl, fun j hj => by
    rcases hj with rfl | hj
    · exact ⟨h1, h2, t, Or.inr h3, h4⟩
    · obtain ⟨g1, g2, u, g3, g4⟩ := hj.out
      exact ⟨g1, g2, u, Or.inr g3, g4⟩⟩
/-- Which places stand for a way still: those of the set, and those that wait. -/
def pend (F : List Bool) (St : List Int) (t : Nat) : Bool := inB F t || decide ((t : Int) ∈ St)
/-- The state of the search for what goes on for ever: of the places of K it is known that a way of theirs stands. -/
structure Lv (nx : List (List Int)) (a : List Bool) (K : Nat → Prop) (F : List Bool) (D : List Int) (St R : List Int) : Prop where
  flen : F.length = nx.length
  dlen : D.length = nx.length
  sub : ∀ i, inB F i = true → inB a i = true
  up : ∀ i, EG nx a i → inB F i = true
  st : ∀ x ∈ St, 0 ≤ x ∧ x < (nx.length : Int) ∧ inB F x.toNat = false
  nodup : St.Nodup
  dg : ∀ i, i < nx.length → D.getD i 0 = ((deg nx.length (pend F St) (row nx i) + occ R i : Nat) : Int)
  ok : ∀ i, i < nx.length → K i → inB F i = true → D.getD i 0 ≠ 0
theorem Lv.weaken {nx : List (List Int)} {a : List Bool} {K K' : Nat → Prop} {F : List Bool} {D St R : List Int} (h : Lv nx a K F D St R) (hk : ∀ i, i < nx.length → K' i → K i) : Lv nx a K' F D St R :=
  ⟨h.flen, h.dlen, h.sub, h.up, h.st, h.nodup, h.dg, fun i hi hk2 => h.ok i hi (hk i hi hk2)⟩
theorem Lv.leave {nx : List (List Int)} {a : List Bool} {K : Nat → Prop} {F : List Bool} {D St R : List Int} (h : Lv nx a K F D St R) (i : Nat) (hi : i < nx.length) (hF : inB F i = true) (hD : D.getD i 0 = 0) :
    Lv nx a (fun j => K j ∨ j = i) (F.set i false) D (St ++ [(i : Int)]) R := by
  have hl : i < F.length := by rw [h.flen]; exact hi
  have hset : ∀ j, inB (F.set i false) j = if j = i then false else inB F j := fun j => getD_set F i j false false hl
  have hno : (i : Int) ∉ St := fun hm => by have := (h.st _ hm).2.2; rw [Int.toNat_natCast, hF] at this; cases this
  have hp : ∀ t, pend (F.set i false) (St ++ [(i : Int)]) t = pend F St t := fun t => by
    unfold pend
    rw [hset]
    by_cases e : t = i
    · subst e; rw [if_pos rfl, hF]; simp
    · rw [if_neg e]
      have : ((t : Int) ∈ St ++ [(i : Int)]) ↔ ((t : Int) ∈ St) := by simp; omega
      rw [decide_eq_decide.2 this]
  refine ⟨by simpa using h.flen, h.dlen, fun j hj => ?_, fun j hj => ?_, fun x hx => ?_, ?_, fun j hj => ?_, fun j hj hk hf => ?_⟩
  · rw [hset] at hj
    split at hj
    · cases hj
    · exact h.sub j hj
  · rw [hset]
    by_cases e : j = i
    · subst e
      obtain ⟨_, _, t, h3, h4⟩ := hj.out
      have h5 := h.up t h3
      have h6 := h.dg j hi
      have h7 : 0 < deg nx.length (pend F St) (row nx j) := deg_pos.2 ⟨t, h4.1, h4.2, by unfold pend; rw [h5]; rfl⟩
      omega
    · rw [if_neg e]; exact h.up j hj
  · rcases List.mem_append.1 hx with h1 | h1
    · have h2 := h.st x h1
      refine ⟨h2.1, h2.2.1, ?_⟩
      rw [hset]
      split
      · rfl
      · exact h2.2.2
    · rw [List.mem_singleton.1 h1]
      refine ⟨by omega, by omega, ?_⟩
      rw [hset, if_pos (by omega)]
  · rw [List.nodup_append]
    exact ⟨h.nodup, by simp, fun x hx y hy e => hno (by rw [List.mem_singleton.1 hy] at e; rw [← e]; exact hx)⟩
  · rw [h.dg j hj, deg_congr _ _ _ _ (fun t _ => hp t)]
  · rw [hset] at hf
    split at hf
    · cases hf
    · rename_i e
      exact h.ok j hj (hk.resolve_right e) hf
theorem Lv.stay {nx : List (List Int)} {a : List Bool} {K : Nat → Prop} {F : List Bool} {D St R : List Int} (h : Lv nx a K F D St R) (i : Nat) (hs : inB F i = true → D.getD i 0 ≠ 0) :
    Lv nx a (fun j => K j ∨ j = i) F D St R :=
  ⟨h.flen, h.dlen, h.sub, h.up, h.st, h.nodup, h.dg, fun j hj hk hf => by
    rcases hk with hk | rfl
    · exact h.ok j hj hk hf
    · exact hs hf⟩
theorem Lv.pop {nx : List (List Int)} {a : List Bool} {K : Nat → Prop} {F : List Bool} {D St : List Int} {x : Int} (h : Lv nx a K F D (St ++ [x]) []) : Lv nx a K F D St (fr nx nx.length x.toNat) := by
  have hx := h.st x (by simp)
  have hn : x ∉ St := fun hm => by
    have := (List.nodup_append.1 h.nodup).2.2 x hm x (by simp)
    exact this rfl
  refine ⟨h.flen, h.dlen, h.sub, h.up, fun y hy => h.st y (List.mem_append.2 (Or.inl hy)), (List.nodup_append.1 h.nodup).1, fun i hi => ?_, h.ok⟩
  rw [h.dg i hi, occ_fr, if_pos hi, occ_nil, Nat.add_zero]
  congr 1
  refine deg_split _ _ _ x.toNat (by omega) ?_ ?_ (fun u _ hne => ?_) _
  · unfold pend
    rw [show ((x.toNat : Nat) : Int) = x by omega]
    simp
  · unfold pend
    rw [hx.2.2, show ((x.toNat : Nat) : Int) = x by omega]
    simpa using hn
  · unfold pend
    have : ((u : Int) ∈ St ++ [x]) ↔ ((u : Int) ∈ St) := by simp; omega
    rw [decide_eq_decide.2 this]
theorem Lv.down {nx : List (List Int)} {a : List Bool} {K : Nat → Prop} {F : List Bool} {D St R : List Int} {i : Nat} (h : Lv nx a K F D St ((i : Int) :: R)) (hi : i < nx.length) :
    0 < D.getD i 0 ∧ Lv nx a (fun j => K j ∧ j ≠ i) F (D.set i (D.getD i 0 - 1)) St R := by
  have hl : i < D.length := by rw [h.dlen]; exact hi
  have h1 := h.dg i hi
  rw [occ_cons, if_pos rfl] at h1
  refine ⟨by omega, h.flen, by simpa using h.dlen, h.sub, h.up, h.st, h.nodup, fun j hj => ?_, fun j hj hk hf => ?_⟩
  · rw [getD_set D i j _ _ hl]
    by_cases e : j = i
    · subst e; rw [if_pos rfl]; omega
    · rw [if_neg e, h.dg j hj, occ_cons, if_neg (by omega)]; omega
  · rw [getD_set D i j _ _ hl, if_neg hk.2]
    exact h.ok j hj hk.1 hf
theorem Lv.done {nx : List (List Int)} {a : List Bool} {F : List Bool} {D : List Int} (h : Lv nx a (fun _ => True) F D [] []) : IsSet nx.length (EG nx a) F := by
  refine ⟨h.flen, fun i hi => ⟨fun hF => ⟨fun j => inB F j = true, hF, fun j hj => ?_⟩, h.up i⟩⟩
  have hjl : j < nx.length := by rw [← h.flen]; exact inB_lt hj
  refine ⟨hjl, h.sub j hj, ?_⟩
  have h1 := h.ok j hjl trivial hj
  have h2 := h.dg j hjl
  obtain ⟨t, ht, hm, hp⟩ := deg_pos.1 (show 0 < deg nx.length (pend F []) (row nx j) by rw [occ_nil] at h2; omega)
  unfold pend at hp
  simp at hp
  exact ⟨t, hp, ht, hm⟩
/-- Before any is gone: what stands for each is what leads to the set. -/
theorem Lv.start {nx : List (List Int)} {a F : List Bool} {D : List Int} (hF : F.length = nx.length) (hF2 : ∀ i, i < nx.length → inB F i = inB a i) (hD : D.length = nx.length) (hdg : ∀ i, i < nx.length → D.getD i 0 = ((deg nx.length (inB F) (row nx i) : Nat) : Int)) :
    Lv nx a (fun j => j < 0) F D [] [] :=
  ⟨hF, hD, fun i h => by rw [← hF2 i (by rw [← hF]; exact inB_lt h)]; exact h, fun i h => by rw [hF2 i h.out.1]; exact h.out.2.1, fun x h => by simp at h, by simp, fun i hi => by
    rw [hdg i hi, occ_nil, Nat.add_zero]
    rw [deg_congr _ _ _ _ (fun t _ => show inB F t = pend F [] t by unfold pend; simp)], fun i _ hk => by omega⟩
end Lb
namespace Lb
/-- How many are true. -/
def cntT : List Bool → Nat
  | [] => 0
  | b :: l => (if b then 1 else 0) + cntT l
theorem cntT_le : ∀ (l : List Bool), cntT l ≤ l.length
  | [] => by simp [cntT]
  | b :: l => by have := cntT_le l; unfold cntT; split <;> simp <;> omega
theorem cntT_set : ∀ (l : List Bool) (k : Nat), k < l.length → inB l k = false → cntT (l.set k true) = cntT l + 1 ∧ cntT l < l.length
  | [], k, h, _ => by simp at h
  | b :: l, 0, h, e => by
    have : b = false := e
    subst this
    have := cntT_le l
    simp [cntT]; omega
  | b :: l, k + 1, h, e => by
    have := cntT_set l k (by simpa using h) e
    simp only [List.set_cons_succ, cntT, List.length_cons]
    refine ⟨by omega, ?_⟩
    split <;> omega
theorem cntT_unset : ∀ (l : List Bool) (k : Nat), k < l.length → inB l k = true → cntT (l.set k false) + 1 = cntT l
  | [], k, h, _ => by simp at h
  | b :: l, 0, h, e => by
    have : b = true := e
    subst this
    simp [cntT]; omega
  | b :: l, k + 1, h, e => by
    have := cntT_unset l k (by simpa using h) e
    simp only [List.set_cons_succ, cntT]; omega
theorem cntT_rep (n : Nat) : cntT (List.replicate n false) = 0 := by
  induction n with
  | zero => rfl
  | succ n ih => rw [List.replicate_succ]; simp [cntT, ih]
end Lb
end Go.Proofs.Ytlmecpghlgndnaa
