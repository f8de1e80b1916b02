/-
  Who is in a circle, in plain words.
-/
import Derived.Test.YtgjbchkplpdeiaaNestReach
namespace Go.Proofs.Ytgjbchkplpdeiaa
open Go.RowKit
set_option linter.unusedVariables false
set_option linter.unusedSimpArgs false

namespace Ns
theorem R_trans {l : List Int} {i k j : Int} (h1 : R l i k) (h2 : R l j i) : R l j k := by
  induction h1 with
  | base _ => exact h2
  | step k hp _ ih => exact R.step k hp ih
theorem R.top {l : List Int} {i k : Int} (h : R l i k) : isP l.length i = true := by
  induction h with
  | base h => exact h
  | step _ _ _ ih => exact ih
/-- A place is in a circle. -/
def C (l : List Int) (x : Int) : Prop := isP l.length x = true ∧ R l x (nx l x)
theorem C.next {l : List Int} {x : Int} (h : C l x) : C l (nx l x) := by
  obtain ⟨hp, hr⟩ := h
  have hp2 := hr.place
  have hb : R l (nx l x) x := R.step x hp (R.base hp2)
  refine ⟨hp2, ?_⟩
  generalize hy : nx l x = y at *
  cases hr with
  | base _ => rw [hy]; exact R.base hp
  | step _ _ hr2 => exact R_trans hr2 hb
theorem R.next {l : List Int} {p z : Int} (hc : C l p) (h : R l p z) : R l p (nx l z) := by
  cases h with
  | base _ => exact hc.2
  | step _ _ h2 => exact h2
theorem C_of_R {l : List Int} {x at_ : Int} (h : R l x at_) : C l at_ → C l x := by
  induction h with
  | base _ => exact id
  | step k _ _ ih => exact fun hc => ih hc.next
theorem chain_up2 (l : List Int) : ∀ (f : Nat) (seen : List Int) (x y : Int), (∀ z ∈ seen, isP l.length z = true) → seen.Nodup → y ∈ chain l f seen x → ∃ j, j + 1 + seen.length ≤ l.length ∧ up l j x = y
  | 0, _, _, y, _, _, h => by simp [chain] at h
  | f + 1, seen, x, y, hs, hd, h => by
    by_cases hc : isP l.length x = true ∧ x ∉ seen
    · rw [chain_go l f seen x hc] at h
      have hs2 : ∀ z ∈ x :: seen, isP l.length z = true := fun z hz => (List.mem_cons.1 hz).elim (fun e => by rw [e]; exact hc.1) (hs z)
      have hd2 : (x :: seen).Nodup := List.nodup_cons.2 ⟨hc.2, hd⟩
      rcases List.mem_cons.1 h with rfl | h
      · have := fit l.length _ hd2 hs2
        simp at this
        exact ⟨0, by omega, by simp [up, hc.1]⟩
      · obtain ⟨j, hj, he⟩ := chain_up2 l f _ _ y hs2 hd2 h
        simp at hj
        exact ⟨j + 1, by omega, by rw [up, if_pos hc.1]; exact he⟩
    · rw [chain_stop l _ seen x hc] at h; simp at h
theorem is_C (l : List Int) (x : Int) : is l x x = true ↔ C l x := by
  constructor
  · intro h
    unfold is at h
    simp only [Bool.and_eq_true, decide_eq_true_eq, List.any_eq_true, beq_iff_eq] at h
    obtain ⟨h0, j, _, he⟩ := h
    by_cases hx : isP l.length x = true
    · simp only [up, if_pos hx] at he
      exact ⟨hx, R_of_up h0 j _ he⟩
    · simp only [up, if_neg hx] at he; omega
  · rintro ⟨hp, hr⟩
    have hb := (isP_iff _ _).1 hp
    unfold is
    simp only [Bool.and_eq_true, decide_eq_true_eq, List.any_eq_true, beq_iff_eq, List.mem_range]
    refine ⟨hb.1, ?_⟩
    by_cases he : nx l x = x
    · exact ⟨0, by omega, by simp [up, hp, he]⟩
    · have hm := above_of_R hr he
      have hp2 := hr.place
      unfold aboveL at hm
      rw [if_pos hp2] at hm
      obtain ⟨j, hj, hu⟩ := chain_up2 l _ _ _ x (fun z hz => by rw [List.mem_singleton.1 hz]; exact hp2) (by simp) hm
      simp at hj
      exact ⟨j + 1, by omega, by rw [up, if_pos hp, up, if_pos hp2]; exact hu⟩
/-- So many steps up. -/
def it (l : List Int) : Nat → Int → Int
  | 0, x => x
  | m + 1, x => it l m (nx l x)
theorem it_succ (l : List Int) : ∀ (m : Nat) (x : Int), it l (m + 1) x = nx l (it l m x)
  | 0, _ => rfl
  | m + 1, x => by rw [it, it_succ l m, it]
theorem it_add (l : List Int) : ∀ (a b : Nat) (x : Int), it l (a + b) x = it l b (it l a x)
  | 0, b, x => by rw [Nat.zero_add]; rfl
  | a + 1, b, x => by rw [show a + 1 + b = (a + b) + 1 by omega, it, it_add l a b, it]
theorem it_C {l : List Int} {x : Int} (h : C l x) : ∀ m, C l (it l m x)
  | 0 => h
  | m + 1 => by rw [it_succ]; exact (it_C h m).next
theorem it_R {l : List Int} {x : Int} (h : C l x) : ∀ m, R l (it l m x) x
  | 0 => R.base h.1
  | m + 1 => R_trans (it_R h m) (by
    rw [it_succ]
    exact R.step _ (it_C h m).1 (R.base (it_C h m).next.1))
theorem R_it {l : List Int} {z x : Int} (h : R l z x) : ∃ m, it l m x = z := by
  induction h with
  | base _ => exact ⟨0, rfl⟩
  | step k _ _ ih => obtain ⟨m, hm⟩ := ih; exact ⟨m + 1, hm⟩
theorem C_it {l : List Int} {x : Int} (h : C l x) : ∃ d, it l (d + 1) x = x := R_it h.2
theorem it_all {l : List Int} {x f : Int} {j : Nat} (hj : it l (j + 1) x = x) (hf : ∀ m, m ≤ j → f ≤ it l m x) : ∀ m, f ≤ it l m x := by
  intro m
  induction m using Nat.strongRecOn with
  | _ m ih =>
    by_cases h : m ≤ j
    · exact hf m h
    · have h1 := ih (m - (j + 1)) (by omega)
      have h2 := it_add l (j + 1) (m - (j + 1)) x
      rw [hj, show j + 1 + (m - (j + 1)) = m by omega] at h2
      rw [h2]; exact h1
/-- The least place of the circle of one. -/
def Least (l : List Int) (x f : Int) : Prop := R l f x ∧ ∀ z, R l z x → f ≤ z
/-- The first place that is in a circle. -/
def circ (l : List Int) : Int := match (List.range l.length).find? (fun i : Nat => is l (i : Int) (i : Int)) with
  | some i => (i : Int)
  | none => -1
theorem circ_none {l : List Int} (h : ∀ k : Nat, k < l.length → ¬ C l k) : circ l = -1 := by
  unfold circ
  rw [List.find?_eq_none.2 (fun k hk => by
    have := h k (List.mem_range.1 hk)
    rw [← is_C] at this
    exact this)]
theorem circ_some {l : List Int} {f : Int} (hf : C l f) (h : ∀ k : Nat, k < l.length → C l k → f ≤ k) : circ l = f := by
  have hb := (isP_iff _ _).1 hf.1
  unfold circ
  cases hq : (List.range l.length).find? (fun i : Nat => is l (i : Int) (i : Int)) with
  | none =>
    have := List.find?_eq_none.1 hq f.toNat (List.mem_range.2 (by omega))
    rw [show ((f.toNat : Nat) : Int) = f by omega, is_C] at this
    exact absurd hf this
  | some i =>
    have h1 := List.find?_some hq
    rw [is_C] at h1
    have hi := List.mem_range.1 (List.mem_of_find?_eq_some hq)
    have h2 := h i hi h1
    by_cases e : f = (i : Int)
    · exact e.symm
    · obtain ⟨A, B, hAB, hA⟩ := (List.find?_eq_some_iff_append.1 hq).2
      have hlA : A.length = i := by
        have h3 : (List.range l.length)[A.length]? = some i := by rw [hAB]; simp
        rw [List.getElem?_range (by have := congrArg List.length hAB; simp at this; omega)] at h3
        simpa using h3
      have h4 : f.toNat ∈ A := by
        have h5 : (List.range l.length)[f.toNat]? = some f.toNat := List.getElem?_range (by omega)
        rw [hAB, List.getElem?_append_left (by omega)] at h5
        exact List.mem_of_getElem? h5
      have h6 := hA _ h4
      rw [show ((f.toNat : Nat) : Int) = f by omega] at h6
      have h7 := (is_C l f).2 hf
      rw [h7] at h6
      simp at h6
/-- Of the places gone by so far (those with a mark) it is known where the least circle is. -/
structure Gone (l : List Int) (B : List Int) (found : Int) : Prop where
  len : B.length = l.length
  shut : ∀ x : Int, isP l.length x = true → B.getD x.toNat 0 ≠ 0 → isP l.length (nx l x) = true → B.getD (nx l x).toNat 0 ≠ 0
  least : (found = -1 ∧ ∀ x : Int, isP l.length x = true → B.getD x.toNat 0 ≠ 0 → ¬ C l x) ∨ (C l found ∧ B.getD found.toNat 0 ≠ 0 ∧ ∀ x : Int, isP l.length x = true → B.getD x.toNat 0 ≠ 0 → C l x → found ≤ x)
theorem Gone.reach {l B : List Int} {found : Int} (h : Gone l B found) {p z : Int} (hr : R l p z) : B.getD z.toNat 0 ≠ 0 → B.getD p.toNat 0 ≠ 0 := by
  induction hr with
  | base _ => exact id
  | step k hk hR ih => exact fun hb => ih (h.shut k hk hb hR.place)
theorem Gone.circ {l B : List Int} {found : Int} (h : Gone l B found) (hall : ∀ k : Nat, k < l.length → B.getD k 0 ≠ 0) : circ l = found := by
  rcases h.least with ⟨rfl, h1⟩ | ⟨h1, _, h3⟩
  · exact circ_none (fun k hk => h1 k ((isP_iff _ _).2 (by omega)) (by simpa using hall k hk))
  · exact circ_some h1 (fun k hk => h3 k ((isP_iff _ _).2 (by omega)) (by simpa using hall k hk))
/-- A walk under way: the places of it, all new, with the mark m. -/
structure Walk (l B0 : List Int) (i at_ m : Int) (P : List Int) (B : List Int) : Prop where
  len : B.length = l.length
  pos : 0 < m
  old : ∀ k : Nat, k < l.length → (k : Int) ∉ P → B.getD k 0 = B0.getD k 0
  new : ∀ x ∈ P, isP l.length x = true ∧ B0.getD x.toNat 0 = 0 ∧ B.getD x.toNat 0 = m
  nodup : P.Nodup
  next : ∀ x ∈ P, nx l x ∈ P ∨ nx l x = at_
  reach : ∀ x ∈ P, C l x → R l x at_
  back : isP l.length at_ = true → ∀ x ∈ P, R l at_ x
  low : ∀ k : Nat, k < l.length → B0.getD k 0 < m
  first : i ∈ P ∨ at_ = i
theorem Walk.start {l B0 : List Int} {i m : Int} (hl : B0.length = l.length) (hm : 0 < m) (low : ∀ k : Nat, k < l.length → B0.getD k 0 < m) : Walk l B0 i i m [] B0 :=
  ⟨hl, hm, fun _ _ _ => rfl, fun _ h => by simp at h, by simp, fun _ h => by simp at h, fun _ h => by simp at h, fun _ _ h => by simp at h, low, Or.inr rfl⟩
theorem getD_set (B : List Int) (k j : Nat) (m : Int) (hk : k < B.length) : (B.set k m).getD j 0 = if j = k then m else B.getD j 0 := by
  rw [List.getD_eq_getElem?_getD, List.getD_eq_getElem?_getD]
  by_cases e : j = k
  · subst e; rw [if_pos rfl, List.getElem?_set_self hk]; rfl
  · rw [if_neg e, List.getElem?_set_ne (fun e2 => e e2.symm)]
theorem Walk.go {l B0 : List Int} {i at_ m : Int} {P B : List Int} (h : Walk l B0 i at_ m P B) (hp : isP l.length at_ = true) (hb : B.getD at_.toNat 0 = 0) : Walk l B0 i (nx l at_) m (at_ :: P) (B.set at_.toNat m) := by
  have hq := (isP_iff _ _).1 hp
  have hn : at_ ∉ P := fun hm => by have h1 := (h.new _ hm).2.2; have := h.pos; omega
  have hl := h.len
  have hk : at_.toNat < B.length := by omega
  refine ⟨by simpa using hl, h.pos, fun k hkl hm => ?_, fun x hx => ?_, List.nodup_cons.2 ⟨hn, h.nodup⟩, fun x hx => ?_, fun x hx hc => ?_, fun hp2 x hx => ?_, h.low, ?_⟩
  · simp only [List.mem_cons, not_or] at hm
    rw [getD_set _ _ _ _ hk, if_neg (by omega)]
    exact h.old k hkl hm.2
  · rcases List.mem_cons.1 hx with rfl | hx
    · refine ⟨hp, ?_, by rw [getD_set _ _ _ _ hk, if_pos rfl]⟩
      have := h.old x.toNat (by omega) (by rw [show ((x.toNat : Nat) : Int) = x by omega]; exact hn)
      omega
    · have h1 := h.new x hx
      have h2 := (isP_iff _ _).1 h1.1
      refine ⟨h1.1, h1.2.1, ?_⟩
      rw [getD_set _ _ _ _ hk]
      split
      · rfl
      · exact h1.2.2
  · rcases List.mem_cons.1 hx with rfl | hx
    · exact Or.inr rfl
    · rcases h.next x hx with h1 | h1
      · exact Or.inl (List.mem_cons_of_mem _ h1)
      · exact Or.inl (by rw [h1]; exact List.mem_cons_self ..)
  · rcases List.mem_cons.1 hx with rfl | hx
    · exact R.next hc (R.base hp)
    · exact R.next hc (h.reach x hx hc)
  · have h1 : R l (nx l at_) at_ := R.step at_ hp (R.base hp2)
    rcases List.mem_cons.1 hx with rfl | hx
    · exact h1
    · exact R_trans (h.back hp x hx) h1
  · rcases h.first with h1 | h1
    · exact Or.inl (List.mem_cons_of_mem _ h1)
    · exact Or.inl (by rw [h1]; exact List.mem_cons_self ..)
theorem Walk.low2 {l B0 : List Int} {i at_ m : Int} {P B : List Int} (h : Walk l B0 i at_ m P B) (k : Nat) (hk : k < l.length) : B.getD k 0 < m + 1 := by
  by_cases hm : (k : Int) ∈ P
  · have := (h.new _ hm).2.2; rw [Int.toNat_natCast] at this; omega
  · have := h.old k hk hm; have := h.low k hk; omega
theorem Walk.gone {l B0 : List Int} {i at_ m : Int} {P B : List Int} (h : Walk l B0 i at_ m P B) (x : Int) (hp : isP l.length x = true) : B.getD x.toNat 0 ≠ 0 ↔ x ∈ P ∨ B0.getD x.toNat 0 ≠ 0 := by
  have hq := (isP_iff _ _).1 hp
  have e : ((x.toNat : Nat) : Int) = x := by omega
  by_cases hm : x ∈ P
  · have := (h.new _ hm).2.2
    have := h.pos
    exact ⟨fun _ => Or.inl hm, fun _ => by omega⟩
  · rw [h.old x.toNat (by omega) (by rw [e]; exact hm)]
    exact ⟨Or.inr, fun h1 => h1.resolve_left hm⟩
theorem Walk.shut {l B0 : List Int} {i at_ m found : Int} {P B : List Int} (h : Walk l B0 i at_ m P B) (g : Gone l B0 found) (hend : isP l.length at_ = true → B.getD at_.toNat 0 ≠ 0) : ∀ x : Int, isP l.length x = true → B.getD x.toNat 0 ≠ 0 → isP l.length (nx l x) = true → B.getD (nx l x).toNat 0 ≠ 0 := by
  intro x hp hx hp2
  rcases (h.gone x hp).1 hx with h1 | h1
  · rcases h.next x h1 with h2 | h2
    · exact (h.gone _ hp2).2 (Or.inl h2)
    · rw [h2]; exact hend (by rw [← h2]; exact hp2)
  · exact (h.gone _ hp2).2 (Or.inr (g.shut x hp h1 hp2))
/-- The walk ends at no place, or at one that was gone by before: no new circle. -/
theorem Walk.old_end {l B0 : List Int} {i at_ m found : Int} {P B : List Int} (h : Walk l B0 i at_ m P B) (g : Gone l B0 found) (hend : isP l.length at_ = true → B.getD at_.toNat 0 ≠ 0 ∧ B.getD at_.toNat 0 ≠ m) : Gone l B found := by
  have hno : ∀ x ∈ P, ¬ C l x := fun x hx hc => by
    have hr := h.reach x hx hc
    have hp := hr.place
    have h1 := hend hp
    have hq := (isP_iff _ _).1 hp
    have hn : at_ ∉ P := fun hm => h1.2 (h.new _ hm).2.2
    have h2 := h.old at_.toNat (by omega) (by rw [show ((at_.toNat : Nat) : Int) = at_ by omega]; exact hn)
    exact g.reach hr (by rw [← h2]; exact h1.1) (h.new x hx).2.1
  refine ⟨h.len, h.shut g (fun hp => (hend hp).1), ?_⟩
  rcases g.least with ⟨h1, h2⟩ | ⟨h1, h2, h3⟩
  · exact Or.inl ⟨h1, fun x hp hx => ((h.gone x hp).1 hx).elim (hno x) (h2 x hp)⟩
  · exact Or.inr ⟨h1, (h.gone _ h1.1).2 (Or.inr h2), fun x hp hx hc => ((h.gone x hp).1 hx).elim (fun h4 => absurd hc (hno x h4)) (fun h4 => h3 x hp h4 hc)⟩
theorem Walk.circle {l B0 : List Int} {i at_ m : Int} {P B : List Int} (h : Walk l B0 i at_ m P B) (hp : isP l.length at_ = true) (hb : B.getD at_.toNat 0 = m) : at_ ∈ P := by
  have hq := (isP_iff _ _).1 hp
  have e : ((at_.toNat : Nat) : Int) = at_ := by omega
  by_cases hm : at_ ∈ P
  · exact hm
  · have h1 := h.old at_.toNat (by omega) (by rw [e]; exact hm)
    have h2 := h.low at_.toNat (by omega)
    omega
theorem Walk.round {l B0 : List Int} {i at_ m : Int} {P B : List Int} (h : Walk l B0 i at_ m P B) (hm : at_ ∈ P) : C l at_ := by
  have hp := (h.new _ hm).1
  refine ⟨hp, ?_⟩
  rcases h.next _ hm with h1 | h1
  · exact h.back hp _ h1
  · rw [h1]; exact R.base hp
/-- The walk ends in itself: here is a new circle. -/
theorem Walk.new_end {l B0 : List Int} {i at_ m found f : Int} {P B : List Int} (h : Walk l B0 i at_ m P B) (g : Gone l B0 found) (hm : at_ ∈ P) (hf : Least l at_ f) : Gone l B (if found < 0 ∨ f < found then f else found) := by
  have hC := h.round hm
  have hb : B.getD at_.toNat 0 ≠ 0 := by have := (h.new _ hm).2.2; have := h.pos; omega
  have hs := h.shut g (fun _ => hb)
  have hreach : ∀ p z : Int, R l p z → B.getD z.toNat 0 ≠ 0 → B.getD p.toNat 0 ≠ 0 := fun p z hr => by
    induction hr with
    | base _ => exact id
    | step k hk hR ih => exact fun hb => ih (hs k hk hb hR.place)
  have hCf := C_of_R hf.1 hC
  have hbf := hreach _ _ hf.1 hb
  have hmin : ∀ x ∈ P, C l x → f ≤ x := fun x hx hc => hf.2 x (h.reach x hx hc)
  refine ⟨h.len, hs, Or.inr ?_⟩
  rcases g.least with ⟨h1, h2⟩ | ⟨h1, h2, h3⟩
  · rw [if_pos (Or.inl (by omega))]
    exact ⟨hCf, hbf, fun x hp hx hc => ((h.gone x hp).1 hx).elim (fun h4 => hmin x h4 hc) (fun h4 => absurd hc (h2 x hp h4))⟩
  · have h0 := ((isP_iff _ _).1 h1.1).1
    by_cases e : found < 0 ∨ f < found
    · rw [if_pos e]
      exact ⟨hCf, hbf, fun x hp hx hc => ((h.gone x hp).1 hx).elim (fun h4 => hmin x h4 hc) (fun h4 => by have := h3 x hp h4 hc; omega)⟩
    · rw [if_neg e]
      exact ⟨h1, (h.gone _ h1.1).2 (Or.inr h2), fun x hp hx hc => ((h.gone x hp).1 hx).elim (fun h4 => by have := hmin x h4 hc; omega) (fun h4 => h3 x hp h4 hc)⟩
theorem Walk.all {l B0 : List Int} {k : Nat} {at_ m : Int} {P B : List Int} (h : Walk l B0 k at_ m P B) (hk : k < l.length) (hall : ∀ j : Nat, j < k → B0.getD j 0 ≠ 0) (hend : isP l.length at_ = true → B.getD at_.toNat 0 ≠ 0) : ∀ j : Nat, j < k + 1 → B.getD j 0 ≠ 0 := by
  intro j hj
  have hp : isP l.length (j : Int) = true := (isP_iff _ _).2 (by omega)
  have hg := h.gone (j : Int) hp
  rw [Int.toNat_natCast] at hg
  by_cases e : j = k
  · subst e
    rcases h.first with h1 | h1
    · exact hg.2 (Or.inl h1)
    · subst h1; have := hend hp; rwa [Int.toNat_natCast] at this
  · exact hg.2 (Or.inr (hall j (by omega)))
theorem Gone.none (l : List Int) : Gone l (List.replicate l.length 0) (-1) := by
  have h0 : ∀ k : Nat, (List.replicate l.length (0 : Int)).getD k 0 = 0 := fun k => by
    rw [List.getD_eq_getElem?_getD, List.getElem?_replicate]
    split <;> rfl
  exact ⟨by simp, fun x _ hx => absurd (h0 _) hx, Or.inl ⟨rfl, fun x _ hx => absurd (h0 _) hx⟩⟩
end Ns
end Go.Proofs.Ytgjbchkplpdeiaa
