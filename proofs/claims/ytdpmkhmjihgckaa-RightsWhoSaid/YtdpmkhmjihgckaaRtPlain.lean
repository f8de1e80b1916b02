/-
  Rights: what is asked, of lists.
-/
import Derived.Test.YtdpmkhmjihgckaaModOpen
import Derived.Test.YtdpmkhmjihgckaaBitsHas
namespace Go.Proofs.Ytdpmkhmjihgckaa
open Go.RowKit
set_option linter.unusedVariables false
set_option linter.unusedSimpArgs false

noncomputable def dcd (p : Prop) : Bool := @decide p (Classical.propDecidable p)
theorem dcd_yes {p : Prop} (h : p) : dcd p = true := by unfold dcd; exact @decide_eq_true _ (_) h
theorem dcd_no {p : Prop} (h : ¬ p) : dcd p = false := by unfold dcd; exact @decide_eq_false _ (_) h
theorem dcd_iff {p : Prop} : dcd p = true ↔ p := by unfold dcd; exact @decide_eq_true_iff _ (_)
theorem dcd_congr {p q : Prop} (h : p ↔ q) : dcd p = dcd q := by rw [show p = q from propext h]
/-- Is a number one of so many? -/
def inN (i : Int) (n : Nat) : Bool := decide (0 ≤ i) && decide (i < (n : Int))
theorem inN_iff {i : Int} {n : Nat} : inN i n = true ↔ 0 ≤ i ∧ i < (n : Int) := by simp [inN]
theorem inN_no {i : Int} {n : Nat} (h : ¬ (0 ≤ i ∧ i < (n : Int))) : inN i n = false := by
  cases hh : inN i n with
  | false => rfl
  | true => exact absurd (inN_iff.1 hh) h
/-- A list's number, 0 where there is none. -/
def ofL (l : List Int) (i : Int) : Int := if 0 ≤ i ∧ i < (l.length : Int) then l.getD i.toNat 0 else 0
theorem ofL_in {l : List Int} {k : Nat} (h : k < l.length) : ofL l (k : Nat) = l[k] := by
  unfold ofL
  rw [if_pos (by omega)]
  simp [h]
theorem ofL_out {l : List Int} {i : Int} (h : ¬ (0 ≤ i ∧ i < (l.length : Int))) : ofL l i = 0 := by unfold ofL; rw [if_neg h]
theorem ofL_fits {l : List Int} (h : ∀ x ∈ l, fits x) (i : Int) : fits (ofL l i) := by
  by_cases hi : 0 ≤ i ∧ i < (l.length : Int)
  · have : i = ((i.toNat : Nat) : Int) := by omega
    rw [this, ofL_in (by omega)]
    exact h _ (List.getElem_mem _)
  · rw [ofL_out hi]; exact ⟨by omega, by omega⟩
/-- A final milestone below k is done. -/
def Cpl (M : Mo) (s : Sq) (k : Nat) : Prop := ∃ (i : Nat) (x : Ml), i < k ∧ M.miles[i]? = some x ∧ x.fin = true ∧ hasB s.dn (i : Nat) = true
noncomputable def cpl (M : Mo) (s : Sq) : Bool := dcd (Cpl M s M.miles.length)
theorem cpl_none {M : Mo} {s : Sq} : ¬ Cpl M s 0 := fun ⟨i, x, h, _⟩ => by omega
theorem cpl_hit {M : Mo} {s : Sq} {i : Nat} (hi : i < M.miles.length) (hf : M.miles[i].fin = true) (hh : hasB s.dn (i : Nat) = true) : cpl M s = true := dcd_yes ⟨i, _, hi, List.getElem?_eq_getElem hi, hf, hh⟩
theorem cpl_next {M : Mo} {s : Sq} {i : Nat} (h : ¬ Cpl M s i) (hi : i < M.miles.length) (hn : ¬ (M.miles[i].fin = true ∧ hasB s.dn (i : Nat) = true)) : ¬ Cpl M s (i + 1) := by
  rintro ⟨j, x, hj, hx, h1, h2⟩
  by_cases e : j = i
  · subst e
    rw [List.getElem?_eq_getElem hi] at hx
    cases hx
    exact hn ⟨h1, h2⟩
  · exact h ⟨j, x, by omega, hx, h1, h2⟩
theorem cpl_all {M : Mo} {s : Sq} (h : ¬ Cpl M s M.miles.length) : cpl M s = false := dcd_no h
/-- What an event asks of a user. -/
def freeE (M : Mo) (s : Sq) (x : Ev) (e u : Int) : Bool :=
  (inN x.stage M.stages.length && hasB s.op x.stage) && ((inN x.role M.roles.length && hasB ((M.roles[x.role.toNat]?).elim 0 Ro.us) u) && (decide (x.times ≤ 0) || decide (ofL s.cnt e < x.times)))
noncomputable def freeB (M : Mo) (s : Sq) (e u : Int) : Bool :=
  ((inN e M.events.length && inN u M.users.n) && !cpl M s) && (M.events[e.toNat]?).elim false (fun x => freeE M s x e u)
def hadB (s : Sq) (e u : Int) : Bool := hasB (ofL s.did e) u
/-- A sod below k keeps the user from the event. -/
def Apt (M : Mo) (s : Sq) (e u : Int) (k : Nat) : Prop := ∃ (i : Nat) (x : Sd), i < k ∧ M.sods[i]? = some x ∧ ((x.a = e ∧ hadB s x.b u = true) ∨ (x.b = e ∧ hadB s x.a u = true))
noncomputable def enB (M : Mo) (s : Sq) (e u : Int) : Bool := freeB M s e u && !dcd (Apt M s e u M.sods.length)
theorem apt_none {M : Mo} {s : Sq} {e u : Int} : ¬ Apt M s e u 0 := fun ⟨i, x, h, _⟩ => by omega
theorem apt_next {M : Mo} {s : Sq} {e u : Int} {i : Nat} (h : ¬ Apt M s e u i) (hi : i < M.sods.length) (hn : ¬ ((M.sods[i].a = e ∧ hadB s M.sods[i].b u = true) ∨ (M.sods[i].b = e ∧ hadB s M.sods[i].a u = true))) : ¬ Apt M s e u (i + 1) := by
  rintro ⟨j, x, hj, hx, h1⟩
  by_cases e : j = i
  · subst e
    rw [List.getElem?_eq_getElem hi] at hx
    cases hx
    exact hn h1
  · exact h ⟨j, x, by omega, hx, h1⟩
theorem apt_hit {M : Mo} {s : Sq} {e u : Int} {i : Nat} (hi : i < M.sods.length) (h : (M.sods[i].a = e ∧ hadB s M.sods[i].b u = true) ∨ (M.sods[i].b = e ∧ hadB s M.sods[i].a u = true)) : Apt M s e u M.sods.length := ⟨i, _, hi, List.getElem?_eq_getElem hi, h⟩
theorem enB_free {M : Mo} {s : Sq} {e u : Int} (h : enB M s e u = true) : freeB M s e u = true := by unfold enB at h; simp at h; exact h.1
theorem enB_noSods {M : Mo} {s : Sq} {e u : Int} (h : M.sods = []) : enB M s e u = freeB M s e u := by
  unfold enB
  rw [dcd_no (by rintro ⟨i, x, hi, hx, _⟩; rw [h] at hx; simp at hx)]
  simp
theorem freeB_in {M : Mo} {s : Sq} {e u : Int} (h : freeB M s e u = true) : (0 ≤ e ∧ e < (M.events.length : Int)) ∧ (0 ≤ u ∧ u < (M.users.n : Int)) ∧ cpl M s = false := by
  unfold freeB at h
  simp only [Bool.and_eq_true, inN_iff, Bool.not_eq_true'] at h
  exact ⟨h.1.1.1, h.1.1.2, h.1.2⟩
/-- Who may, of the users below k. -/
noncomputable def whoL (M : Mo) (s : Sq) (e : Int) (k : Nat) : List Int := ((List.range k).filter (fun u => enB M s e ((u : Nat) : Int))).map (fun u => ((u : Nat) : Int))
theorem whoL_zero {M : Mo} {s : Sq} {e : Int} : whoL M s e 0 = [] := rfl
theorem whoL_yes {M : Mo} {s : Sq} {e : Int} {k : Nat} (h : enB M s e (k : Nat) = true) : whoL M s e (k + 1) = whoL M s e k ++ [((k : Nat) : Int)] := by
  unfold whoL; rw [List.range_succ, List.filter_append, List.map_append]; simp [h]
theorem whoL_no {M : Mo} {s : Sq} {e : Int} {k : Nat} (h : enB M s e (k : Nat) = false) : whoL M s e (k + 1) = whoL M s e k := by
  unfold whoL; rw [List.range_succ, List.filter_append, List.map_append]; simp [h]
theorem whoL_le {M : Mo} {s : Sq} {e : Int} {k : Nat} : (whoL M s e k).length ≤ k := by
  unfold whoL
  rw [List.length_map]
  exact Nat.le_trans (List.length_filter_le _ _) (by simp)
theorem whoL_pos {M : Mo} {s : Sq} {e : Int} {k : Nat} : 0 < (whoL M s e k).length ↔ ∃ u : Nat, u < k ∧ enB M s e (u : Nat) = true := by
  unfold whoL
  rw [List.length_map, List.length_pos_iff_exists_mem]
  constructor
  · rintro ⟨u, hu⟩
    rw [List.mem_filter, List.mem_range] at hu
    exact ⟨u, hu.1, hu.2⟩
  · rintro ⟨u, h1, h2⟩
    exact ⟨u, List.mem_filter.2 ⟨List.mem_range.2 h1, h2⟩⟩
/-- Any event is enabled for anybody. -/
def AnyP (M : Mo) (s : Sq) : Prop := ∃ e u : Nat, e < M.events.length ∧ u < M.users.n ∧ enB M s (e : Nat) (u : Nat) = true
def FreeP (M : Mo) (s : Sq) : Prop := ∃ e u : Nat, e < M.events.length ∧ u < M.users.n ∧ freeB M s (e : Nat) (u : Nat) = true
noncomputable def anyB (M : Mo) (s : Sq) : Bool := dcd (AnyP M s)
noncomputable def stuckB (M : Mo) (s : Sq) : Bool := dcd (FreeP M s ∧ ¬ AnyP M s)
theorem any_of {M : Mo} {s : Sq} {e u : Int} (h : enB M s e u = true) : AnyP M s := by
  have h1 := freeB_in (enB_free h)
  refine ⟨e.toNat, u.toNat, by omega, by omega, ?_⟩
  rw [show ((e.toNat : Nat) : Int) = e by omega, show ((u.toNat : Nat) : Int) = u by omega]
  exact h
theorem can_of {M : Mo} {s : Sq} {e u : Int} (h : enB M s e u = true) : 0 < (whoL M s e M.users.n).length := by
  have h1 := freeB_in (enB_free h)
  refine whoL_pos.2 ⟨u.toNat, by omega, ?_⟩
  rw [show ((u.toNat : Nat) : Int) = u by omega]
  exact h
theorem stuck_not {M : Mo} {s : Sq} (h : AnyP M s) : stuckB M s = false := dcd_no (fun h2 => h2.2 h)
theorem cpl_any {M : Mo} {s : Sq} (h : cpl M s = true) : anyB M s = false ∧ stuckB M s = false := by
  have hf : ∀ e u, freeB M s e u = true → False := fun e u hf => by have := (freeB_in hf).2.2; rw [h] at this; cases this
  exact ⟨dcd_no (fun ⟨e, u, _, _, h2⟩ => hf _ _ (enB_free h2)), dcd_no (fun ⟨⟨e, u, _, _, h2⟩, _⟩ => hf _ _ h2)⟩
theorem stuck_noSods {M : Mo} {s : Sq} (h : M.sods = []) : stuckB M s = false := dcd_no (fun ⟨⟨e, u, h1, h2, h3⟩, hn⟩ => hn ⟨e, u, h1, h2, by rw [enB_noSods h]; exact h3⟩)
end Go.Proofs.Ytdpmkhmjihgckaa
