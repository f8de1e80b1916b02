/-
  The texts of tokens, a blank behind each, have the same tokens, but for places.
-/
import Derived.Test.YtbplkphjjfgkmaaDoorTokRise
namespace Go.Proofs.YtbplkphjjfgkmaaDoor
open Go.RowKit
set_option linter.unusedVariables false
set_option linter.unusedSimpArgs false

namespace Tk
theorem wh_run (N : Nat) (f : Nat → Int) (P : Int → Bool) : ∀ (m i : Nat), i + m < N → (∀ k, k < m → P (f (i + k)) = true) → P (f (i + m)) = false → wh N f P i = i + m
  | 0, i, h, _, h0 => wh_stop (by intro c; rw [Nat.add_zero] at h0; rw [h0] at c; exact absurd c.2 (by decide))
  | m + 1, i, h, ha, h0 => by
    rw [wh_go (by omega) (by have := ha 0 (by omega); rwa [Nat.add_zero] at this), wh_run N f P m (i + 1) (by omega) (fun k hk => by have := ha (k + 1) (by omega); rwa [show i + (k + 1) = i + 1 + k by omega] at this) (by rw [show i + 1 + m = i + (m + 1) by omega]; exact h0)]
    omega
theorem sign_two {a b : Int} (h : sign a b = 2) : (a = 60 ∨ a = 62 ∨ a = 33) ∧ b = 61 := by
  unfold sign at h
  split at h
  · rename_i c
    simpa [or_assoc] using c
  · split at h <;> omega
def lst (a : Int) : Bool := a == 60 || a == 62 || a == 61 || a == 40 || a == 41 || a == 91 || a == 93 || a == 44 || a == 59
theorem sign_one {a b : Int} (h : sign a b = 1) : lst a = true := by
  unfold sign at h
  split at h
  · omega
  · split at h
    · rename_i c; exact c
    · omega
theorem sign_le (a b : Int) : sign a b ≤ 2 := by
  unfold sign
  split
  · omega
  · split <;> omega
theorem lst_in {a : Int} (h : lst a = true) : a = 60 ∨ a = 62 ∨ a = 61 ∨ a = 40 ∨ a = 41 ∨ a = 91 ∨ a = 93 ∨ a = 44 ∨ a = 59 := by
  unfold lst at h
  simpa [or_assoc] using h
theorem sign_blank {a : Int} (h : lst a = true) : sign a 32 = 1 := by
  unfold sign
  rw [if_neg (by simp), if_pos (by exact h)]
theorem sign_sixty {a : Int} (h : a = 60 ∨ a = 62 ∨ a = 33) : sign a 61 = 2 := by
  rcases h with rfl | rfl | rfl <;> rfl
/-- The runes of a token are below 128. -/
theorem one_ascii {s : ByteArray} {N i : Nat} (hi : i < N) (he : (one s N i).err = 0) : ∀ j, i ≤ j → j < (one s N i).fin → j < N ∧ 0 ≤ rn s N j ∧ rn s N j < 128 := by
  intro j h1 h2
  have hfN := (one_fin s N i hi he).2
  refine ⟨by omega, ?_⟩
  unfold one at he h2
  by_cases c1 : (sm (rn s N i) || gr (rn s N i)) = true
  · rw [if_pos c1] at h2
    exact row_ascii (wh_in N (rn s N) row i j h1 h2).2
  · rw [if_neg c1] at he h2
    by_cases c2 : (dg (rn s N i) || (rn s N i == 45 && dg (rn s N (i + 1)))) = true
    · rw [if_pos c2] at h2
      by_cases e : j = i
      · subst e
        simp only [Bool.or_eq_true, Bool.and_eq_true, beq_iff_eq] at c2
        rcases c2 with c | c
        · have := dg_ascii c; omega
        · omega
      · have := dg_ascii (wh_in N (rn s N) dg (i + 1) j (by omega) h2).2
        omega
    · rw [if_neg c2] at he h2
      simp only at he h2
      have hs0 : sign (rn s N i) (rn s N (i + 1)) ≠ 0 := by intro e; rw [if_pos e] at he; exact absurd he (by decide)
      have hs2 := sign_le (rn s N i) (rn s N (i + 1))
      by_cases e2 : sign (rn s N i) (rn s N (i + 1)) = 2
      · obtain ⟨a, b⟩ := sign_two e2
        rw [e2] at h2
        by_cases e : j = i
        · subst e; omega
        · rw [show j = i + 1 by omega]; omega
      · have e1 : sign (rn s N i) (rn s N (i + 1)) = 1 := by omega
        have := lst_in (sign_one e1)
        rw [e1] at h2
        rw [show j = i by omega]; omega
/-- A token that stands in another text too, a blank behind it. -/
theorem one_same {s s2 : ByteArray} {N N2 i j : Nat} (hE : Ends s N) (hE2 : Ends s2 N2) (hi : i < N) (he : (one s N i).err = 0)
    (hj : j + ((one s N i).fin - i) < N2) (hk : ∀ k, k < (one s N i).fin - i → rn s2 N2 (j + k) = rn s N (i + k)) (hb : rn s2 N2 (j + ((one s N i).fin - i)) = 32) :
    (one s2 N2 j).kind = (one s N i).kind ∧ (one s2 N2 j).num = (one s N i).num ∧ (one s2 N2 j).err = 0 ∧ (one s2 N2 j).fin = j + ((one s N i).fin - i) ∧ txt s2 j (j + ((one s N i).fin - i)) = txt s i (one s N i).fin := by
  have hf := one_fin s N i hi he
  have ha := one_ascii hi he
  have ht : txt s2 j (j + ((one s N i).fin - i)) = txt s i (one s N i).fin := by
    obtain ⟨a1, a2⟩ := txt_list hE (by omega) hf.2 ha
    obtain ⟨b1, b2⟩ := txt_list (i := j) (e := j + ((one s N i).fin - i)) hE2 (by omega) (by omega) (fun m h1 h2 => by
      have h3 := hk (m - j) (by omega)
      have h4 := ha (i + (m - j)) (by omega) (by omega)
      rw [show j + (m - j) = m by omega] at h3
      rw [h3]
      exact ⟨by omega, h4.2⟩)
    apply ByteArray.ext
    apply Array.ext
    · show (txt s2 j _).size = (txt s i _).size
      omega
    · intro m h1 h2
      have h1' : m < (txt s2 j (j + ((one s N i).fin - i))).size := h1
      have h2' : m < (txt s i (one s N i).fin).size := h2
      apply UInt8.toNat_inj.1
      have e1 := b2 m h1'
      have e2 := a2 m h2'
      rw [hk m (by omega), ← e2] at e1
      exact Int.ofNat.inj e1
  generalize hfin : (one s N i).fin = e at *
  obtain ⟨m, rfl⟩ : ∃ m, e = i + m := ⟨e - i, by omega⟩
  rw [show i + m - i = m by omega] at *
  have h0 : rn s2 N2 j = rn s N i := by have := hk 0 (by omega); simpa using this
  unfold one at he hfin ⊢
  by_cases c1 : (sm (rn s N i) || gr (rn s N i)) = true
  · rw [if_pos c1] at he hfin ⊢
    rw [h0, if_pos c1]
    simp only at hfin he ⊢
    have hw : wh N2 (rn s2 N2) row j = j + m := wh_run _ _ _ m j hj (fun k hkm => by
      rw [hk k hkm]
      exact (wh_in N (rn s N) row i (i + k) (by omega) (by omega)).2) (by rw [hb]; rfl)
    rw [hw, ht, hfin]
    rw [hfin] at he
    refine ⟨?_, ?_, ?_, ?_, ?_⟩ <;> first | trivial | rfl | exact he
  · rw [if_neg c1] at he hfin ⊢
    rw [h0, if_neg c1]
    by_cases c2 : (dg (rn s N i) || (rn s N i == 45 && dg (rn s N (i + 1)))) = true
    · rw [if_pos c2] at he hfin ⊢
      simp only at hfin he
      have c3 : (dg (rn s N i) || (rn s N i == 45 && dg (rn s2 N2 (j + 1)))) = true := by
        simp only [Bool.or_eq_true, Bool.and_eq_true, beq_iff_eq] at c2 ⊢
        rcases c2 with c | ⟨c, d⟩
        · exact Or.inl c
        · right
          refine ⟨c, ?_⟩
          have hlt : i + 1 < N := rn_lt (by intro e; rw [e] at d; exact absurd d (by decide))
          have hwg := wh_go (f := rn s N) hlt d
          have hge := wh_ge N (rn s N) dg (i + 1 + 1)
          rw [hk 1 (by omega)]
          exact d
      rw [if_pos c3]
      simp only
      obtain ⟨m, rfl⟩ : ∃ q, m = q + 1 := ⟨m - 1, by omega⟩
      have hw : wh N2 (rn s2 N2) dg (j + 1) = j + 1 + m := wh_run _ _ _ m (j + 1) (by omega) (fun k hkm => by
        rw [show j + 1 + k = j + (k + 1) by omega, hk (k + 1) (by omega)]
        exact (wh_in N (rn s N) dg (i + 1) (i + (k + 1)) (by omega) (by omega)).2) (by rw [show j + 1 + m = j + (m + 1) by omega, hb]; rfl)
      rw [hw, show j + 1 + m = j + (m + 1) by omega, ht, hfin]
      rw [hfin] at he
      refine ⟨?_, ?_, ?_, ?_, ?_⟩ <;> first | trivial | rfl | exact he
    · rw [if_neg c2] at he hfin ⊢
      simp only at he hfin
      have hs0 : sign (rn s N i) (rn s N (i + 1)) ≠ 0 := by intro e; rw [if_pos e] at he; exact absurd he (by decide)
      have hs2 := sign_le (rn s N i) (rn s N (i + 1))
      have hm : m = sign (rn s N i) (rn s N (i + 1)) := by omega
      have hd0 : dg (rn s N i) = false := by
        cases h : dg (rn s N i) with
        | false => rfl
        | true => rw [h] at c2; simp at c2
      have key : sign (rn s N i) (rn s2 N2 (j + 1)) = m ∧ rn s N i ≠ 45 := by
        by_cases e2 : sign (rn s N i) (rn s N (i + 1)) = 2
        · obtain ⟨a, b⟩ := sign_two e2
          rw [hk 1 (by omega), hm]
          exact ⟨rfl, by omega⟩
        · have e1 : sign (rn s N i) (rn s N (i + 1)) = 1 := by omega
          have hl := sign_one e1
          have := lst_in hl
          rw [show j + 1 = j + m by omega, hb, sign_blank hl]
          exact ⟨by omega, by omega⟩
      have c3 : ¬ (dg (rn s N i) || (rn s N i == 45 && dg (rn s2 N2 (j + 1)))) = true := by
        rw [hd0]
        simp [key.2]
      rw [if_neg c3]
      simp only
      rw [key.1]
      refine ⟨?_, ?_, ?_, ?_, ?_⟩ <;> first | trivial | rfl | exact ht | (rw [if_neg (by omega)])
end Tk
end Go.Proofs.YtbplkphjjfgkmaaDoor
