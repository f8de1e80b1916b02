/-
  Runes below 128 are bytes: the texts of words and numbers.
-/
import Derived.Test.YtbplkphjjfgkmaaDoorTokWhile
import Derived.Test.YtbplkphjjfgkmaaDoorNmRef
namespace Go.Proofs.YtbplkphjjfgkmaaDoor
open Go.RowKit
set_option linter.unusedVariables false
set_option linter.unusedSimpArgs false

theorem first_ascii (s : ByteArray) (p : Nat) (h0 : 0 ≤ (firstR s p).1) (h1 : (firstR s p).1 < 128) : (byt s p : Int) = (firstR s p).1 ∧ (firstR s p).2 = 1 := by
  unfold firstR at *
  dsimp only at *
  by_cases c1 : byt s p < 128
  · rw [if_pos c1]; exact ⟨rfl, rfl⟩
  · exfalso
    rw [if_neg c1] at h0 h1
    by_cases c2 : (decide (194 ≤ byt s p) && decide (byt s p ≤ 223) && tl s (p + 1) 128 191) = true
    · rw [if_pos c2] at h1
      simp only [Bool.and_eq_true, decide_eq_true_eq] at c2
      simp only at h1
      omega
    · rw [if_neg c2] at h0 h1
      by_cases c3 : (!tl s (p + 1) (lo2 (byt s p)) (hi2 (byt s p)) || !tl s (p + 2) 128 191) = true
      · rw [if_pos c3] at h0; simp at h0
      · rw [if_neg c3] at h0 h1
        have c3' : tl s (p + 1) (lo2 (byt s p)) (hi2 (byt s p)) = true := by
          cases hh : tl s (p + 1) (lo2 (byt s p)) (hi2 (byt s p)) with
          | true => rfl
          | false => rw [hh] at c3; simp at c3
        have c3b := tl_true c3'
        by_cases c4 : (decide (224 ≤ byt s p) && decide (byt s p ≤ 239)) = true
        · rw [if_pos c4] at h1
          simp only [Bool.and_eq_true, decide_eq_true_eq] at c4
          simp only at h1
          by_cases e : byt s p = 224
          · have : lo2 (byt s p) = 160 := by unfold lo2; rw [if_neg (by omega), if_pos e]
            rw [this] at c3b
            have := byt_lt s (p + 1)
            have h5 := hi2_b (byt s p)
            omega
          · omega
        · rw [if_neg c4] at h0 h1
          by_cases c5 : (decide (240 ≤ byt s p) && decide (byt s p ≤ 244) && tl s (p + 3) 128 191) = true
          · rw [if_pos c5] at h1
            simp only [Bool.and_eq_true, decide_eq_true_eq] at c5
            simp only at h1
            by_cases e : byt s p = 240
            · have : lo2 (byt s p) = 144 := by unfold lo2; rw [if_pos e]
              rw [this] at c3b
              have h5 := hi2_b (byt s p)
              omega
            · omega
          · rw [if_neg c5] at h0; simp at h0
namespace Tk
theorem rn_ascii {s : ByteArray} {N j : Nat} (hj : j < N) (h0 : 0 ≤ rn s N j) (h1 : rn s N j < 128) : (byt s (Rn.st s j).p : Int) = rn s N j ∧ (Rn.st s (j + 1)).p = (Rn.st s j).p + 1 := by
  have e : rn s N j = (firstR s (Rn.st s j).p).1 := by unfold rn; rw [if_pos hj]; rfl
  rw [e] at h0 h1 ⊢
  obtain ⟨a, b⟩ := first_ascii s _ h0 h1
  refine ⟨a, ?_⟩
  show (Rn.st s j).p + Rn.wid s (Rn.st s j).p = _
  unfold Rn.wid
  rw [b]
/-- Runes that all are below 128: one byte each. -/
theorem st_row {s : ByteArray} {N i e : Nat} (h : ∀ j, i ≤ j → j < e → j < N ∧ 0 ≤ rn s N j ∧ rn s N j < 128) : ∀ k, i + k ≤ e → (Rn.st s (i + k)).p = (Rn.st s i).p + k
  | 0, _ => rfl
  | k + 1, hk => by
    have h1 := st_row h k (by omega)
    obtain ⟨a, b, c⟩ := h (i + k) (by omega) (by omega)
    have h2 := (rn_ascii a b c).2
    rw [show i + (k + 1) = i + k + 1 by omega, h2, h1]
    omega
theorem txt_list {s : ByteArray} {N i e : Nat} (hE : Ends s N) (hie : i ≤ e) (heN : e ≤ N) (h : ∀ j, i ≤ j → j < e → j < N ∧ 0 ≤ rn s N j ∧ rn s N j < 128) :
    (txt s i e).size = e - i ∧ ∀ k (hk : k < (txt s i e).size), (((txt s i e)[k]'hk).toNat : Int) = rn s N (i + k) := by
  have hp := st_row h (e - i) (by omega)
  rw [show i + (e - i) = e by omega] at hp
  have hb := st_in hE e heN
  have hsz : (txt s i e).size = e - i := by
    unfold txt
    rw [ByteArray.size_extract]
    omega
  refine ⟨hsz, fun k hk => ?_⟩
  have hke : i + k < e := by omega
  obtain ⟨a, b, c⟩ := h (i + k) (by omega) hke
  have h2 := (rn_ascii a b c).1
  have h3 := st_row h k (by omega)
  rw [h3] at h2
  rw [← h2]
  have hlt : (Rn.st s i).p + k < s.size := by omega
  have : ((txt s i e)[k]'hk) = s[(Rn.st s i).p + k]'hlt := by
    unfold txt
    exact ByteArray.getElem_extract _
  rw [this, byt_at s _ hlt]
theorem row_ascii {r : Int} (h : row r = true) : 0 ≤ r ∧ r < 128 := by
  unfold row sm gr dg at h
  simp only [Bool.or_eq_true, Bool.and_eq_true, decide_eq_true_eq, beq_iff_eq] at h
  omega
theorem dg_ascii {r : Int} (h : dg r = true) : 48 ≤ r ∧ r ≤ 57 := by
  unfold dg at h
  simpa using h
/-- The text of a word. -/
theorem word_txt {s : ByteArray} {N i : Nat} (hE : Ends s N) (hi : i < N) (hw : (sm (rn s N i) || gr (rn s N i)) = true) :
    (txt s i (wh N (rn s N) row i)).size ≤ N ∧ ∀ k (hk : k < (txt s i (wh N (rn s N) row i)).size), ((txt s i (wh N (rn s N) row i))[k]'hk).toNat < 128 := by
  have hle := wh_le N (rn s N) row i (by omega)
  have hge := wh_ge N (rn s N) row i
  have h : ∀ j, i ≤ j → j < wh N (rn s N) row i → j < N ∧ 0 ≤ rn s N j ∧ rn s N j < 128 := fun j h1 h2 => by
    obtain ⟨a, b⟩ := wh_in N (rn s N) row i j h1 h2
    obtain ⟨c, d⟩ := row_ascii b
    exact ⟨a, c, d⟩
  obtain ⟨h1, h2⟩ := txt_list hE hge hle h
  refine ⟨by omega, fun k hk => ?_⟩
  have h3 := h2 k hk
  have h4 := (h (i + k) (by omega) (by omega)).2.2
  omega
/-- The text of a number. -/
theorem num_txt {s : ByteArray} {N i : Nat} (hE : Ends s N) (hi : i < N) (hd : (dg (rn s N i) || (rn s N i == 45 && dg (rn s N (i + 1)))) = true) :
    (txt s i (wh N (rn s N) dg (i + 1))).size ≤ N ∧ Nm.body (txt s i (wh N (rn s N) dg (i + 1))).data.toList ≠ [] ∧ (Nm.body (txt s i (wh N (rn s N) dg (i + 1))).data.toList).all Nm.dig = true := by
  have hge := wh_ge N (rn s N) dg (i + 1)
  have hle := wh_le N (rn s N) dg (i + 1) (by omega)
  have h : ∀ j, i ≤ j → j < wh N (rn s N) dg (i + 1) → j < N ∧ 0 ≤ rn s N j ∧ rn s N j < 128 := fun j h1 h2 => by
    by_cases e : j = i
    · subst e
      refine ⟨hi, ?_⟩
      simp only [Bool.or_eq_true, Bool.and_eq_true, beq_iff_eq] at hd
      rcases hd with c | c
      · have := dg_ascii c; omega
      · omega
    · obtain ⟨a, b⟩ := wh_in N (rn s N) dg (i + 1) j (by omega) h2
      have := dg_ascii b
      exact ⟨a, by omega, by omega⟩
  obtain ⟨h1, h2⟩ := txt_list hE (by omega) hle h
  have hdig : ∀ k (hk : k < (txt s i (wh N (rn s N) dg (i + 1))).size), (k = 0 → dg (rn s N i) = true) → Nm.dig ((txt s i (wh N (rn s N) dg (i + 1)))[k]'hk) = true := fun k hk hz => by
    have h3 := h2 k hk
    have h4 : dg (rn s N (i + k)) = true := by
      by_cases e : k = 0
      · subst e; exact hz rfl
      · exact (wh_in N (rn s N) dg (i + 1) (i + k) (by omega) (by omega)).2
    have := dg_ascii h4
    unfold Nm.dig
    simp only [Bool.and_eq_true, decide_eq_true_eq]
    omega
  refine ⟨by omega, ?_⟩
  have hlen : (txt s i (wh N (rn s N) dg (i + 1))).data.toList.length = wh N (rn s N) dg (i + 1) - i := by rw [← h1]; simp
  have hget : ∀ k (hk2 : k < (txt s i (wh N (rn s N) dg (i + 1))).size), (txt s i (wh N (rn s N) dg (i + 1))).data.toList[k]? = some ((txt s i (wh N (rn s N) dg (i + 1)))[k]'hk2) := fun k hk2 => getE _ k hk2
  have h20 := fun h0 => h2 0 h0
  generalize hx : txt s i (wh N (rn s N) dg (i + 1)) = x at *
  generalize hL : x.data.toList = L at *
  simp only [Bool.or_eq_true, Bool.and_eq_true, beq_iff_eq] at hd
  cases L with
  | nil => simp at hlen; omega
  | cons c r =>
    have hc := hget 0 (by omega)
    simp only [List.getElem?_cons_zero, Option.some.injEq] at hc
    have h0 := h20 (by omega)
    rw [← hc, Nat.add_zero] at h0
    rcases hd with hd | ⟨h45, hd1⟩
    · have hd2 := dg_ascii hd
      have hb : Nm.body (c :: r) = c :: r := by
        show (if c = 45 then r else c :: r) = c :: r
        rw [if_neg]
        intro e
        subst e
        have : (45 : UInt8).toNat = 45 := rfl
        omega
      rw [hb]
      refine ⟨by simp, ?_⟩
      rw [List.all_eq_true]
      intro y hy
      obtain ⟨k, hk, rfl⟩ := List.mem_iff_getElem.1 hy
      have hg := hget k (by simp at hlen hk; omega)
      rw [List.getElem?_eq_getElem hk, Option.some.injEq] at hg
      rw [hg]
      exact hdig k (by simp at hlen hk; omega) (fun _ => hd)
    · have hb : Nm.body (c :: r) = r := by
        show (if c = 45 then r else c :: r) = r
        rw [if_pos]
        apply UInt8.toNat_inj.1
        have : (45 : UInt8).toNat = 45 := rfl
        omega
      rw [hb]
      have hw : i + 1 < wh N (rn s N) dg (i + 1) := by
        have hlt : i + 1 < N := rn_lt (by intro e; rw [e] at hd1; exact absurd hd1 (by decide))
        rw [wh_go hlt hd1]
        have := wh_ge N (rn s N) dg (i + 1 + 1)
        omega
      refine ⟨?_, ?_⟩
      · intro e
        subst e
        simp at hlen
        omega
      · rw [List.all_eq_true]
        intro y hy
        obtain ⟨k, hk, rfl⟩ := List.mem_iff_getElem.1 hy
        have hk1 : k + 1 < (c :: r).length := by simp; omega
        have hg := hget (k + 1) (by simp at hlen hk1; omega)
        simp only [List.getElem?_cons_succ] at hg
        rw [List.getElem?_eq_getElem hk, Option.some.injEq] at hg
        rw [hg]
        exact hdig (k + 1) (by simp at hlen hk1; omega) (fun e => by omega)
end Tk
end Go.Proofs.YtbplkphjjfgkmaaDoor
