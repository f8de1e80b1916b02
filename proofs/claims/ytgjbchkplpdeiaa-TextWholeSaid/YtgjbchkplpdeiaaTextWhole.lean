/-
  TextWhole's walk: runes lie one behind the other, all bytes are in them, and their places rise.
-/
import Derived.Test.YtgjbchkplpdeiaaTextSame
namespace Go.Proofs.Ytgjbchkplpdeiaa
open Go.RowKit
set_option linter.unusedVariables false

theorem decN_in (c b1 b2 b3 : Nat) (t1 t2 t3 : Bool) : ((decN c b1 b2 b3 t1 t2 t3).2 = 2 → t1 = true) ∧ ((decN c b1 b2 b3 t1 t2 t3).2 = 3 → t2 = true) ∧ ((decN c b1 b2 b3 t1 t2 t3).2 = 4 → t3 = true) ∧ ((decN c b1 b2 b3 t1 t2 t3).1 = 10 → (decN c b1 b2 b3 t1 t2 t3).2 = 1 ∧ c = 10) := by
  unfold decN
  by_cases h1 : c < 128
  · rw [if_pos h1]; simp
  · rw [if_neg h1]
    by_cases h2 : (c / 32 == 6 && t1) = true
    · rw [if_pos h2]
      simp only [Bool.and_eq_true, beq_iff_eq] at h2
      split <;> simp <;> first | exact h2.2 | (exact ⟨h2.2, by omega⟩) | omega
    · rw [if_neg h2]
      by_cases h3 : (c / 16 == 14 && t1 && t2) = true
      · rw [if_pos h3]
        simp only [Bool.and_eq_true, beq_iff_eq] at h3
        split
        · rename_i h4
          simp only [Bool.and_eq_true, decide_eq_true_eq] at h4
          simp; exact ⟨h3.2, by omega⟩
        · simp
      · rw [if_neg h3]
        by_cases h4 : (c / 8 == 30 && t1 && t2 && t3) = true
        · rw [if_pos h4]
          simp only [Bool.and_eq_true, beq_iff_eq] at h4
          split
          · rename_i h5
            simp only [Bool.and_eq_true, decide_eq_true_eq] at h5
            simp; exact ⟨h4.2, by omega⟩
          · simp
        · rw [if_neg h4]; simp
theorem wid_in (s : ByteArray) (i : Nat) (h : i < s.size) : i + Rn.wid s i ≤ s.size := by
  have hp := Rn.wid_pos s i
  rw [Rn.wid_dec] at hp ⊢
  rw [decode_is] at hp ⊢
  obtain ⟨h2, h3, h4, _⟩ := decN_in (byt s i) (byt s (i + 1)) (byt s (i + 2)) (byt s (i + 3)) (tl s (i + 1) 128 191) (tl s (i + 2) 128 191) (tl s (i + 3) 128 191)
  generalize (decN (byt s i) (byt s (i + 1)) (byt s (i + 2)) (byt s (i + 3)) (tl s (i + 1) 128 191) (tl s (i + 2) 128 191) (tl s (i + 3) 128 191)).2 = n at *
  have : n = 1 ∨ n = 2 ∨ n = 3 ∨ n = 4 := by omega
  rcases this with rfl | rfl | rfl | rfl
  · omega
  · have := (tl_true (h2 rfl)).1; omega
  · have := (tl_true (h3 rfl)).1; omega
  · have := (tl_true (h4 rfl)).1; omega
theorem nl_one (s : ByteArray) (i : Nat) (h : Rn.run s i = 10) : Rn.wid s i = 1 ∧ byt s i = 10 := by
  have h1 := (Rn.run_dec s i).1 h
  rw [Rn.wid_dec]
  rw [decode_is] at h1 ⊢
  exact (decN_in _ _ _ _ _ _ _).2.2.2 h1
theorem st_in (s : ByteArray) (k : Nat) (h : ∀ j, j < k → (Rn.st s j).p < s.size) : (Rn.st s k).p ≤ s.size := by
  cases k with
  | zero => exact Nat.zero_le _
  | succ k => exact wid_in s _ (h k (by omega))
/-- The place ahead of rune j. -/
def pl (s : ByteArray) : Nat → Nat × Nat
  | 0 => (1, 0)
  | j + 1 => ((Rn.st s j).l, (Rn.st s j).c)
/-- How the place of rune j stands to the one ahead. -/
theorem pl_next (s : ByteArray) (j : Nat) : ((Rn.st s j).l = (pl s j).1 ∧ (Rn.st s j).c = (pl s j).2 + 1) ∨ ((Rn.st s j).l = (pl s j).1 + 1 ∧ (Rn.st s j).c = 1 ∧ 1 ≤ (Rn.st s j).p ∧ byt s ((Rn.st s j).p - 1) = 10) := by
  cases j with
  | zero => left; exact ⟨rfl, rfl⟩
  | succ j =>
    by_cases h : Rn.run s (Rn.st s j).p = 10
    · right
      obtain ⟨h1, h2⟩ := nl_one s _ h
      simp only [Rn.st, Rn.next, if_pos h, pl, h1]
      exact ⟨trivial, trivial, by omega, by simpa using h2⟩
    · left
      simp only [Rn.st, Rn.next, if_neg h, pl]
      exact ⟨trivial, trivial⟩
theorem place_set {wr : World} {G : Nat} {a b : Value} {t : TypeId} (h : wr.heap[G]? = some (.cells #[a, b] t (0, 0))) (u v : Value) : ((wr.setCell ⟨G, 0, none⟩ u).setCell ⟨G, 1, none⟩ v).heap[G]? = some (.cells #[u, v] t (0, 0)) := by
  have a1 := heap_setCell_same wr G 0 _ t u h
  exact heap_setCell_same _ G 1 _ t v a1
theorem place_set_alloc {w1 wr : World} {a b : Value} {t : TypeId} (hnx : Below w1.heap.size w1 wr) (h : wr.heap[w1.heap.size]? = some (.cells #[a, b] t (0, 0))) (u v : Value) (o : Obj) :
    (((wr.setCell ⟨w1.heap.size, 0, none⟩ u).setCell ⟨w1.heap.size, 1, none⟩ v).alloc o).heap[w1.heap.size]? = some (.cells #[u, v] t (0, 0)) ∧ Below w1.heap.size w1 (((wr.setCell ⟨w1.heap.size, 0, none⟩ u).setCell ⟨w1.heap.size, 1, none⟩ v).alloc o) := by
  have hs : w1.heap.size < wr.heap.size := (Array.getElem?_eq_some_iff.1 h).1
  refine ⟨(Below.heap_alloc _ _ _ (by simpa using hs)).trans (place_set h u v), ((hnx.setCell (Nat.le_refl _) u).setCell (Nat.le_refl _) v).alloc (by simp; omega) o⟩
set_option maxHeartbeats 4000000 in
set_option maxRecDepth 1000000 in
theorem textWhole_walk (s : ByteArray) (hl : s.size ≤ 9223372036854775807) (w : World) :
    Calls Try.prog 7 #[.string s] w fun e w' => e = .returned (.bool true) ∧ Below w.heap.size w w' := by
  by_cases hbig : 16384 < s.size
  · have h1 : (16384 : Int) < (s.size : Int) := by omega
    go_enter Try.func7, Try.ntmps7
    go_wp2_with fail
    refine (awake_end w w (Below.refl _ _)).mono ?_
    rintro e w3 ⟨rfl, hb3⟩
    go_wp2_with fail
    go_ret
    exact ⟨rfl, hb3⟩
  · have HR := Lib.hid (runes_any s w (by omega))
    have hss : s.size ≤ 16384 := by omega
    go_enter Try.func7, Try.ntmps7
    go_wp2_with fail
    refine (HR.out).mono ?_
    rintro e w1 h
    rcases h with ⟨k, x, B, hk, hk16, rfl, hown, hB, hb⟩ | ⟨hmany, _⟩
    · obtain ⟨xa, xc, hx⟩ := own_len hown
      subst hx
      have HK := Lib.hid hk
      have HX := Lib.hid (fun j (hj : j < k) => hown)
      have hsz := hb.size
      clear hk
      have hG2 : (w1.alloc (.cells #[.int .i64 1, .int .i64 0] 33)).heap[w1.heap.size]? = some (.cells #[.int .i64 1, .int .i64 0] 33 (0, 0)) := heap_alloc_new _ _
      have hbb : Below w1.heap.size w1 (w1.alloc (.cells #[.int .i64 1, .int .i64 0] 33)) := (Below.refl _ _).alloc (Nat.le_refl _) _
      have HG := Lib.hid hG2
      have HBB := Lib.hid hbb
      clear hG2 hbb hown
      go_wp2
      go_loopw [5, 7] (fun v5 v7 wr => ∃ j : Nat, j ≤ k ∧ v7 = .int .i64 j ∧ v5 = .int .i64 (Rn.st s j).p ∧ wr.heap[w1.heap.size]? = some (.cells #[.int .i64 ((pl s j).1 : Nat), .int .i64 ((pl s j).2 : Nat)] 33 (0, 0)) ∧ Below w1.heap.size w1 wr) (fun _ v7 _ => k - (intOf v7).toNat)
      case atStart => exact ⟨0, by omega, rfl, rfl, HG.out, HBB.out⟩
      case round =>
        obtain ⟨j, hj, rfl, rfl, hG, hnx⟩ := hrel
        by_cases hlt : j < k
        · have hown := HX.out j hlt
          obtain ⟨g, c, hx, hgB, _, _, hgs⟩ := own_some hown (by omega)
          simp only [Value.slice.injEq] at hx
          obtain ⟨rfl, _, rfl⟩ := hx
          have hc := fun i (hi : i < 5) => (hnx.cell (p := ⟨g, j * 5 + i, none⟩) hgs).trans ((hown.cellAt (j * 5 + i) (by omega)).trans (all_at s k j i hlt hi))
          have a0 := hc 0 (by omega)
          have a1 := hc 1 (by omega)
          have a2 := hc 2 (by omega)
          have a3 := hc 3 (by omega)
          have a4 := hc 4 (by omega)
          simp only [Rn.cells, List.getElem?_cons_zero, List.getElem?_cons_succ, Nat.add_zero] at a0 a1 a2 a3 a4
          have q0 := cell_of_row wr w1.heap.size 0 _ _ _ hG
          have q1 := cell_of_row wr w1.heap.size 1 _ _ _ hG
          have qf0 := frozen_of_row wr w1.heap.size 0 _ _ hG
          have qf1 := frozen_of_row wr w1.heap.size 1 _ _ hG
          have hbnd := Rn.st_bounds s j
          have hpj := (HK.out).1 j hlt
          have hwin := wid_in s (Rn.st s j).p hpj
          have hwp := Rn.wid_pos s (Rn.st s j).p
          have hpn := pl_next s j
          have hpl : pl s (j + 1) = ((Rn.st s j).l, (Rn.st s j).c) := rfl
          have hp8 : (Rn.st s (j + 1)).p = (Rn.st s j).p + Rn.wid s (Rn.st s j).p := rfl
          have HPL := Lib.hid hpl
          have HP8 := Lib.hid hp8
          have hGs : w1.heap.size < wr.heap.size := (Array.getElem?_eq_some_iff.1 hG).1
          clear hc hpl hp8 hown HX
          generalize Rn.run s (Rn.st s j).p = r at *
          generalize hT : (Rn.st s j).p + Rn.wid s (Rn.st s j).p = t at *
          have htp : (Rn.st s j).p < t := by omega
          clear hT
          generalize (Rn.st s j).p = p at *
          generalize (Rn.st s j).l = l at *
          generalize (Rn.st s j).c = cc at *
          generalize (pl s j).1 = pL at *
          generalize (pl s j).2 = pC at *
          have hu : ∀ b : Bool, ¬ (some undef = some (Value.bool b)) := fun b h => by cases h
          have HPS := Lib.hid (fun u v o => place_set_alloc hnx hG u v o)
          clear hG hnx
          rcases hpn with ⟨e1, e2⟩ | ⟨e1, e2, hp1, hby⟩
          · subst e1 e2
            go_wp2
            go_roundw
            case rel =>
              obtain ⟨z1, z2⟩ := HPS.out (.int .i64 l) (.int .i64 ((pC : Int) + 1)) (.cells #[.int .i32 r, .int .i64 p, .int .i64 t, .int .i64 l, .int .i64 ((pC : Int) + 1)] 39)
              exact ⟨j + 1, by omega, by go_num, by rw [HP8.out], by rw [HPL.out]; exact z1, z2⟩
            case measure => simp [intOf]; omega
          · subst e1 e2
            have hlt3 : p - 1 < s.size := by omega
            have hb10 : (s[p - 1]'hlt3).toNat = 10 := (byt_at s _ hlt3).trans hby
            clear hby
            go_wp2
            go_roundw
            case rel =>
              obtain ⟨z1, z2⟩ := HPS.out (.int .i64 ((pL : Int) + 1)) (.int .i64 1) (.cells #[.int .i32 r, .int .i64 p, .int .i64 t, .int .i64 ((pL : Int) + 1), .int .i64 1] 39)
              exact ⟨j + 1, by omega, by go_num, by rw [HP8.out], by rw [HPL.out]; exact z1, z2⟩
            case measure => simp [intOf]; omega
        · have hjk : j = k := by omega
          have hps : (Rn.st s j).p = s.size := by
            subst hjk
            have h1 := st_in s j (HK.out).1
            have h2 := (HK.out).2
            omega
          rw [hps]
          clear hps hjk
          go_wp2_with fail
          refine (awake_end w _ (hb.trans (hnx.mono hsz))).mono ?_
          rintro e w3 ⟨rfl, hb3⟩
          go_wp2_with fail
          go_ret
          exact ⟨rfl, hb3⟩
    · exact absurd (hmany 16384 (by omega)) (by have := (Rn.st_bounds s 16384).1; omega)
end Go.Proofs.Ytgjbchkplpdeiaa
