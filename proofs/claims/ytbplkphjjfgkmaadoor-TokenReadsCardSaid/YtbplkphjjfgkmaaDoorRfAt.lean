/-
  The document's scanner: at, sign, word, hasGreat.
-/
import Derived.Test.YtbplkphjjfgkmaaDoorTokAgain
import Derived.Test.YtbplkphjjfgkmaaDoorTxAt
namespace Go.Proofs.YtbplkphjjfgkmaaDoor
open Go.RowKit
set_option linter.unusedVariables false
set_option linter.unusedSimpArgs false

/-- The document's list of runes. -/
structure Rfs (w : World) (ra : Option Addr) (rc g : Nat) (s : ByteArray) (N : Nat) : Prop where
  at_ : N = 0 ∨ ra = some ⟨g, 0, none⟩
  runes : ∀ j t, j < N → t < 5 → w.cell? ⟨g, j * 5 + t, none⟩ = (Rn.rcells s j)[t]?
  few : N ≤ 16384
  ends : Ends s N
  size : s.size ≤ 1000000
section
variable {w w' : World} {rc g N i : Nat} {ra : Option Addr} {s : ByteArray}
theorem Rfs.r0 (h : Rfs w ra rc g s N) {j : Nat} (hj : j < N) : w.cell? ⟨g, j * 5, none⟩ = some (.int .i64 (Tk.rn s N j)) := by
  have := h.runes j 0 hj (by omega)
  rw [Nat.add_zero] at this
  rw [this]
  unfold Tk.rn
  rw [if_pos hj]
  rfl
theorem Rfs.r1 (h : Rfs w ra rc g s N) {j : Nat} (hj : j < N) : w.cell? ⟨g, j * 5 + 1, none⟩ = some (.int .i64 ((Rn.st s j).p : Nat)) := h.runes j 1 hj (by omega)
theorem Rfs.r2 (h : Rfs w ra rc g s N) {j : Nat} (hj : j < N) : w.cell? ⟨g, j * 5 + 2, none⟩ = some (.int .i64 ((Rn.st s (j + 1)).p : Nat)) := h.runes j 2 hj (by omega)
theorem Rfs.r3 (h : Rfs w ra rc g s N) {j : Nat} (hj : j < N) : w.cell? ⟨g, j * 5 + 3, none⟩ = some (.int .i64 ((Rn.st s j).l : Nat)) := h.runes j 3 hj (by omega)
theorem Rfs.r4 (h : Rfs w ra rc g s N) {j : Nat} (hj : j < N) : w.cell? ⟨g, j * 5 + 4, none⟩ = some (.int .i64 ((Rn.st s j).c : Nat)) := h.runes j 4 hj (by omega)
theorem Rfs.gl (h : Rfs w ra rc g s N) (hN : 0 < N) : g < w.heap.size := lt_of_cell (h.r0 hN)
theorem Rfs.below (h : Rfs w ra rc g s N) {M : Nat} (hb : Below M w w') (hM : w.heap.size ≤ M) : Rfs w' ra rc g s N :=
  ⟨h.at_, fun j t hj ht => by
    have h1 := h.runes j t hj ht
    have h2 : ∃ v, (Rn.rcells s j)[t]? = some v := ⟨_, List.getElem?_eq_getElem (by show t < 5; exact ht)⟩
    obtain ⟨v, hv⟩ := h2
    rw [hv] at h1 ⊢
    exact (hb.cell (p := ⟨g, j * 5 + t, none⟩) (by have := lt_of_cell h1; omega)).trans h1, h.few, h.ends, h.size⟩
theorem Rfs.keeps {S : Nat → Prop} (h : Rfs w ra rc g s N) (k : Keeps S w w') (hg : 0 < N → ¬ S g) : Rfs w' ra rc g s N :=
  ⟨h.at_, fun j t hj ht => by
    have h1 := h.runes j t hj ht
    have h2 : ∃ v, (Rn.rcells s j)[t]? = some v := ⟨_, List.getElem?_eq_getElem (by show t < 5; exact ht)⟩
    obtain ⟨v, hv⟩ := h2
    rw [hv] at h1 ⊢
    have e : w'.cell? ⟨g, j * 5 + t, none⟩ = w.cell? ⟨g, j * 5 + t, none⟩ := by
      unfold World.cell?
      rw [k.block g (lt_of_cell h1) (hg (by omega))]
    exact e.trans h1, h.few, h.ends, h.size⟩
set_option maxHeartbeats 1000000 in
theorem rat_any (h : Rfs w ra rc g s N) (hi : i ≤ 20000) :
    Calls Tryd.prog 126 #[.slice ra N rc, .int .i64 i] w fun e w' => e = .returned (.int .i64 (Tk.rn s N i)) ∧ w' = w := by
  have hfew := h.few
  by_cases hlt : i < N
  · have hr := h.r0 hlt
    have h1 : (i : Int) < (N : Int) := by omega
    rcases h.at_ with h0 | h0
    · omega
    · subst h0
      generalize Tk.rn s N i = r at *
      clear h
      go_enter Tryd.func126, Tryd.ntmps126
      go_wp2
      go_ret
      exact ⟨rfl, rfl⟩
  · rw [Tk.rn_out s N i hlt]
    have h1 : ¬ (i : Int) < (N : Int) := by omega
    clear h
    go_enter Tryd.func126, Tryd.ntmps126
    go_wp2
    go_ret
    exact ⟨rfl, rfl⟩
theorem rat1_any (h : Rfs w ra rc g s N) (hi : i < 20000) :
    Calls Tryd.prog 126 #[.slice ra N rc, .int .i64 ((i : Int) + 1)] w fun e w' => e = .returned (.int .i64 (Tk.rn s N (i + 1))) ∧ w' = w := rat_any (i := i + 1) h (by omega)
set_option maxHeartbeats 4000000 in
theorem rsign_any (h : Rfs w ra rc g s N) (hi : i < 20000) :
    Calls Tryd.prog 127 #[.slice ra N rc, .int .i64 i] w fun e w' => e = .returned (.int .i64 (Tk.sign (Tk.rn s N i) (Tk.rn s N (i + 1)) : Nat)) ∧ w' = w := by
  have HR := Lib.hid (rat_any h (i := i) (by omega))
  have HR1 := Lib.hid (rat1_any h hi)
  clear h
  generalize Tk.rn s N i = r at *
  generalize Tk.rn s N (i + 1) = r1 at *
  by_cases ha : r = 60 ∨ r = 62 ∨ r = 33
  · cases hb : (r1 == 61)
    · rcases ha with rfl | rfl | rfl
      all_goals
        unfold Tk.sign
        rw [hb]
        go_enter Tryd.func127, Tryd.ntmps127
        go_wp2_with fail
        refine HR.out.mono ?_
        rintro e w1 ⟨rfl, rfl⟩
        go_wp2_with fail
        refine HR1.out.mono ?_
        rintro e w1 ⟨rfl, rfl⟩
        go_wp2_with fail
        go_ret
        exact ⟨rfl, rfl⟩
    · rcases ha with rfl | rfl | rfl
      all_goals
        unfold Tk.sign
        rw [hb]
        go_enter Tryd.func127, Tryd.ntmps127
        go_wp2_with fail
        refine HR.out.mono ?_
        rintro e w1 ⟨rfl, rfl⟩
        go_wp2_with fail
        refine HR1.out.mono ?_
        rintro e w1 ⟨rfl, rfl⟩
        go_wp2_with fail
        go_ret
        exact ⟨rfl, rfl⟩
  · have n1 : (r == 60) = false := by simp; omega
    have n2 : (r == 62) = false := by simp; omega
    have n3 : (r == 33) = false := by simp; omega
    clear HR1 ha
    by_cases hc : r = 61 ∨ r = 40 ∨ r = 41 ∨ r = 91 ∨ r = 93 ∨ r = 44 ∨ r = 59
    · clear n1 n2 n3
      rcases hc with rfl | rfl | rfl | rfl | rfl | rfl | rfl
      all_goals
        unfold Tk.sign
        go_enter Tryd.func127, Tryd.ntmps127
        go_wp2_with fail
        refine HR.out.mono ?_
        rintro e w1 ⟨rfl, rfl⟩
        go_wp2_with fail
        go_ret
        exact ⟨rfl, rfl⟩
    · have n4 : (r == 61) = false := by simp; omega
      have n5 : (r == 40) = false := by simp; omega
      have n6 : (r == 41) = false := by simp; omega
      have n7 : (r == 91) = false := by simp; omega
      have n8 : (r == 93) = false := by simp; omega
      have n9 : (r == 44) = false := by simp; omega
      have n10 : (r == 59) = false := by simp; omega
      clear hc
      have es : Tk.sign r r1 = 0 := by unfold Tk.sign; simp only [n1, n2, n3, n4, n5, n6, n7, n8, n9, n10]; rfl
      rw [es]
      clear es
      go_enter Tryd.func127, Tryd.ntmps127
      go_wp2_with fail
      refine HR.out.mono ?_
      rintro e w1 ⟨rfl, rfl⟩
      go_wp2_with fail
      go_ret
      exact ⟨rfl, rfl⟩
set_option maxHeartbeats 4000000 in
theorem rword_any (h : Rfs w ra rc g s N) (hi : i ≤ N) :
    Calls Tryd.prog 124 #[.slice ra N rc, .int .i64 i] w fun e w' => e = .returned (.int .i64 (Tk.wh N (Tk.rn s N) Tk.row i : Nat)) ∧ w' = w := by
  have hfew := h.few
  have HR : Hid (∀ j, j ≤ N → Calls Tryd.prog 126 #[.slice ra N rc, .int .i64 j] w fun e w' => e = .returned (.int .i64 (Tk.rn s N j)) ∧ w' = w) := Lib.hid fun j hj => rat_any h (i := j) (by omega)
  clear h
  go_enter Tryd.func124, Tryd.ntmps124
  go_wp2_with fail
  go_loopw [1] (fun v1 wr => ∃ j : Nat, j ≤ N ∧ v1 = .int .i64 j ∧ Hid (Tk.wh N (Tk.rn s N) Tk.row j = Tk.wh N (Tk.rn s N) Tk.row i) ∧ wr = w) (fun v1 _ => N - (intOf v1).toNat)
  case atStart => exact ⟨i, hi, rfl, Lib.hid rfl, rfl⟩
  case round =>
    obtain ⟨j, hj, rfl, HW, rfl⟩ := hrel
    have HRJ := Lib.hid (HR.out j hj)
    by_cases hrow : Tk.row (Tk.rn s N j) = true
    · have hjN : j < N := Tk.rn_lt (by intro e; rw [e] at hrow; exact absurd hrow (by decide))
      have HWN : Hid (Tk.wh N (Tk.rn s N) Tk.row (j + 1) = Tk.wh N (Tk.rn s N) Tk.row i) := Lib.hid (by rw [← HW.out, Tk.wh_go hjN hrow])
      have HC : Hid (Tk.row (Tk.rn s N j) = true) := Lib.hid hrow
      clear hrow HW
      generalize Tk.rn s N j = r at *
      cases c1 : Tk.sm r
      · cases c2 : Tk.gr r
        · cases c3 : Tk.dg r
          · have c4 : (r == 95) = true := by
              have := HC.out
              unfold Tk.row at this
              rw [c1, c2, c3] at this
              simpa using this
            go_wp2_with (first | (refine HRJ.out.mono ?_; rintro e w1 ⟨rfl, rfl⟩) | (refine (rsmall_any r _).mono ?_; rintro e w1 ⟨rfl, rfl⟩) | (refine (rgreat_any r _).mono ?_; rintro e w1 ⟨rfl, rfl⟩) | (refine (rdigit_any r _).mono ?_; rintro e w1 ⟨rfl, rfl⟩))
            go_roundw
            case rel => exact ⟨j + 1, by omega, by go_num, HWN, (by first | rfl | trivial)⟩
            case measure => simp [intOf]; omega
          · go_wp2_with (first | (refine HRJ.out.mono ?_; rintro e w1 ⟨rfl, rfl⟩) | (refine (rsmall_any r _).mono ?_; rintro e w1 ⟨rfl, rfl⟩) | (refine (rgreat_any r _).mono ?_; rintro e w1 ⟨rfl, rfl⟩) | (refine (rdigit_any r _).mono ?_; rintro e w1 ⟨rfl, rfl⟩))
            go_roundw
            case rel => exact ⟨j + 1, by omega, by go_num, HWN, (by first | rfl | trivial)⟩
            case measure => simp [intOf]; omega
        · go_wp2_with (first | (refine HRJ.out.mono ?_; rintro e w1 ⟨rfl, rfl⟩) | (refine (rsmall_any r _).mono ?_; rintro e w1 ⟨rfl, rfl⟩) | (refine (rgreat_any r _).mono ?_; rintro e w1 ⟨rfl, rfl⟩) | (refine (rdigit_any r _).mono ?_; rintro e w1 ⟨rfl, rfl⟩))
          go_roundw
          case rel => exact ⟨j + 1, by omega, by go_num, HWN, (by first | rfl | trivial)⟩
          case measure => simp [intOf]; omega
      · go_wp2_with (first | (refine HRJ.out.mono ?_; rintro e w1 ⟨rfl, rfl⟩) | (refine (rsmall_any r _).mono ?_; rintro e w1 ⟨rfl, rfl⟩) | (refine (rgreat_any r _).mono ?_; rintro e w1 ⟨rfl, rfl⟩) | (refine (rdigit_any r _).mono ?_; rintro e w1 ⟨rfl, rfl⟩))
        go_roundw
        case rel => exact ⟨j + 1, by omega, by go_num, HWN, (by first | rfl | trivial)⟩
        case measure => simp [intOf]; omega
    · have HE : Hid (Tk.wh N (Tk.rn s N) Tk.row i = j) := Lib.hid (by rw [← HW.out]; exact Tk.wh_stop (fun c => hrow c.2))
      have hr0 : Tk.row (Tk.rn s N j) = false := by simpa using hrow
      clear hrow HW
      generalize Tk.rn s N j = r at *
      unfold Tk.row at hr0
      simp only [Bool.or_eq_false_iff] at hr0
      obtain ⟨⟨⟨c1, c2⟩, c3⟩, c4⟩ := hr0
      go_wp2_with (first | (refine HRJ.out.mono ?_; rintro e w1 ⟨rfl, rfl⟩) | (refine (rsmall_any r _).mono ?_; rintro e w1 ⟨rfl, rfl⟩) | (refine (rgreat_any r _).mono ?_; rintro e w1 ⟨rfl, rfl⟩) | (refine (rdigit_any r _).mono ?_; rintro e w1 ⟨rfl, rfl⟩))
      go_ret
      exact ⟨by rw [HE.out]; rfl, rfl⟩
end
set_option maxHeartbeats 2000000 in
theorem rhasGreat_any (s : ByteArray) (w : World) (hs : s.size ≤ 1000000) :
    Calls Tryd.prog 128 #[.string s] w fun e w' => e = .returned (.bool (s.data.toList.any fun b => Tk.gr (b.toNat : Int))) ∧ w' = w := by
  have HALL : Hid ((∀ k (h : k < s.size), Tk.gr ((s[k]'h).toNat : Int) = false) → (s.data.toList.any fun b => Tk.gr (b.toNat : Int)) = false) := Lib.hid fun h => by
    rw [List.any_eq_false]
    intro b hb
    obtain ⟨k, hk, rfl⟩ := List.mem_iff_getElem.1 hb
    have := h k (by simpa using hk)
    intro c
    have e : s.data.toList[k] = s[k]'(by simpa using hk) := rfl
    rw [e] at c
    rw [this] at c
    exact absurd c (by decide)
  have HANY : Hid (∀ k (h : k < s.size), Tk.gr ((s[k]'h).toNat : Int) = true → (s.data.toList.any fun b => Tk.gr (b.toNat : Int)) = true) := Lib.hid fun k h c => by
    rw [List.any_eq_true]
    exact ⟨s.data.toList[k]'(by simpa using h), List.getElem_mem _, c⟩
  go_enter Tryd.func128, Tryd.ntmps128
  go_wp2_with fail
  go_loopw [3] (fun v3 wr => ∃ k : Nat, k ≤ s.size ∧ v3 = .int .i64 k ∧ Hid (∀ j (h : j < s.size), j < k → Tk.gr ((s[j]'h).toNat : Int) = false) ∧ wr = w) (fun v3 _ => s.size - (intOf v3).toNat)
  case atStart => exact ⟨0, by omega, rfl, Lib.hid (fun j h h1 => by omega), rfl⟩
  case round =>
    obtain ⟨k, hk, rfl, HK, rfl⟩ := hrel
    by_cases hlt : k < s.size
    · have HY := Lib.hid (HANY.out k hlt)
      have hw : wrap64 ((s[k]'hlt).toNat : Int) = ((s[k]'hlt).toNat : Int) := IntWalk.wrap64_in _ (by have := (s[k]'hlt).toNat_lt; omega)
      cases hg : Tk.gr ((s[k]'hlt).toNat : Int)
      · have HKN : Hid (∀ j (h : j < s.size), j < k + 1 → Tk.gr ((s[j]'h).toNat : Int) = false) := Lib.hid fun j h h1 => by
          by_cases e : j = k
          · subst e; exact hg
          · exact HK.out j h (by omega)
        go_wp2_with (rw [hw]; refine (rgreat_any _ _).mono ?_; rintro e w1 ⟨rfl, rfl⟩)
        go_roundw
        case rel => exact ⟨k + 1, by omega, by go_num, HKN, (by first | rfl | trivial)⟩
        case measure => simp [intOf]; omega
      · have HT := Lib.hid (HY.out hg)
        go_wp2_with (rw [hw]; refine (rgreat_any _ _).mono ?_; rintro e w1 ⟨rfl, rfl⟩)
        go_ret
        exact ⟨by rw [HT.out]; rfl, rfl⟩
    · have HF := Lib.hid (HALL.out (fun j h => HK.out j h (by omega)))
      go_wp2_with fail
      go_ret
      exact ⟨by rw [HF.out]; rfl, rfl⟩
end Go.Proofs.YtbplkphjjfgkmaaDoor
