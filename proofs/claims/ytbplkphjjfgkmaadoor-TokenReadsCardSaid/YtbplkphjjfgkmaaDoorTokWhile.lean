/-
  token's scanner: since, while, skip, by walks.
-/
import Derived.Test.YtbplkphjjfgkmaaDoorTokScan
import Derived.Deep.LoopGhost
namespace Go.Proofs.YtbplkphjjfgkmaaDoor
open Go.RowKit
set_option linter.unusedVariables false
set_option linter.unusedSimpArgs false

theorem st_mono (s : ByteArray) (i j : Nat) (h : i ≤ j) : (Rn.st s i).p ≤ (Rn.st s j).p := by
  induction j with
  | zero => rw [show i = 0 by omega]; exact Nat.le_refl _
  | succ j ih =>
    by_cases e : i = j + 1
    · subst e; exact Nat.le_refl _
    · have := ih (by omega)
      have h2 : (Rn.st s (j + 1)).p = (Rn.st s j).p + Rn.wid s (Rn.st s j).p := rfl
      omega
/-- The end of a rune that stands within the text. -/
theorem st_end {s : ByteArray} {i : Nat} (h : (Rn.st s i).p < s.size) : (Rn.st s (i + 1)).p ≤ s.size := by
  have h2 : (Rn.st s (i + 1)).p = (Rn.st s i).p + Rn.wid s (Rn.st s i).p := rfl
  rw [h2]
  unfold Rn.wid firstR
  dsimp only
  by_cases c1 : byt s (Rn.st s i).p < 128
  · rw [if_pos c1]; show (Rn.st s i).p + 1 ≤ _; omega
  · rw [if_neg c1]
    by_cases c2 : (decide (194 ≤ byt s (Rn.st s i).p) && decide (byt s (Rn.st s i).p ≤ 223) && tl s ((Rn.st s i).p + 1) 128 191) = true
    · rw [if_pos c2]
      simp only [Bool.and_eq_true] at c2
      have := (tl_true c2.2).1
      show (Rn.st s i).p + 2 ≤ _; omega
    · rw [if_neg c2]
      by_cases c3 : (!tl s ((Rn.st s i).p + 1) (lo2 (byt s (Rn.st s i).p)) (hi2 (byt s (Rn.st s i).p)) || !tl s ((Rn.st s i).p + 2) 128 191) = true
      · rw [if_pos c3]; show (Rn.st s i).p + 1 ≤ _; omega
      · rw [if_neg c3]
        have c3' : tl s ((Rn.st s i).p + 2) 128 191 = true := by
          cases hh : tl s ((Rn.st s i).p + 2) 128 191 with
          | true => rfl
          | false => rw [hh] at c3; simp at c3
        have c3b := (tl_true c3').1
        by_cases c4 : (decide (224 ≤ byt s (Rn.st s i).p) && decide (byt s (Rn.st s i).p ≤ 239)) = true
        · rw [if_pos c4]; show (Rn.st s i).p + 3 ≤ _; omega
        · rw [if_neg c4]
          by_cases c5 : (decide (240 ≤ byt s (Rn.st s i).p) && decide (byt s (Rn.st s i).p ≤ 244) && tl s ((Rn.st s i).p + 3) 128 191) = true
          · rw [if_pos c5]
            simp only [Bool.and_eq_true] at c5
            have := (tl_true c5.2).1
            show (Rn.st s i).p + 4 ≤ _; omega
          · rw [if_neg c5]; show (Rn.st s i).p + 1 ≤ _; omega
theorem st_in {s : ByteArray} {N : Nat} (h : Ends s N) (j : Nat) (hj : j ≤ N) : (Rn.st s j).p ≤ s.size := by
  cases j with
  | zero => exact Nat.zero_le _
  | succ j => exact st_end (h.1 j (by omega))
theorem extract_none (s : ByteArray) (a : Nat) : s.extract a a = ⟨#[]⟩ := by
  apply ByteArray.ext
  simp
set_option maxHeartbeats 2000000 in
theorem since_any {w : World} {p rc g N i k : Nat} {ra : Option Addr} {s : ByteArray} (h : Scn w p ra rc g s N i) (hk : k ≤ i) :
    Calls Tryd.prog 118 #[.pointer (some ⟨p, 0, none⟩), .int .i64 k] w fun e w' => e = .returned (.string (Tk.txt s k i)) ∧ ∃ n, w' = w.drewN n := by
  have c0 := h.c0
  have c1 := h.c1
  have c2 := h.c2
  have hle := h.le
  have hfew := h.few
  by_cases he : k = i
  · subst he
    have h1 : ((k : Int) == (k : Int)) = true := by simp
    have e0 : Tk.txt s k k = ⟨#[]⟩ := extract_none s _
    rw [e0]
    clear h e0
    go_enter Tryd.func118, Tryd.ntmps118
    go_wp2
    go_ret
    exact ⟨rfl, 0, rfl⟩
  · obtain ⟨m, rfl⟩ : ∃ m, i = m + 1 := ⟨i - 1, by omega⟩
    have hr1 := h.r1 (j := k) (by omega)
    have hr2 := h.r2 (j := m) (by omega)
    have hb1 := st_mono s k (m + 1) (by omega)
    have hb2 := st_in h.ends (m + 1) hle
    have hsz := h.size
    rcases h.at_ with h0 | h0
    · omega
    · subst h0
      have h1 : ((k : Int) == ((m + 1 : Nat) : Int)) = false := by simp; omega
      have e1 : IntKind.i64.wrap (((m + 1 : Nat) : Int) - 1) = (m : Int) := by rw [show ((m + 1 : Nat) : Int) - 1 = (m : Int) by omega]; exact IntWalk.i64_in _ (by omega)
      have q1 : k < N := by omega
      have q2 : m < N := by omega
      have HX : Hid (Tk.txt s k (m + 1) = s.extract (Rn.st s k).p (Rn.st s (m + 1)).p) := Lib.hid rfl
      generalize Tk.txt s k (m + 1) = x at *
      generalize (Rn.st s k).p = a at *
      generalize (Rn.st s (m + 1)).p = b at *
      clear h he
      go_enter Tryd.func118, Tryd.ntmps118
      go_wp2
      go_quiet (fail)
      go_wp2
      go_ret
      exact ⟨by rw [HX.out]; rfl, by first | exact ⟨_, rfl⟩ | (simp only [World.drewN_drewN]; exact ⟨_, rfl⟩)⟩
/-- What the scanner's moves leave of memory. -/
def Moves (p : Nat) (w w' : World) : Prop := Keeps (fun k => k = p) w w'
theorem Moves.refl (p : Nat) (w : World) : Moves p w w := Keeps.refl _ _
theorem Moves.trans {p : Nat} {a b c : World} (h : Moves p a b) (k : Moves p b c) : Moves p a c := Keeps.trans h k
theorem Moves.drewN (p : Nat) (w : World) (n : Nat) : Moves p w (w.drewN n) := Keeps.drewN _ _ _
set_option maxHeartbeats 4000000 in
theorem while_any {w : World} {p rc g N i : Nat} {ra : Option Addr} {s : ByteArray} (h : Scn w p ra rc g s N i) (f : Nat) (P : Int → Bool) (hP : P (-1) = false) (eg : ∀ args w, (callFunc f args).run Tryd.prog w = .ok (.enter f args) w)
    (hf : ∀ w j, Scn w p ra rc g s N j → Calls Tryd.prog f #[.pointer (some ⟨p, 0, none⟩)] w fun e w' => e = .returned (.bool (P (Tk.rn s N j))) ∧ ∃ n, w' = w.drewN n) :
    Calls Tryd.prog 110 #[.pointer (some ⟨p, 0, none⟩), .func (.func f) #[.pointer (some ⟨p, 0, none⟩)] #[]] w fun e w' => e = .returned (.string (Tk.txt s i (Tk.wh N (Tk.rn s N) P i))) ∧ Scn w' p ra rc g s N (Tk.wh N (Tk.rn s N) P i) ∧ Moves p w w' := by
  have HF := Lib.hid hf
  have HS := Lib.hid h
  have HP := Lib.hid hP
  have c2 := h.c2
  have hle := h.le
  have hfew := h.few
  clear h hf hP
  go_enter Tryd.func110, Tryd.ntmps110
  go_wp2
  go_loopg [11] N (fun kx v11 wr => ∃ k : Nat, N - k ≤ kx ∧ i ≤ k ∧ Hid (Tk.wh N (Tk.rn s N) P i = Tk.wh N (Tk.rn s N) P k) ∧ Hid (Scn wr p ra rc g s N k) ∧ Hid (Moves p w wr))
  case atStart => exact ⟨i, by omega, Nat.le_refl _, Lib.hid rfl, HS, Lib.hid (Moves.refl _ _)⟩
  case round =>
    obtain ⟨k, hkx, hik, HW, HK, HM⟩ := hrel
    have hkN := HK.out.le
    have hc := HF.out wr k HK.out
    cases hp : P (Tk.rn s N k) with
    | true =>
      have hlt : k < N := Tk.rn_lt (by intro e; rw [e, HP.out] at hp; cases hp)
      have HP2 := Lib.hid hp
      rw [hp] at hc
      clear hp
      have HC := Lib.hid hc
      clear hc
      go_wp2_with fail
      refine HC.out.mono ?_
      rintro e w1 ⟨rfl, n, rfl⟩
      have hs1 := HK.out.drewN n
      have d2 := hs1.c2
      have f2 := hs1.f2
      have HX := Lib.hid (hs1.set (k := k + 1) (by omega) (v := (k : Int) + 1) (by omega))
      have HM2 : Hid (Moves p w ((wr.drewN n).setCell ⟨p, 2, none⟩ (.int .i64 ((k : Int) + 1)))) := Lib.hid ((HM.out.trans (Moves.drewN p wr n)).trans (Keeps.setCell _ _ _ rfl))
      clear hs1
      go_wp2_with fail
      go_roundg (N - (k + 1))
      case measure => omega
      case rel => exact ⟨k + 1, Nat.le_refl _, by omega, Lib.hid (HW.out.trans (Tk.wh_go hlt HP2.out)), HX, HM2⟩
    | false =>
      have hstop : Tk.wh N (Tk.rn s N) P k = k := Tk.wh_stop (by intro c; rw [hp] at c; exact absurd c.2 (by decide))
      rw [hp] at hc
      clear hp
      have HC := Lib.hid hc
      clear hc
      have HE : Hid (Tk.wh N (Tk.rn s N) P i = k) := Lib.hid (HW.out.trans hstop)
      clear hstop
      go_wp2_with fail
      refine HC.out.mono ?_
      rintro e w1 ⟨rfl, n, rfl⟩
      have HX := Lib.hid (since_any (HK.out.drewN n) hik)
      go_wp2_with fail
      refine HX.out.mono ?_
      rintro e w2 ⟨rfl, n2, rfl⟩
      go_wp2_with fail
      go_ret
      refine ⟨by rw [HE.out]; rfl, by rw [HE.out]; exact HK.out.drewN _, HM.out.trans (Moves.drewN p wr _)⟩
end Go.Proofs.YtbplkphjjfgkmaaDoor
