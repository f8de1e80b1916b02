/-
  token's scanner: what it is in memory, and its small methods, by walks.
-/
import Derived.Test.YtbplkphjjfgkmaaDoorTokPlain
import Derived.Test.YtbplkphjjfgkmaaDoorTokRef
namespace Go.Proofs.YtbplkphjjfgkmaaDoor
open Go.RowKit
set_option linter.unusedVariables false
set_option linter.unusedSimpArgs false

/-- A scanner at block p: its text, its runes (of N, at block g), the next one's number. -/
structure Scn (w : World) (p : Nat) (ra : Option Addr) (rc g : Nat) (s : ByteArray) (N i : Nat) : Prop where
  obj : w.heap[p]? = some (.cells #[.string s, .slice ra N rc, .int .i64 i] 96 (0, 0))
  at_ : N = 0 ∨ ra = some ⟨g, 0, none⟩
  runes : ∀ j t, j < N → t < 5 → w.cell? ⟨g, j * 5 + t, none⟩ = (Rn.cells s j)[t]?
  le : i ≤ N
  few : N ≤ 16384
  ends : Ends s N
  size : s.size ≤ 1000000
  ne : 0 < N → g ≠ p
section
variable {w w' : World} {p rc g N i : Nat} {ra : Option Addr} {s : ByteArray}
theorem Scn.c0 (h : Scn w p ra rc g s N i) : w.cell? ⟨p, 0, none⟩ = some (.string s) := cell_of_row w p 0 _ _ _ h.obj
theorem Scn.c1 (h : Scn w p ra rc g s N i) : w.cell? ⟨p, 1, none⟩ = some (.slice ra N rc) := cell_of_row w p 1 _ _ _ h.obj
theorem Scn.c2 (h : Scn w p ra rc g s N i) : w.cell? ⟨p, 2, none⟩ = some (.int .i64 i) := cell_of_row w p 2 _ _ _ h.obj
theorem Scn.f2 (h : Scn w p ra rc g s N i) : w.frozen? ⟨p, 2, none⟩ = false := frozen_of_row w p 2 _ _ h.obj
theorem Scn.lt (h : Scn w p ra rc g s N i) : p < w.heap.size := (Array.getElem?_eq_some_iff.1 h.obj).1
theorem Scn.drewN (h : Scn w p ra rc g s N i) (n : Nat) : Scn (w.drewN n) p ra rc g s N i := ⟨h.obj, h.at_, h.runes, h.le, h.few, h.ends, h.size, h.ne⟩
theorem Scn.below (h : Scn w p ra rc g s N i) (hb : Below w.heap.size w w') : Scn w' p ra rc g s N i :=
  ⟨(hb.block _ h.lt).trans h.obj, h.at_, fun j t hj ht => by
    have h1 := h.runes j t hj ht
    have h2 : ∃ v, (Rn.cells s j)[t]? = some v := ⟨_, List.getElem?_eq_getElem (by show t < 5; exact ht)⟩
    obtain ⟨v, hv⟩ := h2
    rw [hv] at h1 ⊢
    exact (hb.cell (p := ⟨g, j * 5 + t, none⟩) (lt_of_cell h1)).trans h1, h.le, h.few, h.ends, h.size, h.ne⟩
theorem Scn.r0 (h : Scn w p ra rc g s N i) {j : Nat} (hj : j < N) : w.cell? ⟨g, j * 5, none⟩ = some (.int .i32 (Tk.rn s N j)) := by
  have := h.runes j 0 hj (by omega)
  rw [Nat.add_zero] at this
  rw [this]
  unfold Tk.rn
  rw [if_pos hj]
  rfl
theorem Scn.r1 (h : Scn w p ra rc g s N i) {j : Nat} (hj : j < N) : w.cell? ⟨g, j * 5 + 1, none⟩ = some (.int .i64 ((Rn.st s j).p : Nat)) := h.runes j 1 hj (by omega)
theorem Scn.r2 (h : Scn w p ra rc g s N i) {j : Nat} (hj : j < N) : w.cell? ⟨g, j * 5 + 2, none⟩ = some (.int .i64 ((Rn.st s (j + 1)).p : Nat)) := h.runes j 2 hj (by omega)
theorem Scn.r3 (h : Scn w p ra rc g s N i) {j : Nat} (hj : j < N) : w.cell? ⟨g, j * 5 + 3, none⟩ = some (.int .i64 ((Rn.st s j).l : Nat)) := h.runes j 3 hj (by omega)
theorem Scn.r4 (h : Scn w p ra rc g s N i) {j : Nat} (hj : j < N) : w.cell? ⟨g, j * 5 + 4, none⟩ = some (.int .i64 ((Rn.st s j).c : Nat)) := h.runes j 4 hj (by omega)
theorem Scn.gl (h : Scn w p ra rc g s N i) (hN : 0 < N) : g < w.heap.size := lt_of_cell (h.r0 hN)
theorem Scn.keeps {S : Nat → Prop} (h : Scn w p ra rc g s N i) (k : Keeps S w w') (hp : ¬ S p) (hg : 0 < N → ¬ S g) : Scn w' p ra rc g s N i :=
  ⟨(k.block _ h.lt hp).trans h.obj, h.at_, fun j t hj ht => by
    have h1 := h.runes j t hj ht
    have hgl := h.gl (by omega)
    have e := k.block g hgl (hg (by omega))
    rw [← h1]
    unfold World.cell?
    rw [e], h.le, h.few, h.ends, h.size, h.ne⟩
/-- The next one's number is set. -/
theorem Scn.set (h : Scn w p ra rc g s N i) {k : Nat} (hk : k ≤ N) {v : Int} (hv : v = (k : Int)) : Scn (w.setCell ⟨p, 2, none⟩ (.int .i64 v)) p ra rc g s N k := by
  subst hv
  refine ⟨heap_setCell_same w p 2 _ _ _ h.obj, h.at_, fun j t hj ht => ?_, hk, h.few, h.ends, h.size, h.ne⟩
  rw [World.cell?_setCell_other _ _ _ _ (by intro e; exact h.ne (by omega) (congrArg Addr.block e).symm)]
  exact h.runes j t hj ht
end

set_option maxHeartbeats 1000000 in
theorem rune0_any {w : World} {p rc g N i : Nat} {ra : Option Addr} {s : ByteArray} (h : Scn w p ra rc g s N i) :
    Calls Tryd.prog 112 #[.pointer (some ⟨p, 0, none⟩), .int .i64 0] w fun e w' => e = .returned (.int .i32 (Tk.rn s N i)) ∧ ∃ n, w' = w.drewN n := by
  have c1 := h.c1
  have c2 := h.c2
  have hle := h.le
  have hfew := h.few
  have e1 : IntKind.i64.wrap ((i : Int) + 0) = (i : Int) := by rw [Int.add_zero]; exact IntWalk.i64_in _ (by omega)
  by_cases hlt : i < N
  · have hr := h.r0 hlt
    rcases h.at_ with h0 | h0
    · omega
    · subst h0
      have hd : decide ((N : Int) ≤ (i : Int)) = false := decide_eq_false (by omega)
      have hd2 : decide (N ≤ i) = false := decide_eq_false (by omega)
      generalize Tk.rn s N i = r at *
      clear h
      go_enter Tryd.func112, Tryd.ntmps112
      go_wp2
      go_quiet (fail)
      go_wp2
      go_quiet (fail)
      go_wp2
      go_ret
      exact ⟨rfl, by first | exact ⟨_, rfl⟩ | (simp only [World.drewN_drewN]; exact ⟨_, rfl⟩)⟩
  · rw [Tk.rn_out s N i hlt]
    have hd : decide ((N : Int) ≤ (i : Int)) = true := decide_eq_true (by omega)
    have hd2 : decide (N ≤ i) = true := decide_eq_true (by omega)
    clear h
    go_enter Tryd.func112, Tryd.ntmps112
    go_wp2
    go_quiet (fail)
    go_wp2
    go_ret
    exact ⟨rfl, by first | exact ⟨_, rfl⟩ | (simp only [World.drewN_drewN]; exact ⟨_, rfl⟩)⟩
set_option maxHeartbeats 1000000 in
theorem rune1_any {w : World} {p rc g N i : Nat} {ra : Option Addr} {s : ByteArray} (h : Scn w p ra rc g s N i) :
    Calls Tryd.prog 112 #[.pointer (some ⟨p, 0, none⟩), .int .i64 1] w fun e w' => e = .returned (.int .i32 (Tk.rn s N (i + 1))) ∧ ∃ n, w' = w.drewN n := by
  have c1 := h.c1
  have c2 := h.c2
  have hle := h.le
  have hfew := h.few
  have e1 : IntKind.i64.wrap ((i : Int) + 1) = (i : Int) + 1 := IntWalk.i64_in _ (by omega)
  have e2 : ((i : Int) + 1).toNat = i + 1 := by omega
  have e3 : (0 : Int) ≤ (i : Int) + 1 := by omega
  by_cases hlt : i + 1 < N
  · have hr := h.r0 hlt
    rcases h.at_ with h0 | h0
    · omega
    · subst h0
      have hd : decide ((N : Int) ≤ (i : Int) + 1) = false := decide_eq_false (by omega)
      have hlt2 : (i : Int) + 1 < (N : Int) := by omega
      generalize Tk.rn s N (i + 1) = r at *
      clear h
      go_enter Tryd.func112, Tryd.ntmps112
      go_wp2
      go_quiet (fail)
      go_wp2
      go_quiet (fail)
      go_wp2
      go_ret
      exact ⟨rfl, by first | exact ⟨_, rfl⟩ | (simp only [World.drewN_drewN]; exact ⟨_, rfl⟩)⟩
  · rw [Tk.rn_out s N (i + 1) hlt]
    have hd : decide ((N : Int) ≤ (i : Int) + 1) = true := decide_eq_true (by omega)
    clear h
    go_enter Tryd.func112, Tryd.ntmps112
    go_wp2
    go_quiet (fail)
    go_wp2
    go_ret
    exact ⟨rfl, by first | exact ⟨_, rfl⟩ | (simp only [World.drewN_drewN]; exact ⟨_, rfl⟩)⟩
theorem drew2 {w w' : World} {n : Nat} (h : ∃ m, w' = (w.drewN n).drewN m) : ∃ m, w' = w.drewN m := by
  obtain ⟨m, rfl⟩ := h
  exact ⟨n + m, by rw [World.drewN_drewN]⟩
set_option maxHeartbeats 1000000 in
theorem inBlanks_any {w : World} {p rc g N i : Nat} {ra : Option Addr} {s : ByteArray} (h : Scn w p ra rc g s N i) :
    Calls Tryd.prog 111 #[.pointer (some ⟨p, 0, none⟩)] w fun e w' => e = .returned (.bool (Tk.bl (Tk.rn s N i))) ∧ ∃ n, w' = w.drewN n := by
  have HR := Lib.hid (rune0_any h)
  clear h
  generalize Tk.rn s N i = r at *
  go_enter Tryd.func111, Tryd.ntmps111
  go_wp2_with fail
  refine HR.out.mono ?_
  rintro e w1 ⟨rfl, n, rfl⟩
  go_wp2_with fail
  refine (tblank_any r _).mono ?_
  rintro e w2 ⟨rfl, rfl⟩
  go_wp2_with fail
  go_ret
  exact ⟨rfl, n, rfl⟩
set_option maxHeartbeats 1000000 in
theorem inDigits_any {w : World} {p rc g N i : Nat} {ra : Option Addr} {s : ByteArray} (h : Scn w p ra rc g s N i) :
    Calls Tryd.prog 117 #[.pointer (some ⟨p, 0, none⟩)] w fun e w' => e = .returned (.bool (Tk.dg (Tk.rn s N i))) ∧ ∃ n, w' = w.drewN n := by
  have HR := Lib.hid (rune0_any h)
  clear h
  generalize Tk.rn s N i = r at *
  go_enter Tryd.func117, Tryd.ntmps117
  go_wp2_with fail
  refine HR.out.mono ?_
  rintro e w1 ⟨rfl, n, rfl⟩
  go_wp2_with fail
  refine (tdigit_any r _).mono ?_
  rintro e w2 ⟨rfl, rfl⟩
  go_wp2_with fail
  go_ret
  exact ⟨rfl, n, rfl⟩
set_option maxHeartbeats 2000000 in
theorem inRemark_any {w : World} {p rc g N i : Nat} {ra : Option Addr} {s : ByteArray} (h : Scn w p ra rc g s N i) :
    Calls Tryd.prog 113 #[.pointer (some ⟨p, 0, none⟩)] w fun e w' => e = .returned (.bool (Tk.rem (Tk.rn s N i))) ∧ ∃ n, w' = w.drewN n := by
  have HR : Hid (∀ m, Calls Tryd.prog 112 #[.pointer (some ⟨p, 0, none⟩), .int .i64 0] (w.drewN m) fun e w' => e = .returned (.int .i32 (Tk.rn s N i)) ∧ ∃ n, w' = (w.drewN m).drewN n) := Lib.hid fun m => rune0_any (h.drewN m)
  clear h
  generalize Tk.rn s N i = r at *
  unfold Tk.rem
  cases h1 : (r != 10)
  · go_enter Tryd.func113, Tryd.ntmps113
    go_wp2_with fail
    refine (HR.out 0).mono ?_
    rintro e w1 ⟨rfl, n, rfl⟩
    go_wp2_with fail
    go_ret
    exact ⟨by simp, n, rfl⟩
  · cases h2 : (r != -1)
    all_goals
      go_enter Tryd.func113, Tryd.ntmps113
      go_wp2_with fail
      refine (HR.out 0).mono ?_
      rintro e w1 ⟨rfl, n, rfl⟩
      go_wp2_with fail
      refine (HR.out n).mono ?_
      rintro e w1 ⟨rfl, n2, rfl⟩
      go_wp2_with fail
      go_ret
      exact ⟨by simp, by first | exact ⟨_, rfl⟩ | (simp only [World.drewN_drewN]; exact ⟨_, rfl⟩)⟩
set_option maxHeartbeats 4000000 in
theorem inRow_any {w : World} {p rc g N i : Nat} {ra : Option Addr} {s : ByteArray} (h : Scn w p ra rc g s N i) :
    Calls Tryd.prog 115 #[.pointer (some ⟨p, 0, none⟩)] w fun e w' => e = .returned (.bool (Tk.row (Tk.rn s N i))) ∧ ∃ n, w' = w.drewN n := by
  have HR : Hid (∀ m, Calls Tryd.prog 112 #[.pointer (some ⟨p, 0, none⟩), .int .i64 0] (w.drewN m) fun e w' => e = .returned (.int .i32 (Tk.rn s N i)) ∧ ∃ n, w' = (w.drewN m).drewN n) := Lib.hid fun m => rune0_any (h.drewN m)
  clear h
  generalize Tk.rn s N i = r at *
  have HL := fun w => tletter_any r w
  have HD := fun w => tdigit_any r w
  unfold Tk.row
  cases h1 : (Tk.sm r || Tk.gr r) <;> rw [h1] at HL
  · cases h2 : Tk.dg r <;> rw [h2] at HD
    · cases h3 : (r == 95)
      all_goals
        clear h1 h2
        have HL := Lib.hid HL
        have HD := Lib.hid HD
        go_enter Tryd.func115, Tryd.ntmps115
        go_wp2_with fail
        refine (HR.out 0).mono ?_
        rintro e w1 ⟨rfl, n, rfl⟩
        go_wp2_with fail
        refine (HL.out _).mono ?_
        rintro e w2 ⟨rfl, rfl⟩
        go_wp2_with fail
        refine (HR.out n).mono ?_
        rintro e w1 ⟨rfl, n2, rfl⟩
        go_wp2_with fail
        refine (HD.out _).mono ?_
        rintro e w2 ⟨rfl, rfl⟩
        go_wp2_with fail
        refine (HR.out (n + n2)).mono ?_
        rintro e w1 ⟨rfl, n3, rfl⟩
        go_wp2_with fail
        go_ret
        exact ⟨rfl, by first | exact ⟨_, rfl⟩ | (simp only [World.drewN_drewN]; exact ⟨_, rfl⟩)⟩
    · clear h1 h2
      have HL := Lib.hid HL
      have HD := Lib.hid HD
      go_enter Tryd.func115, Tryd.ntmps115
      go_wp2_with fail
      refine (HR.out 0).mono ?_
      rintro e w1 ⟨rfl, n, rfl⟩
      go_wp2_with fail
      refine (HL.out _).mono ?_
      rintro e w2 ⟨rfl, rfl⟩
      go_wp2_with fail
      refine (HR.out n).mono ?_
      rintro e w1 ⟨rfl, n2, rfl⟩
      go_wp2_with fail
      refine (HD.out _).mono ?_
      rintro e w2 ⟨rfl, rfl⟩
      go_wp2_with fail
      go_ret
      exact ⟨rfl, by first | exact ⟨_, rfl⟩ | (simp only [World.drewN_drewN]; exact ⟨_, rfl⟩)⟩
  · clear h1
    have HL := Lib.hid HL
    go_enter Tryd.func115, Tryd.ntmps115
    go_wp2_with fail
    refine (HR.out 0).mono ?_
    rintro e w1 ⟨rfl, n, rfl⟩
    go_wp2_with fail
    refine (HL.out _).mono ?_
    rintro e w2 ⟨rfl, rfl⟩
    go_wp2_with fail
    go_ret
    exact ⟨rfl, n, rfl⟩
set_option maxHeartbeats 4000000 in
theorem scansign_any {w : World} {p rc g N i : Nat} {ra : Option Addr} {s : ByteArray} (h : Scn w p ra rc g s N i) :
    Calls Tryd.prog 120 #[.pointer (some ⟨p, 0, none⟩)] w fun e w' => e = .returned (.int .i64 (Tk.sign (Tk.rn s N i) (Tk.rn s N (i + 1)) : Nat)) ∧ ∃ n, w' = w.drewN n := by
  have HR := Lib.hid (rune0_any h)
  have HR1 : Hid (∀ m, Calls Tryd.prog 112 #[.pointer (some ⟨p, 0, none⟩), .int .i64 1] (w.drewN m) fun e w' => e = .returned (.int .i32 (Tk.rn s N (i + 1))) ∧ ∃ n, w' = (w.drewN m).drewN n) := Lib.hid fun m => rune1_any (h.drewN m)
  clear h
  generalize Tk.rn s N i = r at *
  generalize Tk.rn s N (i + 1) = r1 at *
  by_cases ha : r = 60 ∨ r = 62 ∨ r = 33
  · cases hb : (r1 == 61)
    · rcases ha with rfl | rfl | rfl
      all_goals
        unfold Tk.sign
        rw [hb]
        go_enter Tryd.func120, Tryd.ntmps120
        go_wp2_with fail
        refine HR.out.mono ?_
        rintro e w1 ⟨rfl, n, rfl⟩
        go_wp2_with fail
        refine (HR1.out n).mono ?_
        rintro e w1 ⟨rfl, n2, rfl⟩
        go_wp2_with fail
        go_ret
        exact ⟨rfl, by first | exact ⟨_, rfl⟩ | (simp only [World.drewN_drewN]; exact ⟨_, rfl⟩)⟩
    · rcases ha with rfl | rfl | rfl
      all_goals
        unfold Tk.sign
        rw [hb]
        go_enter Tryd.func120, Tryd.ntmps120
        go_wp2_with fail
        refine HR.out.mono ?_
        rintro e w1 ⟨rfl, n, rfl⟩
        go_wp2_with fail
        refine (HR1.out n).mono ?_
        rintro e w1 ⟨rfl, n2, rfl⟩
        go_wp2_with fail
        go_ret
        exact ⟨rfl, by first | exact ⟨_, rfl⟩ | (simp only [World.drewN_drewN]; exact ⟨_, rfl⟩)⟩
  · have n1 : (r == 60) = false := by simp; omega
    have n2 : (r == 62) = false := by simp; omega
    have n3 : (r == 33) = false := by simp; omega
    clear HR1 ha
    by_cases hc : r = 61 ∨ r = 40 ∨ r = 41 ∨ r = 91 ∨ r = 93 ∨ r = 44 ∨ r = 59
    · clear n1 n2 n3
      rcases hc with rfl | rfl | rfl | rfl | rfl | rfl | rfl
      all_goals
        unfold Tk.sign
        go_enter Tryd.func120, Tryd.ntmps120
        go_wp2_with fail
        refine HR.out.mono ?_
        rintro e w1 ⟨rfl, n, rfl⟩
        go_wp2_with fail
        go_ret
        exact ⟨rfl, n, rfl⟩
    · have n4 : (r == 61) = false := by simp; omega
      have n5 : (r == 40) = false := by simp; omega
      have n6 : (r == 41) = false := by simp; omega
      have n7 : (r == 91) = false := by simp; omega
      have n8 : (r == 93) = false := by simp; omega
      have n9 : (r == 44) = false := by simp; omega
      have n10 : (r == 59) = false := by simp; omega
      clear hc
      have es : Tk.sign r r1 = 0 := by unfold Tk.sign; simp only [n1, n2, n3, n4, n5, n6, n7, n8, n9, n10]; rfl
      rw [es]
      clear es
      go_enter Tryd.func120, Tryd.ntmps120
      go_wp2_with fail
      refine HR.out.mono ?_
      rintro e w1 ⟨rfl, n, rfl⟩
      go_wp2_with fail
      go_ret
      exact ⟨rfl, n, rfl⟩
end Go.Proofs.YtbplkphjjfgkmaaDoor
