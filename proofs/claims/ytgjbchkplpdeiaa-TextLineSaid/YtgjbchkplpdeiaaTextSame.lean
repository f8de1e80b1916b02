/-
  Both lists of runes are the same; the laws' walks.
-/
import Derived.Test.YtgjbchkplpdeiaaTextAll
namespace Go.Proofs.Ytgjbchkplpdeiaa
open Go.RowKit
set_option linter.unusedVariables false

/-- Where the five cells of rune j stand. -/
theorem flat_at (f : Nat → List Value) (k j i : Nat) (hf : ∀ m, (f m).length = 5) (hj : j < k) (hi : i < 5) : ((List.range k).flatMap f)[j * 5 + i]? = (f j)[i]? := by
  induction k with
  | zero => omega
  | succ k ih =>
    have hlen : ∀ n, ((List.range n).flatMap f).length = n * 5 := by
      intro n
      induction n with
      | zero => simp
      | succ n ihn => rw [List.range_succ, List.flatMap_append, List.length_append, ihn]; simp [hf]; omega
    rw [List.range_succ, List.flatMap_append]
    by_cases h : j = k
    · subst h
      rw [List.getElem?_append_right (by rw [hlen]; omega), hlen]
      simp [show j * 5 + i - j * 5 = i by omega]
    · rw [List.getElem?_append_left (by rw [hlen]; omega)]
      exact ih (by omega)
theorem all_at (s : ByteArray) (k j i : Nat) (hj : j < k) (hi : i < 5) : (Rn.all s k)[j * 5 + i]? = (Rn.cells s j)[i]? := flat_at (Rn.cells s) k j i (fun _ => rfl) hj hi
theorem rall_at (s : ByteArray) (k j i : Nat) (hj : j < k) (hi : i < 5) : (Rn.rall s k)[j * 5 + i]? = (Rn.rcells s j)[i]? := flat_at (Rn.rcells s) k j i (fun _ => rfl) hj hi
set_option maxHeartbeats 2000000 in
theorem same1_any (s : ByteArray) (k : Nat) (x y : Value) (B B' : Nat) (w : World) (hx : w.ownsRow B 39 5 x k (Rn.all s k)) (hy : w.ownsRow B' 80 5 y k (Rn.rall s k)) (hk : k ≤ 1000000) :
    Calls Try.prog 18 #[x, y] w fun e w' => e = .returned (.bool true) ∧ ∃ n, w' = w.drewN n := by
  by_cases h0 : k = 0
  · subst h0
    obtain ⟨a, c, rfl⟩ := own_len hx
    obtain ⟨b, d, rfl⟩ := own_len hy
    clear hx hy
    go_enter Try.func18, Try.ntmps18
    go_wp2
    refine wp_loop_rounds 1 ?_
    rw [rounds_succ]
    go_wp2
    go_ret
    exact ⟨rfl, 0, rfl⟩
  · obtain ⟨g, c, rfl, _⟩ := own_some hx (by omega)
    obtain ⟨g', c', rfl, _⟩ := own_some hy (by omega)
    have HX := Lib.hid (fun j (hj : j < k) i (hi : i < 5) => (hx.cellAt (j * 5 + i) (by omega)).trans (all_at s k j i hj hi))
    have HY := Lib.hid (fun j (hj : j < k) i (hi : i < 5) => (hy.cellAt (j * 5 + i) (by omega)).trans (rall_at s k j i hj hi))
    clear hx hy
    go_enter Try.func18, Try.ntmps18
    go_wp2
    go_loopw [5] (fun v5 wr => ∃ j : Nat, j ≤ k ∧ v5 = .int .i64 j ∧ ∃ n, wr = w.drewN n) (fun v5 _ => k - (intOf v5).toNat)
    case atStart => exact ⟨0, by omega, rfl, 0, rfl⟩
    case round =>
      obtain ⟨j, hj, rfl, n, rfl⟩ := hrel
      by_cases hlt : j < k
      · have a0 := HX.out j hlt 0 (by omega)
        have a1 := HX.out j hlt 1 (by omega)
        have a2 := HX.out j hlt 2 (by omega)
        have a3 := HX.out j hlt 3 (by omega)
        have a4 := HX.out j hlt 4 (by omega)
        have b0 := HY.out j hlt 0 (by omega)
        have b1 := HY.out j hlt 1 (by omega)
        have b2 := HY.out j hlt 2 (by omega)
        have b3 := HY.out j hlt 3 (by omega)
        have b4 := HY.out j hlt 4 (by omega)
        simp only [Rn.cells, Rn.rcells, List.getElem?_cons_zero, List.getElem?_cons_succ, Nat.add_zero] at a0 a1 a2 a3 a4 b0 b1 b2 b3 b4
        have hrb := Rn.run_bounds s (Rn.st s j).p
        generalize Rn.run s (Rn.st s j).p = r at *
        generalize ((Rn.st s j).p + Rn.wid s (Rn.st s j).p : Nat) = t at *
        generalize (Rn.st s j).p = p at *
        generalize (Rn.st s j).l = l at *
        generalize (Rn.st s j).c = cc at *
        go_wp2
        go_quiet (fail)
        go_wp2
        go_roundw
        case rel => exact ⟨j + 1, by omega, by go_num, by first | exact ⟨_, rfl⟩ | (simp only [World.drewN_drewN]; exact ⟨_, rfl⟩)⟩
        case measure => simp [intOf]; omega
      · go_wp2
        go_ret
        exact ⟨rfl, n, rfl⟩
/-- The reference's Runes: the list, or that there are too many. -/
def RRunesAns (s : ByteArray) (w : World) (e : Ending) (w' : World) : Prop :=
  (∃ k x, Ends s k ∧ k ≤ 16384 ∧ e = .returned (.tuple #[x, .int .i64 0]) ∧ w'.ownsRow w.heap.size 80 5 x k (Rn.rall s k) ∧ Below w.heap.size w w') ∨
  (∃ k, Ends s k ∧ 16384 < k ∧ e = .returned (.tuple #[.slice none 0 0, .int .i64 3]) ∧ Below w.heap.size w w')
set_option maxHeartbeats 800000 in
theorem rrunes_any (s : ByteArray) (w : World) (hs : s.size ≤ 1000000) : Calls Try.prog 17 #[.string s] w (RRunesAns s w) := by
  have HALL := Lib.hid (all_any s w hs)
  go_enter Try.func17, Try.ntmps17
  go_wp2_with fail
  refine (HALL.out).mono ?_
  rintro e w1 ⟨k, x, hk, rfl, hown, hb⟩
  obtain ⟨xa, xc, hx⟩ := own_len hown
  subst hx
  have HK := Lib.hid hk
  have HO := Lib.hid hown
  clear hk hown
  by_cases h : 16384 < k
  · have h1 : (16384 : Int) < (k : Int) := by omega
    go_wp2_with fail
    go_ret2
    exact Or.inr ⟨k, HK.out, h, rfl, hb⟩
  · have h1 : ¬ (16384 : Int) < (k : Int) := by omega
    go_wp2_with fail
    go_ret2
    exact Or.inl ⟨k, _, HK.out, by omega, rfl, HO.out, hb⟩
theorem awake_end (w w1 : World) (hb : Below w.heap.size w w1) : Calls Try.prog 15 #[] w1 fun e w' => e = .returned (.bool true) ∧ Below w.heap.size w w' :=
  (awake1_any w1).mono fun e w' h => ⟨h.1, hb.trans (h.2.mono hb.size)⟩
set_option maxHeartbeats 2000000 in
theorem textRunes_walk (s : ByteArray) (hl : s.size ≤ 9223372036854775807) (w : World) :
    Calls Try.prog 3 #[.string s] w fun e w' => e = .returned (.bool true) ∧ Below w.heap.size w w' := by
  by_cases hbig : 70000 < s.size
  · have h1 : (70000 : Int) < (s.size : Int) := by omega
    go_enter Try.func3, Try.ntmps3
    go_wp2_with fail
    refine (awake_end w w (Below.refl _ _)).mono ?_
    rintro e w3 ⟨rfl, hb3⟩
    go_wp2_with fail
    go_ret
    exact ⟨rfl, hb3⟩
  · have HR := Lib.hid (runes_any s w (by omega))
    have HRR := Lib.hid (fun w => rrunes_any s w (by omega))
    go_enter Try.func3, Try.ntmps3
    go_wp2_with fail
    refine (HR.out).mono ?_
    rintro e w1 h
    rcases h with ⟨k, x, B, hk, hk16, rfl, hown, hB, hb⟩ | ⟨hmany, rfl, hb⟩
    · have HK := Lib.hid hk
      have HO := Lib.hid hown
      clear hk hown
      go_wp2_with fail
      refine (HRR.out _).mono ?_
      rintro e w2 h
      rcases h with ⟨k', y, hk', _, rfl, hown', hb'⟩ | ⟨k', hk', hk'16, rfl, hb'⟩
      · have e1 := ends_unique hk' HK.out
        subst e1
        have kk : Keeps (fun j => w1.heap.size ≤ j) w1 w2 := ⟨hb'.os, hb'.tape, hb'.output, hb'.size, fun j hj _ => hb'.block j hj⟩
        have ho1 := kk.own HO.out (fun j e => by have := ((HO.out).lt j e).2; omega)
        have HS := Lib.hid (same1_any s k' x y B _ w2 ho1 hown' (by omega))
        have hb2 : Below w.heap.size w w2 := hb.trans (hb'.mono hb.size)
        clear kk ho1 hown' hb' HO hk' hb
        go_wp2_with fail
        refine (HS.out).mono ?_
        rintro e w3 ⟨rfl, n, rfl⟩
        go_wp2_with fail
        refine (awake_end w _ (below_drewN hb2 n)).mono ?_
        rintro e w3 ⟨rfl, hb3⟩
        go_wp2_with fail
        go_ret
        exact ⟨rfl, hb3⟩
      · exact absurd (ends_unique hk' HK.out) (by omega)
    · have HM := Lib.hid hmany
      clear hmany
      go_wp2_with fail
      refine (HRR.out _).mono ?_
      rintro e w2 h
      rcases h with ⟨k', y, hk', hk16, rfl, hown', hb'⟩ | ⟨k', hk', hk'16, rfl, hb'⟩
      · have := HM.out k' hk16
        have := hk'.2
        omega
      · have hb2 : Below w.heap.size w w2 := hb.trans (hb'.mono hb.size)
        have HS := Lib.hid (same1_any s 0 (.slice none 0 0) (.slice none 0 0) 0 0 w2 (World.ownsRow_nil _ _ _ _) (World.ownsRow_nil _ _ _ _) (by omega))
        clear hb hb' hk'
        go_wp2_with fail
        refine (HS.out).mono ?_
        rintro e w3 ⟨rfl, n, rfl⟩
        go_wp2_with fail
        refine (awake_end w _ (below_drewN hb2 n)).mono ?_
        rintro e w3 ⟨rfl, hb3⟩
        go_wp2_with fail
        go_ret
        exact ⟨rfl, hb3⟩
end Go.Proofs.Ytgjbchkplpdeiaa
