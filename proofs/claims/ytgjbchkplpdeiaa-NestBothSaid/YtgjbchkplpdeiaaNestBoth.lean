/-
  The law on above and below, by walks.
-/
import Derived.Test.YtgjbchkplpdeiaaNestLaws
namespace Go.Proofs.Ytgjbchkplpdeiaa
open Go.RowKit
set_option linter.unusedVariables false
set_option linter.unusedSimpArgs false

set_option maxHeartbeats 800000 in
theorem lhas_any (a : Option Addr) (c : Nat) (l : List Int) (n : Int) (w : World) (hl : Reads w a (l.map (Value.int .i64))) (hm : l.length ≤ 1000000) :
    Calls Try.prog 48 #[.slice a l.length c, .int .i64 n] w fun e w' => e = .returned (.bool (decide (n ∈ l))) ∧ w = w' := by
  go_enter Try.func48, Try.ntmps48
  go_wp2
  go_loopw [5] (fun v5 wr => ∃ j : Nat, j ≤ l.length ∧ v5 = .int .i64 j ∧ n ∉ l.take j ∧ w = wr) (fun v5 _ => l.length - (intOf v5).toNat)
  case atStart => exact ⟨0, by omega, rfl, by simp, rfl⟩
  case round =>
    obtain ⟨j, hj, rfl, hno, rfl⟩ := hrel
    have HNO := Lib.hid hno
    clear hno
    by_cases hlt : j < l.length
    · obtain ⟨b, off, rfl, hc⟩ := hl.at (by simp; omega)
      have hx := Reads.int hc j hlt
      have ht : l.take (j + 1) = l.take j ++ [l[j]] := List.take_succ_eq_append_getElem hlt
      have hmem : l[j] ∈ l := List.getElem_mem hlt
      have HT := Lib.hid ht
      have HM := Lib.hid hmem
      have HC := Lib.hid hc
      clear ht hc hmem
      generalize l[j] = x at *
      by_cases hxn : x = n
      · have hxb : (x == n) = true := by simp [hxn]
        have HX := Lib.hid hxn
        clear hxn
        go_wp2
        go_ret
        exact ⟨ret_bool (by rw [← HX.out, decide_eq_true HM.out]), rfl⟩
      · have hxb : (x == n) = false := by simp [hxn]
        have HX := Lib.hid hxn
        clear hxn
        go_wp2
        go_roundw
        case rel => exact ⟨j + 1, by omega, by go_num, by rw [HT.out]; simp only [List.mem_append, List.mem_singleton]; exact fun h => h.elim HNO.out (fun e => HX.out e.symm), trivial⟩
        case measure => simp [intOf]; omega
    · have hno2 : n ∉ l := by have := HNO.out; rwa [List.take_of_length_le (by omega)] at this
      have HN2 := Lib.hid hno2
      clear hno2
      go_wp2
      go_ret
      exact ⟨ret_bool (by rw [decide_eq_false HN2.out]), rfl⟩
theorem has_ans {w1 w2 : World} {x : Value} {xs : List Int} {B : Nat} (hx : w1.ownsRow B 3 1 x xs.length (xs.map (Value.int .i64))) (hb : Below w1.heap.size w1 w2) (hm : xs.length ≤ 1000000) (n : Int) :
    Calls Try.prog 48 #[x, .int .i64 n] w2 fun e w' => e = .returned (.bool (decide (n ∈ xs))) ∧ w2 = w' := by
  obtain ⟨a, c, rfl, hr⟩ := Reads.of_ints hx
  exact lhas_any a c xs n w2 (hr.mono hb (Nat.le_refl _)) hm
theorem sumB_le {l : List Int} (h : l.length ≤ 20) : ∀ m, Ns.sumB l m ≤ m * 20
  | 0 => by simp [Ns.sumB]
  | m + 1 => by
    have ih := sumB_le h m
    have hb := Ns.below_len l (m : Int)
    unfold Ns.sumB
    split <;> omega
set_option maxHeartbeats 4000000 in
theorem nestBoth_walk (a : Option Addr) (c : Nat) (l : List Int) (i k : Int) (w : World) (hl : Reads w a (l.map (Value.int .i64))) (hm : l.length ≤ maxLen) :
    Calls Try.prog 13 #[.slice a l.length c, .int .i64 i, .int .i64 k] w fun e w' => e = .returned (.bool true) ∧ Below w.heap.size w w' := by
  have hu : ∀ b : Bool, ¬ (some undef = some (Value.bool b)) := fun b h => by cases h
  have hm2 : l.length ≤ 9223372036854775807 := by unfold maxLen at hm; omega
  clear hm
  by_cases hgt : 20 < l.length
  · go_enter Try.func13, Try.ntmps13
    go_wp2_with fail
    refine (awake10_any w).mono ?_
    rintro e w3 ⟨rfl, hb3⟩
    go_wp2_with fail
    go_ret
    exact ⟨rfl, hb3⟩
  · have hm : l.length ≤ 1000000 := by omega
    have HL := Lib.hid hl
    clear hl
    by_cases hci : 0 ≤ Ns.circ l
    · have HCI := Lib.hid hci
      clear hci
      go_enter Try.func13, Try.ntmps13
      go_wp2_with fail
      refine (circle_any a c l w HL.out hm).mono ?_
      rintro e w1 ⟨rfl, b1⟩
      have hci := HCI.out
      generalize Ns.circ l = x at *
      go_wp2_with fail
      refine (awake10_end w w1 b1).mono ?_
      rintro e w3 ⟨rfl, hb3⟩
      go_wp2_with fail
      go_ret
      exact ⟨rfl, hb3⟩
    · have hno := Ns.circ_neg (l := l) (by omega)
      have HNO := Lib.hid hno
      have HCI := Lib.hid hci
      clear hno hci
      have stop : (i < 0 ∨ (l.length : Int) ≤ i ∨ k < 0 ∨ (l.length : Int) ≤ k) → Calls Try.prog 13 #[.slice a l.length c, .int .i64 i, .int .i64 k] w fun e w' => e = .returned (.bool true) ∧ Below w.heap.size w w' := by
        intro hcase
        by_cases hi0 : i < 0
        all_goals by_cases hi1 : (l.length : Int) ≤ i
        all_goals by_cases hk0 : k < 0
        all_goals by_cases hk1 : (l.length : Int) ≤ k
        all_goals first | omega | skip
        all_goals
          clear hcase
          go_enter Try.func13, Try.ntmps13
          go_wp2_with fail
          refine (circle_any a c l w HL.out hm).mono ?_
          rintro e w1 ⟨rfl, b1⟩
          have hci := HCI.out
          generalize Ns.circ l = x at *
          go_wp2_with fail
          refine (awake10_end w w1 b1).mono ?_
          rintro e w3 ⟨rfl, hb3⟩
          go_wp2_with fail
          go_ret
          exact ⟨rfl, hb3⟩
      by_cases hst : i < 0 ∨ (l.length : Int) ≤ i ∨ k < 0 ∨ (l.length : Int) ≤ k
      · exact stop hst
      · clear stop
        have hi0 : 0 ≤ i := by omega
        have hi1 : i < (l.length : Int) := by omega
        have hk0 : 0 ≤ k := by omega
        have hk1 : k < (l.length : Int) := by omega
        clear hst
        have hpk : Ns.isP l.length k = true := (Ns.isP_iff _ _).2 ⟨hk0, hk1⟩
        have hboth := Ns.both l i k hpk
        have hself := Ns.above_self l i
        have hwhole := Ns.whole HNO.out
        have HB := Lib.hid (And.intro hboth (And.intro hself hwhole))
        clear hpk hboth hself hwhole
        go_enter Try.func13, Try.ntmps13
        go_wp2_with fail
        refine (circle_any a c l w HL.out hm).mono ?_
        rintro e w1 ⟨rfl, b1⟩
        have hci := HCI.out
        have B1 := Lib.hid (And.intro b1 ((HL.out).mono b1 (Nat.le_refl _)))
        clear b1
        generalize Ns.circ l = x at *
        go_wp2_with fail
        refine (roots_any a c l w1 (B1.out).2 hm).mono ?_
        rintro e w2 ⟨x2, rfl, o2, b2⟩
        obtain ⟨xa, xc, hx⟩ := own_len o2
        subst hx
        have hrl := Ns.rootsTo_len l l.length
        have b2' := (B1.out).1.trans (b2.mono (B1.out).1.size)
        have B2 := Lib.hid b2'
        clear o2 b2 b2'
        go_wp2_with fail
        go_loopw [7, 8] (fun v7 v8 wr => ∃ r : Nat, r ≤ l.length ∧ v8 = .int .i64 r ∧ v7 = .int .i64 (((Ns.rootsTo l l.length).length + Ns.sumB l r : Nat) : Int) ∧ Below w.heap.size w wr) (fun _ v8 _ => l.length - (intOf v8).toNat)
        case atStart => exact ⟨0, by omega, rfl, rfl, B2.out⟩
        case round =>
          obtain ⟨r, hr, rfl, rfl, hbr⟩ := hrel
          have hlr := (HL.out).mono hbr (Nat.le_refl _)
          have HLR := Lib.hid (And.intro hlr hbr)
          clear hlr hbr
          have hsb := sumB_le (l := l) (by omega) r
          by_cases hlt : r < l.length
          · have hsz := Ns.below_len l (r : Int)
            have hsu : Ns.sumB l (r + 1) = Ns.sumB l r + if (Ns.aboveL l (r : Int)).length = 0 then (Ns.belowL l (r : Int)).length else 0 := rfl
            have hal := Ns.above_len l (r : Int)
            have HSU := Lib.hid hsu
            clear hsu
            generalize hA : (Ns.aboveL l (r : Int)).length = A at *
            have HA := Lib.hid hA
            clear hA
            by_cases hz : A = 0
            · subst hz
              rw [if_pos rfl] at HSU
              go_wp2_with fail
              refine (deep_any a c l r _ (HLR.out).1 hm).mono ?_
              rintro e w4 ⟨rfl, b4⟩
              rw [HA.out]
              have b4' := (HLR.out).2.trans (b4.mono (HLR.out).2.size)
              have B4 := Lib.hid (And.intro b4' ((HL.out).mono b4' (Nat.le_refl _)))
              clear b4 b4'
              go_wp2_with fail
              refine (below_any a c l r w4 (B4.out).2 hm).mono ?_
              rintro e w5 ⟨x5, rfl, o5, b5⟩
              obtain ⟨ya, yc, hy⟩ := own_len o5
              subst hy
              have b5' := (B4.out).1.trans (b5.mono (B4.out).1.size)
              have B5 := Lib.hid b5'
              clear o5 b5 b5'
              go_wp2_with fail
              go_roundw
              case rel => exact ⟨r + 1, by omega, by go_num, by rw [HSU.out]; exact congrArg _ (by omega), B5.out⟩
              case measure => simp [intOf]; omega
            · rw [if_neg hz, Nat.add_zero] at HSU
              have hzb : ((A : Int) == 0) = false := by simp; omega
              go_wp2_with fail
              refine (deep_any a c l r _ (HLR.out).1 hm).mono ?_
              rintro e w4 ⟨rfl, b4⟩
              rw [HA.out]
              have b4' := (HLR.out).2.trans (b4.mono (HLR.out).2.size)
              have B4 := Lib.hid b4'
              clear b4 b4'
              go_wp2_with fail
              go_roundw
              case rel => exact ⟨r + 1, by omega, by go_num, by rw [HSU.out]; exact congrArg _ (by omega), B4.out⟩
              case measure => simp [intOf]; omega
          · have hrn : r = l.length := by omega
            subst hrn
            have hw := (HB.out).2.2
            rw [hw]
            clear hw
            go_wp2_with fail
            refine (above_any a c l k _ (HLR.out).1 hm).mono ?_
            rintro e w4 ⟨x4, rfl, o4, b4⟩
            have b4' := (HLR.out).2.trans (b4.mono (HLR.out).2.size)
            have h4 := Ns.above_len l k
            have LH := Lib.hid (has_ans o4 (Below.refl _ _) (by omega) i)
            have B4 := Lib.hid (And.intro b4' ((HL.out).mono b4' (Nat.le_refl _)))
            clear o4 b4 b4'
            go_wp2_with fail
            refine (LH.out).mono ?_
            rintro e w5 ⟨rfl, rfl⟩
            clear LH
            go_wp2_with fail
            refine (below_any a c l i w4 (B4.out).2 hm).mono ?_
            rintro e w5 ⟨x5, rfl, o5, b5⟩
            have b5' := (B4.out).1.trans (b5.mono (B4.out).1.size)
            have h5 := Ns.below_len l i
            have LH := Lib.hid (has_ans o5 (Below.refl _ _) (by omega) k)
            have B5 := Lib.hid (And.intro b5' ((HL.out).mono b5' (Nat.le_refl _)))
            clear o5 b5 b5'
            go_wp2_with fail
            refine (LH.out).mono ?_
            rintro e w6 ⟨rfl, rfl⟩
            clear LH
            rw [show decide (k ∈ Ns.belowL l i) = decide (i ∈ Ns.aboveL l k) from decide_eq_decide.2 (HB.out).1.symm]
            go_wp2_with fail
            refine (above_any a c l i w5 (B5.out).2 hm).mono ?_
            rintro e w7 ⟨x7, rfl, o7, b7⟩
            have b7' := (B5.out).1.trans (b7.mono (B5.out).1.size)
            have h7 := Ns.above_len l i
            have LH := Lib.hid (has_ans o7 (Below.refl _ _) (by omega) i)
            have B7 := Lib.hid b7'
            clear o7 b7 b7'
            go_wp2_with fail
            refine (LH.out).mono ?_
            rintro e w8 ⟨rfl, rfl⟩
            clear LH
            rw [decide_eq_false (HB.out).2.1]
            go_wp2_with fail
            refine (awake10_end w w7 B7.out).mono ?_
            rintro e w9 ⟨rfl, hb9⟩
            go_wp2_with fail
            go_ret
            exact ⟨rfl, hb9⟩
end Go.Proofs.Ytgjbchkplpdeiaa
