/-
  The walks of the three laws of layer 14 (bits): each answers true, and writes nothing that was there.
-/
import Derived.Test.YtnljihankodedaaBitsLaws
namespace Go.Proofs.Ytnljihankodedaa
open Go.RowKit BitsPlain
set_option linter.unusedVariables false

set_option maxHeartbeats 400000 in
set_option maxRecDepth 1000000 in
theorem bitsSets_walk (s i : Int) (hs : -9223372036854775808 ≤ s ∧ s ≤ 9223372036854775807) (hi : -9223372036854775808 ≤ i ∧ i ≤ 9223372036854775807) (w : World) :
    Calls Try.prog 3 #[.int .i64 s, .int .i64 i] w fun e w' => e = .returned (.bool true) ∧ Below w.heap.size w w' := by
  go_enter Try.func3, Try.ntmps3
  go_wp2_with fail
  refine (has_any s i _).mono ?_
  rintro e w1 ⟨rfl, rfl⟩
  go_wp2_with fail
  refine (rhas_any s i _ hs.1 hs.2).mono ?_
  rintro e w1 ⟨rfl, rfl⟩
  go_wp2_with fail
  refine (with_any s i _).mono ?_
  rintro e w1 ⟨rfl, rfl⟩
  go_wp2_with fail
  refine (put_any s i true _ hs.1 hs.2).mono ?_
  rintro e w1 ⟨rfl, hb1⟩
  go_wp2_with fail
  refine (without_any s i _).mono ?_
  rintro e w2 ⟨rfl, rfl⟩
  go_wp2_with fail
  refine (put_any s i false _ hs.1 hs.2).mono ?_
  rintro e w2 ⟨rfl, hb2⟩
  go_wp2_with fail
  refine (awake_any _).mono ?_
  rintro e w3 ⟨rfl, hb3⟩
  go_wp2_with fail
  go_ret
  have z1 := hb1.size
  have z2 := hb2.size
  exact ⟨rfl, (hb1.trans (hb2.mono (by omega))).trans (hb3.mono (by omega))⟩
theorem back_eq (s : Int) : putB ((putB s 31 true : Nat) : Int) (-1) false = ofBits (bit s) 31 := by
  rw [putB_out _ _ _ (by omega), putB_out _ _ _ (by omega), ofBits_bit]
set_option maxHeartbeats 400000 in
set_option maxRecDepth 1000000 in
theorem bitsBack_walk (s n m : Int) (hs : -9223372036854775808 ≤ s ∧ s ≤ 9223372036854775807) (w : World) :
    Calls Try.prog 5 #[.int .i64 s, .int .i64 n, .int .i64 m] w fun e w' => e = .returned (.bool true) ∧ Below w.heap.size w w' := by
  have hwo := fun w => without_any ((putB s 31 true : Nat) : Int) (-1) w
  rw [back_eq] at hwo
  have HWO := Lib.hid hwo
  have hof : ∀ a c w, Reads w a ((lst (bit s) 31).map (Value.int .i64)) → Calls Try.prog 27 #[.slice a (lst (bit s) 31).length c] w fun e w' => e = .returned (.int .i64 (ofBits (bit s) 31)) ∧ w = w' := by
    intro a c w h
    have := of_any a c (lst (bit s) 31) w h (by have := lst_le (bit s) 31; omega)
    rwa [of_list] at this
  have HOF := Lib.hid hof
  have hcount := fun w => count_any ((2 ^ top n - 1 : Nat) : Int) w
  rw [count_first] at hcount
  have HCOUNT := Lib.hid hcount
  have hwithin := fun w => within_any ((2 ^ top n - 1 : Nat) : Int) ((2 ^ top m - 1 : Nat) : Int) w
  rw [within_first] at hwithin
  have HWITHIN := Lib.hid hwithin
  have hhas := fun w => has_any ((2 ^ top n - 1 : Nat) : Int) 3 w
  rw [show hasB ((2 ^ top n - 1 : Nat) : Int) 3 = decide (3 < n) by rw [show (3 : Int) = ((3 : Nat) : Int) from rfl, hasB_nat _ 3 (by omega), has_first]; rfl] at hhas
  have HHAS := Lib.hid hhas
  have HF1 := Lib.hid (fun w => first_any n w)
  have HF2 := Lib.hid (fun w => first_any m w)
  have HLIST := Lib.hid (fun w => list_any s w)
  clear hwo hof hcount hwithin hhas
  generalize 2 ^ top n - 1 = F at *
  generalize 2 ^ top m - 1 = G at *
  generalize ofBits (bit s) 31 = O at *
  generalize lst (bit s) 31 = L at *
  go_enter Try.func5, Try.ntmps5
  go_wp2_with fail
  refine (HF1.out _).mono ?_
  rintro e w1 ⟨rfl, rfl⟩
  go_wp2_with fail
  refine (HF2.out _).mono ?_
  rintro e w1 ⟨rfl, rfl⟩
  go_wp2_with fail
  refine (HLIST.out _).mono ?_
  rintro e w1 ⟨v, rfl, hown, hb1⟩
  obtain ⟨a, cap, hv, hr⟩ := Reads.of_ints hown
  subst hv
  clear hown
  go_wp2_with fail
  refine (HOF.out _ _ _ hr).mono ?_
  rintro e w2 ⟨rfl, rfl⟩
  clear hr
  go_wp2_with fail
  refine (with_any s 31 _).mono ?_
  rintro e w2 ⟨rfl, rfl⟩
  go_wp2_with fail
  refine (HWO.out _).mono ?_
  rintro e w2 ⟨rfl, rfl⟩
  go_wp2_with fail
  refine (HCOUNT.out _).mono ?_
  rintro e w2 ⟨rfl, rfl⟩
  go_wp2_with (first | (go_at_call 25; refine (HWITHIN.out _).mono ?_; rintro e w2 ⟨rfl, rfl⟩) | (go_at_call 15; refine (HHAS.out _).mono ?_; rintro e w2 ⟨rfl, rfl⟩) | (go_at_call 20; refine (awake_any _).mono ?_; rintro e w3 ⟨rfl, hb3⟩))
  all_goals go_ret
  all_goals have z1 := hb1.size
  all_goals exact ⟨ret_bool (by first | rfl | (simp; omega)), hb1.trans (hb3.mono (by omega))⟩

set_option maxHeartbeats 400000 in
set_option maxRecDepth 1000000 in
theorem bitsLists_walk (s t : Int) (a0 : Option Addr) (c0 : Nat) (xs : List Int) (hs : -9223372036854775808 ≤ s ∧ s ≤ 9223372036854775807) (ht : -9223372036854775808 ≤ t ∧ t ≤ 9223372036854775807) (w : World)
    (hr0 : Reads w a0 (xs.map (Value.int .i64))) :
    Calls Try.prog 4 #[.int .i64 s, .int .i64 t, .slice a0 xs.length c0] w fun e w' => e = .returned (.bool true) ∧ Below w.heap.size w w' := by
  by_cases hbig : 60 < xs.length
  · go_enter Try.func4, Try.ntmps4
    go_wp2_with fail
    refine (awake_any _).mono ?_
    rintro e w3 ⟨rfl, hb3⟩
    go_wp2_with fail
    go_ret
    exact ⟨rfl, hb3⟩
  · have HLIST := Lib.hid (fun w => list_any s w)
    have HRLIST := Lib.hid (fun w => rlist_any s w hs.1 hs.2)
    have HCOUNT := Lib.hid (fun w => count_any s w)
    have hln : ((cnt (bit s) 31 : Nat) : Int) = (((lst (bit s) 31).length : Nat) : Int) := by rw [lst_length]
    rw [hln] at HCOUNT
    have hsm : (lst (bit s) 31).length ≤ 31 := lst_le _ _
    clear hln
    have HWITHIN := Lib.hid (fun w => within_any s t w)
    have HRWITHIN := Lib.hid (fun w => rwithin_any s t w hs.1 hs.2 ht.1 ht.2)
    generalize lst (bit s) 31 = L at *
    generalize withinB (bit s) (bit t) = WB at *
    go_enter Try.func4, Try.ntmps4
    go_wp2
    go_loopw [7, 8] (fun v7 v8 wr => ∃ k : Nat, k ≤ xs.length ∧ v8 = .int .i64 k ∧ v7 = .int .i64 ((ofBits (memB (xs.take k)) 31 : Nat) : Int) ∧ Below w.heap.size w wr) (fun _ v8 _ => xs.length - (intOf v8).toNat)
    case atStart => exact ⟨0, by omega, rfl, rfl, Below.refl _ _⟩
    case round =>
      obtain ⟨k, hk, rfl, rfl, hnx⟩ := hrel
      by_cases hlt : k < xs.length
      · have hr1 := hr0.mono hnx (Nat.le_refl _)
        obtain ⟨b0, o0, ha, hc⟩ := hr1.at (by rw [List.length_map]; omega)
        have hx := Reads.int hc k hlt
        subst ha
        clear hr1 hc
        have hcall := fun w => put_any ((ofBits (memB (xs.take k)) 31 : Nat) : Int) (xs[k]) true w (by omega) (by have := ofBits_lt (memB (xs.take k)) 31; omega)
        rw [putB_mem, ← take_more xs k hlt] at hcall
        have HCALL := Lib.hid hcall
        clear hcall
        generalize hX : xs[k] = x at *
        clear hX
        generalize hO : ofBits (memB (xs.take k)) 31 = y at *
        clear hO
        go_wp2_with fail
        refine (HCALL.out _).mono ?_
        rintro e w1 ⟨rfl, hb1⟩
        go_wp2_with fail
        have z1 := hnx.size
        go_roundw
        case rel => exact ⟨k + 1, by omega, by go_num, rfl, hnx.trans (hb1.mono (by omega))⟩
        case measure => simp [intOf]; omega
      · have hkn : k = xs.length := by omega
        have hf : xs.take k = xs := by rw [hkn]; exact List.take_length
        rw [hf]
        clear hf hkn hk
        have HOF := Lib.hid (fun w h => of_any a0 c0 xs w h (by omega))
        generalize ofBits (memB xs) 31 = O at *
        go_wp2_with fail
        refine (HLIST.out _).mono ?_
        rintro e w1 ⟨v1, rfl, hown1, hb1⟩
        obtain ⟨a1, c1, hv1, hr1⟩ := Reads.of_ints hown1
        subst hv1
        clear hown1
        go_wp2_with fail
        refine (HRLIST.out _).mono ?_
        rintro e w2 ⟨v2, rfl, hown2, hb2⟩
        obtain ⟨a2, c2, hv2, hr2⟩ := Reads.of_ints hown2
        subst hv2
        clear hown2
        have hr1' := hr1.mono hb2 (Nat.le_refl _)
        have HSAME := Lib.hid (same_self a1 a2 c1 c2 L w2 hr1' hr2 (by omega))
        clear hr1 hr1' hr2
        have z1 := hnx.size
        have z2 := hb1.size
        have z3 := hb2.size
        have hb02 : Below w.heap.size w w2 := (hnx.trans (hb1.mono z1)).trans (hb2.mono (by omega))
        clear hb1 hb2 hnx
        go_wp2_with fail
        refine (HSAME.out).mono ?_
        rintro e w3 ⟨rfl, n, rfl⟩
        go_wp2_with fail
        refine (HCOUNT.out _).mono ?_
        rintro e w3 ⟨rfl, rfl⟩
        go_wp2_with fail
        refine (HRLIST.out _).mono ?_
        rintro e w3 ⟨v3, rfl, hown3, hb3⟩
        obtain ⟨a3, c3, hv3, hr3⟩ := Reads.of_ints hown3
        subst hv3
        clear hown3 hr3
        have hb03 : Below w.heap.size w w3 := (below_drewN hb02 n).trans (hb3.mono (by simp only [World.heap_drewN]; omega))
        clear hb3
        go_wp2_with fail
        refine (HWITHIN.out _).mono ?_
        rintro e w4 ⟨rfl, rfl⟩
        go_wp2_with fail
        refine (HRWITHIN.out _).mono ?_
        rintro e w4 ⟨rfl, rfl⟩
        go_wp2_with fail
        refine (HOF.out _ (hr0.mono hb03 (Nat.le_refl _))).mono ?_
        rintro e w4 ⟨rfl, rfl⟩
        go_wp2_with fail
        refine (awake_any _).mono ?_
        rintro e w4 ⟨rfl, hb4⟩
        go_wp2_with fail
        go_ret
        exact ⟨rfl, hb03.trans (hb4.mono hb03.size)⟩
end Go.Proofs.Ytnljihankodedaa
