/-
  The laws of what is a formula, and of parts: by walks.
-/
import Derived.Test.YtpbgicfoopicbaaTreeDepth
namespace Go.Proofs.Ytpbgicfoopicbaa
open Go.RowKit
set_option linter.unusedVariables false
set_option linter.unusedSimpArgs false

theorem deepOf_bd (l : List It) : 0 ≤ deepOf l ∧ deepOf l ≤ 64 := by
  unfold deepOf
  cases hf : fm l with
  | false => rw [if_neg (by decide)]; omega
  | true =>
    obtain ⟨h1, h2, _⟩ := fm_yes hf
    rw [if_pos rfl]
    obtain ⟨s, hsp⟩ := part_span hf (show l.length - 1 < l.length by omega)
    have := hsp.deep_le
    omega
set_option maxHeartbeats 1000000 in
theorem treeChecks_walk (a : Option Addr) (c : Nat) (l : List It) (w : World) (hl : RdI w a l) (hm : l.length ≤ maxLen) :
    Calls Try.prog 3 #[.slice a l.length c] w fun e w' => e = .returned (.bool true) ∧ Below w.heap.size w w' := by
  have hu : ∀ b : Bool, ¬ (some undef = some (Value.bool b)) := fun b h => by cases h
  have hm2 : l.length ≤ 9223372036854775807 := by unfold maxLen at hm; omega
  have C1 := Lib.hid (check_any a c l w hl hm)
  have C2 : Hid (∀ w', Below w.heap.size w w' → Calls Try.prog 14 #[.slice a l.length c] w' fun e w2 => e = .returned (.int .i64 (chk l)) ∧ w' = w2) := Lib.hid (fun w' hb => rcheck_any a c l w' (hl.mono hb (Nat.le_refl _)) hm)
  have D1 : Hid (∀ w', Below w.heap.size w w' → Calls Try.prog 15 #[.slice a l.length c] w' fun e w2 => e = .returned (.int .i64 (deepOf l)) ∧ Below w'.heap.size w' w2) := Lib.hid (fun w' hb => tdeep_any a c l w' (hl.mono hb (Nat.le_refl _)) hm)
  have D2 : Hid (∀ w', Below w.heap.size w w' → Calls Try.prog 16 #[.slice a l.length c] w' fun e w2 => e = .returned (.int .i64 (deepOf l)) ∧ Below w'.heap.size w' w2) := Lib.hid (fun w' hb => rdeep_any a c l w' (hl.mono hb (Nat.le_refl _)) hm)
  have h1 : (chk l == chk l) = true := by simp
  have h2 : (deepOf l == deepOf l) = true := by simp
  clear hl hm
  generalize chk l = n at *
  generalize deepOf l = d at *
  go_enter Try.func3, Try.ntmps3
  go_wp2_with fail
  refine C1.out.mono ?_
  rintro e w2 ⟨rfl, hb2⟩
  have B2 := Lib.hid hb2
  clear hb2 C1
  go_wp2_with fail
  refine (C2.out w2 B2.out).mono ?_
  rintro e w3 ⟨rfl, rfl⟩
  by_cases h64 : 64 < l.length
  · go_wp2_with fail
    refine (awake04_end w w2 B2.out).mono ?_
    rintro e w5 ⟨rfl, hb5⟩
    go_wp2_with fail
    go_ret
    exact ⟨rfl, hb5⟩
  · go_wp2_with fail
    refine (D1.out w2 B2.out).mono ?_
    rintro e w3 ⟨rfl, hb3⟩
    have B3 := Lib.hid (B2.out.trans (hb3.mono B2.out.size))
    clear hb3
    go_wp2_with fail
    refine (D2.out w3 B3.out).mono ?_
    rintro e w4 ⟨rfl, hb4⟩
    have B4 := Lib.hid (B3.out.trans (hb4.mono B3.out.size))
    clear hb4
    go_wp2_with fail
    refine (awake04_end w w4 B4.out).mono ?_
    rintro e w5 ⟨rfl, hb5⟩
    go_wp2_with fail
    go_ret
    exact ⟨rfl, hb5⟩
theorem own_dn {w : World} {B n size : Nat} {e : TypeId} {v : Value} {xs : List Value} (h : w.ownsRow B e size v n xs) (m : Nat) : (w.drewN m).ownsRow B e size v n xs :=
  (Keeps.drewN (fun _ => False) w m).own h (fun _ _ hf => hf)
theorem kidsOf_len (l : List It) (e : Int) : (kidsOf l e).length ≤ 2 := by
  unfold kidsOf
  split
  · split
    · simp
    · split <;> simp
  · simp
set_option maxRecDepth 100000 in
set_option maxHeartbeats 2000000 in
theorem treeParts_walk (a : Option Addr) (c : Nat) (l : List It) (e : Int) (w : World) (hl : RdI w a l) (hm : l.length ≤ maxLen) :
    Calls Try.prog 5 #[.slice a l.length c, .int .i64 e] w fun en w' => en = .returned (.bool true) ∧ Below w.heap.size w w' := by
  have hu : ∀ b : Bool, ¬ (some undef = some (Value.bool b)) := fun b h => by cases h
  have hm2 : l.length ≤ 9223372036854775807 := by unfold maxLen at hm; omega
  have S1 := Lib.hid (tstart_any a c l e w hl hm)
  have K1 : Hid (∀ w', Below w.heap.size w w' → Calls Try.prog 23 #[.slice a l.length c, .int .i64 e] w' (IntsAns (kidsOf l e) w')) := Lib.hid (fun w' hb => tkids_any a c l e w' (hl.mono hb (Nat.le_refl _)) hm)
  have C2 : Hid (∀ w', Below w.heap.size w w' → Calls Try.prog 14 #[.slice a l.length c] w' fun e w2 => e = .returned (.int .i64 (chk l)) ∧ w' = w2) := Lib.hid (fun w' hb => rcheck_any a c l w' (hl.mono hb (Nat.le_refl _)) hm)
  by_cases hin : fm l = true ∧ 0 ≤ e ∧ e < (l.length : Int)
  · obtain ⟨hf, h0, h1⟩ := hin
    obtain ⟨j, rfl⟩ : ∃ j : Nat, e = (j : Int) := ⟨e.toNat, by omega⟩
    have hj : j < l.length := by omega
    have h64 := (fm_yes hf).2.1
    have K2 : Hid (∀ w', Below w.heap.size w w' → Calls Try.prog 24 #[.slice a l.length c, .int .i64 j] w' (IntsAns (kidsOf l j) w')) := Lib.hid (fun w' hb => rkids_any a c l j w' (hl.mono hb (Nat.le_refl _)) hf hj)
    have G2 : Hid (∀ w', Below w.heap.size w w' → Calls Try.prog 25 #[.slice a l.length c, .int .i64 j] w' fun e w2 => e = .returned (.int .i64 (startOf l j)) ∧ w' = w2) := Lib.hid (fun w' hb => by
      have h := rbegin_any a c l (j + 1) w' (hl.mono hb (Nat.le_refl _)) h64 (by omega)
      rw [show ((j + 1 : Nat) : Int) - 1 = (j : Int) by omega] at h
      unfold startOf
      rw [if_pos ⟨hf, by omega, by omega⟩, Int.toNat_natCast]
      exact h)
    rw [chk_ok hf] at C2
    have hkl := kidsOf_len l j
    have hsn : (startOf l j != startOf l j) = false := by simp
    clear hl hm hf
    generalize startOf l j = s at *
    generalize kidsOf l j = R at *
    have hln : ((R.length : Int) != (R.length : Int)) = false := by simp
    go_enter Try.func5, Try.ntmps5
    go_wp2_with fail
    refine S1.out.mono ?_
    rintro e w2 ⟨rfl, hb2⟩
    have B2 := Lib.hid hb2
    clear hb2 S1
    go_wp2_with fail
    refine (K1.out w2 B2.out).mono ?_
    rintro e w3 ⟨x, rfl, own3, hb3⟩
    have B3 := Lib.hid (B2.out.trans (hb3.mono B2.out.size))
    obtain ⟨xa, xc, hx⟩ := own_len own3
    subst hx
    have O3 := Lib.hid own3
    clear hb3 own3
    go_wp2_with fail
    refine (C2.out w3 B3.out).mono ?_
    rintro e w4 ⟨rfl, rfl⟩
    go_wp2_with fail
    refine (K2.out w3 B3.out).mono ?_
    rintro e w5 ⟨y, rfl, own5, hb5⟩
    have B5 := Lib.hid (B3.out.trans (hb5.mono B3.out.size))
    obtain ⟨ya, yc, hy⟩ := own_len own5
    subst hy
    have O5 := Lib.hid (And.intro (own_below O3.out hb5) own5)
    clear hb5 own5
    go_wp2_with fail
    refine (G2.out w5 B5.out).mono ?_
    rintro e w6 ⟨rfl, rfl⟩
    go_wp2_with fail
    go_loopw [8] (fun v8 wr => ∃ i : Nat, v8 = .int .i64 i ∧ i ≤ R.length ∧ Hid (∃ n, wr = w5.drewN n)) (fun v8 _ => R.length - (intOf v8).toNat)
    case atStart => exact ⟨0, rfl, by omega, Lib.hid ⟨0, rfl⟩⟩
    case round =>
      obtain ⟨i, rfl, hi, HX⟩ := hrel
      by_cases hlt : i < R.length
      · have o1 : wr.ownsRow w2.heap.size 3 1 (.slice xa R.length xc) R.length (R.map (Value.int .i64)) := by obtain ⟨n, hn⟩ := HX.out; rw [hn]; exact own_dn (O5.out).1 n
        have o2 : wr.ownsRow w3.heap.size 3 1 (.slice ya R.length yc) R.length (R.map (Value.int .i64)) := by obtain ⟨n, hn⟩ := HX.out; rw [hn]; exact own_dn (O5.out).2 n
        obtain ⟨g1, k1, hv1, _⟩ := own_some o1 (by omega)
        obtain ⟨g2, k2, hv2, _⟩ := own_some o2 (by omega)
        simp only [Value.slice.injEq] at hv1 hv2
        obtain ⟨rfl, _, rfl⟩ := hv1
        obtain ⟨rfl, _, rfl⟩ := hv2
        have q1 := own_cell1 o1 i (.int .i64 R[i]) (by rw [List.getElem?_map, List.getElem?_eq_getElem hlt]; rfl)
        have q2 := own_cell1 o2 i (.int .i64 R[i]) (by rw [List.getElem?_map, List.getElem?_eq_getElem hlt]; rfl)
        have hzz : (R[i] != R[i]) = false := by simp
        clear o1 o2
        generalize R[i] = z at *
        go_wp2_with fail
        go_quiet (fail)
        go_wp2
        go_roundw
        case rel => exact ⟨i + 1, by go_num, by omega, Lib.hid (by obtain ⟨n, hn⟩ := HX.out; rw [hn]; first | exact ⟨_, rfl⟩ | (simp only [World.drewN_drewN]; exact ⟨_, rfl⟩))⟩
        case measure => simp [intOf] <;> omega
      · have hB : Below w.heap.size w wr := by obtain ⟨n, hn⟩ := HX.out; rw [hn]; exact below_dn B5.out n
        have HBN := Lib.hid hB
        clear hB
        go_wp2_with fail
        refine (awake04_end w _ HBN.out).mono ?_
        rintro e w7 ⟨rfl, hb7⟩
        go_wp2_with fail
        go_ret
        exact ⟨rfl, hb7⟩
  · have hs : startOf l e = -1 := by unfold startOf; rw [if_neg hin]
    have hk : kidsOf l e = [] := by unfold kidsOf; rw [if_neg hin]
    rw [hs] at S1
    rw [hk] at K1
    cases hf : fm l with
    | false =>
      have hz : (chk l != 0) = true := by rw [bne_iff_ne]; rcases chk_no hf with h | h | h <;> omega
      clear hl hm hf hs hk hin
      generalize chk l = n at *
      go_enter Try.func5, Try.ntmps5
      go_wp2_with fail
      refine S1.out.mono ?_
      rintro e w2 ⟨rfl, hb2⟩
      have B2 := Lib.hid hb2
      clear hb2 S1
      go_wp2_with fail
      refine (K1.out w2 B2.out).mono ?_
      rintro e w3 ⟨x, rfl, own3, hb3⟩
      have B3 := Lib.hid (B2.out.trans (hb3.mono B2.out.size))
      obtain ⟨xa, xc, hx⟩ := own_len own3
      subst hx
      clear hb3 own3
      go_wp2_with fail
      refine (C2.out w3 B3.out).mono ?_
      rintro e w4 ⟨rfl, rfl⟩
      go_wp2_with fail
      refine (awake04_end w w3 B3.out).mono ?_
      rintro e w5 ⟨rfl, hb5⟩
      go_wp2_with fail
      go_ret
      exact ⟨rfl, hb5⟩
    | true =>
      rw [chk_ok hf] at C2
      by_cases h0 : e < 0
      · clear hl hm hf hs hk hin
        go_enter Try.func5, Try.ntmps5
        go_wp2_with fail
        refine S1.out.mono ?_
        rintro e w2 ⟨rfl, hb2⟩
        have B2 := Lib.hid hb2
        clear hb2 S1
        go_wp2_with fail
        refine (K1.out w2 B2.out).mono ?_
        rintro e w3 ⟨x, rfl, own3, hb3⟩
        have B3 := Lib.hid (B2.out.trans (hb3.mono B2.out.size))
        obtain ⟨xa, xc, hx⟩ := own_len own3
        subst hx
        clear hb3 own3
        go_wp2_with fail
        refine (C2.out w3 B3.out).mono ?_
        rintro e w4 ⟨rfl, rfl⟩
        go_wp2_with fail
        refine (awake04_end w w3 B3.out).mono ?_
        rintro e w5 ⟨rfl, hb5⟩
        go_wp2_with fail
        go_ret
        exact ⟨rfl, hb5⟩
      · have h1 : (l.length : Int) ≤ e := by
          rcases (by omega : (l.length : Int) ≤ e ∨ e < (l.length : Int)) with h | h
          · exact h
          · exact absurd ⟨hf, by omega, h⟩ hin
        clear hl hm hf hs hk hin
        go_enter Try.func5, Try.ntmps5
        go_wp2_with fail
        refine S1.out.mono ?_
        rintro e w2 ⟨rfl, hb2⟩
        have B2 := Lib.hid hb2
        clear hb2 S1
        go_wp2_with fail
        refine (K1.out w2 B2.out).mono ?_
        rintro e w3 ⟨x, rfl, own3, hb3⟩
        have B3 := Lib.hid (B2.out.trans (hb3.mono B2.out.size))
        obtain ⟨xa, xc, hx⟩ := own_len own3
        subst hx
        clear hb3 own3
        go_wp2_with fail
        refine (C2.out w3 B3.out).mono ?_
        rintro e w4 ⟨rfl, rfl⟩
        go_wp2_with fail
        refine (awake04_end w w3 B3.out).mono ?_
        rintro e w5 ⟨rfl, hb5⟩
        go_wp2_with fail
        go_ret
        exact ⟨rfl, hb5⟩
end Go.Proofs.Ytpbgicfoopicbaa
