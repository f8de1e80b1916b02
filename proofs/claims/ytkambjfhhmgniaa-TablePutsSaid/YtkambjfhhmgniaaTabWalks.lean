/-
  Tables: what each method answers, by walks.
-/
import Derived.Test.YtkambjfhhmgniaaTabPlain
namespace Go.Proofs.Ytkambjfhhmgniaa
open Go.RowKit SumPlain
set_option linter.unusedVariables false

set_option maxHeartbeats 400000 in
theorem made_any (p : Nat) (a : Option Addr) (n c : Nat) (w : World) (hc : w.cell? ⟨p, 3, none⟩ = some (.slice a n c)) (hn : 0 < n) :
    Calls Try.prog 22 #[.pointer (some ⟨p, 0, none⟩)] w fun e w' => e = .returned (.bool true) ∧ w = w' := by
  have h1 : (0 : Int) < (n : Int) := by omega
  go_enter Try.func22, Try.ntmps22
  go_wp2
  go_ret
  exact ⟨rfl, rfl⟩
set_option maxHeartbeats 400000 in
theorem made_zero (p : Nat) (w : World) (hc : w.cell? ⟨p, 3, none⟩ = some (.slice none 0 0)) :
    Calls Try.prog 22 #[.pointer (some ⟨p, 0, none⟩)] w fun e w' => e = .returned (.bool false) ∧ w = w' := by
  go_enter Try.func22, Try.ntmps22
  go_wp2
  go_ret
  exact ⟨rfl, rfl⟩
set_option maxHeartbeats 400000 in
theorem made_nil (w : World) : Calls Try.prog 22 #[.pointer none] w fun e w' => e = .returned (.bool false) ∧ w = w' := by
  go_enter Try.func22, Try.ntmps22
  go_wp2
  go_ret
  exact ⟨rfl, rfl⟩
theorem row_bits (x r : Nat) (hx : x < 4294967296) (hr : r ≤ 16) : bits .and .i64 (x : Int) (((2 ^ r : Nat) : Int) - 1) = ((x % 2 ^ r : Nat) : Int) := by
  have hp : (2 : Nat) ^ r ≤ 2 ^ 16 := Nat.pow_le_pow_right (by decide) hr
  have hp0 : 0 < (2 : Nat) ^ r := Nat.pow_pos (by decide)
  have e1 : (((2 ^ r : Nat) : Int) - 1) = ((2 ^ r - 1 : Nat) : Int) := by omega
  have e2 : BitsPlain.raw (x : Int) &&& BitsPlain.raw ((2 ^ r - 1 : Nat) : Int) = x % 2 ^ r := by
    rw [BitsPlain.raw_nat _ (by omega), BitsPlain.raw_nat _ (by omega), Nat.and_two_pow_sub_one_eq_mod]
  have h3 : x % 2 ^ r < 2 ^ r := Nat.mod_lt _ hp0
  rw [e1, BitsPlain.and_raw _ _ (by rw [e2]; omega), e2]
set_option maxHeartbeats 400000 in
theorem row_any (p : Nat) (a : Option Addr) (m c x : Nat) (w : World) (hc : w.cell? ⟨p, 3, none⟩ = some (.slice a m c)) (hm : ∃ r, r ≤ 16 ∧ m = 2 ^ r) (hx : x < 4294967296) :
    Calls Try.prog 23 #[.pointer (some ⟨p, 0, none⟩), .int .u32 (x : Nat)] w fun e w' => e = .returned (.int .i64 ((x % m : Nat) : Int)) ∧ w = w' := by
  obtain ⟨r, hr, rfl⟩ := hm
  have hb := row_bits x r hx hr
  have HB := Lib.hid hb
  have hp : (2 : Nat) ^ r ≤ 2 ^ 16 := Nat.pow_le_pow_right (by decide) hr
  have hp0 : 0 < (2 : Nat) ^ r := Nat.pow_pos (by decide)
  clear hb
  generalize (2 : Nat) ^ r = m at *
  go_enter Try.func23, Try.ntmps23
  go_wp2
  go_ret
  exact ⟨ret_int HB.out, rfl⟩

/-- What Find answers: the text's number, or that there is none. -/
def FindAns (n tgt : Nat) (e : Ending) : Prop := e = .returned (.tuple #[.int .i64 ((if tgt < n then tgt else 0 : Nat) : Int), .bool (decide (tgt < n))])
def ChainAt (m : Nat) (texts : List ByteArray) (R tgt : Nat) (v : Value) : Prop :=
  (v = .int .i64 (-1) ∧ ¬ tgt < texts.length) ∨ ∃ i : Nat, v = .int .i64 i ∧ i < texts.length ∧ Tab.rw m texts i = R ∧ (tgt < texts.length → tgt ≤ i)
theorem chain_step (m : Nat) (texts : List ByteArray) (R tgt i : Nat) (hi : i ≤ texts.length) (hrow : tgt < texts.length → Tab.rw m texts tgt = R) (h : tgt < texts.length → tgt < i) :
    ChainAt m texts R tgt (.int .i64 (((Tab.prev m texts R i : Nat) : Int) - 1)) := by
  have hle := Tab.prev_le m texts R i
  have hr := Tab.prev_row m texts R i
  have hn := Tab.prev_none m texts R i
  by_cases h0 : Tab.prev m texts R i = 0
  · refine Or.inl ⟨by rw [h0]; rfl, fun ht => ?_⟩
    exact hn tgt (by omega) (h ht) (hrow ht)
  · refine Or.inr ⟨Tab.prev m texts R i - 1, by rw [show ((Tab.prev m texts R i : Nat) : Int) - 1 = ((Tab.prev m texts R i - 1 : Nat) : Int) by omega], by omega, hr (by omega), fun ht => ?_⟩
    rcases Nat.lt_or_ge tgt (Tab.prev m texts R i) with h1 | h1
    · omega
    · exact absurd (hrow ht) (hn tgt h1 (h ht))
set_option maxHeartbeats 1000000 in
theorem find_any (B p m : Nat) (texts : List ByteArray) (vt vs va vl : Value) (s : ByteArray) (w : World) (h : IsTab w B p m texts vt vs va vl) (hs : s.size ≤ 9223372036854775807) (hn : texts.length ≤ 1000000)
    (tgt : Nat) (htgt : tgt < texts.length → texts.getD tgt ByteArray.empty = s) (hne : ∀ k, k < texts.length → k ≠ tgt → texts.getD k ByteArray.empty ≠ s) :
    Calls Try.prog 11 #[.pointer (some ⟨p, 0, none⟩), .string s] w fun e w' => FindAns texts.length tgt e ∧ ∃ n, w' = w.drewN n := by
  obtain ⟨gl, cl, hvl, _, hcl, hcm, _⟩ := own_some h.olast h.pos.1
  subst hvl
  have h0 := cell_of_cells h.block 0
  have h1 := cell_of_cells h.block 1
  have h2 := cell_of_cells h.block 2
  have h3 := cell_of_cells h.block 3
  simp only [List.getElem?_toArray, List.getElem?_cons_zero, List.getElem?_cons_succ] at h0 h1 h2 h3
  have hpos := h.pos
  have hsl := Tab.sm_lt s
  have hrow := fun w (hc : w.cell? ⟨p, 3, none⟩ = some (.slice (some ⟨gl, 0, none⟩) m cl)) => row_any p _ m cl (Tab.sm s) w hc h.pow hsl
  have HROW := Lib.hid hrow
  have hmade := made_any p _ m cl w h3 hpos.1
  have HMADE := Lib.hid hmade
  have hsum : ∀ w, Calls Try.prog 21 #[.string s] w fun e w' => e = .returned (.int .u32 (Tab.sm s : Nat)) ∧ w = w' := fun w => sum32_any s w hs
  have HSUM := Lib.hid hsum
  have hlc := h.olast.cellAt (Tab.sm s % m) (by have := Nat.mod_lt (Tab.sm s) hpos.1; omega)
  have hmod := Nat.mod_lt (Tab.sm s) hpos.1
  unfold Tab.lasts at hlc
  rw [List.getElem?_map, List.getElem?_range hmod, Option.map_some] at hlc
  have hpl := Tab.prev_le m texts (Tab.sm s % m) texts.length
  have hrt : tgt < texts.length → Tab.rw m texts tgt = Tab.sm s % m := fun ht => by unfold Tab.rw; rw [htgt ht]
  have HSTEP := Lib.hid (fun i hi => chain_step m texts (Tab.sm s % m) tgt i hi hrt)
  have hsame : ∀ i, i < texts.length → texts.getD i ByteArray.empty = s → Tab.sm (texts.getD i ByteArray.empty) = Tab.sm s := fun i _ he => by rw [he]
  have HSAME := Lib.hid hsame
  have HNE := Lib.hid hne
  have HTGT := Lib.hid htgt
  clear hrow hmade hsum hrt hsame hne htgt
  generalize hR : Tab.sm s % m = R at *
  clear hR
  by_cases hn0 : texts.length = 0
  · have hans : FindAns texts.length tgt (.returned (.tuple #[.int .i64 0, .bool false])) := by unfold FindAns; rw [if_neg (by omega)]; simp; omega
    have HA := Lib.hid hans
    have hJ : Tab.prev m texts R texts.length = 0 := by omega
    rw [hJ] at hlc
    clear hans hJ hpl hn0
    go_enter Try.func11, Try.ntmps11
    go_wp2_with fail
    refine (HMADE.out).mono ?_
    rintro e w1 ⟨rfl, rfl⟩
    go_wp2_with fail
    refine (HSUM.out _).mono ?_
    rintro e w1 ⟨rfl, rfl⟩
    go_wp2_with fail
    go_quiet ((go_at_call 23; exact Calls.quiet_of_same ((HROW.out _ (by simpa using h3)).mono (fun _ _ hq => ⟨hq.1, hq.2.symm⟩))))
    go_wp2
    refine wp_loop_rounds 1 ?_
    rw [rounds_succ]
    go_wp2
    go_ret2
    exact ⟨HA.out, _, rfl⟩
  · obtain ⟨gt, ct, hvt, _, hct, hctm, _⟩ := own_some h.otexts (by omega)
    obtain ⟨gs, cs, hvs, _, hcs, hcsm, _⟩ := own_some h.osums (by omega)
    obtain ⟨ga, ca, hva, _, hca, hcam, _⟩ := own_some h.oahead (by omega)
    subst hvt hvs hva
    have HT := Lib.hid (fun i (hi : i < texts.length) => h.otexts.cellAt i (by omega))
    have HS := Lib.hid (fun i (hi : i < texts.length) => h.osums.cellAt i (by omega))
    have HAH := Lib.hid (fun i (hi : i < texts.length) => h.oahead.cellAt i (by omega))
    have hst := HSTEP.out texts.length (Nat.le_refl _) (fun ht => ht)
    have HST := Lib.hid hst
    clear hst h
    generalize hJ : Tab.prev m texts R texts.length = J at *
    clear hJ
    go_enter Try.func11, Try.ntmps11
    go_wp2_with fail
    refine (HMADE.out).mono ?_
    rintro e w1 ⟨rfl, rfl⟩
    go_wp2_with fail
    refine (HSUM.out _).mono ?_
    rintro e w1 ⟨rfl, rfl⟩
    go_wp2_with fail
    go_quiet ((go_at_call 23; exact Calls.quiet_of_same ((HROW.out _ (by simpa using h3)).mono (fun _ _ hq => ⟨hq.1, hq.2.symm⟩))))
    go_wp2
    go_loop [7] (fun v7 => ChainAt m texts R tgt v7) (fun v7 => (intOf v7 + 1).toNat)
    case atStart => exact HST.out
    case round =>
      rcases hrel with ⟨rfl, hno⟩ | ⟨i, rfl, hi, hri, hti⟩
      · go_wp2
        go_ret2
        exact ⟨by unfold FindAns; rw [if_neg hno]; simp; omega, _, rfl⟩
      · have hcs := HS.out i hi
        have hct := HT.out i hi
        have hca := HAH.out i hi
        unfold Tab.sums at hcs
        unfold Tab.strs at hct
        unfold Tab.aheads at hca
        rw [List.getElem?_map] at hcs hct hca
        rw [List.getElem?_range hi] at hca
        rw [List.getElem?_eq_getElem hi] at hcs hct
        simp only [Option.map_some] at hcs hct hca
        have hgd : texts.getD i ByteArray.empty = texts[i] := by rw [List.getD_eq_getElem?_getD, List.getElem?_eq_getElem hi]; rfl
        have hnx := HSTEP.out i (by omega)
        rw [hri] at hca
        have hxs := HSAME.out i hi
        have hxt : i = tgt → texts[i] = s := fun he => by subst he; rw [← hgd]; exact HTGT.out hi
        have hxn : i ≠ tgt → texts[i] ≠ s := fun he => by rw [← hgd]; exact HNE.out i hi he
        rw [hgd] at hxs
        clear hgd
        generalize hT : texts[i] = t at *
        clear hT
        have hsl2 := Tab.sm_lt t
        have hpl2 := Tab.prev_le m texts R i
        generalize hQ : Tab.prev m texts R i = q at *
        clear hQ hri
        by_cases hit : i = tgt
        · have e := hxt hit
          subst e
          have hans : FindAns texts.length tgt (.returned (.tuple #[.int .i64 i, .bool true])) := by unfold FindAns; rw [if_pos (by omega), hit]; simp; omega
          have HANS := Lib.hid hans
          clear hans hnx hxs hxt hxn hit hti
          go_wp2
          go_ret2
          exact ⟨HANS.out, _, rfl⟩
        · have e := hxn hit
          have hnx' := hnx (fun ht => by have := hti ht; omega)
          have HNX := Lib.hid hnx'
          have e2 : (t.toList == s.toList) = false := by rw [bytes_beq, decide_eq_false e]
          clear hnx hnx' hxs hxt hxn hti
          by_cases hsm : Tab.sm t = Tab.sm s
          · have e1 : (((Tab.sm t : Nat) : Int) == ((Tab.sm s : Nat) : Int)) = true := by rw [hsm]; simp
            clear hsm hit
            go_wp2
            go_round
            case rel => exact HNX.out
            case measure => simp [intOf]; omega
          · have e1 : (((Tab.sm t : Nat) : Int) == ((Tab.sm s : Nat) : Int)) = false := by simp; omega
            clear hsm hit
            go_wp2
            go_round
            case rel => exact HNX.out
            case measure => simp [intOf]; omega
end Go.Proofs.Ytkambjfhhmgniaa
