/-
  The law of where ways lead: by a walk.
-/
import Derived.Test.YtlmecpghlgndnaaPathLead
namespace Go.Proofs.Ytlmecpghlgndnaa
open Go.RowKit
set_option linter.unusedVariables false
set_option linter.unusedSimpArgs false

set_option maxRecDepth 100000 in
set_option maxHeartbeats 16000000 in
theorem pathLeads_walk (a : Option Addr) (c : Nat) (nx : List (List Int)) (f : Int) (v : Value) (w : World) (hl : RdG w a nx) (hm : nx.length ≤ maxLen) (hmr : ∀ i, (Lb.row nx i).length ≤ maxLen) (hv : Ask w v) :
    Calls Try.prog 8 #[.slice a nx.length c, .int .i64 f, v] w fun e w' => e = .returned (.bool true) ∧ Below w.heap.size w w' := by
  have hu : ∀ b : Bool, ¬ (some undef = some (Value.bool b)) := fun b h => by cases h
  obtain ⟨a2, a3, c2, c3, A, Bs, rfl, hA, hB⟩ := hv
  have bw := below_new w (.cells #[.slice a2 A.length c2, .slice a3 Bs.length c3] 32)
  have HI := Lib.hid (And.intro (hl.mono bw (Nat.le_refl _)) (And.intro (hA.mono bw (Nat.le_refl _)) (And.intro (hB.mono bw (Nat.le_refl _)) bw)))
  have GR := Lib.hid (great_any a c nx _ (hl.mono bw (Nat.le_refl _)) hm hmr)
  have hwl : nx.length ≤ 9223372036854775807 := by unfold maxLen at hm; omega
  clear hl hm hmr hA hB bw
  go_enter Try.func8, Try.ntmps8
  go_wp2_with fail
  refine (GR.out).mono ?_
  rintro e w1 ⟨b, rfl, hb, rfl⟩
  clear GR
  cases b with
  | true =>
    go_wp2_with fail
    refine (awake35_any _).mono ?_
    rintro e w3 ⟨rfl, hb3⟩
    go_wp2_with fail
    go_ret
    exact ⟨rfl, (HI.out).2.2.2.trans (hb3.mono (HI.out).2.2.2.size)⟩
  | false =>
    obtain ⟨hn, hr⟩ := hb rfl
    clear hb
    have hr1 : ∀ i, (Lb.row nx i).length ≤ 1000 := fun i => by have := hr i; omega
    obtain ⟨F, hF⟩ := eg_has nx A
    have hsz1 : (w.alloc (.cells #[.slice a2 A.length c2, .slice a3 Bs.length c3] 32)).heap.size = w.heap.size + 1 := by simp
    obtain ⟨W1, hW1⟩ : ∃ W1, W1 = w.alloc (.cells #[.slice a2 A.length c2, .slice a3 Bs.length c3] 32) := ⟨_, rfl⟩
    have HW := Lib.hid hW1
    have H0 : ∀ w', Below (w.heap.size + 1) W1 w' → RdG w' a nx ∧ Reads w' a2 (A.map Value.bool) ∧ Reads w' a3 (Bs.map Value.bool) := fun w' hb => by
      rw [hW1] at hb
      exact ⟨(HI.out).1.mono hb (by simp), (HI.out).2.1.mono hb (by simp), (HI.out).2.2.1.mono hb (by simp)⟩
    have HBX : Hid (∀ w', Below (w.heap.size + 1) W1 w' → w'.cell? ⟨w.heap.size, 0, none⟩ = some (.slice a2 A.length c2) ∧ w'.cell? ⟨w.heap.size, 1, none⟩ = some (.slice a3 Bs.length c3)) := Lib.hid (fun w' hb => by rw [hW1] at hb; exact box_stays hb)
    have HE : Hid (∀ (xa : Option Addr) (xc : Nat) (R : List Int) (w' : World), Below (w.heap.size + 1) W1 w' → Reads w' xa (R.map (Value.int .i64)) → R.length ≤ 1000 → ∀ i, i ≤ R.length → Calls Try.prog 27 #[.slice a nx.length c, .int .i64 f, .slice xa i xc] w' fun e w2 => e = .returned (Pa.ans (Pa.ends nx f (R.take i))) ∧ w' = w2) := Lib.hid (fun xa xc R w' hb hR hRl i hi => by
      have h := ends_any a xa c xc nx (R.take i) f w' (H0 w' hb).1 (by rw [List.map_take]; exact hR.take i) (by omega) hr1 (by simp; omega)
      rw [show (R.take i).length = i by simp; omega] at h
      exact h)
    have IA := Lib.hid (fun (i : Int) (w' : World) (hb : Below (w.heap.size + 1) W1 w') => ris_any a2 c2 A i w' (H0 w' hb).2.1)
    have IB := Lib.hid (fun (i : Int) (w' : World) (hb : Below (w.heap.size + 1) W1 w') => ris_any a3 c3 Bs i w' (H0 w' hb).2.2)
    have SH := Lib.hid (shortest_any a a2 a3 c c2 c3 nx f A Bs _ (HI.out).1 (HI.out).2.1 (HI.out).2.2.1 (by omega) hr1)
    have EUC := Lib.hid (fun (w' : World) (hb : Below (w.heap.size + 1) W1 w') => reu_any a a2 a3 c c2 c3 nx A Bs w' (H0 w' hb).1 (H0 w' hb).2.1 (H0 w' hb).2.2 (by omega) hr1)
    have EGC := Lib.hid (fun (w' : World) (hb : Below (w.heap.size + 1) W1 w') => reg_any a a2 c c2 nx A w' (H0 w' hb).1 (H0 w' hb).2.1 (by omega) hr1)
    have LSC := Lib.hid (fun (w' : World) (hb : Below (w.heap.size + 1) W1 w') => lasso_any a a2 c c2 nx f A F w' (H0 w' hb).1 (H0 w' hb).2.1 hF (by omega) hr1)
    have HF := Lib.hid hF
    have hz1 : W1.heap.size = w.heap.size + 1 := by rw [hW1]; exact hsz1
    have HWB : Hid (Below w.heap.size w W1) := Lib.hid (by rw [hW1]; exact (HI.out).2.2.2)
    clear hr hr1 hF H0
    go_wp2_with fail
    refine (SH.out).mono ?_
    intro e w2 hq
    rw [← hW1] at hq
    clear hW1 HI SH hsz1
    have eufact : Hid (∀ (w3 : World) (x : Value) (S : List Bool), Lb.IsSet nx.length (Lb.EU nx A Bs) S → w3.ownsRow w2.heap.size 4 1 x S.length (S.map Value.bool) → Calls Try.prog 19 #[x, .int .i64 f] w3 fun e w4 => e = .returned (.bool (Pa.shortest nx A Bs f).isSome) ∧ w3 = w4) := Lib.hid (fun w3 x S hS hO => by
      obtain ⟨xa, xc, hx, hR⟩ := Reads.of_own hO
      subst hx
      rw [List.length_map, Pa.shortest_some hS]
      exact ris_any xa xc S f w3 hR)
    have egfact : Hid (∀ (w4 w5 : World) (x : Value) (S : List Bool), Lb.IsSet nx.length (Lb.EG nx A) S → w5.ownsRow w4.heap.size 4 1 x S.length (S.map Value.bool) → Calls Try.prog 19 #[x, .int .i64 f] w5 fun e w6 => e = .returned (.bool (Pa.lasso nx F f).isSome) ∧ w5 = w6) := Lib.hid (fun w4 w5 x S hS hO => by
      have hSF := Lb.isSet_one hS HF.out
      subst hSF
      obtain ⟨xa, xc, hx, hR⟩ := Reads.of_own hO
      subst hx
      rw [List.length_map, Pa.lasso_some HF.out.1]
      exact ris_any xa xc S f w5 hR)
    cases hS : Pa.shortest nx A Bs f with
    | none =>
      rw [hS] at hq eufact
      obtain ⟨rfl, b2⟩ := hq
      rw [hz1] at b2
      have B2 := Lib.hid b2
      obtain ⟨bx0, bx1⟩ := HBX.out w2 b2
      clear b2 hS
      go_wp2_with fail
      refine (EUC.out w2 B2.out).mono ?_
      rintro e w3 ⟨x, S, rfl, hSS, ownS, b3⟩
      have B3 := Lib.hid (B2.out.trans (b3.mono (by have := B2.out.size; omega)))
      have EF := Lib.hid (eufact.out w3 x S hSS ownS)
      obtain ⟨bx0', bx1'⟩ := HBX.out w3 B3.out
      clear hSS ownS b3 bx0 bx1 eufact
      go_wp2_with fail
      refine EF.out.mono ?_
      rintro e w4 ⟨rfl, rfl⟩
      go_wp2_with fail
      refine wp_loop_rounds 1 ?_
      rw [rounds_succ]
      go_wp2_with fail
      refine (LSC.out w3 B3.out).mono ?_
      intro e w4 hq
      cases hL : Pa.lasso nx F f with
      | none =>
        rw [hL] at hq egfact
        obtain ⟨rfl, b4⟩ := hq
        have B4 := Lib.hid (B3.out.trans (b4.mono (by have := B3.out.size; omega)))
        obtain ⟨bx0q, bx1q⟩ := HBX.out w4 B4.out
        clear b4 hL
        go_wp2_with fail
        refine (EGC.out w4 B4.out).mono ?_
        rintro e w5 ⟨y, S5, rfl, hS5, own5, b5⟩
        have B5 := Lib.hid (B4.out.trans (b5.mono (by have := B4.out.size; omega)))
        have GF := Lib.hid (egfact.out w4 w5 y S5 hS5 own5)
        clear hS5 own5 b5 egfact
        go_wp2_with fail
        refine GF.out.mono ?_
        rintro e w6 ⟨rfl, rfl⟩
        go_wp2_with fail
        refine (awake35_any _).mono ?_
        rintro e w7 ⟨rfl, b7⟩
        go_wp2_with fail
        go_ret
        have bE := HWB.out.trans (B5.out.mono (by omega))
        exact ⟨rfl, bE.trans (b7.mono bE.size)⟩
      | some Rn =>
        obtain ⟨R2, n2⟩ := Rn
        have hR2l := lasso_len hL
        obtain ⟨hn2, hT2, hT3⟩ := Pa.lasso_take HF.out hL
        have HT2 := Lib.hid (And.intro hT2 hT3)
        rw [hL] at hq egfact
        obtain ⟨y, rfl, own4, b4⟩ := hq
        obtain ⟨ya, yc, hye, hry⟩ := Reads.of_ints own4
        subst hye
        have hcap2 : R2.length ≤ yc := by
          rcases own4.2 with ⟨hv, h0⟩ | ⟨g, cap, cur, hv, _, _, hle, _⟩
          · omega
          · simp only [Value.slice.injEq] at hv
            omega
        have B4 := Lib.hid (B3.out.trans (b4.mono (by have := B3.out.size; omega)))
        have hR4 := Lib.hid hry
        obtain ⟨bx0q, bx1q⟩ := HBX.out w4 B4.out
        have hdn1 : decide ((n2 : Int) < 0) = false := decide_eq_false (by omega)
        have hdn2 : decide (R2.length ≤ n2) = false := decide_eq_false (by omega)
        clear b4 hL own4 hry hT2 hT3
        go_wp2_with fail
        refine (EGC.out w4 B4.out).mono ?_
        rintro e w5 ⟨z, S5, rfl, hS5, own5, b5⟩
        have B5 := Lib.hid (B4.out.trans (b5.mono (by have := B4.out.size; omega)))
        have hR5 := Lib.hid (hR4.out.mono b5 (Nat.le_refl _))
        have GF := Lib.hid (egfact.out w4 w5 z S5 hS5 own5)
        obtain ⟨bx0r, bx1r⟩ := HBX.out w5 B5.out
        clear hS5 own5 b5 egfact bx0q bx1q
        go_wp2_with fail
        refine GF.out.mono ?_
        rintro e w6 ⟨rfl, rfl⟩
        go_wp2_with fail
        go_loopw [15] (fun v15 wr => ∃ i : Nat, i ≤ R2.length + 1 ∧ v15 = .int .i64 i ∧ w5 = wr) (fun v15 _ => R2.length + 1 - (intOf v15).toNat)
        case atStart => exact ⟨0, by omega, rfl, rfl⟩
        case round =>
          obtain ⟨i, hi, rfl, rfl⟩ := hrel
          by_cases hil : i ≤ R2.length
          · obtain ⟨q, hq1, hq2⟩ := (HT2.out).1 i hil
            have EI := Lib.hid (HE.out ya yc R2 w5 B5.out hR5.out (by omega) i hil)
            rw [hq1] at EI
            have EI2 : Hid (Calls Try.prog 27 #[.slice a nx.length c, .int .i64 f, .slice ya i yc] w5 fun e w2 => e = .returned (.tuple #[.int .i64 (q : Int), .bool true]) ∧ w5 = w2) := EI
            have IA2 := Lib.hid (IA.out (q : Int) w5 B5.out)
            rw [Int.toNat_natCast, decide_eq_true (show (0 : Int) ≤ q by omega), Bool.true_and, hq2] at IA2
            clear EI hq1 hq2
            go_wp2_with (first | (go_at_call 27; refine EI2.out.mono ?_; rintro e w8 ⟨rfl, rfl⟩) | (go_at_call 19; with_reducible refine IA2.out.mono ?_; rintro e w8 ⟨rfl, rfl⟩))
            go_roundw
            case rel => exact ⟨i + 1, by omega, by go_num, trivial⟩
            case measure => simp [intOf] <;> omega
          · obtain ⟨q, hq1, _⟩ := (HT2.out).1 R2.length (Nat.le_refl _)
            rw [List.take_of_length_le (Nat.le_refl _)] at hq1
            have EI := Lib.hid (HE.out ya yc R2 w5 B5.out hR5.out (by omega) n2 (by omega))
            have EJ := Lib.hid (HE.out ya yc R2 w5 B5.out hR5.out (by omega) R2.length (Nat.le_refl _))
            rw [(HT2.out).2, hq1] at EI
            rw [List.take_of_length_le (Nat.le_refl _), hq1] at EJ
            have EI2 : Hid (Calls Try.prog 27 #[.slice a nx.length c, .int .i64 f, .slice ya n2 yc] w5 fun e w2 => e = .returned (.tuple #[.int .i64 (q : Int), .bool true]) ∧ w5 = w2) := EI
            have EJ2 : Hid (Calls Try.prog 27 #[.slice a nx.length c, .int .i64 f, .slice ya R2.length yc] w5 fun e w2 => e = .returned (.tuple #[.int .i64 (q : Int), .bool true]) ∧ w5 = w2) := EJ
            have hqq : ((q : Int) == (q : Int)) = true := by simp
            have hn2c : n2 ≤ yc := by omega
            clear EI EJ hq1
            go_wp2_with fail
            refine EI2.out.mono ?_
            rintro e w8 ⟨rfl, rfl⟩
            go_wp2_with fail
            refine EJ2.out.mono ?_
            rintro e w8 ⟨rfl, rfl⟩
            go_wp2_with fail
            refine (awake35_any _).mono ?_
            rintro e w7 ⟨rfl, b7⟩
            go_wp2_with fail
            go_ret
            have bE := HWB.out.trans (B5.out.mono (by omega))
            exact ⟨rfl, bE.trans (b7.mono bE.size)⟩
    | some R =>
      rw [hS] at hq eufact
      have hRl := shortest_len hS
      have HT := Lib.hid (Pa.shortest_take hS)
      obtain ⟨x, rfl, own2, b2⟩ := hq
      rw [hz1] at b2
      obtain ⟨xa, xc, hxe, hrx⟩ := Reads.of_ints own2
      subst hxe
      have B2 := Lib.hid (And.intro b2 hrx)
      obtain ⟨bx0, bx1⟩ := HBX.out w2 b2
      have hsz2 := b2.size
      have hcap : R.length ≤ xc := by
        rcases own2.2 with ⟨hv, h0⟩ | ⟨g, cap, cur, hv, _, _, hle, _⟩
        · omega
        · simp only [Value.slice.injEq] at hv
          omega
      clear b2 hS own2 hrx
      go_wp2_with fail
      refine (EUC.out w2 (B2.out).1).mono ?_
      rintro e w3 ⟨x, S, rfl, hSS, ownS, b3⟩
      have B3 := Lib.hid ((B2.out).1.trans (b3.mono (by omega)))
      have hR3 := Lib.hid ((B2.out).2.mono b3 (Nat.le_refl _))
      have EF := Lib.hid (eufact.out w3 x S hSS ownS)
      obtain ⟨bx0', bx1'⟩ := HBX.out w3 B3.out
      clear hSS ownS b3 bx0 bx1 eufact
      go_wp2_with fail
      refine EF.out.mono ?_
      rintro e w4 ⟨rfl, rfl⟩
      go_wp2_with fail
      go_loopw [9] (fun v9 wr => ∃ i : Nat, i ≤ R.length + 1 ∧ v9 = .int .i64 i ∧ w3 = wr) (fun v9 _ => R.length + 1 - (intOf v9).toNat)
      case atStart => exact ⟨0, by omega, rfl, rfl⟩
      case round =>
        obtain ⟨i, hi, rfl, rfl⟩ := hrel
        by_cases hil : i ≤ R.length
        · obtain ⟨q, hq1, hq2, hq3⟩ := HT.out i hil
          have EI := Lib.hid (HE.out xa xc R w3 B3.out hR3.out (by omega) i hil)
          rw [hq1] at EI
          have EI2 : Hid (Calls Try.prog 27 #[.slice a nx.length c, .int .i64 f, .slice xa i xc] w3 fun e w2 => e = .returned (.tuple #[.int .i64 (q : Int), .bool true]) ∧ w3 = w2) := EI
          have IA2 := Lib.hid (IA.out (q : Int) w3 B3.out)
          have IB2 := Lib.hid (IB.out (q : Int) w3 B3.out)
          rw [Int.toNat_natCast, decide_eq_true (show (0 : Int) ≤ q by omega), Bool.true_and] at IA2 IB2
          clear EI hq1
          by_cases hlt : i < R.length
          · rw [(hq2 hlt).1] at IA2
            rw [(hq2 hlt).2] at IB2
            have hne : ((i : Int) == (R.length : Int)) = false := by rw [beq_eq_false_iff_ne]; omega
            clear hq2 hq3
            go_wp2_with (first | (go_at_call 27; refine EI2.out.mono ?_; rintro e w8 ⟨rfl, rfl⟩) | (go_at_call 19; with_reducible refine IA2.out.mono ?_; rintro e w8 ⟨rfl, rfl⟩) | (go_at_call 19; with_reducible refine IB2.out.mono ?_; rintro e w8 ⟨rfl, rfl⟩))
            go_roundw
            case rel => exact ⟨i + 1, by omega, by go_num, trivial⟩
            case measure => simp [intOf] <;> omega
          · have hie : i = R.length := by omega
            rw [hq3 hie] at IB2
            have hne : ((i : Int) == (R.length : Int)) = true := by rw [hie]; simp
            clear hq2 hq3 hie
            go_wp2_with (first | (go_at_call 27; refine EI2.out.mono ?_; rintro e w8 ⟨rfl, rfl⟩) | (go_at_call 19; with_reducible refine IB2.out.mono ?_; rintro e w8 ⟨rfl, rfl⟩))
            go_roundw
            case rel => exact ⟨i + 1, by omega, by go_num, trivial⟩
            case measure => simp [intOf] <;> omega
        · go_wp2_with fail
          refine (LSC.out w3 B3.out).mono ?_
          intro e w4 hq
          cases hL : Pa.lasso nx F f with
          | none =>
            rw [hL] at hq egfact
            obtain ⟨rfl, b4⟩ := hq
            have B4 := Lib.hid (B3.out.trans (b4.mono (by have := B3.out.size; omega)))
            obtain ⟨bx0q, bx1q⟩ := HBX.out w4 B4.out
            clear b4 hL
            go_wp2_with fail
            refine (EGC.out w4 B4.out).mono ?_
            rintro e w5 ⟨y, S5, rfl, hS5, own5, b5⟩
            have B5 := Lib.hid (B4.out.trans (b5.mono (by have := B4.out.size; omega)))
            have GF := Lib.hid (egfact.out w4 w5 y S5 hS5 own5)
            clear hS5 own5 b5 egfact
            go_wp2_with fail
            refine GF.out.mono ?_
            rintro e w6 ⟨rfl, rfl⟩
            go_wp2_with fail
            refine (awake35_any _).mono ?_
            rintro e w7 ⟨rfl, b7⟩
            go_wp2_with fail
            go_ret
            have bE := HWB.out.trans (B5.out.mono (by omega))
            exact ⟨rfl, bE.trans (b7.mono bE.size)⟩
          | some Rn =>
            obtain ⟨R2, n2⟩ := Rn
            have hR2l := lasso_len hL
            obtain ⟨hn2, hT2, hT3⟩ := Pa.lasso_take HF.out hL
            have HT2 := Lib.hid (And.intro hT2 hT3)
            rw [hL] at hq egfact
            obtain ⟨y, rfl, own4, b4⟩ := hq
            obtain ⟨ya, yc, hye, hry⟩ := Reads.of_ints own4
            subst hye
            have hcap2 : R2.length ≤ yc := by
              rcases own4.2 with ⟨hv, h0⟩ | ⟨g, cap, cur, hv, _, _, hle, _⟩
              · omega
              · simp only [Value.slice.injEq] at hv
                omega
            have B4 := Lib.hid (B3.out.trans (b4.mono (by have := B3.out.size; omega)))
            have hR4 := Lib.hid hry
            obtain ⟨bx0q, bx1q⟩ := HBX.out w4 B4.out
            have hdn1 : decide ((n2 : Int) < 0) = false := decide_eq_false (by omega)
            have hdn2 : decide (R2.length ≤ n2) = false := decide_eq_false (by omega)
            clear b4 hL own4 hry hT2 hT3
            go_wp2_with fail
            refine (EGC.out w4 B4.out).mono ?_
            rintro e w5 ⟨z, S5, rfl, hS5, own5, b5⟩
            have B5 := Lib.hid (B4.out.trans (b5.mono (by have := B4.out.size; omega)))
            have hR5 := Lib.hid (hR4.out.mono b5 (Nat.le_refl _))
            have GF := Lib.hid (egfact.out w4 w5 z S5 hS5 own5)
            obtain ⟨bx0r, bx1r⟩ := HBX.out w5 B5.out
            clear hS5 own5 b5 egfact bx0q bx1q
            go_wp2_with fail
            refine GF.out.mono ?_
            rintro e w6 ⟨rfl, rfl⟩
            go_wp2_with fail
            go_loopw [15] (fun v15 wr => ∃ i : Nat, i ≤ R2.length + 1 ∧ v15 = .int .i64 i ∧ w5 = wr) (fun v15 _ => R2.length + 1 - (intOf v15).toNat)
            case atStart => exact ⟨0, by omega, rfl, rfl⟩
            case round =>
              obtain ⟨i, hi, rfl, rfl⟩ := hrel
              by_cases hil : i ≤ R2.length
              · obtain ⟨q, hq1, hq2⟩ := (HT2.out).1 i hil
                have EI := Lib.hid (HE.out ya yc R2 w5 B5.out hR5.out (by omega) i hil)
                rw [hq1] at EI
                have EI2 : Hid (Calls Try.prog 27 #[.slice a nx.length c, .int .i64 f, .slice ya i yc] w5 fun e w2 => e = .returned (.tuple #[.int .i64 (q : Int), .bool true]) ∧ w5 = w2) := EI
                have IA2 := Lib.hid (IA.out (q : Int) w5 B5.out)
                rw [Int.toNat_natCast, decide_eq_true (show (0 : Int) ≤ q by omega), Bool.true_and, hq2] at IA2
                clear EI hq1 hq2
                go_wp2_with (first | (go_at_call 27; refine EI2.out.mono ?_; rintro e w8 ⟨rfl, rfl⟩) | (go_at_call 19; with_reducible refine IA2.out.mono ?_; rintro e w8 ⟨rfl, rfl⟩))
                go_roundw
                case rel => exact ⟨i + 1, by omega, by go_num, trivial⟩
                case measure => simp [intOf] <;> omega
              · obtain ⟨q, hq1, _⟩ := (HT2.out).1 R2.length (Nat.le_refl _)
                rw [List.take_of_length_le (Nat.le_refl _)] at hq1
                have EI := Lib.hid (HE.out ya yc R2 w5 B5.out hR5.out (by omega) n2 (by omega))
                have EJ := Lib.hid (HE.out ya yc R2 w5 B5.out hR5.out (by omega) R2.length (Nat.le_refl _))
                rw [(HT2.out).2, hq1] at EI
                rw [List.take_of_length_le (Nat.le_refl _), hq1] at EJ
                have EI2 : Hid (Calls Try.prog 27 #[.slice a nx.length c, .int .i64 f, .slice ya n2 yc] w5 fun e w2 => e = .returned (.tuple #[.int .i64 (q : Int), .bool true]) ∧ w5 = w2) := EI
                have EJ2 : Hid (Calls Try.prog 27 #[.slice a nx.length c, .int .i64 f, .slice ya R2.length yc] w5 fun e w2 => e = .returned (.tuple #[.int .i64 (q : Int), .bool true]) ∧ w5 = w2) := EJ
                have hqq : ((q : Int) == (q : Int)) = true := by simp
                have hn2c : n2 ≤ yc := by omega
                clear EI EJ hq1
                go_wp2_with fail
                refine EI2.out.mono ?_
                rintro e w8 ⟨rfl, rfl⟩
                go_wp2_with fail
                refine EJ2.out.mono ?_
                rintro e w8 ⟨rfl, rfl⟩
                go_wp2_with fail
                refine (awake35_any _).mono ?_
                rintro e w7 ⟨rfl, b7⟩
                go_wp2_with fail
                go_ret
                have bE := HWB.out.trans (B5.out.mono (by omega))
                exact ⟨rfl, bE.trans (b7.mono bE.size)⟩
end Go.Proofs.Ytlmecpghlgndnaa
