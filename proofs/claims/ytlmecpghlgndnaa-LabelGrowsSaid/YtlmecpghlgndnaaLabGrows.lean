/-
  LabelGrows: by a walk.
-/
import Derived.Test.YtlmecpghlgndnaaLabFixed
import Derived.Test.YtlmecpghlgndnaaLabAnd
namespace Go.Proofs.Ytlmecpghlgndnaa
open Go.RowKit
set_option linter.unusedVariables false
set_option linter.unusedSimpArgs false

theorem eu_more {nx : List (List Int)} {A Bs Cs : List Bool} (h : ∀ i, Lb.inB Cs i = true → Lb.inB Bs i = true) {i : Nat} (hE : Lb.EU nx A Cs i) : Lb.EU nx A Bs i := by
  induction hE with
  | base i hi hb => exact Lb.EU.base i hi (h i hb)
  | step i t hi ha hE _ ih => exact Lb.EU.step i t hi ha hE ih
theorem eg_more {nx : List (List Int)} {A Cs : List Bool} (h : ∀ i, Lb.inB Cs i = true → Lb.inB A i = true) {i : Nat} (hE : Lb.EG nx Cs i) : Lb.EG nx A i := by
  obtain ⟨S, hi, hS⟩ := hE
  exact ⟨S, hi, fun j hj => ⟨(hS j hj).1, h j (hS j hj).2.1, (hS j hj).2.2⟩⟩
/-- A set that was handed back lies in another one. -/
def Sub (n : Nat) (F G : List Bool) : Prop := F.length = n ∧ G.length = n ∧ ∀ i, i < n → Lb.inB F i = true → Lb.inB G i = true
theorem sub_of {n : Nat} {S T : Nat → Prop} {F G : List Bool} (hF : Lb.IsSet n S F) (hG : Lb.IsSet n T G) (h : ∀ i, S i → T i) : Sub n F G :=
  ⟨hF.1, hG.1, fun i hi hf => (hG.2 i hi).2 (h i ((hF.2 i hi).1 hf))⟩
set_option maxHeartbeats 1000000 in
theorem labelGrows_walk (a a2 a3 : Option Addr) (c c2 c3 : Nat) (nx : List (List Int)) (A Bs : List Bool) (w : World) (hl : RdG w a nx) (hm : nx.length ≤ maxLen) (hmr : ∀ i, (Lb.row nx i).length ≤ maxLen) (hA : Reads w a2 (A.map Value.bool)) (hAm : A.length ≤ maxLen) (hB : Reads w a3 (Bs.map Value.bool)) (hBm : Bs.length ≤ maxLen) :
    Calls Try.prog 5 #[.slice a nx.length c, .slice a2 A.length c2, .slice a3 Bs.length c3] w fun e w' => e = .returned (.bool true) ∧ Below w.heap.size w w' := by
  have hAl : A.length ≤ 9223372036854775807 := by unfold maxLen at hAm; omega
  have hBl : Bs.length ≤ 9223372036854775807 := by unfold maxLen at hBm; omega
  have HI := Lib.hid (And.intro hl (And.intro hA hB))
  have GR := Lib.hid (great_any a c nx w hl hm hmr)
  clear hl hm hmr hA hB hAm hBm
  go_enter Try.func5, Try.ntmps5
  go_wp2_with fail
  refine (GR.out).mono ?_
  rintro e w1 ⟨b, rfl, hb, rfl⟩
  clear GR
  cases b with
  | true =>
    go_wp2_with fail
    refine (awake32_any w).mono ?_
    rintro e w3 ⟨rfl, hb3⟩
    go_wp2_with fail
    go_ret
    exact ⟨rfl, hb3⟩
  | false =>
    obtain ⟨hn, hr⟩ := hb rfl
    clear hb
    have hn1 : nx.length ≤ 1000 := by omega
    have HR := Lib.hid (fun i => (Nat.le_trans (hr i) (by omega) : (Lb.row nx i).length ≤ 1000))
    clear hr
    by_cases hA3 : 300 < A.length
    · go_wp2_with fail
      refine (awake32_any w).mono ?_
      rintro e w3 ⟨rfl, hb3⟩
      go_wp2_with fail
      go_ret
      exact ⟨rfl, hb3⟩
    · by_cases hB3 : 300 < Bs.length
      · go_wp2_with fail
        refine (awake32_any w).mono ?_
        rintro e w3 ⟨rfl, hb3⟩
        go_wp2_with fail
        go_ret
        exact ⟨rfl, hb3⟩
      · go_wp2_with fail
        refine (and_any a2 a3 c2 c3 A Bs w (HI.out).2.1 (HI.out).2.2 (by omega) (by omega)).mono ?_
        rintro e w1 ⟨x1, M, rfl, ⟨hMl, hM⟩, hO1, b1⟩
        obtain ⟨ma, mc, hmx, hmr⟩ := Bl.of hO1
        subst hmx
        have hMA : ∀ i, Lb.inB M i = true → Lb.inB A i = true := fun i hi => by
          have h1 := hM i (Lb.inB_lt hi)
          rw [hi] at h1
          have := h1.symm
          simp only [Bool.and_eq_true] at this
          exact this.1
        have hMB : ∀ i, Lb.inB M i = true → Lb.inB Bs i = true := fun i hi => by
          have h1 := hM i (Lb.inB_lt hi)
          rw [hi] at h1
          have := h1.symm
          simp only [Bool.and_eq_true] at this
          exact this.2
        have HM := Lib.hid (And.intro hMA hMB)
        have H1 := Lib.hid (And.intro hmr b1)
        clear hMl hM hO1 hmr b1 hMA hMB
        go_wp2_with fail
        refine (ex_any a ma c mc nx M w1 ((HI.out).1.mono (H1.out).2 (Nat.le_refl _)) (H1.out).1 hn1 HR.out).mono ?_
        rintro e w2 ⟨x2, F0, rfl, hF0, hO2, b2⟩
        obtain ⟨a0', c0', e0, r0⟩ := Bl.of hO2
        subst e0
        have bb2 := (H1.out).2.trans (b2.mono (H1.out).2.size)
        have H2 := Lib.hid (And.intro hF0 (And.intro r0 (And.intro bb2 ((H1.out).1.mono b2 (Nat.le_refl _)))))
        clear r0 hF0 hO2 b2 bb2
        go_wp2_with fail
        refine (ex_any a a2 c c2 nx A w2 ((HI.out).1.mono (H2.out).2.2.1 (Nat.le_refl _)) ((HI.out).2.1.mono (H2.out).2.2.1 (Nat.le_refl _)) hn1 HR.out).mono ?_
        rintro e w3 ⟨x3, F1, rfl, hF1, hO3, b3⟩
        obtain ⟨a1', c1', e1, r1⟩ := Bl.of hO3
        subst e1
        have bb3 := (H2.out).2.2.1.trans (b3.mono (H2.out).2.2.1.size)
        have S1 : Sub nx.length F0 F1 := sub_of (H2.out).1 hF1 (fun i ⟨t, h1, h2⟩ => ⟨t, h1, (HM.out).1 t h2⟩)
        have H3 := Lib.hid (And.intro S1 (And.intro ((H2.out).2.1.mono b3 (Nat.le_refl _)) (And.intro r1 (And.intro bb3 ((H2.out).2.2.2.mono b3 (Nat.le_refl _))))))
        clear r1 hF1 hO3 b3 bb3 S1 H1 H2
        go_wp2_with fail
        refine (eu_any a a2 ma c c2 mc nx A M w3 ((HI.out).1.mono (H3.out).2.2.2.1 (Nat.le_refl _)) ((HI.out).2.1.mono (H3.out).2.2.2.1 (Nat.le_refl _)) (H3.out).2.2.2.2 hn1 HR.out).mono ?_
        rintro e w4 ⟨x4, F2, rfl, hF2, hO4, b4⟩
        obtain ⟨a2', c2', e2, r2⟩ := Bl.of hO4
        subst e2
        have bb4 := (H3.out).2.2.2.1.trans (b4.mono (H3.out).2.2.2.1.size)
        have H4 := Lib.hid (And.intro hF2 (And.intro r2 (And.intro bb4 (And.intro ((H3.out).2.2.2.2.mono b4 (Nat.le_refl _)) (And.intro ((H3.out).2.1.mono b4 (Nat.le_refl _)) ((H3.out).2.2.1.mono b4 (Nat.le_refl _)))))))
        have S1 := Lib.hid (H3.out).1
        clear r2 hF2 hO4 b4 bb4 H3
        go_wp2_with fail
        refine (eu_any a a2 a3 c c2 c3 nx A Bs w4 ((HI.out).1.mono (H4.out).2.2.1 (Nat.le_refl _)) ((HI.out).2.1.mono (H4.out).2.2.1 (Nat.le_refl _)) ((HI.out).2.2.mono (H4.out).2.2.1 (Nat.le_refl _)) hn1 HR.out).mono ?_
        rintro e w5 ⟨x5, F3, rfl, hF3, hO5, b5⟩
        obtain ⟨a3', c3', e3, r3⟩ := Bl.of hO5
        subst e3
        have bb5 := (H4.out).2.2.1.trans (b5.mono (H4.out).2.2.1.size)
        have S2 := Lib.hid (sub_of (H4.out).1 hF3 (fun i h => eu_more (HM.out).2 h))
        have H5 := Lib.hid (And.intro bb5 (And.intro ((H4.out).2.2.2.1.mono b5 (Nat.le_refl _)) (And.intro ((H4.out).2.2.2.2.1.mono b5 (Nat.le_refl _)) (And.intro ((H4.out).2.2.2.2.2.mono b5 (Nat.le_refl _)) (And.intro ((H4.out).2.1.mono b5 (Nat.le_refl _)) r3)))))
        clear r3 hF3 hO5 b5 bb5 H4
        go_wp2_with fail
        refine (eg_any a ma c mc nx M w5 ((HI.out).1.mono (H5.out).1 (Nat.le_refl _)) (H5.out).2.1 hn1 HR.out).mono ?_
        rintro e w6 ⟨x6, F4, rfl, hF4, hO6, b6⟩
        obtain ⟨a4', c4', e4, r4⟩ := Bl.of hO6
        subst e4
        have bb6 := (H5.out).1.trans (b6.mono (H5.out).1.size)
        have H6 := Lib.hid (And.intro hF4 (And.intro bb6 (And.intro ((H5.out).2.2.1.mono b6 (Nat.le_refl _)) (And.intro ((H5.out).2.2.2.1.mono b6 (Nat.le_refl _)) (And.intro ((H5.out).2.2.2.2.1.mono b6 (Nat.le_refl _)) (And.intro ((H5.out).2.2.2.2.2.mono b6 (Nat.le_refl _)) r4))))))
        clear r4 hF4 hO6 b6 bb6 H5
        go_wp2_with fail
        refine (eg_any a a2 c c2 nx A w6 ((HI.out).1.mono (H6.out).2.1 (Nat.le_refl _)) ((HI.out).2.1.mono (H6.out).2.1 (Nat.le_refl _)) hn1 HR.out).mono ?_
        rintro e w7 ⟨x7, F5, rfl, hF5, hO7, b7⟩
        obtain ⟨a5', c5', e5, r5⟩ := Bl.of hO7
        subst e5
        have bb7 := (H6.out).2.1.trans (b7.mono (H6.out).2.1.size)
        have S3 := Lib.hid (sub_of (H6.out).1 hF5 (fun i h => eg_more (HM.out).1 h))
        have H7 := Lib.hid (And.intro bb7 (And.intro ((H6.out).2.2.1.mono b7 (Nat.le_refl _)) (And.intro ((H6.out).2.2.2.1.mono b7 (Nat.le_refl _)) (And.intro ((H6.out).2.2.2.2.1.mono b7 (Nat.le_refl _)) (And.intro ((H6.out).2.2.2.2.2.1.mono b7 (Nat.le_refl _)) (And.intro ((H6.out).2.2.2.2.2.2.mono b7 (Nat.le_refl _)) r5))))))
        clear r5 hF5 hO7 b7 bb7 H6
        have hl0 := (S1.out).1
        have hl1 := (S1.out).2.1
        have hl2 := (S2.out).1
        have hl3 := (S2.out).2.1
        have hl4 := (S3.out).1
        have hl5 := (S3.out).2.1
        have HRD := Lib.hid H7.out
        clear H7
        go_wp2_with fail
        have b8 := below_new w7 (.cells #[.slice a0' nx.length c0', .slice a1' nx.length c1', .slice a2' nx.length c2', .slice a3' nx.length c3', .slice a4' nx.length c4', .slice a5' nx.length c5'] 33)
        have hc8 : ∀ j, (w7.alloc (.cells #[.slice a0' nx.length c0', .slice a1' nx.length c1', .slice a2' nx.length c2', .slice a3' nx.length c3', .slice a4' nx.length c4', .slice a5' nx.length c5'] 33)).cell? ⟨w7.heap.size, j, none⟩ = (#[.slice a0' nx.length c0', .slice a1' nx.length c1', .slice a2' nx.length c2', .slice a3' nx.length c3', .slice a4' nx.length c4', .slice a5' nx.length c5'] : Array Value)[j]? := fun j => World.cell?_alloc_at _ _ _ _ rfl
        generalize (w7.alloc (.cells #[.slice a0' nx.length c0', .slice a1' nx.length c1', .slice a2' nx.length c2', .slice a3' nx.length c3', .slice a4' nx.length c4', .slice a5' nx.length c5'] 33)) = w8 at *
        have hc0 : w8.cell? ⟨w7.heap.size, 0, none⟩ = some (.slice a0' nx.length c0') := hc8 0
        have hc1 : w8.cell? ⟨w7.heap.size, 1, none⟩ = some (.slice a1' nx.length c1') := hc8 1
        have hc2 : w8.cell? ⟨w7.heap.size, 2, none⟩ = some (.slice a2' nx.length c2') := hc8 2
        have hc3 : w8.cell? ⟨w7.heap.size, 3, none⟩ = some (.slice a3' nx.length c3') := hc8 3
        have hc4 : w8.cell? ⟨w7.heap.size, 4, none⟩ = some (.slice a4' nx.length c4') := hc8 4
        have hc5 : w8.cell? ⟨w7.heap.size, 5, none⟩ = some (.slice a5' nx.length c5') := hc8 5
        have g0 := (HRD.out).2.1.mono b8 (Nat.le_refl _)
        have g1 := (HRD.out).2.2.1.mono b8 (Nat.le_refl _)
        have g2 := (HRD.out).2.2.2.1.mono b8 (Nat.le_refl _)
        have g3 := (HRD.out).2.2.2.2.1.mono b8 (Nat.le_refl _)
        have g4 := (HRD.out).2.2.2.2.2.1.mono b8 (Nat.le_refl _)
        have g5 := (HRD.out).2.2.2.2.2.2.mono b8 (Nat.le_refl _)
        have GG := Lib.hid (And.intro g0 (And.intro g1 (And.intro g2 (And.intro g3 (And.intro g4 (And.intro g5 ((HRD.out).1.trans (b8.mono (HRD.out).1.size))))))))
        clear g0 g1 g2 g3 g4 g5 b8 hc8 HRD
        generalize w7.heap.size = g at *
        go_loopw [9, 10] (fun v9 _ wr => ∃ k : Nat, k ≤ 3 ∧ v9 = .int .i64 k ∧ w8 = wr) (fun v9 _ _ => 3 - (intOf v9).toNat)
        case atStart => exact ⟨0, by omega, rfl, rfl⟩
        case round =>
          obtain ⟨k, hk, rfl, rfl⟩ := hrel
          have hcases : k = 0 ∨ k = 1 ∨ k = 2 ∨ k = 3 := by omega
          rcases hcases with rfl | rfl | rfl | rfl
          · have SS := Lib.hid S1.out
            have RA := Lib.hid (GG.out).1
            have RB := Lib.hid (GG.out).2.1
            go_wp2_with fail
            go_loopw [10] (fun v10 wr => ∃ i : Nat, i ≤ nx.length ∧ v10 = .int .i64 i ∧ w8 = wr) (fun v10 _ => nx.length - (intOf v10).toNat)
            case atStart => exact ⟨0, by omega, rfl, rfl⟩
            case round =>
              obtain ⟨i, hi, rfl, rfl⟩ := hrel
              by_cases hlt : i < nx.length
              · obtain ⟨xb, xo, rfl, hcx⟩ := bcell RA.out i (by omega)
                obtain ⟨yb, yo, rfl, hcy⟩ := bcell RB.out i (by omega)
                have hsub := (SS.out).2.2 i hlt
                generalize Lb.inB F0 i = p at *
                generalize Lb.inB F1 i = q at *
                cases p with
                | false =>
                  clear hsub
                  go_wp2_with fail
                  go_roundw
                  case rel => exact ⟨i + 1, by omega, by go_num, trivial⟩
                  case measure => simp [intOf]; omega
                | true =>
                  rw [hsub rfl] at hcy
                  clear hsub
                  go_wp2_with fail
                  go_roundw
                  case rel => exact ⟨i + 1, by omega, by go_num, trivial⟩
                  case measure => simp [intOf]; omega
              · go_wp2_with fail
                go_roundw
                case rel => exact ⟨1, by omega, rfl, trivial⟩
                case measure => simp [intOf]
          · have SS := Lib.hid S2.out
            have RA := Lib.hid (GG.out).2.2.1
            have RB := Lib.hid (GG.out).2.2.2.1
            go_wp2_with fail
            go_loopw [10] (fun v10 wr => ∃ i : Nat, i ≤ nx.length ∧ v10 = .int .i64 i ∧ w8 = wr) (fun v10 _ => nx.length - (intOf v10).toNat)
            case atStart => exact ⟨0, by omega, rfl, rfl⟩
            case round =>
              obtain ⟨i, hi, rfl, rfl⟩ := hrel
              by_cases hlt : i < nx.length
              · obtain ⟨xb, xo, rfl, hcx⟩ := bcell RA.out i (by omega)
                obtain ⟨yb, yo, rfl, hcy⟩ := bcell RB.out i (by omega)
                have hsub := (SS.out).2.2 i hlt
                generalize Lb.inB F2 i = p at *
                generalize Lb.inB F3 i = q at *
                cases p with
                | false =>
                  clear hsub
                  go_wp2_with fail
                  go_roundw
                  case rel => exact ⟨i + 1, by omega, by go_num, trivial⟩
                  case measure => simp [intOf]; omega
                | true =>
                  rw [hsub rfl] at hcy
                  clear hsub
                  go_wp2_with fail
                  go_roundw
                  case rel => exact ⟨i + 1, by omega, by go_num, trivial⟩
                  case measure => simp [intOf]; omega
              · go_wp2_with fail
                go_roundw
                case rel => exact ⟨2, by omega, rfl, trivial⟩
                case measure => simp [intOf]
          · have SS := Lib.hid S3.out
            have RA := Lib.hid (GG.out).2.2.2.2.1
            have RB := Lib.hid (GG.out).2.2.2.2.2.1
            go_wp2_with fail
            go_loopw [10] (fun v10 wr => ∃ i : Nat, i ≤ nx.length ∧ v10 = .int .i64 i ∧ w8 = wr) (fun v10 _ => nx.length - (intOf v10).toNat)
            case atStart => exact ⟨0, by omega, rfl, rfl⟩
            case round =>
              obtain ⟨i, hi, rfl, rfl⟩ := hrel
              by_cases hlt : i < nx.length
              · obtain ⟨xb, xo, rfl, hcx⟩ := bcell RA.out i (by omega)
                obtain ⟨yb, yo, rfl, hcy⟩ := bcell RB.out i (by omega)
                have hsub := (SS.out).2.2 i hlt
                generalize Lb.inB F4 i = p at *
                generalize Lb.inB F5 i = q at *
                cases p with
                | false =>
                  clear hsub
                  go_wp2_with fail
                  go_roundw
                  case rel => exact ⟨i + 1, by omega, by go_num, trivial⟩
                  case measure => simp [intOf]; omega
                | true =>
                  rw [hsub rfl] at hcy
                  clear hsub
                  go_wp2_with fail
                  go_roundw
                  case rel => exact ⟨i + 1, by omega, by go_num, trivial⟩
                  case measure => simp [intOf]; omega
              · go_wp2_with fail
                go_roundw
                case rel => exact ⟨3, by omega, rfl, trivial⟩
                case measure => simp [intOf]
          · go_wp2_with fail
            refine (awake32_end w _ (GG.out).2.2.2.2.2.2).mono ?_
            rintro e w10 ⟨rfl, hb10⟩
            go_wp2_with fail
            go_ret
            exact ⟨rfl, hb10⟩
end Go.Proofs.Ytlmecpghlgndnaa
