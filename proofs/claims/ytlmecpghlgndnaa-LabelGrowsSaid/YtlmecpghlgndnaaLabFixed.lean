/-
  LabelFixed: by a walk.
-/
import Derived.Test.YtlmecpghlgndnaaLabAwake
import Derived.Test.YtlmecpghlgndnaaLabEU
import Derived.Test.YtlmecpghlgndnaaLabEX
import Derived.Test.YtlmecpghlgndnaaLabGreat
import Derived.Test.YtlmecpghlgndnaaLabOpen
namespace Go.Proofs.Ytlmecpghlgndnaa
open Go.RowKit
set_option linter.unusedVariables false
set_option linter.unusedSimpArgs false

/-- A list of truths that was handed back, as the law reads it: so many cells, that stand. -/
def Bl (w : World) (x : Value) (F : List Bool) : Prop := ∃ a c, x = .slice a F.length c ∧ Reads w a (F.map Value.bool)
theorem Bl.of {w : World} {B : Nat} {x : Value} {F : List Bool} (h : w.ownsRow B 4 1 x F.length (F.map Value.bool)) : Bl w x F := by
  obtain ⟨a, c, h1, h2⟩ := Reads.of_own h
  exact ⟨a, c, by rw [List.length_map] at h1; exact h1, h2⟩
theorem Bl.mono {w w' : World} {x : Value} {F : List Bool} (h : Bl w x F) (hb : Below w.heap.size w w') : Bl w' x F := by
  obtain ⟨a, c, h1, h2⟩ := h
  exact ⟨a, c, h1, h2.mono hb (Nat.le_refl _)⟩
theorem bcell {w : World} {a : Option Addr} {F : List Bool} (h : Reads w a (F.map Value.bool)) (k : Nat) (hk : k < F.length) : ∃ b off, a = some ⟨b, off, none⟩ ∧ w.cell? ⟨b, off + k, none⟩ = some (.bool (Lb.inB F k)) := by
  obtain ⟨b, off, rfl, hc⟩ := h.at (by simp; omega)
  refine ⟨b, off, rfl, ?_⟩
  rw [Reads.bool hc k hk]
  unfold Lb.inB
  rw [List.getD_eq_getElem?_getD, List.getElem?_eq_getElem hk]; rfl
theorem eu_unfold {nx : List (List Int)} {A Bs U X : List Bool} (hU : Lb.IsSet nx.length (Lb.EU nx A Bs) U) (hX : Lb.IsSet nx.length (fun i => ∃ t, Lb.E nx i t ∧ Lb.inB U t = true) X) (i : Nat) (hi : i < nx.length) : Lb.inB U i = (Lb.inB Bs i || (Lb.inB A i && Lb.inB X i)) := by
  rw [Bool.eq_iff_iff, hU.2 i hi]
  simp only [Bool.or_eq_true, Bool.and_eq_true]
  have hx : Lb.inB X i = true ↔ ∃ t, Lb.E nx i t ∧ Lb.inB U t = true := hX.2 i hi
  rw [hx]
  constructor
  · intro h
    cases h with
    | base _ _ hb => exact Or.inl hb
    | step _ t _ ha hE hu => exact Or.inr ⟨ha, t, hE, (hU.2 t hE.1).2 hu⟩
  · rintro (h | ⟨ha, t, hE, hu⟩)
    · exact Lb.EU.base i hi h
    · exact Lb.EU.step i t hi ha hE ((hU.2 t hE.1).1 hu)
theorem eg_unfold {nx : List (List Int)} {A G Y : List Bool} (hG : Lb.IsSet nx.length (Lb.EG nx A) G) (hY : Lb.IsSet nx.length (fun i => ∃ t, Lb.E nx i t ∧ Lb.inB G t = true) Y) (i : Nat) (hi : i < nx.length) : Lb.inB G i = (Lb.inB A i && Lb.inB Y i) := by
  rw [Bool.eq_iff_iff, hG.2 i hi]
  simp only [Bool.and_eq_true]
  have hy : Lb.inB Y i = true ↔ ∃ t, Lb.E nx i t ∧ Lb.inB G t = true := hY.2 i hi
  rw [hy]
  constructor
  · intro h
    obtain ⟨_, h2, t, h3, h4⟩ := h.out
    exact ⟨h2, t, h4, (hG.2 t h4.1).2 h3⟩
  · rintro ⟨h2, t, h4, h3⟩
    exact Lb.EG.into hi h2 ((hG.2 t h4.1).1 h3) h4
theorem reads_drewN {w : World} {a : Option Addr} {xs : List Value} (h : Reads w a xs) (n : Nat) : Reads (w.drewN n) a xs := by
  rcases h with rfl | ⟨b, off, rfl, hc⟩
  · exact Or.inl rfl
  · exact Or.inr ⟨b, off, rfl, fun j hj => by rw [World.cell?_drewN]; exact hc j hj⟩
set_option maxHeartbeats 1000000 in
theorem labelFixed_walk (a a2 a3 : Option Addr) (c c2 c3 : Nat) (nx : List (List Int)) (A Bs : List Bool) (w : World) (hl : RdG w a nx) (hm : nx.length ≤ maxLen) (hmr : ∀ i, (Lb.row nx i).length ≤ maxLen) (hA : Reads w a2 (A.map Value.bool)) (hAm : A.length ≤ maxLen) (hB : Reads w a3 (Bs.map Value.bool)) (hBm : Bs.length ≤ maxLen) :
    Calls Try.prog 4 #[.slice a nx.length c, .slice a2 A.length c2, .slice a3 Bs.length c3] w fun e w' => e = .returned (.bool true) ∧ Below w.heap.size w w' := by
  have hAl : A.length ≤ 9223372036854775807 := by unfold maxLen at hAm; omega
  have hBl : Bs.length ≤ 9223372036854775807 := by unfold maxLen at hBm; omega
  have HI := Lib.hid (And.intro hl (And.intro hA hB))
  have GR := Lib.hid (great_any a c nx w hl hm hmr)
  clear hl hm hmr hA hB hAm hBm
  go_enter Try.func4, Try.ntmps4
  go_wp2_with fail
  refine (GR.out).mono ?_
  rintro e w1 ⟨b, rfl, hb, rfl⟩
  clear GR
  cases b with
  | true =>
    go_wp2_with fail
    refine (awake32_any w).mono ?_
    rintro e w3 ⟨rfl, hb3⟩
    go_wp2_with fail
    go_ret
    exact ⟨rfl, hb3⟩
  | false =>
    obtain ⟨hn, hr⟩ := hb rfl
    clear hb
    have hn1 : nx.length ≤ 1000 := by omega
    have HR := Lib.hid (fun i => (Nat.le_trans (hr i) (by omega) : (Lb.row nx i).length ≤ 1000))
    clear hr
    by_cases hA3 : 300 < A.length
    · go_wp2_with fail
      refine (awake32_any w).mono ?_
      rintro e w3 ⟨rfl, hb3⟩
      go_wp2_with fail
      go_ret
      exact ⟨rfl, hb3⟩
    · by_cases hB3 : 300 < Bs.length
      · go_wp2_with fail
        refine (awake32_any w).mono ?_
        rintro e w3 ⟨rfl, hb3⟩
        go_wp2_with fail
        go_ret
        exact ⟨rfl, hb3⟩
      · go_wp2_with fail
        refine (eu_any a a2 a3 c c2 c3 nx A Bs w (HI.out).1 (HI.out).2.1 (HI.out).2.2 hn1 HR.out).mono ?_
        rintro e w1 ⟨x1, U, rfl, hU, hO1, b1⟩
        have H1 := Lib.hid (And.intro hU (And.intro (Bl.of hO1) b1))
        clear hU hO1 b1
        go_wp2_with fail
        refine (eg_any a a2 c c2 nx A w1 ((HI.out).1.mono (H1.out).2.2 (Nat.le_refl _)) ((HI.out).2.1.mono (H1.out).2.2 (Nat.le_refl _)) hn1 HR.out).mono ?_
        rintro e w2 ⟨x2, G, rfl, hG, hO2, b2⟩
        have bb2 := (H1.out).2.2.trans (b2.mono (H1.out).2.2.size)
        have H2 := Lib.hid (And.intro hG (And.intro (Bl.of hO2) (And.intro bb2 ((H1.out).2.1.mono b2))))
        clear hG hO2 b2 bb2
        obtain ⟨ua, uc, hux, hur⟩ := (H2.out).2.2.2
        obtain ⟨ga, gc, hgx, hgr⟩ := (H2.out).2.1
        subst hux
        subst hgx
        have H3 := Lib.hid (And.intro hur hgr)
        clear hur hgr
        go_wp2_with fail
        refine (ex_any a ua c uc nx U w2 ((HI.out).1.mono (H2.out).2.2.1 (Nat.le_refl _)) (H3.out).1 hn1 HR.out).mono ?_
        rintro e w3 ⟨x3, X, rfl, hX, hO3, b3⟩
        have bb3 := (H2.out).2.2.1.trans (b3.mono (H2.out).2.2.1.size)
        have H4 := Lib.hid (And.intro hX (And.intro (Bl.of hO3) (And.intro bb3 (And.intro ((H3.out).1.mono b3 (Nat.le_refl _)) ((H3.out).2.mono b3 (Nat.le_refl _))))))
        clear hX hO3 b3 bb3
        go_wp2_with fail
        refine (ex_any a ga c gc nx G w3 ((HI.out).1.mono (H4.out).2.2.1 (Nat.le_refl _)) (H4.out).2.2.2.2 hn1 HR.out).mono ?_
        rintro e w4 ⟨x4, Y, rfl, hY, hO4, b4⟩
        have bb4 := (H4.out).2.2.1.trans (b4.mono (H4.out).2.2.1.size)
        have H5 := Lib.hid (And.intro hY (And.intro (Bl.of hO4) (And.intro bb4 (And.intro ((H4.out).2.2.2.1.mono b4 (Nat.le_refl _)) (And.intro ((H4.out).2.2.2.2.mono b4 (Nat.le_refl _)) ((H4.out).2.1.mono b4))))))
        clear hY hO4 b4 bb4
        obtain ⟨xa, xc, hxx, hxr⟩ := (H5.out).2.2.2.2.2
        obtain ⟨ya, yc, hyx, hyr⟩ := (H5.out).2.1
        subst hxx
        subst hyx
        have hUl := (H1.out).1.1
        have hGl := (H2.out).1.1
        have hXl := (H4.out).1.1
        have hYl := (H5.out).1.1
        have HU := Lib.hid (fun i hi => eu_unfold (H1.out).1 (H4.out).1 i hi)
        have HG := Lib.hid (fun i hi => eg_unfold (H2.out).1 (H5.out).1 i hi)
        have HC := Lib.hid (And.intro (H5.out).2.2.2.1 (And.intro (H5.out).2.2.2.2.1 (And.intro hxr (And.intro hyr (H5.out).2.2.1))))
        clear hxr hyr H1 H2 H3 H4 H5
        go_wp2_with fail
        go_loopw [11] (fun v11 wr => ∃ k : Nat, k ≤ nx.length ∧ v11 = .int .i64 k ∧ ∃ m, wr = w4.drewN m) (fun v11 _ => nx.length - (intOf v11).toNat)
        case atStart => exact ⟨0, by omega, rfl, 0, rfl⟩
        case round =>
          obtain ⟨k, hk, rfl, m, hwr⟩ := hrel
          have bd := below_drewN (HC.out).2.2.2.2 m
          rw [← hwr] at bd
          have hru : Reads wr ua (U.map Value.bool) := by rw [hwr]; exact reads_drewN (HC.out).1 m
          have hrg : Reads wr ga (G.map Value.bool) := by rw [hwr]; exact reads_drewN (HC.out).2.1 m
          have hrx : Reads wr xa (X.map Value.bool) := by rw [hwr]; exact reads_drewN (HC.out).2.2.1 m
          have hry : Reads wr ya (Y.map Value.bool) := by rw [hwr]; exact reads_drewN (HC.out).2.2.2.1 m
          have HWR := Lib.hid hwr
          clear hwr
          by_cases hlt : k < nx.length
          · obtain ⟨ub, uo, rfl, hcu⟩ := bcell hru k (by omega)
            obtain ⟨gb, go, rfl, hcg⟩ := bcell hrg k (by omega)
            obtain ⟨xb, xo, rfl, hcx⟩ := bcell hrx k (by omega)
            obtain ⟨yb, yo, rfl, hcy⟩ := bcell hry k (by omega)
            rw [HU.out k hlt] at hcu
            rw [HG.out k hlt] at hcg
            have HBD := Lib.hid bd
            clear hru hrg hrx hry bd
            have ISA := Lib.hid (fun w' (hw : ∃ n, w' = wr.drewN n) => ris_any a2 c2 A k w' ((HI.out).2.1.mono (by obtain ⟨n, rfl⟩ := hw; exact below_drewN HBD.out _) (Nat.le_refl _)))
            have ISB := Lib.hid (fun w' (hw : ∃ n, w' = wr.drewN n) => ris_any a3 c3 Bs k w' ((HI.out).2.2.mono (by obtain ⟨n, rfl⟩ := hw; exact below_drewN HBD.out _) (Nat.le_refl _)))
            rw [Int.toNat_natCast, decide_eq_true (by omega), Bool.true_and] at ISA ISB
            clear HU HG
            generalize Lb.inB A k = ak at *
            generalize Lb.inB Bs k = bk at *
            generalize Lb.inB X k = xk at *
            generalize Lb.inB Y k = yk at *
            have hnx : (xk != xk) = false := by simp
            have hny : (yk != yk) = false := by simp
            cases bk
            all_goals cases ak
            all_goals simp only [Bool.true_or, Bool.false_or, Bool.true_and, Bool.false_and] at hcu hcg
            all_goals go_wp2_with fail
            all_goals go_quiet ((go_at_call 19; first | with_reducible exact Calls.quiet_of_same ((ISA.out _ ⟨_, rfl⟩).mono (fun _ _ hq => ⟨hq.1, hq.2.symm⟩)) | with_reducible exact Calls.quiet_of_same ((ISB.out _ ⟨_, rfl⟩).mono (fun _ _ hq => ⟨hq.1, hq.2.symm⟩))))
            all_goals go_wp2_with fail
            all_goals go_roundw
            all_goals first | (simp [intOf]; omega) | skip
            all_goals exact ⟨k + 1, by omega, by go_num, by rw [HWR.out]; simp only [World.drewN_drewN]; exact ⟨_, rfl⟩⟩
          · go_wp2_with fail
            refine (awake32_end w _ bd).mono ?_
            rintro e w10 ⟨rfl, hb10⟩
            go_wp2_with fail
            go_ret
            exact ⟨rfl, hb10⟩
end Go.Proofs.Ytlmecpghlgndnaa
