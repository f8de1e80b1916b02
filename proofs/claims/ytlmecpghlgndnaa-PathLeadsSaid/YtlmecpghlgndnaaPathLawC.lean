/-
  The law of the lasso: by a walk.
-/
import Derived.Test.YtlmecpghlgndnaaPathLasR
import Derived.Test.YtlmecpghlgndnaaPathLawB
namespace Go.Proofs.Ytlmecpghlgndnaa
open Go.RowKit
set_option linter.unusedVariables false
set_option linter.unusedSimpArgs false

open Classical in
theorem eg_has (nx : List (List Int)) (A : List Bool) : ∃ F, Lb.IsSet nx.length (Lb.EG nx A) F := by
  refine ⟨(List.range nx.length).map (fun i => decide (Lb.EG nx A i)), by simp, fun i hi => ?_⟩
  unfold Lb.inB
  rw [List.getD_eq_getElem?_getD, List.getElem?_map, List.getElem?_range hi]
  simp
theorem las_len (nx : List (List Int)) (F : List Bool) : ∀ (n : Nat) (P : List Nat) (p : Nat), (Pa.las nx F n P p).1.length ≤ P.length + n
  | 0, P, p => by simp [Pa.las]
  | n + 1, P, p => by
    unfold Pa.las
    split
    · simp
    · have := las_len nx F n (P ++ [p]) (Pa.nxt nx F p)
      simp at this; omega
theorem lasso_len {nx : List (List Int)} {F : List Bool} {f : Int} {R : List Int} {i : Nat} (h : Pa.lasso nx F f = some (R, i)) : R.length ≤ nx.length + 1 := by
  unfold Pa.lasso at h
  split at h
  · split at h
    · have h3 := Option.some.inj h
      have := las_len nx F (nx.length + 1) [] f.toNat
      rw [h3] at this
      simpa using this
    · cases h
  · cases h
set_option maxHeartbeats 4000000 in
theorem pathLasso_walk (a a2 : Option Addr) (c c2 : Nat) (nx : List (List Int)) (f : Int) (A : List Bool) (w : World) (hl : RdG w a nx) (hm : nx.length ≤ maxLen) (hmr : ∀ i, (Lb.row nx i).length ≤ maxLen) (hA : Reads w a2 (A.map Value.bool)) :
    Calls Try.prog 7 #[.slice a nx.length c, .int .i64 f, .slice a2 A.length c2] w fun e w' => e = .returned (.bool true) ∧ Below w.heap.size w w' := by
  have hu : ∀ b : Bool, ¬ (some undef = some (Value.bool b)) := fun b h => by cases h
  have HI := Lib.hid (And.intro hl hA)
  have GR := Lib.hid (great_any a c nx w hl hm hmr)
  clear hl hm hmr hA
  go_enter Try.func7, Try.ntmps7
  go_wp2_with fail
  refine (GR.out).mono ?_
  rintro e w1 ⟨b, rfl, hb, rfl⟩
  clear GR
  cases b with
  | true =>
    go_wp2_with fail
    refine (awake35_any _).mono ?_
    rintro e w3 ⟨rfl, hb3⟩
    go_wp2_with fail
    go_ret
    exact ⟨rfl, hb3⟩
  | false =>
    obtain ⟨hn, hr⟩ := hb rfl
    clear hb
    have hr1 : ∀ i, (Lb.row nx i).length ≤ 1000 := fun i => by have := hr i; omega
    obtain ⟨F, hF⟩ := eg_has nx A
    have SH := Lib.hid (lasso_any a a2 c c2 nx f A F w (HI.out).1 (HI.out).2 hF (by omega) hr1)
    have RS : Hid (∀ w', Below w.heap.size w w' → Calls Try.prog 26 #[.slice a nx.length c, .int .i64 f, .slice a2 A.length c2] w' (LsAns (Pa.lasso nx F f) w')) :=
      Lib.hid (fun w' hb => rlasso_any a a2 c c2 nx f A F w' ((HI.out).1.mono hb (Nat.le_refl _)) ((HI.out).2.mono hb (Nat.le_refl _)) hF (by omega) hr1)
    clear hr hr1 hF
    go_wp2_with fail
    refine (SH.out).mono ?_
    intro e w2 hq
    cases hS : Pa.lasso nx F f with
    | none =>
      rw [hS] at hq RS
      obtain ⟨rfl, b2⟩ := hq
      have B2 := Lib.hid b2
      clear b2 hS SH
      go_wp2_with fail
      refine (RS.out w2 B2.out).mono ?_
      rintro e w3 ⟨rfl, b3⟩
      have B3 := Lib.hid (B2.out.trans (b3.mono B2.out.size))
      clear b3
      go_wp2_with fail
      refine (same_self none none 0 0 [] w3 (Reads.nil _ _) (Reads.nil _ _) (by simp)).mono ?_
      rintro e w4 ⟨rfl, n, rfl⟩
      go_wp2_with fail
      refine (awake35_any _).mono ?_
      rintro e w5 ⟨rfl, b5⟩
      go_wp2_with fail
      go_ret
      have b4 := below_drewN B3.out n
      exact ⟨rfl, b4.trans (b5.mono b4.size)⟩
    | some Ri =>
      obtain ⟨R, i⟩ := Ri
      rw [hS] at hq RS
      have hRl := lasso_len hS
      obtain ⟨x, rfl, own2, b2⟩ := hq
      obtain ⟨xa, xc, hxe, hrx⟩ := Reads.of_ints own2
      subst hxe
      have B2 := Lib.hid (And.intro b2 hrx)
      have hii : ((i : Int) == (i : Int)) = true := by simp
      clear b2 hS SH own2 hrx
      go_wp2_with fail
      refine (RS.out w2 (B2.out).1).mono ?_
      rintro e w3 ⟨y, rfl, own3, b3⟩
      obtain ⟨ya, yc, hye, hry⟩ := Reads.of_ints own3
      subst hye
      have B3 := Lib.hid (And.intro ((B2.out).1.trans (b3.mono (B2.out).1.size)) (And.intro ((B2.out).2.mono b3 (Nat.le_refl _)) hry))
      clear b3 own3 hry
      go_wp2_with fail
      refine (same_self xa ya xc yc R w3 (B3.out).2.1 (B3.out).2.2 (by omega)).mono ?_
      rintro e w4 ⟨rfl, n, rfl⟩
      go_wp2_with fail
      refine (awake35_any _).mono ?_
      rintro e w5 ⟨rfl, b5⟩
      go_wp2_with fail
      go_ret
      have b4 := below_drewN (B3.out).1 n
      exact ⟨rfl, b4.trans (b5.mono b4.size)⟩
end Go.Proofs.Ytlmecpghlgndnaa
