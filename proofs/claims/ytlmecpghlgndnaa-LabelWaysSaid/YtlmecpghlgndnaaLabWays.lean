/-
  LabelWays: by a walk.
-/
import Derived.Test.YtlmecpghlgndnaaLabAwake
import Derived.Test.YtlmecpghlgndnaaLabRefV
import Derived.Test.YtlmecpghlgndnaaLabOpen
namespace Go.Proofs.Ytlmecpghlgndnaa
open Go.RowKit
set_option linter.unusedVariables false
set_option linter.unusedSimpArgs false

/-- What is asked of a law's input, and what it is at hand. -/
structure In3 (w : World) (a a2 a3 : Option Addr) (nx : List (List Int)) (A Bs : List Bool) : Prop where
  g : RdG w a nx
  a : Reads w a2 (A.map Value.bool)
  b : Reads w a3 (Bs.map Value.bool)
theorem In3.mono {w w' : World} {a a2 a3 : Option Addr} {nx : List (List Int)} {A Bs : List Bool} (h : In3 w a a2 a3 nx A Bs) (hb : Below w.heap.size w w') : In3 w' a a2 a3 nx A Bs :=
  ⟨h.g.mono hb (Nat.le_refl _), h.a.mono hb (Nat.le_refl _), h.b.mono hb (Nat.le_refl _)⟩
set_option maxHeartbeats 4000000 in
theorem labelWays_walk (a a2 a3 : Option Addr) (c c2 c3 : Nat) (nx : List (List Int)) (A Bs : List Bool) (w : World) (hl : RdG w a nx) (hm : nx.length ≤ maxLen) (hmr : ∀ i, (Lb.row nx i).length ≤ maxLen) (hA : Reads w a2 (A.map Value.bool)) (hAm : A.length ≤ maxLen) (hB : Reads w a3 (Bs.map Value.bool)) (hBm : Bs.length ≤ maxLen) :
    Calls Try.prog 3 #[.slice a nx.length c, .slice a2 A.length c2, .slice a3 Bs.length c3] w fun e w' => e = .returned (.bool true) ∧ Below w.heap.size w w' := by
  have hAl : A.length ≤ 9223372036854775807 := by unfold maxLen at hAm; omega
  have hBl : Bs.length ≤ 9223372036854775807 := by unfold maxLen at hBm; omega
  have HI := Lib.hid (In3.mk hl hA hB)
  have GR := Lib.hid (great_any a c nx w hl hm hmr)
  clear hl hm hmr hA hB hAm hBm
  go_enter Try.func3, Try.ntmps3
  go_wp2_with fail
  refine (GR.out).mono ?_
  rintro e w1 ⟨b, rfl, hb, rfl⟩
  clear GR
  cases b with
  | true =>
    go_wp2_with fail
    refine (awake32_any w).mono ?_
    rintro e w3 ⟨rfl, hb3⟩
    go_wp2_with fail
    go_ret
    exact ⟨rfl, hb3⟩
  | false =>
    obtain ⟨hn, hr⟩ := hb rfl
    clear hb
    have hn1 : nx.length ≤ 1000 := by omega
    have HR := Lib.hid (fun i => (Nat.le_trans (hr i) (by omega) : (Lb.row nx i).length ≤ 1000))
    clear hr
    by_cases hA3 : 300 < A.length
    · go_wp2_with fail
      refine (awake32_any w).mono ?_
      rintro e w3 ⟨rfl, hb3⟩
      go_wp2_with fail
      go_ret
      exact ⟨rfl, hb3⟩
    · by_cases hB3 : 300 < Bs.length
      · go_wp2_with fail
        refine (awake32_any w).mono ?_
        rintro e w3 ⟨rfl, hb3⟩
        go_wp2_with fail
        go_ret
        exact ⟨rfl, hb3⟩
      · go_wp2_with fail
        refine (ex_any a a2 c c2 nx A w (HI.out).g (HI.out).a hn1 HR.out).mono ?_
        rintro e w1 ⟨x1, F1, rfl, hF1, hO1, hB1⟩
        have H1 := Lib.hid (And.intro hF1 (And.intro hO1 hB1))
        have I1 := Lib.hid ((HI.out).mono hB1)
        clear hF1 hO1 hB1
        go_wp2_with fail
        refine (rex_any a a2 c c2 nx A w1 (I1.out).g (I1.out).a hn1 HR.out).mono ?_
        rintro e w2 ⟨x2, F2, rfl, hF2, hO2, hB2⟩
        have SM := Lib.hid (rsame_ans (H1.out).2.1 hO2 hB2 (by have := (H1.out).1.1; omega) (Lb.isSet_one (H1.out).1 hF2))
        have b2 := (H1.out).2.2.trans (hB2.mono (H1.out).2.2.size)
        have B2 := Lib.hid b2
        clear hF2 hO2 hB2 b2 H1
        go_wp2_with fail
        refine (SM.out).mono ?_
        rintro e w3 ⟨rfl, n, rfl⟩
        have B3 := Lib.hid (below_drewN B2.out n)
        generalize w2.drewN n = w3 at *
        have I3 := Lib.hid ((HI.out).mono B3.out)
        clear SM B2
        go_wp2_with fail
        refine (eu_any a a2 a3 c c2 c3 nx A Bs w3 (I3.out).g (I3.out).a (I3.out).b hn1 HR.out).mono ?_
        rintro e w4 ⟨x4, F4, rfl, hF4, hO4, hB4⟩
        have b4 := (B3.out).trans (hB4.mono (B3.out).size)
        have H4 := Lib.hid (And.intro hF4 (And.intro hO4 b4))
        have I4 := Lib.hid ((HI.out).mono b4)
        clear hF4 hO4 hB4 b4 I3 B3
        go_wp2_with fail
        refine (reu_any a a2 a3 c c2 c3 nx A Bs w4 (I4.out).g (I4.out).a (I4.out).b hn1 HR.out).mono ?_
        rintro e w5 ⟨x5, F5, rfl, hF5, hO5, hB5⟩
        have SM := Lib.hid (rsame_ans (H4.out).2.1 hO5 hB5 (by have := (H4.out).1.1; omega) (Lb.isSet_one (H4.out).1 hF5))
        have b5 := (H4.out).2.2.trans (hB5.mono (H4.out).2.2.size)
        have B5 := Lib.hid b5
        clear hF5 hO5 hB5 b5 H4
        go_wp2_with fail
        refine (SM.out).mono ?_
        rintro e w6 ⟨rfl, n, rfl⟩
        have B6 := Lib.hid (below_drewN B5.out n)
        generalize w5.drewN n = w6 at *
        have I6 := Lib.hid ((HI.out).mono B6.out)
        clear SM B5
        go_wp2_with fail
        refine (eg_any a a2 c c2 nx A w6 (I6.out).g (I6.out).a hn1 HR.out).mono ?_
        rintro e w7 ⟨x7, F7, rfl, hF7, hO7, hB7⟩
        have b7 := (B6.out).trans (hB7.mono (B6.out).size)
        have H7 := Lib.hid (And.intro hF7 (And.intro hO7 b7))
        have I7 := Lib.hid ((HI.out).mono b7)
        clear hF7 hO7 hB7 b7 I6 B6
        go_wp2_with fail
        refine (reg_any a a2 c c2 nx A w7 (I7.out).g (I7.out).a hn1 HR.out).mono ?_
        rintro e w8 ⟨x8, F8, rfl, hF8, hO8, hB8⟩
        have SM := Lib.hid (rsame_ans (H7.out).2.1 hO8 hB8 (by have := (H7.out).1.1; omega) (Lb.isSet_one (H7.out).1 hF8))
        have b8 := (H7.out).2.2.trans (hB8.mono (H7.out).2.2.size)
        have B8 := Lib.hid b8
        clear hF8 hO8 hB8 b8 H7
        go_wp2_with fail
        refine (SM.out).mono ?_
        rintro e w9 ⟨rfl, n, rfl⟩
        have B9 := Lib.hid (below_drewN B8.out n)
        generalize w8.drewN n = w9 at *
        clear SM B8
        go_wp2_with fail
        refine (awake32_end w w9 B9.out).mono ?_
        rintro e w10 ⟨rfl, hb10⟩
        go_wp2_with fail
        go_ret
        exact ⟨rfl, hb10⟩
end Go.Proofs.Ytlmecpghlgndnaa
