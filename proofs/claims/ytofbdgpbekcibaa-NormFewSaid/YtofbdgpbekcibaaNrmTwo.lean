/-
  Norm: a sign of arity 2.
-/
import Derived.Test.YtofbdgpbekcibaaNrmOne
namespace Go.Proofs.Ytofbdgpbekcibaa
open Go.RowKit Go.Maps
set_option linter.unusedVariables false
set_option linter.unusedSimpArgs false
theorem KAns.same {w w' : World} {B p b : Nat} {vs : Value} {A : List Sp × Nat} {e : Ending} (h : KAns w B p b vs A e w') : KR w B p b vs A e w' := by
  obtain ⟨h1, h2, v, D, h3, h4⟩ := h
  exact ⟨h1, h2, v, D, h3, h4⟩

set_option maxHeartbeats 4000000 in
theorem ktwo_any {w : World} {B p b : Nat} {vs : Value} {D : RDat} {S : List Sp} (h : IsK w B p vs b D S) (hB : B ≤ w.heap.size) (hS : S.length ≤ 9000) (hg : Gd S) (op : Int) (a c : Nat) (ha : a < S.length) (hc : c < S.length) :
    Calls Try.prog 62 #[.pointer (some ⟨p, 0, none⟩), .int .i64 op, .int .i64 (a : Nat), .int .i64 (c : Nat)] w (KR w B p b vs (twoP S op a c)) := by
  have HFIN : Hid (∀ A e w', KAns w B p b vs A e w' → KR w B p b vs A e w') := Lib.hid fun A e w' hk => hk.same
  have HA0 : Hid (KAt w B p b vs S w) := Lib.hid ⟨Below.refl _ _, vs, D, h, Frm.refl _ _ _ _⟩
  have HS : Hid (∀ S W W2 , KAt w B p b vs S W → Below W.heap.size W W2 → KAt w B p b vs S W2) := Lib.hid fun S W W2 hk hb => hk.still hB hb
  clear h
  have hops : op = 16 ∨ op = 17 ∨ op = 18 ∨ op = 26 ∨ (op ≠ 16 ∧ op ≠ 17 ∧ op ≠ 18 ∧ op ≠ 26) := by omega
  have goal_two : ∀ A, twoP S op a c = A → (Calls Try.prog 62 #[.pointer (some ⟨p, 0, none⟩), .int .i64 op, .int .i64 (a : Nat), .int .i64 (c : Nat)] w (KR w B p b vs A)) → Calls Try.prog 62 #[.pointer (some ⟨p, 0, none⟩), .int .i64 op, .int .i64 (a : Nat), .int .i64 (c : Nat)] w (KR w B p b vs (twoP S op a c)) := fun A e hc => e ▸ hc
  rcases hops with rfl | rfl | rfl | rfl | ⟨n1, n2, n3, n4⟩
  · refine goal_two (putP S (sgn 16 a c)) (by simp [twoP]) ?_
    obtain ⟨A1, hA1⟩ : ∃ A, A = putP S (sgn 16 a c) := ⟨_, rfl⟩
    have hfin : putP S (sgn 16 a c) = A1 := by subst hA1; rfl
    rw [hfin]; clear hfin goal_two
    have g0 := hg; have z0 : S.length ≤ 9000 := hS
    have s1 : Stp S A1 1 := by rw [hA1]; exact sgn2_stp g0 16 (by omega) (by omega) (by omega)
    have g1 := s1.gd; have t1 := s1.lt; have u1 := s1.ge; have v1 := s1.le
    have HC1 : Hid (∀ W, KAt w B p b vs S W → Calls Try.prog 80 #[.pointer (some ⟨p, 0, none⟩), .int .i64 ((a : Nat) : Int), .int .i64 ((c : Nat) : Int)] W (KAns w B p b vs A1)) := Lib.hid fun W hk => by rw [hA1]; exact and_at hB (by omega) (by omega) (by omega) W hk
    clear hA1 s1 g1 t1 u1 v1 g0 z0 hg hS ha hc hB
    go_enter Try.func62, Try.ntmps62
    go_wp2_with (first | (go_at_call 80; (with_reducible refine (HC1.out _ (by first | exact HA0.out | exact HS.out _ _ _ HA0.out (by repeat (first | exact Below.refl _ _ | apply rrbelow_dn | apply Below.drew)))).mono ?_); rintro e w2 ⟨rfl, hk⟩; have HA1 := Lib.hid hk; clear hk))
    go_ret
    exact HFIN.out _ _ _ ⟨rfl, HA1.out⟩
  · refine goal_two (orP S a c) (by simp [twoP]) ?_
    obtain ⟨A1, hA1⟩ : ∃ A, A = notP S a := ⟨_, rfl⟩
    obtain ⟨A2, hA2⟩ : ∃ A, A = notP A1.1 c := ⟨_, rfl⟩
    obtain ⟨A3, hA3⟩ : ∃ A, A = putP A2.1 (sgn 16 A1.2 A2.2) := ⟨_, rfl⟩
    obtain ⟨A4, hA4⟩ : ∃ A, A = notP A3.1 A3.2 := ⟨_, rfl⟩
    have hfin : orP S a c = A4 := by subst hA1 hA2 hA3 hA4; rfl
    rw [hfin]; clear hfin goal_two
    have g0 := hg; have z0 : S.length ≤ 9000 := hS
    have s1 : Stp S A1 1 := by rw [hA1]; exact notP_stp g0 (by omega)
    have g1 := s1.gd; have t1 := s1.lt; have u1 := s1.ge; have v1 := s1.le
    have HC1 : Hid (∀ W, KAt w B p b vs S W → Calls Try.prog 76 #[.pointer (some ⟨p, 0, none⟩), .int .i64 ((a : Nat) : Int)] W (KAns w B p b vs A1)) := Lib.hid fun W hk => by rw [hA1]; exact not_at hB g0 (by omega) (by omega) W hk
    have s2 : Stp A1.1 A2 1 := by rw [hA2]; exact notP_stp g1 (by omega)
    have g2 := s2.gd; have t2 := s2.lt; have u2 := s2.ge; have v2 := s2.le
    have HC2 : Hid (∀ W, KAt w B p b vs A1.1 W → Calls Try.prog 76 #[.pointer (some ⟨p, 0, none⟩), .int .i64 ((c : Nat) : Int)] W (KAns w B p b vs A2)) := Lib.hid fun W hk => by rw [hA2]; exact not_at hB g1 (by omega) (by omega) W hk
    have s3 : Stp A2.1 A3 1 := by rw [hA3]; exact sgn2_stp g2 16 (by omega) (by omega) (by omega)
    have g3 := s3.gd; have t3 := s3.lt; have u3 := s3.ge; have v3 := s3.le
    have HC3 : Hid (∀ W, KAt w B p b vs A2.1 W → Calls Try.prog 80 #[.pointer (some ⟨p, 0, none⟩), .int .i64 ((A1.2 : Nat) : Int), .int .i64 ((A2.2 : Nat) : Int)] W (KAns w B p b vs A3)) := Lib.hid fun W hk => by rw [hA3]; exact and_at hB (by omega) (by omega) (by omega) W hk
    have s4 : Stp A3.1 A4 1 := by rw [hA4]; exact notP_stp g3 (by omega)
    have g4 := s4.gd; have t4 := s4.lt; have u4 := s4.ge; have v4 := s4.le
    have HC4 : Hid (∀ W, KAt w B p b vs A3.1 W → Calls Try.prog 76 #[.pointer (some ⟨p, 0, none⟩), .int .i64 ((A3.2 : Nat) : Int)] W (KAns w B p b vs A4)) := Lib.hid fun W hk => by rw [hA4]; exact not_at hB g3 (by omega) (by omega) W hk
    clear hA1 s1 g1 t1 u1 v1 hA2 s2 g2 t2 u2 v2 hA3 s3 g3 t3 u3 v3 hA4 s4 g4 t4 u4 v4 g0 z0 hg hS ha hc hB
    go_enter Try.func62, Try.ntmps62
    go_wp2_with (first | (go_at_call 76; (with_reducible refine (HC1.out _ (by first | exact HA0.out | exact HS.out _ _ _ HA0.out (by repeat (first | exact Below.refl _ _ | apply rrbelow_dn | apply Below.drew)))).mono ?_); rintro e w2 ⟨rfl, hk⟩; have HA1 := Lib.hid hk; clear hk) | (go_at_call 76; (with_reducible refine (HC2.out _ (by first | exact HA1.out | exact HS.out _ _ _ HA1.out (by repeat (first | exact Below.refl _ _ | apply rrbelow_dn | apply Below.drew)))).mono ?_); rintro e w3 ⟨rfl, hk⟩; have HA2 := Lib.hid hk; clear hk) | (go_at_call 80; (with_reducible refine (HC3.out _ (by first | exact HA2.out | exact HS.out _ _ _ HA2.out (by repeat (first | exact Below.refl _ _ | apply rrbelow_dn | apply Below.drew)))).mono ?_); rintro e w4 ⟨rfl, hk⟩; have HA3 := Lib.hid hk; clear hk) | (go_at_call 76; (with_reducible refine (HC4.out _ (by first | exact HA3.out | exact HS.out _ _ _ HA3.out (by repeat (first | exact Below.refl _ _ | apply rrbelow_dn | apply Below.drew)))).mono ?_); rintro e w5 ⟨rfl, hk⟩; have HA4 := Lib.hid hk; clear hk))
    go_ret
    exact HFIN.out _ _ _ ⟨rfl, HA4.out⟩
  · refine goal_two (impP S a c) (by simp [twoP]) ?_
    obtain ⟨A1, hA1⟩ : ∃ A, A = notP S c := ⟨_, rfl⟩
    obtain ⟨A2, hA2⟩ : ∃ A, A = putP A1.1 (sgn 16 a A1.2) := ⟨_, rfl⟩
    obtain ⟨A3, hA3⟩ : ∃ A, A = notP A2.1 A2.2 := ⟨_, rfl⟩
    have hfin : impP S a c = A3 := by subst hA1 hA2 hA3; rfl
    rw [hfin]; clear hfin goal_two
    have g0 := hg; have z0 : S.length ≤ 9000 := hS
    have s1 : Stp S A1 1 := by rw [hA1]; exact notP_stp g0 (by omega)
    have g1 := s1.gd; have t1 := s1.lt; have u1 := s1.ge; have v1 := s1.le
    have HC1 : Hid (∀ W, KAt w B p b vs S W → Calls Try.prog 76 #[.pointer (some ⟨p, 0, none⟩), .int .i64 ((c : Nat) : Int)] W (KAns w B p b vs A1)) := Lib.hid fun W hk => by rw [hA1]; exact not_at hB g0 (by omega) (by omega) W hk
    have s2 : Stp A1.1 A2 1 := by rw [hA2]; exact sgn2_stp g1 16 (by omega) (by omega) (by omega)
    have g2 := s2.gd; have t2 := s2.lt; have u2 := s2.ge; have v2 := s2.le
    have HC2 : Hid (∀ W, KAt w B p b vs A1.1 W → Calls Try.prog 80 #[.pointer (some ⟨p, 0, none⟩), .int .i64 ((a : Nat) : Int), .int .i64 ((A1.2 : Nat) : Int)] W (KAns w B p b vs A2)) := Lib.hid fun W hk => by rw [hA2]; exact and_at hB (by omega) (by omega) (by omega) W hk
    have s3 : Stp A2.1 A3 1 := by rw [hA3]; exact notP_stp g2 (by omega)
    have g3 := s3.gd; have t3 := s3.lt; have u3 := s3.ge; have v3 := s3.le
    have HC3 : Hid (∀ W, KAt w B p b vs A2.1 W → Calls Try.prog 76 #[.pointer (some ⟨p, 0, none⟩), .int .i64 ((A2.2 : Nat) : Int)] W (KAns w B p b vs A3)) := Lib.hid fun W hk => by rw [hA3]; exact not_at hB g2 (by omega) (by omega) W hk
    clear hA1 s1 g1 t1 u1 v1 hA2 s2 g2 t2 u2 v2 hA3 s3 g3 t3 u3 v3 g0 z0 hg hS ha hc hB
    go_enter Try.func62, Try.ntmps62
    go_wp2_with (first | (go_at_call 76; (with_reducible refine (HC1.out _ (by first | exact HA0.out | exact HS.out _ _ _ HA0.out (by repeat (first | exact Below.refl _ _ | apply rrbelow_dn | apply Below.drew)))).mono ?_); rintro e w2 ⟨rfl, hk⟩; have HA1 := Lib.hid hk; clear hk) | (go_at_call 80; (with_reducible refine (HC2.out _ (by first | exact HA1.out | exact HS.out _ _ _ HA1.out (by repeat (first | exact Below.refl _ _ | apply rrbelow_dn | apply Below.drew)))).mono ?_); rintro e w3 ⟨rfl, hk⟩; have HA2 := Lib.hid hk; clear hk) | (go_at_call 76; (with_reducible refine (HC3.out _ (by first | exact HA2.out | exact HS.out _ _ _ HA2.out (by repeat (first | exact Below.refl _ _ | apply rrbelow_dn | apply Below.drew)))).mono ?_); rintro e w4 ⟨rfl, hk⟩; have HA3 := Lib.hid hk; clear hk))
    go_ret
    exact HFIN.out _ _ _ ⟨rfl, HA3.out⟩
  · refine goal_two (putP S (sgn 26 a c)) (by simp [twoP]) ?_
    obtain ⟨A1, hA1⟩ : ∃ A, A = putP S (sgn 26 a c) := ⟨_, rfl⟩
    have hfin : putP S (sgn 26 a c) = A1 := by subst hA1; rfl
    rw [hfin]; clear hfin goal_two
    have g0 := hg; have z0 : S.length ≤ 9000 := hS
    have s1 : Stp S A1 1 := by rw [hA1]; exact sgn2_stp g0 26 (by omega) (by omega) (by omega)
    have g1 := s1.gd; have t1 := s1.lt; have u1 := s1.ge; have v1 := s1.le
    have HC1 : Hid (∀ W, KAt w B p b vs S W → Calls Try.prog 79 #[.pointer (some ⟨p, 0, none⟩), .int .i64 ((a : Nat) : Int), .int .i64 ((c : Nat) : Int)] W (KAns w B p b vs A1)) := Lib.hid fun W hk => by rw [hA1]; exact eu_at hB (by omega) (by omega) (by omega) W hk
    clear hA1 s1 g1 t1 u1 v1 g0 z0 hg hS ha hc hB
    go_enter Try.func62, Try.ntmps62
    go_wp2_with (first | (go_at_call 79; (with_reducible refine (HC1.out _ (by first | exact HA0.out | exact HS.out _ _ _ HA0.out (by repeat (first | exact Below.refl _ _ | apply rrbelow_dn | apply Below.drew)))).mono ?_); rintro e w2 ⟨rfl, hk⟩; have HA1 := Lib.hid hk; clear hk))
    go_ret
    exact HFIN.out _ _ _ ⟨rfl, HA1.out⟩
  · refine goal_two (auP S a c) (by simp [twoP, n1, n2, n3, n4]) ?_
    obtain ⟨A1, hA1⟩ : ∃ A, A = notP S c := ⟨_, rfl⟩
    obtain ⟨A2, hA2⟩ : ∃ A, A = notP A1.1 a := ⟨_, rfl⟩
    obtain ⟨A3, hA3⟩ : ∃ A, A = putP A2.1 (sgn 16 A2.2 A1.2) := ⟨_, rfl⟩
    obtain ⟨A4, hA4⟩ : ∃ A, A = putP A3.1 (sgn 26 A1.2 A3.2) := ⟨_, rfl⟩
    obtain ⟨A5, hA5⟩ : ∃ A, A = notP A4.1 A4.2 := ⟨_, rfl⟩
    obtain ⟨A6, hA6⟩ : ∃ A, A = putP A5.1 (sgn 24 A1.2 0) := ⟨_, rfl⟩
    obtain ⟨A7, hA7⟩ : ∃ A, A = notP A6.1 A6.2 := ⟨_, rfl⟩
    obtain ⟨A8, hA8⟩ : ∃ A, A = putP A7.1 (sgn 16 A5.2 A7.2) := ⟨_, rfl⟩
    have hfin : auP S a c = A8 := by subst hA1 hA2 hA3 hA4 hA5 hA6 hA7 hA8; rfl
    rw [hfin]; clear hfin goal_two
    have g0 := hg; have z0 : S.length ≤ 9000 := hS
    have s1 : Stp S A1 1 := by rw [hA1]; exact notP_stp g0 (by omega)
    have g1 := s1.gd; have t1 := s1.lt; have u1 := s1.ge; have v1 := s1.le
    have HC1 : Hid (∀ W, KAt w B p b vs S W → Calls Try.prog 76 #[.pointer (some ⟨p, 0, none⟩), .int .i64 ((c : Nat) : Int)] W (KAns w B p b vs A1)) := Lib.hid fun W hk => by rw [hA1]; exact not_at hB g0 (by omega) (by omega) W hk
    have s2 : Stp A1.1 A2 1 := by rw [hA2]; exact notP_stp g1 (by omega)
    have g2 := s2.gd; have t2 := s2.lt; have u2 := s2.ge; have v2 := s2.le
    have HC2 : Hid (∀ W, KAt w B p b vs A1.1 W → Calls Try.prog 76 #[.pointer (some ⟨p, 0, none⟩), .int .i64 ((a : Nat) : Int)] W (KAns w B p b vs A2)) := Lib.hid fun W hk => by rw [hA2]; exact not_at hB g1 (by omega) (by omega) W hk
    have s3 : Stp A2.1 A3 1 := by rw [hA3]; exact sgn2_stp g2 16 (by omega) (by omega) (by omega)
    have g3 := s3.gd; have t3 := s3.lt; have u3 := s3.ge; have v3 := s3.le
    have HC3 : Hid (∀ W, KAt w B p b vs A2.1 W → Calls Try.prog 80 #[.pointer (some ⟨p, 0, none⟩), .int .i64 ((A2.2 : Nat) : Int), .int .i64 ((A1.2 : Nat) : Int)] W (KAns w B p b vs A3)) := Lib.hid fun W hk => by rw [hA3]; exact and_at hB (by omega) (by omega) (by omega) W hk
    have s4 : Stp A3.1 A4 1 := by rw [hA4]; exact sgn2_stp g3 26 (by omega) (by omega) (by omega)
    have g4 := s4.gd; have t4 := s4.lt; have u4 := s4.ge; have v4 := s4.le
    have HC4 : Hid (∀ W, KAt w B p b vs A3.1 W → Calls Try.prog 79 #[.pointer (some ⟨p, 0, none⟩), .int .i64 ((A1.2 : Nat) : Int), .int .i64 ((A3.2 : Nat) : Int)] W (KAns w B p b vs A4)) := Lib.hid fun W hk => by rw [hA4]; exact eu_at hB (by omega) (by omega) (by omega) W hk
    have s5 : Stp A4.1 A5 1 := by rw [hA5]; exact notP_stp g4 (by omega)
    have g5 := s5.gd; have t5 := s5.lt; have u5 := s5.ge; have v5 := s5.le
    have HC5 : Hid (∀ W, KAt w B p b vs A4.1 W → Calls Try.prog 76 #[.pointer (some ⟨p, 0, none⟩), .int .i64 ((A4.2 : Nat) : Int)] W (KAns w B p b vs A5)) := Lib.hid fun W hk => by rw [hA5]; exact not_at hB g4 (by omega) (by omega) W hk
    have s6 : Stp A5.1 A6 1 := by rw [hA6]; exact sgn1_stp g5 24 (by omega) (by omega)
    have g6 := s6.gd; have t6 := s6.lt; have u6 := s6.ge; have v6 := s6.le
    have HC6 : Hid (∀ W, KAt w B p b vs A5.1 W → Calls Try.prog 78 #[.pointer (some ⟨p, 0, none⟩), .int .i64 ((A1.2 : Nat) : Int)] W (KAns w B p b vs A6)) := Lib.hid fun W hk => by rw [hA6]; exact eg_at hB (by omega) (by omega) W hk
    have s7 : Stp A6.1 A7 1 := by rw [hA7]; exact notP_stp g6 (by omega)
    have g7 := s7.gd; have t7 := s7.lt; have u7 := s7.ge; have v7 := s7.le
    have HC7 : Hid (∀ W, KAt w B p b vs A6.1 W → Calls Try.prog 76 #[.pointer (some ⟨p, 0, none⟩), .int .i64 ((A6.2 : Nat) : Int)] W (KAns w B p b vs A7)) := Lib.hid fun W hk => by rw [hA7]; exact not_at hB g6 (by omega) (by omega) W hk
    have s8 : Stp A7.1 A8 1 := by rw [hA8]; exact sgn2_stp g7 16 (by omega) (by omega) (by omega)
    have g8 := s8.gd; have t8 := s8.lt; have u8 := s8.ge; have v8 := s8.le
    have HC8 : Hid (∀ W, KAt w B p b vs A7.1 W → Calls Try.prog 80 #[.pointer (some ⟨p, 0, none⟩), .int .i64 ((A5.2 : Nat) : Int), .int .i64 ((A7.2 : Nat) : Int)] W (KAns w B p b vs A8)) := Lib.hid fun W hk => by rw [hA8]; exact and_at hB (by omega) (by omega) (by omega) W hk
    clear hA1 s1 g1 t1 u1 v1 hA2 s2 g2 t2 u2 v2 hA3 s3 g3 t3 u3 v3 hA4 s4 g4 t4 u4 v4 hA5 s5 g5 t5 u5 v5 hA6 s6 g6 t6 u6 v6 hA7 s7 g7 t7 u7 v7 hA8 s8 g8 t8 u8 v8 g0 z0 hg hS ha hc hB
    go_enter Try.func62, Try.ntmps62
    go_wp2_with (first | (go_at_call 76; (with_reducible refine (HC1.out _ (by first | exact HA0.out | exact HS.out _ _ _ HA0.out (by repeat (first | exact Below.refl _ _ | apply rrbelow_dn | apply Below.drew)))).mono ?_); rintro e w2 ⟨rfl, hk⟩; have HA1 := Lib.hid hk; clear hk) | (go_at_call 76; (with_reducible refine (HC2.out _ (by first | exact HA1.out | exact HS.out _ _ _ HA1.out (by repeat (first | exact Below.refl _ _ | apply rrbelow_dn | apply Below.drew)))).mono ?_); rintro e w3 ⟨rfl, hk⟩; have HA2 := Lib.hid hk; clear hk) | (go_at_call 80; (with_reducible refine (HC3.out _ (by first | exact HA2.out | exact HS.out _ _ _ HA2.out (by repeat (first | exact Below.refl _ _ | apply rrbelow_dn | apply Below.drew)))).mono ?_); rintro e w4 ⟨rfl, hk⟩; have HA3 := Lib.hid hk; clear hk) | (go_at_call 79; (with_reducible refine (HC4.out _ (by first | exact HA3.out | exact HS.out _ _ _ HA3.out (by repeat (first | exact Below.refl _ _ | apply rrbelow_dn | apply Below.drew)))).mono ?_); rintro e w5 ⟨rfl, hk⟩; have HA4 := Lib.hid hk; clear hk) | (go_at_call 76; (with_reducible refine (HC5.out _ (by first | exact HA4.out | exact HS.out _ _ _ HA4.out (by repeat (first | exact Below.refl _ _ | apply rrbelow_dn | apply Below.drew)))).mono ?_); rintro e w6 ⟨rfl, hk⟩; have HA5 := Lib.hid hk; clear hk) | (go_at_call 78; (with_reducible refine (HC6.out _ (by first | exact HA5.out | exact HS.out _ _ _ HA5.out (by repeat (first | exact Below.refl _ _ | apply rrbelow_dn | apply Below.drew)))).mono ?_); rintro e w7 ⟨rfl, hk⟩; have HA6 := Lib.hid hk; clear hk) | (go_at_call 76; (with_reducible refine (HC7.out _ (by first | exact HA6.out | exact HS.out _ _ _ HA6.out (by repeat (first | exact Below.refl _ _ | apply rrbelow_dn | apply Below.drew)))).mono ?_); rintro e w8 ⟨rfl, hk⟩; have HA7 := Lib.hid hk; clear hk) | (go_at_call 80; (with_reducible refine (HC8.out _ (by first | exact HA7.out | exact HS.out _ _ _ HA7.out (by repeat (first | exact Below.refl _ _ | apply rrbelow_dn | apply Below.drew)))).mono ?_); rintro e w9 ⟨rfl, hk⟩; have HA8 := Lib.hid hk; clear hk))
    go_ret
    exact HFIN.out _ _ _ ⟨rfl, HA8.out⟩
end Go.Proofs.Ytofbdgpbekcibaa
