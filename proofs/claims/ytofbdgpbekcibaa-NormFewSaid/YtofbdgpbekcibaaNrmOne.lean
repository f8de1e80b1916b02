/-
  Norm: a sign of arity 1.
-/
import Derived.Test.YtofbdgpbekcibaaNrmSig
import Derived.Deep.RegionWith
namespace Go.Proofs.Ytofbdgpbekcibaa
open Go.RowKit Go.Maps
set_option linter.unusedVariables false
set_option linter.unusedSimpArgs false

/-- The maker of w1, since then of the steps S. -/
def KAt (w1 : World) (B p b : Nat) (vs : Value) (S : List Sp) (W : World) : Prop := Below B w1 W ∧ ∃ v D, IsK W B p v b D S ∧ Frm w1 p b vs W v
def KAns (w1 : World) (B p b : Nat) (vs : Value) (A : List Sp × Nat) (e : Ending) (w' : World) : Prop := e = .returned (.int .i64 ((A.2 : Nat) : Int)) ∧ KAt w1 B p b vs A.1 w'
section
variable {w1 W W2 w w' : World} {B p b : Nat} {vs : Value} {S : List Sp} {D : RDat} {A : List Sp × Nat} {e : Ending}
theorem KAt.still (h : KAt w1 B p b vs S W) (hB : B ≤ w1.heap.size) (hb : Below W.heap.size W W2) : KAt w1 B p b vs S W2 := by
  obtain ⟨h1, v, D, h2, h3⟩ := h
  exact ⟨h1.trans (hb.mono (Nat.le_trans hB h1.size)), v, D, h2.still hb, h3.still hb h1.size⟩
theorem at_call {f : Nat} {args : Array Value} (hB : B ≤ w1.heap.size) (HC : ∀ W v D, IsK W B p v b D S → B ≤ W.heap.size → Calls Try.prog f args W (KR W B p b v A)) (W : World) (h : KAt w1 B p b vs S W) : Calls Try.prog f args W (KAns w1 B p b vs A) := by
  obtain ⟨h1, v, D, h2, h3⟩ := h
  refine (HC W v D h2 (Nat.le_trans hB h1.size)).mono ?_
  rintro e w' ⟨he, hb, v2, D2, hk, hf⟩
  exact ⟨he, h1.trans hb, v2, D2, hk, h3.trans hf h1.size⟩
theorem not_at (hB : B ≤ w1.heap.size) (hg : Gd S) (hS : S.length ≤ 10000) {a : Nat} (ha : a < S.length) (W : World) (h : KAt w1 B p b vs S W) : Calls Try.prog 76 #[.pointer (some ⟨p, 0, none⟩), .int .i64 (a : Nat)] W (KAns w1 B p b vs (notP S a)) :=
  at_call hB (fun W v D hk hB2 => knot_any hk hB2 hS a ha (hg.neg0 a)) W h
theorem KAns.fin (h : KAns (w.alloc (.cells #[.pointer (some ⟨p, 0, none⟩)] 117)) B p b vs A e w') (hB : B ≤ w.heap.size) : KR w B p b vs A e w' := by
  obtain ⟨h1, h2, v, D, h3, h4⟩ := h
  exact ⟨h1, ((rbel_new w _).mono hB).trans h2, v, D, h3, ((Frm.refl w p b vs).still (rbel_new w _) (Nat.le_refl _)).trans h4 (by simp)⟩
theorem KAt.box (h : KAt w1 B p b vs S W) {X : Nat} (h0 : w1.cell? ⟨X, 0, none⟩ = some (.pointer (some ⟨p, 0, none⟩))) (hp : X ≠ p) (hb : X ≠ b) (hv : vs.ownBlock ≠ some X) : W.cell? ⟨X, 0, none⟩ = some (.pointer (some ⟨p, 0, none⟩)) := by
  obtain ⟨h1, v, D, h2, h3⟩ := h
  have := (h3 X (lt_of_cell h0) hp hb hv).1
  rw [← h0]
  unfold World.cell?
  rw [this]
theorem ex_at (hB : B ≤ w1.heap.size) (hS : S.length ≤ 10000) {a : Nat} (ha : a < S.length) (W : World) (h : KAt w1 B p b vs S W) : Calls Try.prog 77 #[.pointer (some ⟨p, 0, none⟩), .int .i64 (a : Nat)] W (KAns w1 B p b vs (putP S (sgn 20 a 0))) :=
  at_call hB (fun W v D hk hB2 => kex_any hk hB2 hS a (by omega)) W h
theorem eg_at (hB : B ≤ w1.heap.size) (hS : S.length ≤ 10000) {a : Nat} (ha : a < S.length) (W : World) (h : KAt w1 B p b vs S W) : Calls Try.prog 78 #[.pointer (some ⟨p, 0, none⟩), .int .i64 (a : Nat)] W (KAns w1 B p b vs (putP S (sgn 24 a 0))) :=
  at_call hB (fun W v D hk hB2 => keg_any hk hB2 hS a (by omega)) W h
theorem and_at (hB : B ≤ w1.heap.size) (hS : S.length ≤ 10000) {a : Nat} (ha : a < S.length) {c : Nat} (hc : c < S.length) (W : World) (h : KAt w1 B p b vs S W) : Calls Try.prog 80 #[.pointer (some ⟨p, 0, none⟩), .int .i64 (a : Nat), .int .i64 (c : Nat)] W (KAns w1 B p b vs (putP S (sgn 16 a c))) :=
  at_call hB (fun W v D hk hB2 => kand_any hk hB2 hS a (by omega) c (by omega)) W h
theorem eu_at (hB : B ≤ w1.heap.size) (hS : S.length ≤ 10000) {a : Nat} (ha : a < S.length) {c : Nat} (hc : c < S.length) (W : World) (h : KAt w1 B p b vs S W) : Calls Try.prog 79 #[.pointer (some ⟨p, 0, none⟩), .int .i64 (a : Nat), .int .i64 (c : Nat)] W (KAns w1 B p b vs (putP S (sgn 26 a c))) :=
  at_call hB (fun W v D hk hB2 => keu_any hk hB2 hS a (by omega) c (by omega)) W h
theorem truth_at (hB : B ≤ w1.heap.size) (hS : S.length ≤ 10000) {X : Nat} (W : World) (h : KAt w1 B p b vs S W) (hX : W.cell? ⟨X, 0, none⟩ = some (.pointer (some ⟨p, 0, none⟩))) : Calls Try.prog 75 #[.pointer (some ⟨X, 0, none⟩)] W (KAns w1 B p b vs (putP S (atm tru))) := by
  obtain ⟨h1, v, D, h2, h3⟩ := h
  refine (ktruth_any h2 (Nat.le_trans hB h1.size) hS X hX).mono ?_
  rintro e w' ⟨he, hb, v2, D2, hk, hf⟩
  exact ⟨he, h1.trans hb, v2, D2, hk, h3.trans hf h1.size⟩
end
set_option maxHeartbeats 4000000 in
theorem kone_any {w : World} {B p b : Nat} {vs : Value} {D : RDat} {S : List Sp} (h : IsK w B p vs b D S) (hB : B ≤ w.heap.size) (hS : S.length ≤ 9000) (hg : Gd S) (op : Int) (a : Nat) (ha : a < S.length) :
    Calls Try.prog 61 #[.pointer (some ⟨p, 0, none⟩), .int .i64 op, .int .i64 (a : Nat)] w (KR w B p b vs (oneP S op a)) := by
  have hbx : (w.alloc (.cells #[.pointer (some ⟨p, 0, none⟩)] 117)).heap[w.heap.size]? = some (.cells #[.pointer (some ⟨p, 0, none⟩)] 117 (0, 0)) := heap_alloc_new w _
  have xb0 : (w.alloc (.cells #[.pointer (some ⟨p, 0, none⟩)] 117)).cell? ⟨w.heap.size, 0, none⟩ = some (.pointer (some ⟨p, 0, none⟩)) := cell_of_row _ w.heap.size 0 _ _ _ hbx
  have hXp : w.heap.size ≠ p := fun e => by have := (Array.getElem?_eq_some_iff.1 h.block).1; omega
  have hXb : w.heap.size ≠ b := fun e => by have := h.map.lt; omega
  have hXv : vs.ownBlock ≠ some w.heap.size := fun e => by have := (h.out.lt _ e).2; omega
  have HFIN : Hid (∀ A e w', KAns (w.alloc (.cells #[.pointer (some ⟨p, 0, none⟩)] 117)) B p b vs A e w' → KR w B p b vs A e w') := Lib.hid fun A e w' hk => hk.fin hB
  have HA0 : Hid (KAt (w.alloc (.cells #[.pointer (some ⟨p, 0, none⟩)] 117)) B p b vs S (w.alloc (.cells #[.pointer (some ⟨p, 0, none⟩)] 117))) := Lib.hid ⟨Below.refl _ _, vs, D, h.still (rbel_new w _), Frm.refl _ _ _ _⟩
  have hB1 : B ≤ (w.alloc (.cells #[.pointer (some ⟨p, 0, none⟩)] 117)).heap.size := Nat.le_trans hB (by simp)
  have HBOX : Hid (∀ S W, KAt (w.alloc (.cells #[.pointer (some ⟨p, 0, none⟩)] 117)) B p b vs S W → W.cell? ⟨w.heap.size, 0, none⟩ = some (.pointer (some ⟨p, 0, none⟩))) := Lib.hid fun S W hk => hk.box xb0 hXp hXb hXv
  have HS : Hid (∀ S W W2 , KAt (w.alloc (.cells #[.pointer (some ⟨p, 0, none⟩)] 117)) B p b vs S W → Below W.heap.size W W2 → KAt (w.alloc (.cells #[.pointer (some ⟨p, 0, none⟩)] 117)) B p b vs S W2) := Lib.hid fun S W W2 hk hb => hk.still hB1 hb
  clear h hbx hXp hXb hXv
  have hops : op = 15 ∨ op = 19 ∨ op = 20 ∨ op = 21 ∨ op = 22 ∨ op = 23 ∨ (op ≠ 15 ∧ op ≠ 19 ∧ op ≠ 20 ∧ op ≠ 21 ∧ op ≠ 22 ∧ op ≠ 23) := by omega
  have goal_one : ∀ A, oneP S op a = A → (Calls Try.prog 61 #[.pointer (some ⟨p, 0, none⟩), .int .i64 op, .int .i64 (a : Nat)] w (KR w B p b vs A)) → Calls Try.prog 61 #[.pointer (some ⟨p, 0, none⟩), .int .i64 op, .int .i64 (a : Nat)] w (KR w B p b vs (oneP S op a)) := fun A e hc => e ▸ hc
  rcases hops with rfl | rfl | rfl | rfl | rfl | rfl | ⟨n1, n2, n3, n4, n5, n6⟩
  · refine goal_one (notP S a) (by simp [oneP]) ?_
    have HC1 : Hid (∀ W, KAt (w.alloc (.cells #[.pointer (some ⟨p, 0, none⟩)] 117)) B p b vs S W → Calls Try.prog 76 #[.pointer (some ⟨p, 0, none⟩), .int .i64 (a : Nat)] W (KAns (w.alloc (.cells #[.pointer (some ⟨p, 0, none⟩)] 117)) B p b vs (notP S a))) := Lib.hid fun W hk => not_at hB1 hg (by omega) ha W hk
    generalize notP S a = A1 at *
    clear hB1 hg ha hS goal_one hB
    go_enter Try.func61, Try.ntmps61
    go_wp2_with (go_at_call 76; (with_reducible refine (HC1.out _ (by first | exact HA0.out | exact HS.out _ _ _ HA0.out ((Below.refl _ _).drew) | exact HS.out _ _ _ HA0.out ((Below.refl _ _).drew.drew) | exact HS.out _ _ _ HA0.out (by repeat (first | exact Below.refl _ _ | apply rrbelow_dn | apply Below.drew)))).mono ?_); rintro e w2 ⟨rfl, hk⟩; have xb1 := HBOX.out _ _ hk; have HA1 := Lib.hid hk; clear hk)
    go_ret
    exact HFIN.out _ _ _ ⟨rfl, HA1.out⟩
  · refine goal_one (nxnP S 20 a) (by simp [oneP]) ?_
    have s1 := notP_stp hg ha
    have s2 := sgn1_stp s1.gd 20 (Or.inl rfl) s1.lt
    have l1 := s1.le
    have l2 := s2.le
    have HC1 : Hid (∀ W, KAt (w.alloc (.cells #[.pointer (some ⟨p, 0, none⟩)] 117)) B p b vs S W → Calls Try.prog 76 #[.pointer (some ⟨p, 0, none⟩), .int .i64 (a : Nat)] W (KAns (w.alloc (.cells #[.pointer (some ⟨p, 0, none⟩)] 117)) B p b vs (notP S a))) := Lib.hid fun W hk => not_at hB1 hg (by omega) ha W hk
    have HC2 : Hid (∀ W, KAt (w.alloc (.cells #[.pointer (some ⟨p, 0, none⟩)] 117)) B p b vs (notP S a).1 W → Calls Try.prog 77 #[.pointer (some ⟨p, 0, none⟩), .int .i64 (((notP S a).2 : Nat) : Int)] W (KAns (w.alloc (.cells #[.pointer (some ⟨p, 0, none⟩)] 117)) B p b vs (putP (notP S a).1 (sgn 20 (notP S a).2 0)))) := Lib.hid fun W hk => ex_at hB1 (by omega) s1.lt W hk
    have HC3 : Hid (∀ W, KAt (w.alloc (.cells #[.pointer (some ⟨p, 0, none⟩)] 117)) B p b vs (putP (notP S a).1 (sgn 20 (notP S a).2 0)).1 W → Calls Try.prog 76 #[.pointer (some ⟨p, 0, none⟩), .int .i64 (((putP (notP S a).1 (sgn 20 (notP S a).2 0)).2 : Nat) : Int)] W (KAns (w.alloc (.cells #[.pointer (some ⟨p, 0, none⟩)] 117)) B p b vs (nxnP S 20 a))) := Lib.hid fun W hk => not_at hB1 s2.gd (by omega) s2.lt W hk
    clear s1 s2 l1 l2
    generalize nxnP S 20 a = A3 at *
    generalize putP (notP S a).1 (sgn 20 (notP S a).2 0) = A2 at *
    generalize notP S a = A1 at *
    clear hB1 hg ha hS goal_one hB
    go_enter Try.func61, Try.ntmps61
    go_wp2_with fail
    go_region_with (first | (go_at_call 76; (with_reducible refine (HC1.out _ (by first | exact HA0.out | exact HS.out _ _ _ HA0.out ((Below.refl _ _).drew) | exact HS.out _ _ _ HA0.out ((Below.refl _ _).drew.drew) | exact HS.out _ _ _ HA0.out (by repeat (first | exact Below.refl _ _ | apply rrbelow_dn | apply Below.drew)))).mono ?_); rintro e w2 ⟨rfl, hk⟩; have xb1 := HBOX.out _ _ hk; have HA1 := Lib.hid hk; clear hk) | (go_at_call 77; (with_reducible refine (HC2.out _ (by first | exact HA1.out | exact HS.out _ _ _ HA1.out ((Below.refl _ _).drew) | exact HS.out _ _ _ HA1.out ((Below.refl _ _).drew.drew) | exact HS.out _ _ _ HA1.out (by repeat (first | exact Below.refl _ _ | apply rrbelow_dn | apply Below.drew)))).mono ?_); rintro e w3 ⟨rfl, hk⟩; have xb2 := HBOX.out _ _ hk; have HA2 := Lib.hid hk; clear hk) | (go_at_call 76; (with_reducible refine (HC3.out _ (by first | exact HA2.out | exact HS.out _ _ _ HA2.out ((Below.refl _ _).drew) | exact HS.out _ _ _ HA2.out ((Below.refl _ _).drew.drew) | exact HS.out _ _ _ HA2.out (by repeat (first | exact Below.refl _ _ | apply rrbelow_dn | apply Below.drew)))).mono ?_); rintro e w4 ⟨rfl, hk⟩; have xb3 := HBOX.out _ _ hk; have HA3 := Lib.hid hk; clear hk))
    all_goals go_wp2_with fail
    all_goals go_ret
    all_goals exact HFIN.out _ _ _ ⟨rfl, HA3.out⟩
  · refine goal_one (putP S (sgn 20 a 0)) (by simp [oneP]) ?_
    have HC1 : Hid (∀ W, KAt (w.alloc (.cells #[.pointer (some ⟨p, 0, none⟩)] 117)) B p b vs S W → Calls Try.prog 77 #[.pointer (some ⟨p, 0, none⟩), .int .i64 (a : Nat)] W (KAns (w.alloc (.cells #[.pointer (some ⟨p, 0, none⟩)] 117)) B p b vs (putP S (sgn 20 a 0)))) := Lib.hid fun W hk => ex_at hB1 (by omega) ha W hk
    generalize putP S (sgn 20 a 0) = A1 at *
    clear hB1 hg ha hS goal_one hB
    go_enter Try.func61, Try.ntmps61
    go_wp2_with (go_at_call 77; (with_reducible refine (HC1.out _ (by first | exact HA0.out | exact HS.out _ _ _ HA0.out ((Below.refl _ _).drew) | exact HS.out _ _ _ HA0.out ((Below.refl _ _).drew.drew) | exact HS.out _ _ _ HA0.out (by repeat (first | exact Below.refl _ _ | apply rrbelow_dn | apply Below.drew)))).mono ?_); rintro e w2 ⟨rfl, hk⟩; have xb1 := HBOX.out _ _ hk; have HA1 := Lib.hid hk; clear hk)
    go_ret
    exact HFIN.out _ _ _ ⟨rfl, HA1.out⟩
  · refine goal_one (nxnP S 24 a) (by simp [oneP]) ?_
    have s1 := notP_stp hg ha
    have s2 := sgn1_stp s1.gd 24 (Or.inr rfl) s1.lt
    have l1 := s1.le
    have l2 := s2.le
    have HC1 : Hid (∀ W, KAt (w.alloc (.cells #[.pointer (some ⟨p, 0, none⟩)] 117)) B p b vs S W → Calls Try.prog 76 #[.pointer (some ⟨p, 0, none⟩), .int .i64 (a : Nat)] W (KAns (w.alloc (.cells #[.pointer (some ⟨p, 0, none⟩)] 117)) B p b vs (notP S a))) := Lib.hid fun W hk => not_at hB1 hg (by omega) ha W hk
    have HC2 : Hid (∀ W, KAt (w.alloc (.cells #[.pointer (some ⟨p, 0, none⟩)] 117)) B p b vs (notP S a).1 W → Calls Try.prog 78 #[.pointer (some ⟨p, 0, none⟩), .int .i64 (((notP S a).2 : Nat) : Int)] W (KAns (w.alloc (.cells #[.pointer (some ⟨p, 0, none⟩)] 117)) B p b vs (putP (notP S a).1 (sgn 24 (notP S a).2 0)))) := Lib.hid fun W hk => eg_at hB1 (by omega) s1.lt W hk
    have HC3 : Hid (∀ W, KAt (w.alloc (.cells #[.pointer (some ⟨p, 0, none⟩)] 117)) B p b vs (putP (notP S a).1 (sgn 24 (notP S a).2 0)).1 W → Calls Try.prog 76 #[.pointer (some ⟨p, 0, none⟩), .int .i64 (((putP (notP S a).1 (sgn 24 (notP S a).2 0)).2 : Nat) : Int)] W (KAns (w.alloc (.cells #[.pointer (some ⟨p, 0, none⟩)] 117)) B p b vs (nxnP S 24 a))) := Lib.hid fun W hk => not_at hB1 s2.gd (by omega) s2.lt W hk
    clear s1 s2 l1 l2
    generalize nxnP S 24 a = A3 at *
    generalize putP (notP S a).1 (sgn 24 (notP S a).2 0) = A2 at *
    generalize notP S a = A1 at *
    clear hB1 hg ha hS goal_one hB
    go_enter Try.func61, Try.ntmps61
    go_wp2_with fail
    go_region_with (first | (go_at_call 76; (with_reducible refine (HC1.out _ (by first | exact HA0.out | exact HS.out _ _ _ HA0.out ((Below.refl _ _).drew) | exact HS.out _ _ _ HA0.out ((Below.refl _ _).drew.drew) | exact HS.out _ _ _ HA0.out (by repeat (first | exact Below.refl _ _ | apply rrbelow_dn | apply Below.drew)))).mono ?_); rintro e w2 ⟨rfl, hk⟩; have xb1 := HBOX.out _ _ hk; have HA1 := Lib.hid hk; clear hk) | (go_at_call 78; (with_reducible refine (HC2.out _ (by first | exact HA1.out | exact HS.out _ _ _ HA1.out ((Below.refl _ _).drew) | exact HS.out _ _ _ HA1.out ((Below.refl _ _).drew.drew) | exact HS.out _ _ _ HA1.out (by repeat (first | exact Below.refl _ _ | apply rrbelow_dn | apply Below.drew)))).mono ?_); rintro e w3 ⟨rfl, hk⟩; have xb2 := HBOX.out _ _ hk; have HA2 := Lib.hid hk; clear hk) | (go_at_call 76; (with_reducible refine (HC3.out _ (by first | exact HA2.out | exact HS.out _ _ _ HA2.out ((Below.refl _ _).drew) | exact HS.out _ _ _ HA2.out ((Below.refl _ _).drew.drew) | exact HS.out _ _ _ HA2.out (by repeat (first | exact Below.refl _ _ | apply rrbelow_dn | apply Below.drew)))).mono ?_); rintro e w4 ⟨rfl, hk⟩; have xb3 := HBOX.out _ _ hk; have HA3 := Lib.hid hk; clear hk))
    all_goals go_wp2_with fail
    all_goals go_ret
    all_goals exact HFIN.out _ _ _ ⟨rfl, HA3.out⟩
  · refine goal_one (efP S a) (by simp [oneP]) ?_
    have s1 := atm_stp hg tru (by simp [tru])
    have l1 := s1.le
    have HC1 : Hid (∀ W, KAt (w.alloc (.cells #[.pointer (some ⟨p, 0, none⟩)] 117)) B p b vs S W → Calls Try.prog 75 #[.pointer (some ⟨w.heap.size, 0, none⟩)] W (KAns (w.alloc (.cells #[.pointer (some ⟨p, 0, none⟩)] 117)) B p b vs (putP S (atm tru)))) := Lib.hid fun W hk => truth_at hB1 (by omega) W hk (HBOX.out _ _ hk)
    have HC2 : Hid (∀ W, KAt (w.alloc (.cells #[.pointer (some ⟨p, 0, none⟩)] 117)) B p b vs (putP S (atm tru)).1 W → Calls Try.prog 79 #[.pointer (some ⟨p, 0, none⟩), .int .i64 (((putP S (atm tru)).2 : Nat) : Int), .int .i64 (a : Nat)] W (KAns (w.alloc (.cells #[.pointer (some ⟨p, 0, none⟩)] 117)) B p b vs (efP S a))) := Lib.hid fun W hk => eu_at hB1 (by omega) s1.lt (Nat.lt_of_lt_of_le ha s1.ge) W hk
    clear s1 l1
    generalize efP S a = A2 at *
    generalize putP S (atm tru) = A1 at *
    clear hB1 hg ha hS goal_one hB
    go_enter Try.func61, Try.ntmps61
    go_wp2_with fail
    go_region_with (first | (go_at_call 75; (with_reducible refine (HC1.out _ (by first | exact HA0.out | exact HS.out _ _ _ HA0.out ((Below.refl _ _).drew) | exact HS.out _ _ _ HA0.out ((Below.refl _ _).drew.drew) | exact HS.out _ _ _ HA0.out (by repeat (first | exact Below.refl _ _ | apply rrbelow_dn | apply Below.drew)))).mono ?_); rintro e w2 ⟨rfl, hk⟩; have xb1 := HBOX.out _ _ hk; have HA1 := Lib.hid hk; clear hk) | (go_at_call 79; (with_reducible refine (HC2.out _ (by first | exact HA1.out | exact HS.out _ _ _ HA1.out ((Below.refl _ _).drew) | exact HS.out _ _ _ HA1.out ((Below.refl _ _).drew.drew) | exact HS.out _ _ _ HA1.out (by repeat (first | exact Below.refl _ _ | apply rrbelow_dn | apply Below.drew)))).mono ?_); rintro e w3 ⟨rfl, hk⟩; have xb2 := HBOX.out _ _ hk; have HA2 := Lib.hid hk; clear hk))
    all_goals go_wp2_with fail
    all_goals go_ret
    all_goals exact HFIN.out _ _ _ ⟨rfl, HA2.out⟩
  · refine goal_one (agP S a) (by simp [oneP]) ?_
    have s1 := notP_stp hg ha
    have s2 := atm_stp s1.gd tru (by simp [tru])
    have s3 := ef_stp s1.gd s1.lt
    have l1 := s1.le
    have l2 := s2.le
    have l3 := s3.le
    have HC1 : Hid (∀ W, KAt (w.alloc (.cells #[.pointer (some ⟨p, 0, none⟩)] 117)) B p b vs S W → Calls Try.prog 76 #[.pointer (some ⟨p, 0, none⟩), .int .i64 (a : Nat)] W (KAns (w.alloc (.cells #[.pointer (some ⟨p, 0, none⟩)] 117)) B p b vs (notP S a))) := Lib.hid fun W hk => not_at hB1 hg (by omega) ha W hk
    have HC2 : Hid (∀ W, KAt (w.alloc (.cells #[.pointer (some ⟨p, 0, none⟩)] 117)) B p b vs (notP S a).1 W → Calls Try.prog 75 #[.pointer (some ⟨w.heap.size, 0, none⟩)] W (KAns (w.alloc (.cells #[.pointer (some ⟨p, 0, none⟩)] 117)) B p b vs (putP (notP S a).1 (atm tru)))) := Lib.hid fun W hk => truth_at hB1 (by omega) W hk (HBOX.out _ _ hk)
    have HC3 : Hid (∀ W, KAt (w.alloc (.cells #[.pointer (some ⟨p, 0, none⟩)] 117)) B p b vs (putP (notP S a).1 (atm tru)).1 W → Calls Try.prog 79 #[.pointer (some ⟨p, 0, none⟩), .int .i64 (((putP (notP S a).1 (atm tru)).2 : Nat) : Int), .int .i64 (((notP S a).2 : Nat) : Int)] W (KAns (w.alloc (.cells #[.pointer (some ⟨p, 0, none⟩)] 117)) B p b vs (efP (notP S a).1 (notP S a).2))) := Lib.hid fun W hk => eu_at hB1 (by omega) s2.lt (Nat.lt_of_lt_of_le s1.lt s2.ge) W hk
    have HC4 : Hid (∀ W, KAt (w.alloc (.cells #[.pointer (some ⟨p, 0, none⟩)] 117)) B p b vs (efP (notP S a).1 (notP S a).2).1 W → Calls Try.prog 76 #[.pointer (some ⟨p, 0, none⟩), .int .i64 (((efP (notP S a).1 (notP S a).2).2 : Nat) : Int)] W (KAns (w.alloc (.cells #[.pointer (some ⟨p, 0, none⟩)] 117)) B p b vs (agP S a))) := Lib.hid fun W hk => not_at hB1 s3.gd (by omega) s3.lt W hk
    clear s1 s2 s3 l1 l2 l3
    generalize agP S a = A4 at *
    generalize efP (notP S a).1 (notP S a).2 = A3 at *
    generalize putP (notP S a).1 (atm tru) = A2 at *
    generalize notP S a = A1 at *
    clear hB1 hg ha hS goal_one hB
    go_enter Try.func61, Try.ntmps61
    go_wp2_with (go_at_call 76; (with_reducible refine (HC1.out _ (by first | exact HA0.out | exact HS.out _ _ _ HA0.out ((Below.refl _ _).drew) | exact HS.out _ _ _ HA0.out ((Below.refl _ _).drew.drew) | exact HS.out _ _ _ HA0.out (by repeat (first | exact Below.refl _ _ | apply rrbelow_dn | apply Below.drew)))).mono ?_); rintro e w2 ⟨rfl, hk⟩; have xb1 := HBOX.out _ _ hk; have HA1 := Lib.hid hk; clear hk)
    go_region_with (first | (go_at_call 75; (with_reducible refine (HC2.out _ (by first | exact HA1.out | exact HS.out _ _ _ HA1.out ((Below.refl _ _).drew) | exact HS.out _ _ _ HA1.out ((Below.refl _ _).drew.drew) | exact HS.out _ _ _ HA1.out (by repeat (first | exact Below.refl _ _ | apply rrbelow_dn | apply Below.drew)))).mono ?_); rintro e w3 ⟨rfl, hk⟩; have xb2 := HBOX.out _ _ hk; have HA2 := Lib.hid hk; clear hk) | (go_at_call 79; (with_reducible refine (HC3.out _ (by first | exact HA2.out | exact HS.out _ _ _ HA2.out ((Below.refl _ _).drew) | exact HS.out _ _ _ HA2.out ((Below.refl _ _).drew.drew) | exact HS.out _ _ _ HA2.out (by repeat (first | exact Below.refl _ _ | apply rrbelow_dn | apply Below.drew)))).mono ?_); rintro e w4 ⟨rfl, hk⟩; have xb3 := HBOX.out _ _ hk; have HA3 := Lib.hid hk; clear hk) | (go_at_call 76; (with_reducible refine (HC4.out _ (by first | exact HA3.out | exact HS.out _ _ _ HA3.out ((Below.refl _ _).drew) | exact HS.out _ _ _ HA3.out ((Below.refl _ _).drew.drew) | exact HS.out _ _ _ HA3.out (by repeat (first | exact Below.refl _ _ | apply rrbelow_dn | apply Below.drew)))).mono ?_); rintro e w5 ⟨rfl, hk⟩; have xb4 := HBOX.out _ _ hk; have HA4 := Lib.hid hk; clear hk))
    all_goals go_wp2_with fail
    all_goals go_ret
    all_goals exact HFIN.out _ _ _ ⟨rfl, HA4.out⟩
  · refine goal_one (putP S (sgn 24 a 0)) (by simp [oneP, n1, n2, n3, n4, n5, n6]) ?_
    have HC1 : Hid (∀ W, KAt (w.alloc (.cells #[.pointer (some ⟨p, 0, none⟩)] 117)) B p b vs S W → Calls Try.prog 78 #[.pointer (some ⟨p, 0, none⟩), .int .i64 (a : Nat)] W (KAns (w.alloc (.cells #[.pointer (some ⟨p, 0, none⟩)] 117)) B p b vs (putP S (sgn 24 a 0)))) := Lib.hid fun W hk => eg_at hB1 (by omega) ha W hk
    generalize putP S (sgn 24 a 0) = A1 at *
    clear hB1 hg ha hS goal_one hB
    go_enter Try.func61, Try.ntmps61
    go_wp2_with (go_at_call 78; (with_reducible refine (HC1.out _ (by first | exact HA0.out | exact HS.out _ _ _ HA0.out ((Below.refl _ _).drew) | exact HS.out _ _ _ HA0.out ((Below.refl _ _).drew.drew) | exact HS.out _ _ _ HA0.out (by repeat (first | exact Below.refl _ _ | apply rrbelow_dn | apply Below.drew)))).mono ?_); rintro e w2 ⟨rfl, hk⟩; have xb1 := HBOX.out _ _ hk; have HA1 := Lib.hid hk; clear hk)
    go_ret
    exact HFIN.out _ _ _ ⟨rfl, HA1.out⟩
end Go.Proofs.Ytofbdgpbekcibaa
