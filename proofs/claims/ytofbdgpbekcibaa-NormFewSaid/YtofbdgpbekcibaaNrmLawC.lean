/-
  Norm: which steps may be, told alike.
-/
import Derived.Test.YtofbdgpbekcibaaNrmRef
import Derived.Test.YtofbdgpbekcibaaNrmPut
import Derived.StillTailTactics
namespace Go.Proofs.Ytofbdgpbekcibaa
open Go.RowKit
set_option linter.unusedVariables false
set_option linter.unusedSimpArgs false
theorem own_readsP {w : World} {B n : Nat} {v : Value} {l : List Sp} (h : w.ownsRow B 73 10 v n (Rec.flat Sp.cells l)) (hn : l.length = n) : ∃ a c, v = .slice a n c ∧ RdP w a l := by
  rcases h.2 with ⟨h1, h0⟩ | ⟨g, cap, cur, rfl, hg, hh, _⟩
  · subst h0
    have : l = [] := List.eq_nil_of_length_eq_zero hn
    subst this
    exact ⟨none, 0, h1, Or.inl rfl⟩
  · refine ⟨_, cap, rfl, Or.inr ⟨g, 0, rfl, fun j hj => ?_⟩⟩
    rw [Nat.zero_add]
    rw [Rec.flat_len Sp.cells_len] at hj
    rw [h.cellAt j (by rw [← hn]; exact hj)]
set_option maxRecDepth 100000 in
set_option maxHeartbeats 4000000 in
theorem normChecks_walk (a : Option Addr) (c : Nat) (l : List Sp) (w : World) (hl : RdP w a l) (hm : l.length ≤ maxLen) (hz : l.length * 80 ≤ 140737488355328) (HAW : Hid (∀ w', Below w.heap.size w w' → Calls Try.prog 41 #[] w' fun e w2 => e = .returned (.bool true) ∧ Below w.heap.size w w2)) :
    Calls Try.prog 11 #[.slice a l.length c] w fun e w' => e = .returned (.bool true) ∧ Below w.heap.size w w' := by
  have hu : ∀ b : Bool, ¬ (some undef = some (Value.bool b)) := fun b h => by cases h
  have hm2 : l.length ≤ 9223372036854775807 := by unfold maxLen at hm; omega
  have HRC : Hid (∀ w', Below w.heap.size w w' → Calls Try.prog 40 #[.slice a l.length c] w' fun e w2 => e = .returned (.bool (fitL l)) ∧ Below w.heap.size w w2) := Lib.hid fun w' hb => (rcheckS_any a c l w' (hl.mono hb (Nat.le_refl _)) hm).mono fun e w2 h => ⟨h.1, hb.trans (h.2.mono hb.size)⟩
  have HNC : Hid (∀ w' v, w'.ownsRow w.heap.size 73 10 v l.length (Rec.flat Sp.cells l) → Below w.heap.size w w' → ∃ a' c', v = .slice a' l.length c' ∧ ∀ n, Calls Try.prog 39 #[.slice a' l.length c'] (w'.drewN n) fun e w2 => e = .returned (.bool (fitL l)) ∧ Below w.heap.size w w2) := Lib.hid fun w' v ho hb => by
    obtain ⟨a', c', hv, hr⟩ := own_readsP ho rfl
    exact ⟨a', c', hv, fun n => (ncheck_any a' c' l (w'.drewN n) hr hm).mono fun e w2 h => ⟨h.1, (rrbelow_dn hb n).trans (h.2.mono hb.size)⟩⟩
  have HAT : Hid (∀ i (hi : i < l.length), ∃ b off, a = some ⟨b, off, none⟩ ∧ ∀ wr, Below w.heap.size w wr → wr.rangeAt b (off + i * 10) l[i].cells) := Lib.hid fun i hi => by
    obtain ⟨b, off, ha, hrg⟩ := hl.at (by omega)
    refine ⟨b, off, ha, fun wr hb j v hv => ?_⟩
    have h1 := hrg i hi j v hv
    exact (hb.cell (p := ⟨b, off + i * 10 + j, none⟩) (lt_of_cell h1)).trans h1
  clear hl
  go_enter Try.func11, Try.ntmps11
  go_wp2_with fail
  go_loopw [3, 4] (fun v3 v4 wr => ∃ i : Nat, v4 = .int .i64 i ∧ i ≤ l.length ∧ wr.ownsRow w.heap.size 73 10 v3 i (Rec.flat Sp.cells (l.take i)) ∧ Below w.heap.size w wr) (fun _ v4 _ => l.length - (intOf v4).toNat)
  case atStart => exact ⟨0, rfl, by omega, by simpa [Rec.flat] using World.ownsRow_nil _ _ _ _, Below.refl _ _⟩
  case round =>
    obtain ⟨i, rfl, hi, hown, hbel⟩ := hrel
    by_cases hlt : i < l.length
    · obtain ⟨b, off, ha, hrg⟩ := HAT.out i hlt
      subst ha
      have hrw := hrg wr hbel
      obtain ⟨av, cv, rfl⟩ := own_len hown
      have htk : Rec.flat Sp.cells (l.take i) ++ l[i].cells = Rec.flat Sp.cells (l.take (i + 1)) := by
        rw [← Rec.flat_snoc]; congr 1; simp [List.take_append_getElem, hlt]
      have HTK : Hid (∀ (W : World) v, W.ownsRow w.heap.size 73 10 v (i + 1) (Rec.flat Sp.cells (l.take i) ++ l[i].cells) → W.ownsRow w.heap.size 73 10 v (i + 1) (Rec.flat Sp.cells (l.take (i + 1)))) := Lib.hid fun W v h => by rw [← htk]; exact h
      have HKB : Hid (∀ n W2, Keeps (fun k => (Value.slice av i cv).ownBlock = some k) (wr.drewN n) W2 → Below w.heap.size w W2) := Lib.hid fun n W2 k => (rrbelow_dn hbel n).trans (k.below (fun k e => (hown.lt k e).1) hbel.size)
      generalize l[i] = x at *
      have hrw : wr.rangeAt b (off + i * 10) [.int .i64 x.op, .int .i64 x.a, .int .i64 x.b, .int .i64 x.t0, .int .i64 x.t1, .int .i64 x.t2, .int .i64 x.t3, .int .i64 x.t4, .int .i64 x.t5, .int .i64 x.t6] := hrw
      have c0 : wr.cell? ⟨b, off + i * 10, none⟩ = some (.int .i64 x.op) := by have := hrw 0 (.int .i64 x.op) rfl; simpa using this
      have c1 : wr.cell? ⟨b, off + i * 10 + 1, none⟩ = some (.int .i64 x.a) := by have := hrw 1 (.int .i64 x.a) rfl; simpa using this
      have c2 : wr.cell? ⟨b, off + i * 10 + 2, none⟩ = some (.int .i64 x.b) := by have := hrw 2 (.int .i64 x.b) rfl; simpa using this
      have c3 : wr.cell? ⟨b, off + i * 10 + 3, none⟩ = some (.int .i64 x.t0) := by have := hrw 3 (.int .i64 x.t0) rfl; simpa using this
      have c4 : wr.cell? ⟨b, off + i * 10 + 4, none⟩ = some (.int .i64 x.t1) := by have := hrw 4 (.int .i64 x.t1) rfl; simpa using this
      have c5 : wr.cell? ⟨b, off + i * 10 + 5, none⟩ = some (.int .i64 x.t2) := by have := hrw 5 (.int .i64 x.t2) rfl; simpa using this
      have c6 : wr.cell? ⟨b, off + i * 10 + 6, none⟩ = some (.int .i64 x.t3) := by have := hrw 6 (.int .i64 x.t3) rfl; simpa using this
      have c7 : wr.cell? ⟨b, off + i * 10 + 7, none⟩ = some (.int .i64 x.t4) := by have := hrw 7 (.int .i64 x.t4) rfl; simpa using this
      have c8 : wr.cell? ⟨b, off + i * 10 + 8, none⟩ = some (.int .i64 x.t5) := by have := hrw 8 (.int .i64 x.t5) rfl; simpa using this
      have c9 : wr.cell? ⟨b, off + i * 10 + 9, none⟩ = some (.int .i64 x.t6) := by have := hrw 9 (.int .i64 x.t6) rfl; simpa using this
      have hsz := hbel.size
      have hw1 : IntKind.i64.wrap ((i : Int) + 1) = ((i + 1 : Nat) : Int) := by rw [IntWalk.i64_in _ (by omega)]; omega
      clear hrw hrg htk HAT
      go_wp2_with fail
      go_region_law (refine step_at (v := .slice av i cv) rfl _ _ 66 rfl 73 _ 10 80 Try.underlying66 infoStep rfl (by decide) rfl hown hsz [.int .i64 x.op, .int .i64 x.a, .int .i64 x.b, .int .i64 x.t0, .int .i64 x.t1, .int .i64 x.t2, .int .i64 x.t3, .int .i64 x.t4, .int .i64 x.t5, .int .i64 x.t6] rfl (by simp [Value.oneCell']) rfl (by simp) (by decide) (by omega) ⟨1, rfl⟩ ?_; intro g1 cap1 W4 own4 keep4 where4)
      all_goals have HO5 := Lib.hid (HTK.out _ _ own4)
      all_goals have HB5 := Lib.hid (HKB.out 0 _ keep4)
      all_goals clear own4 keep4 where4
      all_goals go_wp2_with fail
      all_goals go_roundw
      all_goals first
        | exact ⟨i + 1, by go_num, by omega, HO5.out, HB5.out⟩
        | (simp [intOf] <;> omega)
    · have hie : i = l.length := by omega
      subst hie
      rw [List.take_length] at hown
      obtain ⟨a', c', rfl, HC0⟩ := HNC.out _ _ hown hbel
      have HC := Lib.hid HC0
      have HBW := Lib.hid hbel
      clear HC0 hown hbel HNC HAT
      go_wp2_with (first | (go_at_call 39; refine (HC.out 0).mono ?_; rintro e w2 ⟨rfl, hb2⟩; have HB2 := Lib.hid hb2; clear hb2) | (go_at_call 40; refine (HRC.out _ HB2.out).mono ?_; rintro e w3 ⟨rfl, hb3⟩; have HB3 := Lib.hid hb3; clear hb3) | (go_at_call 41; refine (HAW.out _ HB3.out).mono ?_; rintro e w4 ⟨rfl, hb4⟩; have HB4 := Lib.hid hb4; clear hb4))
      all_goals go_ret
      all_goals exact ⟨rfl, HB4.out⟩
end Go.Proofs.Ytofbdgpbekcibaa
