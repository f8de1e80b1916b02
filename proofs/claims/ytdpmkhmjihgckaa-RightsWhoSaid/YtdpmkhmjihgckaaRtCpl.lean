/-
  Rights: Complete, by a walk.
-/
import Derived.Test.YtdpmkhmjihgckaaRtBase
import Derived.Deep.RegionLaw
import Derived.Deep.RegionWith
namespace Go.Proofs.Ytdpmkhmjihgckaa
open Go.RowKit
set_option linter.unusedVariables false
set_option linter.unusedSimpArgs false

theorem msizeMile : (Try.prog.info? 103).map (·.size) = some 5 := by kernel_rfl
theorem recs_at {α : Type} {cells : α → List Value} {k : Nat} (hk : ∀ x, (cells x).length = k) (h0 : 0 < k) {w : World} {a : Option Addr} {l : List α} (h : Reads w a (Rec.flat cells l)) (i : Nat) (hi : i < l.length) :
    ∃ b off, a = some ⟨b, off, none⟩ ∧ ∀ i (hi : i < l.length), w.rangeAt b (off + i * k) (cells l[i]) := by
  obtain ⟨b, off, rfl, hc⟩ := Reads.at h (by rw [Rec.flat_len hk]; exact Nat.mul_pos (by omega) h0)
  refine ⟨b, off, rfl, fun i hi j v hv => ?_⟩
  have hj : j < k := by rw [← hk l[i]]; exact (List.getElem?_eq_some_iff.1 hv).1
  have h2 : i * k + j < l.length * k := by
    have := Nat.mul_le_mul_right k (show i + 1 ≤ l.length from hi)
    rw [Nat.add_mul] at this; omega
  have := hc (i * k + j) (by rw [Rec.flat_len hk]; exact h2)
  rw [Rec.flat_at hk l i j hi hj] at this
  rw [Nat.add_assoc, this, hv]
set_option maxRecDepth 100000 in
set_option maxHeartbeats 1000000 in
theorem rt_complete (M : Mo) (s : Sq) (w : World) (hM : RdM w M) : Calls Try.prog 20 #[M.val, s.val] w fun e w' => e = .returned (.bool (cpl M s)) ∧ Below w.heap.size w w' := by
  have hu : ∀ b : Bool, ¬ (some undef = some (Value.bool b)) := fun b h => by cases h
  have hm2 : M.miles.length ≤ 9223372036854775807 := by have := hM.milesm; unfold maxLen at this; omega
  have hbn := both_new w M s 32 35
  have HM := Lib.hid hM
  clear hM
  unfold Mo.val Sq.val
  go_enter Try.func20, Try.ntmps20
  go_wp2_with fail
  generalize ((w.alloc (.cells #[.slice M.attrs.a M.attrs.n M.attrs.c, .slice M.inits.a M.inits.n M.inits.c, .slice M.users.a M.users.n M.users.c, .slice M.rolesa M.roles.length M.rolesc, .slice M.stagesa M.stages.length M.stagesc, .slice M.eventsa M.events.length M.eventsc, .slice M.guardsa M.guards.length M.guardsc, .slice M.milesa M.miles.length M.milesc, .slice M.sodsa M.sods.length M.sodsc, .slice M.order.a M.order.n M.order.c] 32)).alloc (.cells #[.slice s.vals.a s.vals.n s.vals.c, .int .i64 s.op, .int .i64 s.dn, .slice s.dida s.did.length s.didc, .slice s.cnta s.cnt.length s.cntc] 35)) = W at *
  obtain ⟨hb, hMo, hSq⟩ := hbn
  have m7 := hMo.c7
  have s2 := hSq.c2
  have HB := Lib.hid hb
  clear hb
  go_loopw [10] (fun v10 wr => ∃ i : Nat, v10 = .int .i64 i ∧ i ≤ M.miles.length ∧ ¬ Cpl M s i ∧ Below W.heap.size W wr) (fun v10 _ => M.miles.length - (intOf v10).toNat)
  case atStart => exact ⟨0, rfl, by omega, cpl_none, Below.refl _ _⟩
  case round =>
    obtain ⟨i, rfl, hi, hno, hbel⟩ := hrel
    have m7 := (hMo.mono hbel (Nat.le_refl _)).c7
    have s2 := (hSq.mono hbel (Nat.le_refl _)).c2
    have HBW := Lib.hid (HB.out.trans (hbel.mono HB.out.size))
    by_cases hlt : i < M.miles.length
    · obtain ⟨b, off, ha, hrg⟩ := recs_at Ml.cells_len (by omega) (HM.out).miles i hlt
      have hrw : wr.rangeAt b (off + i * 5) M.miles[i].cells := fun j v hv => by
        have h1 := hrg i hlt j v hv
        exact (HBW.out.cell (p := ⟨b, off + i * 5 + j, none⟩) (lt_of_cell h1)).trans h1
      rw [ha] at m7 ⊢
      have HHIT : Hid (M.miles[i].fin = true → hasB s.dn (i : Nat) = true → cpl M s = true) := Lib.hid fun h1 h2 => cpl_hit hlt h1 h2
      have HNEXT : Hid (¬ (M.miles[i].fin = true ∧ hasB s.dn (i : Nat) = true) → ¬ Cpl M s (i + 1)) := Lib.hid fun h => cpl_next hno hlt h
      generalize M.miles[i] = x at *
      obtain ⟨nm, st, ev, cond, fin⟩ := x
      have hrw2 : wr.rangeAt b (off + i * 5) [.string nm, .int .i64 st, .int .i64 ev, .slice cond.a cond.n cond.c, .bool fin] := hrw
      have HHB : Hid (∀ o, Below w.heap.size w (wr.alloc o) ∧ Below W.heap.size W (wr.alloc o)) := Lib.hid fun o => ⟨HBW.out.trans ((mbel_new wr o).mono HBW.out.size), hbel.trans ((mbel_new wr o).mono hbel.size)⟩
      have hs2' : ∀ o, (wr.alloc o).cell? ⟨w.heap.size + 1, 2, none⟩ = some (.int .i64 s.dn) := fun o => mcell_mono s2 (mbel_new wr o) (Nat.le_refl _)
      have hha := fun W => has_any s.dn (i : Nat) W
      have hw1 : IntKind.i64.wrap ((i : Int) + 1) = ((i + 1 : Nat) : Int) := by rw [IntWalk.i64_in _ (by omega)]; omega
      clear hrg hrw hno hbel hMo hSq
      cases fin with
      | false =>
        go_wp2_with (refine wpList_load_mid rfl 103 (.tmp 13) rfl b (off + i * 5) rfl _ _ hrw2 Try.underlying103 rfl msizeMile ?_)
        go_roundw
        case rel => exact ⟨i + 1, by go_num, by omega, HNEXT.out (fun h => by cases h.1), (HHB.out _).2⟩
        case measure => simp [intOf] <;> omega
      | true =>
        cases hh : hasB s.dn (i : Nat) with
        | false =>
          rw [hh] at hha
          have HN := Lib.hid (HNEXT.out (fun h => by rw [hh] at h; cases h.2))
          clear hh HNEXT HHIT
          go_wp2_with (first | (refine wpList_load_mid rfl 103 (.tmp 13) rfl b (off + i * 5) rfl _ _ hrw2 Try.underlying103 rfl msizeMile ?_) | (go_at_call 56; refine (hha _).mono ?_; rintro e w' ⟨rfl, rfl⟩))
          go_roundw
          case rel => exact ⟨i + 1, by go_num, by omega, HN.out, (HHB.out _).2⟩
          case measure => simp [intOf] <;> omega
        | true =>
          rw [hh] at hha
          have HN := Lib.hid (HHIT.out rfl hh)
          clear hh HNEXT HHIT
          go_wp2_with (first | (refine wpList_load_mid rfl 103 (.tmp 13) rfl b (off + i * 5) rfl _ _ hrw2 Try.underlying103 rfl msizeMile ?_) | (go_at_call 56; refine (hha _).mono ?_; rintro e w' ⟨rfl, rfl⟩))
          go_ret
          exact ⟨ret_bool HN.out.symm, (HHB.out _).1⟩
    · have hie : i = M.miles.length := by omega
      subst hie
      have HN := Lib.hid (cpl_all hno)
      clear hno hbel
      go_wp2_with fail
      go_ret
      exact ⟨ret_bool HN.out.symm, HBW.out⟩
end Go.Proofs.Ytdpmkhmjihgckaa
