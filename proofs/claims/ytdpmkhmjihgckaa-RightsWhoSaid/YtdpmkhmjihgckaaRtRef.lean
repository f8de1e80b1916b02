/-
  Rights: the document's answers: in, Had, Complete.
-/
import Derived.Test.YtdpmkhmjihgckaaRtCpl
import Derived.Test.YtdpmkhmjihgckaaBitsRhas
namespace Go.Proofs.Ytdpmkhmjihgckaa
open Go.RowKit
set_option linter.unusedVariables false
set_option linter.unusedSimpArgs false

set_option maxRecDepth 100000 in
theorem rf_in (i : Int) (n : Nat) (w : World) : Calls Try.prog 97 #[.int .i64 i, .int .i64 (n : Nat)] w fun e w' => e = .returned (.bool (inN i n)) ∧ w = w' := by
  by_cases h0 : 0 ≤ i
  · by_cases h1 : i < (n : Int)
    · rw [inN_iff.2 ⟨h0, h1⟩]
      go_enter Try.func97, Try.ntmps97
      go_wp2
      go_ret
      exact ⟨rfl, rfl⟩
    · rw [inN_no (by omega)]
      go_enter Try.func97, Try.ntmps97
      go_wp2
      go_ret
      exact ⟨rfl, rfl⟩
  · rw [inN_no (by omega)]
    go_enter Try.func97, Try.ntmps97
    go_wp2
    go_ret
    exact ⟨rfl, rfl⟩
set_option maxRecDepth 100000 in
theorem rf_had (s : Sq) (e u : Int) (w : World) (hs : RdS w s) : Calls Try.prog 94 #[s.val, .int .i64 e, .int .i64 u] w fun e' w' => e' = .returned (.bool (hadB s e u)) ∧ Below w.heap.size w w' := by
  have hb := mbel_new w (.cells #[.slice s.vals.a s.vals.n s.vals.c, .int .i64 s.op, .int .i64 s.dn, .slice s.dida s.did.length s.didc, .slice s.cnta s.cnt.length s.cntc] 35)
  have hc := (sq_new w s 35).c3
  have hi := rf_in e s.did.length (w.alloc (.cells #[.slice s.vals.a s.vals.n s.vals.c, .int .i64 s.op, .int .i64 s.dn, .slice s.dida s.did.length s.didc, .slice s.cnta s.cnt.length s.cntc] 35))
  have hm2 : s.did.length ≤ 9223372036854775807 := by have := hs.didm; unfold maxLen at this; omega
  have HB := Lib.hid hb
  unfold hadB Sq.val
  by_cases h : 0 ≤ e ∧ e < (s.did.length : Int)
  · rw [inN_iff.2 h] at hi
    obtain ⟨k, rfl⟩ : ∃ k : Nat, e = (k : Int) := ⟨e.toNat, by omega⟩
    have hk : k < s.did.length := by omega
    obtain ⟨b, off, ha, hcl⟩ := Reads.at (hs.did.mono hb (Nat.le_refl _)) (by rw [List.length_map]; omega)
    have hck := Reads.int hcl k hk
    have hh := rhas_any s.did[k] u (w.alloc (.cells #[.slice s.vals.a s.vals.n s.vals.c, .int .i64 s.op, .int .i64 s.dn, .slice s.dida s.did.length s.didc, .slice s.cnta s.cnt.length s.cntc] 35)) (hs.didk _ (List.getElem_mem hk)).1 (hs.didk _ (List.getElem_mem hk)).2
    have hc' : (w.alloc (.cells #[.slice s.vals.a s.vals.n s.vals.c, .int .i64 s.op, .int .i64 s.dn, .slice s.dida s.did.length s.didc, .slice s.cnta s.cnt.length s.cntc] 35)).cell? ⟨w.heap.size, 3, none⟩ = some (.slice (some ⟨b, off, none⟩) s.did.length s.didc) := hc.trans (by rw [ha])
    rw [ofL_in hk]
    generalize s.did[k] = x at *
    clear hs hb hcl ha hc h
    go_enter Try.func94, Try.ntmps94
    go_wp2_with (first | (go_at_call 97; refine hi.mono ?_; rintro e w' ⟨rfl, rfl⟩) | (go_at_call 57; refine hh.mono ?_; rintro e w' ⟨rfl, rfl⟩))
    go_ret
    exact ⟨rfl, HB.out⟩
  · rw [inN_no h] at hi
    rw [ofL_out h]
    have h0 : hasB 0 u = false := by
      unfold hasB
      cases hq : inB u with
      | false => rfl
      | true => simp [BitsPlain.bit]
    rw [h0]
    clear hs hb h h0
    go_enter Try.func94, Try.ntmps94
    go_wp2_with (go_at_call 97; refine hi.mono ?_; rintro e w' ⟨rfl, rfl⟩)
    go_ret
    exact ⟨rfl, HB.out⟩
set_option maxRecDepth 100000 in
set_option maxHeartbeats 1000000 in
theorem rf_complete (M : Mo) (s : Sq) (w : World) (hM : RdM w M) (hs : RdS w s) : Calls Try.prog 21 #[M.val, s.val] w fun e w' => e = .returned (.bool (cpl M s)) ∧ Below w.heap.size w w' := by
  have hu : ∀ b : Bool, ¬ (some undef = some (Value.bool b)) := fun b h => by cases h
  have hm2 : M.miles.length ≤ 9223372036854775807 := by have := hM.milesm; unfold maxLen at this; omega
  have hbn := both_new w M s 32 35
  have HM := Lib.hid hM
  have HDN := Lib.hid hs.dn
  clear hM hs
  unfold Mo.val Sq.val
  go_enter Try.func21, Try.ntmps21
  go_wp2_with fail
  generalize ((w.alloc (.cells #[.slice M.attrs.a M.attrs.n M.attrs.c, .slice M.inits.a M.inits.n M.inits.c, .slice M.users.a M.users.n M.users.c, .slice M.rolesa M.roles.length M.rolesc, .slice M.stagesa M.stages.length M.stagesc, .slice M.eventsa M.events.length M.eventsc, .slice M.guardsa M.guards.length M.guardsc, .slice M.milesa M.miles.length M.milesc, .slice M.sodsa M.sods.length M.sodsc, .slice M.order.a M.order.n M.order.c] 32)).alloc (.cells #[.slice s.vals.a s.vals.n s.vals.c, .int .i64 s.op, .int .i64 s.dn, .slice s.dida s.did.length s.didc, .slice s.cnta s.cnt.length s.cntc] 35)) = W at *
  obtain ⟨hb, hMo, hSq⟩ := hbn
  have HB := Lib.hid hb
  clear hb
  go_loopw [5] (fun v5 wr => ∃ i : Nat, v5 = .int .i64 i ∧ i ≤ M.miles.length ∧ ¬ Cpl M s i ∧ Below W.heap.size W wr) (fun v5 _ => M.miles.length - (intOf v5).toNat)
  case atStart => exact ⟨0, rfl, by omega, cpl_none, Below.refl _ _⟩
  case round =>
    obtain ⟨i, rfl, hi, hno, hbel⟩ := hrel
    have m7 := (hMo.mono hbel (Nat.le_refl _)).c7
    have s2 := (hSq.mono hbel (Nat.le_refl _)).c2
    have HBW := Lib.hid (HB.out.trans (hbel.mono HB.out.size))
    have HBEL := Lib.hid hbel
    by_cases hlt : i < M.miles.length
    · obtain ⟨b, off, ha, hrg⟩ := recs_at Ml.cells_len (by omega) (HM.out).miles i hlt
      have h1 := hrg i hlt 4 _ (show (M.miles[i].cells)[4]? = some (.bool M.miles[i].fin) from rfl)
      have hrw : wr.cell? ⟨b, off + i * 5 + 4, none⟩ = some (.bool M.miles[i].fin) := (HBW.out.cell (p := ⟨b, off + i * 5 + 4, none⟩) (lt_of_cell h1)).trans h1
      rw [ha] at m7
      have hli : (i : Int) < (M.miles.length : Int) := by omega
      have HHIT : Hid (M.miles[i].fin = true → hasB s.dn (i : Nat) = true → cpl M s = true) := Lib.hid fun h1 h2 => cpl_hit hlt h1 h2
      have HNEXT : Hid (¬ (M.miles[i].fin = true ∧ hasB s.dn (i : Nat) = true) → ¬ Cpl M s (i + 1)) := Lib.hid fun h => cpl_next hno hlt h
      generalize M.miles[i].fin = fin at *
      have hha := fun W => rhas_any s.dn (i : Nat) W HDN.out.1 HDN.out.2
      have hw1 : IntKind.i64.wrap ((i : Int) + 1) = ((i + 1 : Nat) : Int) := by rw [IntWalk.i64_in _ (by omega)]; omega
      clear hrg h1 hno hbel hMo hSq ha
      cases fin with
      | false =>
        go_wp2_with fail
        go_roundw
        case rel => exact ⟨i + 1, by go_num, by omega, HNEXT.out (fun h => by cases h.1), HBEL.out⟩
        case measure => simp [intOf] <;> omega
      | true =>
        cases hh : hasB s.dn (i : Nat) with
        | false =>
          rw [hh] at hha
          have HN := Lib.hid (HNEXT.out (fun h => by rw [hh] at h; cases h.2))
          clear hh HNEXT HHIT
          go_wp2_with (go_at_call 57; refine (hha _).mono ?_; rintro e w' ⟨rfl, rfl⟩)
          go_roundw
          case rel => exact ⟨i + 1, by go_num, by omega, HN.out, HBEL.out⟩
          case measure => simp [intOf] <;> omega
        | true =>
          rw [hh] at hha
          have HN := Lib.hid (HHIT.out rfl hh)
          clear hh HNEXT HHIT
          go_wp2_with (go_at_call 57; refine (hha _).mono ?_; rintro e w' ⟨rfl, rfl⟩)
          go_ret
          exact ⟨ret_bool HN.out.symm, HBW.out⟩
    · have hie : i = M.miles.length := by omega
      subst hie
      have HN := Lib.hid (cpl_all hno)
      clear hno hbel
      go_wp2_with fail
      go_ret
      exact ⟨ret_bool HN.out.symm, HBW.out⟩
end Go.Proofs.Ytdpmkhmjihgckaa
