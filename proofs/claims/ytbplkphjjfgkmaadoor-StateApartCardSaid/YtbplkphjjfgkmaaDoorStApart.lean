/-
  Unlike states have unlike texts: the statement's walk.
-/
import Derived.Test.YtbplkphjjfgkmaaDoorStCk
namespace Go.Proofs.YtbplkphjjfgkmaaDoor
open Go.RowKit
set_option linter.unusedVariables false
set_option linter.unusedSimpArgs false

/-- Is a state too much? -/
def grS (s : Sv) : Bool := decide (150 < s.vals.length) || decide (150 < s.did.length) || decide (150 < s.cnt.length)
set_option maxHeartbeats 4000000 in
theorem great15s_any (s : Sv) (w : World) : Calls Tryd.prog 50 #[s.val] w fun e w' => e = .returned (.bool (grS s)) ∧ Below w.heap.size w w' := by
  have hS := sv_new w s
  have HB := Lib.hid (st_below_new w (.cells #[.slice s.vala s.vals.length s.valc, .int .i64 s.op, .int .i64 s.dn, .slice s.dida s.did.length s.didc, .slice s.cnta s.cnt.length s.cntc] 78))
  have s0 := hS.c0; have s3 := hS.c3; have s4 := hS.c4
  clear hS
  unfold Sv.val
  by_cases h1 : 150 < s.vals.length
  · have HZ : Hid (grS s = true) := Lib.hid (by unfold grS; simp [h1])
    have h1' : (150 : Int) < (s.vals.length : Int) := by omega
    go_enter Tryd.func50, Tryd.ntmps50
    go_wp2
    go_ret
    exact ⟨ret_bool HZ.out.symm, HB.out⟩
  · have h1' : ¬ (150 : Int) < (s.vals.length : Int) := by omega
    by_cases h2 : 150 < s.did.length
    · have HZ : Hid (grS s = true) := Lib.hid (by unfold grS; simp [h2])
      have h2' : (150 : Int) < (s.did.length : Int) := by omega
      go_enter Tryd.func50, Tryd.ntmps50
      go_wp2
      go_ret
      exact ⟨ret_bool HZ.out.symm, HB.out⟩
    · have h2' : ¬ (150 : Int) < (s.did.length : Int) := by omega
      by_cases h3 : 150 < s.cnt.length
      · have HZ : Hid (grS s = true) := Lib.hid (by unfold grS; simp [h3])
        have h3' : (150 : Int) < (s.cnt.length : Int) := by omega
        go_enter Tryd.func50, Tryd.ntmps50
        go_wp2
        go_ret
        exact ⟨ret_bool HZ.out.symm, HB.out⟩
      · have h3' : ¬ (150 : Int) < (s.cnt.length : Int) := by omega
        have HZ : Hid (grS s = false) := Lib.hid (by unfold grS; rw [decide_eq_false h1, decide_eq_false h2, decide_eq_false h3]; rfl)
        go_enter Tryd.func50, Tryd.ntmps50
        go_wp2
        go_ret
        exact ⟨ret_bool HZ.out.symm, HB.out⟩
theorem grS_no {s : Sv} (h : grS s = false) : s.vals.length ≤ 150 ∧ s.did.length ≤ 150 ∧ s.cnt.length ≤ 150 := by
  unfold grS at h
  simp only [Bool.or_eq_false_iff, decide_eq_false_iff_not] at h
  omega
def txtS (s : Sv) : ByteArray := ⟨(St.jn (St.nums s.vals s.op s.dn s.did s.cnt)).toArray⟩
theorem nums_fts {w : World} {s : Sv} (h : RdSv w s) (hg : grS s = false) : ∀ x ∈ St.nums s.vals s.op s.dn s.did s.cnt, St.ft x := by
  obtain ⟨h1, h2, h3⟩ := grS_no hg
  exact St.nums_ft h.valk h.op h.dn h.didk h.cntk (by omega) (by omega) (by omega)
theorem txt_same {w : World} {s t : Sv} (hs : RdSv w s) (ht : RdSv w t) (h1 : grS s = false) (h2 : grS t = false) : ((txtS s).toList == (txtS t).toList) = sameS s t := by
  rw [bytes_beq]
  have hi := St.text_inj (nums_fts hs h1) (nums_fts ht h2)
  have he : txtS s = txtS t ↔ St.jn (St.nums s.vals s.op s.dn s.did s.cnt) = St.jn (St.nums t.vals t.op t.dn t.did t.cnt) := by
    constructor
    · intro h
      have := congrArg (fun b : ByteArray => b.data.toList) h
      simpa [txtS] using this
    · intro h
      unfold txtS
      rw [h]
  unfold sameS
  by_cases h : txtS s = txtS t
  · obtain ⟨a, b, c, d, e⟩ := hi.1 (he.1 h)
    rw [decide_eq_true h, decide_eq_true a, decide_eq_true b, decide_eq_true c, decide_eq_true d, decide_eq_true e]
    rfl
  · rw [decide_eq_false h]
    symm
    rw [Bool.eq_false_iff]
    intro h3
    simp only [Bool.and_eq_true, decide_eq_true_eq] at h3
    exact h (he.2 (hi.2 ⟨h3.1.1.2, h3.1.1.1.1, h3.1.1.1.2, h3.1.2, h3.2⟩))
set_option maxRecDepth 100000 in
set_option maxHeartbeats 16000000 in
theorem stateApart_walk (s t : Sv) (w : World) (hs : RdSv w s) (ht : RdSv w t) (hn : Tab10 w) :
    Calls Tryd.prog 16 #[s.val, t.val] w fun e w' => e = .returned (.bool true) ∧ Below w.heap.size w w' := by
  obtain ⟨W2, hW2⟩ : ∃ W2 : World, W2 = ((w.alloc (.cells #[.slice s.vala s.vals.length s.valc, .int .i64 s.op, .int .i64 s.dn, .slice s.dida s.did.length s.didc, .slice s.cnta s.cnt.length s.cntc] 78)).alloc (.cells #[.slice t.vala t.vals.length t.valc, .int .i64 t.op, .int .i64 t.dn, .slice t.dida t.did.length t.didc, .slice t.cnta t.cnt.length t.cntc] 78)) := ⟨_, rfl⟩
  obtain ⟨hb, hS, hT⟩ := two_new w s t
  rw [← hW2] at hb hS hT
  have HB := Lib.hid hb
  have HS := Lib.hid (hs.mono hb (Nat.le_refl _))
  have HT := Lib.hid (ht.mono hb (Nat.le_refl _))
  have HAW : Hid (∀ W, Below W2.heap.size W2 W → Calls Tryd.prog 47 #[] W fun e w' => e = .returned (.bool true) ∧ Below W.heap.size W w') := Lib.hid fun W hW => awake15_any W (hn.below (hb.trans (hW.mono hb.size)))
  have HGS : Hid (∀ W, Below W2.heap.size W2 W → Calls Tryd.prog 50 #[.agg #[.slice s.vala s.vals.length s.valc, .int .i64 s.op, .int .i64 s.dn, .slice s.dida s.did.length s.didc, .slice s.cnta s.cnt.length s.cntc]] W fun e w' => e = .returned (.bool (grS s)) ∧ Below W.heap.size W w') := Lib.hid fun W _ => great15s_any s W
  have HGT : Hid (∀ W, Below W2.heap.size W2 W → Calls Tryd.prog 50 #[.agg #[.slice t.vala t.vals.length t.valc, .int .i64 t.op, .int .i64 t.dn, .slice t.dida t.did.length t.didc, .slice t.cnta t.cnt.length t.cntc]] W fun e w' => e = .returned (.bool (grS t)) ∧ Below W.heap.size W w') := Lib.hid fun W _ => great15s_any t W
  have HTN := Lib.hid (hn.below hb)
  have s0 := hS.c0; have s1 := hS.c1; have s2 := hS.c2; have s3 := hS.c3; have s4 := hS.c4; have t0 := hT.c0; have t1 := hT.c1; have t2 := hT.c2; have t3 := hT.c3; have t4 := hT.c4
  have HW := Lib.hid hW2
  clear hW2 hs ht hn hb hS hT
  unfold Sv.val
  go_enter Tryd.func16, Tryd.ntmps16
  go_upto_region 1 with fail
  rw [← HW.out]
  clear HW
  obtain ⟨g1, hg1⟩ : ∃ g, grS s = g := ⟨_, rfl⟩
  obtain ⟨g2, hg2⟩ : ∃ g, grS t = g := ⟨_, rfl⟩
  rw [hg1] at HGS
  rw [hg2] at HGT
  cases g1 with
  | true =>
    clear hg1 hg2
    go_wp2_with fail
    refine (HGS.out _ (Below.refl _ _)).mono ?_
    rintro e W3 ⟨rfl, h3⟩
    have H3 := Lib.hid h3
    clear h3
    go_wp2_with fail
    refine (HAW.out _ H3.out).mono ?_
    rintro e W4 ⟨rfl, h4⟩
    have H4 := Lib.hid (HB.out.trans ((H3.out.trans (h4.mono H3.out.size)).mono HB.out.size))
    clear h4
    go_wp2_with fail
    go_ret
    exact ⟨rfl, H4.out⟩
  | false =>
    go_wp2_with fail
    refine (HGS.out _ (Below.refl _ _)).mono ?_
    rintro e W3 ⟨rfl, h3⟩
    have H3 := Lib.hid h3
    have s0' := mcell_mono s0 h3 (Nat.le_refl _); have s1' := mcell_mono s1 h3 (Nat.le_refl _); have s2' := mcell_mono s2 h3 (Nat.le_refl _); have s3' := mcell_mono s3 h3 (Nat.le_refl _); have s4' := mcell_mono s4 h3 (Nat.le_refl _); have t0' := mcell_mono t0 h3 (Nat.le_refl _); have t1' := mcell_mono t1 h3 (Nat.le_refl _); have t2' := mcell_mono t2 h3 (Nat.le_refl _); have t3' := mcell_mono t3 h3 (Nat.le_refl _); have t4' := mcell_mono t4 h3 (Nat.le_refl _)
    clear h3
    go_wp2_with fail
    refine (HGT.out _ H3.out).mono ?_
    rintro e W4 ⟨rfl, h4⟩
    have H4 := Lib.hid (H3.out.trans (h4.mono H3.out.size))
    have s0'' := mcell_mono s0' h4 (Nat.le_refl _); have s1'' := mcell_mono s1' h4 (Nat.le_refl _); have s2'' := mcell_mono s2' h4 (Nat.le_refl _); have s3'' := mcell_mono s3' h4 (Nat.le_refl _); have s4'' := mcell_mono s4' h4 (Nat.le_refl _); have t0'' := mcell_mono t0' h4 (Nat.le_refl _); have t1'' := mcell_mono t1' h4 (Nat.le_refl _); have t2'' := mcell_mono t2' h4 (Nat.le_refl _); have t3'' := mcell_mono t3' h4 (Nat.le_refl _); have t4'' := mcell_mono t4' h4 (Nat.le_refl _)
    clear h4 s0 s1 s2 s3 s4 t0 t1 t2 t3 t4 s0' s1' s2' s3' s4' t0' t1' t2' t3' t4'
    cases g2 with
    | true =>
      clear hg1 hg2
      go_wp2_with fail
      refine (HAW.out _ H4.out).mono ?_
      rintro e W5 ⟨rfl, h5⟩
      have H5 := Lib.hid (HB.out.trans ((H4.out.trans (h5.mono H4.out.size)).mono HB.out.size))
      clear h5
      go_wp2_with fail
      go_ret
      exact ⟨rfl, H5.out⟩
    | false =>
      obtain ⟨l1, l2, l3⟩ := grS_no hg1
      obtain ⟨k1, k2, k3⟩ := grS_no hg2
      have hTT := txt_same HS.out HT.out hg1 hg2
      have HTA : Hid (∀ W, Below W2.heap.size W2 W → Calls Tryd.prog 51 #[.agg #[.slice s.vala s.vals.length s.valc, .int .i64 s.op, .int .i64 s.dn, .slice s.dida s.did.length s.didc, .slice s.cnta s.cnt.length s.cntc]] W fun e w' => e = .returned (.string (txtS s)) ∧ Below W.heap.size W w') := Lib.hid fun W hW => text_any s W (HS.out.mono hW (Nat.le_refl _)) l1 l2 l3 (HTN.out.below hW)
      have HTB : Hid (∀ W, Below W2.heap.size W2 W → Calls Tryd.prog 51 #[.agg #[.slice t.vala t.vals.length t.valc, .int .i64 t.op, .int .i64 t.dn, .slice t.dida t.did.length t.didc, .slice t.cnta t.cnt.length t.cntc]] W fun e w' => e = .returned (.string (txtS t)) ∧ Below W.heap.size W w') := Lib.hid fun W hW => text_any t W (HT.out.mono hW (Nat.le_refl _)) k1 k2 k3 (HTN.out.below hW)
      have HSA : Hid (∀ W, Below W2.heap.size W2 W → Calls Tryd.prog 55 #[.agg #[.slice s.vala s.vals.length s.valc, .int .i64 s.op, .int .i64 s.dn, .slice s.dida s.did.length s.didc, .slice s.cnta s.cnt.length s.cntc], .agg #[.slice t.vala t.vals.length t.valc, .int .i64 t.op, .int .i64 t.dn, .slice t.dida t.did.length t.didc, .slice t.cnta t.cnt.length t.cntc]] W fun e w' => e = .returned (.bool (sameS s t)) ∧ Below W.heap.size W w') := Lib.hid fun W hW => same_state s t W (HS.out.mono hW (Nat.le_refl _)) (HT.out.mono hW (Nat.le_refl _)) l1 l2 l3
      have HRS : Hid (∀ W, Below W2.heap.size W2 W → Calls Tryd.prog 54 #[.agg #[.slice s.vala s.vals.length s.valc, .int .i64 s.op, .int .i64 s.dn, .slice s.dida s.did.length s.didc, .slice s.cnta s.cnt.length s.cntc], .agg #[.slice t.vala t.vals.length t.valc, .int .i64 t.op, .int .i64 t.dn, .slice t.dida t.did.length t.didc, .slice t.cnta t.cnt.length t.cntc]] W fun e w' => e = .returned (.bool (sameS s t)) ∧ Below W.heap.size W w') := Lib.hid fun W hW => rsame_state s t W (HS.out.mono hW (Nat.le_refl _)) (HT.out.mono hW (Nat.le_refl _)) l1 l2 l3
      clear l1 l2 l3 k1 k2 k3 hg1 hg2 HGS HGT
      generalize txtS s = T1 at *
      generalize txtS t = T2 at *
      generalize sameS s t = q at *
      have H4D : Below W2.heap.size W2 W4.drew := H4.out.drew
      have H40 := H4.out
      cases q
      all_goals
        go_wp2_with fail
        go_region_held3 (fun w' => w'.cell? ⟨w.heap.size, 0, none⟩ = some (.slice s.vala s.vals.length s.valc) ∧ w'.cell? ⟨w.heap.size, 1, none⟩ = some (.int .i64 s.op) ∧ w'.cell? ⟨w.heap.size, 2, none⟩ = some (.int .i64 s.dn) ∧ w'.cell? ⟨w.heap.size, 3, none⟩ = some (.slice s.dida s.did.length s.didc) ∧ w'.cell? ⟨w.heap.size, 4, none⟩ = some (.slice s.cnta s.cnt.length s.cntc) ∧ w'.cell? ⟨w.heap.size + 1, 0, none⟩ = some (.slice t.vala t.vals.length t.valc) ∧ w'.cell? ⟨w.heap.size + 1, 1, none⟩ = some (.int .i64 t.op) ∧ w'.cell? ⟨w.heap.size + 1, 2, none⟩ = some (.int .i64 t.dn) ∧ w'.cell? ⟨w.heap.size + 1, 3, none⟩ = some (.slice t.dida t.did.length t.didc) ∧ w'.cell? ⟨w.heap.size + 1, 4, none⟩ = some (.slice t.cnta t.cnt.length t.cntc) ∧ Below W2.heap.size W2 w')
          (first
            | exact ⟨s0'', s1'', s2'', s3'', s4'', t0'', t1'', t2'', t3'', t4'', H4D⟩
            | exact ⟨s0'', s1'', s2'', s3'', s4'', t0'', t1'', t2'', t3'', t4'', H40⟩
            | (go_split_ands
               refine ⟨?_, ?_, ?_, ?_, ?_, ?_, ?_, ?_, ?_, ?_, ?_⟩
               · exact mcell_mono (by assumption) hb (Nat.le_refl _)
               · exact mcell_mono (by assumption) hb (Nat.le_refl _)
               · exact mcell_mono (by assumption) hb (Nat.le_refl _)
               · exact mcell_mono (by assumption) hb (Nat.le_refl _)
               · exact mcell_mono (by assumption) hb (Nat.le_refl _)
               · exact mcell_mono (by assumption) hb (Nat.le_refl _)
               · exact mcell_mono (by assumption) hb (Nat.le_refl _)
               · exact mcell_mono (by assumption) hb (Nat.le_refl _)
               · exact mcell_mono (by assumption) hb (Nat.le_refl _)
               · exact mcell_mono (by assumption) hb (Nat.le_refl _)
               · exact Below.trans (by assumption) (hb.mono (Below.size (by assumption))))
            | go_keep)
          (first
            | (go_at_call 51; first | ((with_reducible refine (HTA.out _ (by first | assumption | (go_split_ands; assumption))).mono ?_); rintro e' w2 ⟨rfl, hb⟩) | ((with_reducible refine (HTB.out _ (by first | assumption | (go_split_ands; assumption))).mono ?_); rintro e' w2 ⟨rfl, hb⟩))
            | (go_at_call 55; ((with_reducible refine (HSA.out _ (by first | assumption | (go_split_ands; assumption))).mono ?_); rintro e' w2 ⟨rfl, hb⟩))
            | (go_at_call 54; ((with_reducible refine (HRS.out _ (by first | assumption | (go_split_ands; assumption))).mono ?_); rintro e' w2 ⟨rfl, hb⟩))
            | (go_at_call 47; ((with_reducible refine (HAW.out _ (by first | assumption | (go_split_ands; assumption))).mono ?_); rintro e' w2 ⟨rfl, hb⟩)))
      all_goals
        rename_i hh
        obtain ⟨-, -, -, -, -, -, -, -, -, -, hbl⟩ := hh
        have HF := Lib.hid (HB.out.trans (hbl.mono HB.out.size))
        clear hbl
        go_wp2_with fail
        go_ret
        exact ⟨rfl, HF.out⟩
end Go.Proofs.YtbplkphjjfgkmaaDoor
