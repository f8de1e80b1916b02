/-
  norm.Steps: by a walk.
-/
import Derived.Test.YtofbdgpbekcibaaNrmSt
namespace Go.Proofs.Ytofbdgpbekcibaa
open Go.RowKit Go.Maps
set_option linter.unusedVariables false
set_option linter.unusedSimpArgs false

set_option maxRecDepth 100000 in
set_option maxHeartbeats 4000000 in
theorem ksteps_any (a : Option Addr) (c : Nat) (l : List Inx) (w : World) (hl : RdX w a l) (hok : ∀ x ∈ l, x.ok) (hm : l.length ≤ maxLen) :
    Calls Try.prog 42 #[.slice a l.length c] w (StR w l) := by
  have hu : ∀ b : Bool, ¬ (some undef = some (Value.bool b)) := fun b h => by cases h
  have hm2 : l.length ≤ 9223372036854775807 := by unfold maxLen at hm; omega
  by_cases h64 : 64 < l.length
  · have HA : Hid (StR w l (.returned (.tuple #[.slice none 0 0, .int .i64 0, .int .i64 17])) w) := Lib.hid ⟨Below.refl _ _, Or.inr ⟨Or.inl h64, rfl⟩⟩
    clear hl hm hok
    go_enter Try.func42, Try.ntmps42
    go_wp2_with fail
    go_ret3
    exact HA.out
  have HBAD : Hid (∀ w', nall l = none → Below w.heap.size w w' → StR w l (.returned (.tuple #[.slice none 0 0, .int .i64 0, .int .i64 17])) w') := Lib.hid (fun w' h hb => ⟨hb, Or.inr ⟨Or.inr h, rfl⟩⟩)
  have HOK : Hid (∀ w' S n v, nrun l l.length = some (S, [n]) → w'.ownsRow w.heap.size 73 10 v S.length (Rec.flat Sp.cells S) → (∀ x ∈ S, x.ok) → Below w.heap.size w w' → StR w l (.returned (.tuple #[v, .int .i64 ((n : Nat) : Int), .int .i64 0])) w') := Lib.hid (fun w' S n v h ho hk hb => ⟨hb, Or.inl ⟨S, n, v, by omega, nall_of h, rfl, ho, hk⟩⟩)
  have HR : Hid (∀ i (hi : i < l.length), ∃ b off, a = some ⟨b, off, none⟩ ∧ w.rangeAt b (off + i * 7) l[i].cells) := Lib.hid fun i hi => by
    obtain ⟨b, off, ha, hrg⟩ := hl.at (by omega)
    exact ⟨b, off, ha, hrg i hi⟩
  have HX := Lib.hid hok
  clear hl hm hok
  have hmm := @run_makeMap Try.prog
  have HST0 := Lib.hid (nst_start w)
  go_enter Try.func42, Try.ntmps42
  go_wp2_with fail
  clear hmm
  go_loopw [6, 20] (fun v6 v20 wr => ∃ (i : Nat) (S : List Sp) (r : List Nat) (v : Value) (D : RDat), v20 = .int .i64 i ∧ i ≤ l.length ∧ nrun l i = some (S, r) ∧ NSt w wr (w.heap.size + 1) (w.heap.size) S r v6 v D ∧ (r = [] → v6 = .slice none 0 0)) (fun _ v20 _ => l.length - (intOf v20).toNat)
  case atStart =>
    exact ⟨0, [], [], .slice none 0 0, .map [], rfl, by omega, rfl, HST0.out, fun _ => rfl⟩
  case round =>
    obtain ⟨i, S, r, v, D, rfl, hi, hrun, hst, hnil⟩ := hrel
    have hgd := nrun_gd i (S, r) hrun
    have hS1 := hgd.le
    have hS2 : S.length ≤ 9000 := by have : S.length ≤ 8 * i := hS1; omega
    have hGd := hgd.gd
    have hlt2 := hgd.lt
    have hrl : r.length ≤ i := hgd.few
    clear hgd hS1
    by_cases hlt : i < l.length
    · have HG := Lib.hid (And.intro hst hrun)
      obtain ⟨b, off, ha, hrc⟩ := HR.out i hlt
      subst ha
      have hrw : wr.rangeAt b (off + i * 7) l[i].cells := fun j v hv => by
        have h1 := hrc j v hv
        exact (hst.below.cell (p := ⟨b, off + i * 7 + j, none⟩) (lt_of_cell h1)).trans h1
      have hab := Tr.ar_bd l[i].t0
      have hxk := HX.out l[i] (List.getElem_mem hlt)
      have HXI := Lib.hid (List.getElem?_eq_getElem hlt)
      have AR := Lib.hid (arity_any l[i].t0)
      have HSUC : Hid (nrun l (i + 1) = nstp (S, r) l[i]) := Lib.hid (nrun_succ hrun (List.getElem?_eq_getElem hlt))
      clear hst hrun hrc HR HX
      generalize l[i] = x at *
      have hrw2 : wr.rangeAt b (off + i * 7) [.int .i64 x.t0, .int .i64 x.t1, .int .i64 x.t2, .int .i64 x.t3, .int .i64 x.t4, .int .i64 x.t5, .int .i64 x.t6] := hrw
      clear hrw HXI
      by_cases hneg : Tr.ar x.t0 < 0
      · have AR2 : Hid (∀ w, Calls Try.prog 18 #[.int .i64 x.t0] w fun e w' => e = .returned (.int .i64 (-1)) ∧ w = w') := Lib.hid (fun w => by
          have := AR.out w
          unfold ArAns at this
          rw [show Tr.ar x.t0 = -1 by omega] at this
          exact this)
        have HNO := Lib.hid (nall_bad (l := l) (i := i) (by rw [HSUC.out, nstp_few (Or.inl hneg)]) hlt)
        clear hneg AR HSUC
        go_wp2_with (first | (refine wpList_load_mid rfl 70 (.tmp 22) rfl b (off + i * 7) rfl _ _ hrw2 Try.underlying70 rfl nsizeInst ?_) | (go_at_call 18; refine (AR2.out _).mono ?_; rintro e w2 ⟨rfl, rfl⟩))
        go_ret3
        exact HBAD.out _ HNO.out ((HG.out).1.below.trans ((rbel_new wr _).mono (HG.out).1.below.size))
      have arw : ∀ n : Int, Tr.ar x.t0 = n → Hid (∀ w, Calls Try.prog 18 #[.int .i64 x.t0] w fun e w' => e = .returned (.int .i64 n) ∧ w = w') := fun n hn => Lib.hid (fun w => by
        have := AR.out w
        unfold ArAns at this
        rw [hn] at this
        exact this)
      have HARW := Lib.hid arw
      have HFEW : Hid ((r.length : Int) < Tr.ar x.t0 → nall l = none) := Lib.hid (fun h => nall_bad (l := l) (i := i) (by rw [HSUC.out, nstp_few (Or.inr h)]) hlt)
      clear arw AR
      have HST := Lib.hid ((HG.out).1.later (rbel_new wr (.cells #[.int .i64 x.t0, .int .i64 x.t1, .int .i64 x.t2, .int .i64 x.t3, .int .i64 x.t4, .int .i64 x.t5, .int .i64 x.t6] 70)))
      have hsz1 : w.heap.size ≤ (wr.alloc (.cells #[.int .i64 x.t0, .int .i64 x.t1, .int .i64 x.t2, .int .i64 x.t3, .int .i64 x.t4, .int .i64 x.t5, .int .i64 x.t6] 70)).heap.size := (HST.out).below.size
      by_cases n0 : Tr.ar x.t0 = 0
      · have AR2 := HARW.out 0 n0
        have HN := Lib.hid n0
        by_cases hr0 : r.length = 0
        · have hre : r = [] := List.eq_nil_of_length_eq_zero hr0
          subst hre
          have hv6 := hnil rfl
          subst hv6
          have HCUT := HST
          clear n0 hr0
          have HMK : Hid (∀ W, Below (wr.alloc (.cells #[.int .i64 x.t0, .int .i64 x.t1, .int .i64 x.t2, .int .i64 x.t3, .int .i64 x.t4, .int .i64 x.t5, .int .i64 x.t6] 70)).heap.size (wr.alloc (.cells #[.int .i64 x.t0, .int .i64 x.t1, .int .i64 x.t2, .int .i64 x.t3, .int .i64 x.t4, .int .i64 x.t5, .int .i64 x.t6] 70)) W → Calls Try.prog 60 #[.pointer (some ⟨w.heap.size + 1, 0, none⟩), .agg #[.int .i64 x.t0, .int .i64 x.t1, .int .i64 x.t2, .int .i64 x.t3, .int .i64 x.t4, .int .i64 x.t5, .int .i64 x.t6]] W fun e w2 => e = .returned (.int .i64 (((putP S (atm x)).2 : Nat) : Int)) ∧ ∃ v' D', NSt w w2 (w.heap.size + 1) (w.heap.size) (putP S (atm x)).1 [] (.slice none 0 0) v' D') := Lib.hid fun W hbw => by
            have hk := (HCUT.out).later hbw
            exact (katom_any hk.k hk.below.size (by omega) x hxk).mono fun e w2 h => ⟨h.1, hk.call h⟩
          have HRUN : Hid (nrun l (i + 1) = some ((putP S (atm x)).1, [] ++ [(putP S (atm x)).2])) := Lib.hid (by rw [HSUC.out, nstp_leaf HN.out])
          clear hGd hxk HSUC HFEW HST hS2 hnil hlt2
          generalize (putP S (atm x)) = A at *
          obtain ⟨A1, A2⟩ := A
          go_wp2_with (first | (refine wpList_load_mid rfl 70 (.tmp 22) rfl b (off + i * 7) rfl _ _ hrw2 Try.underlying70 rfl nsizeInst ?_) | (go_at_call 18; refine (AR2.out _).mono ?_; rintro e w2 ⟨rfl, rfl⟩) | (go_at_call 60; (with_reducible refine (HMK.out _ (by repeat (first | exact Below.refl _ _ | apply rrbelow_dn | apply Below.drew))).mono ?_); rintro e w2 ⟨rfl, v2, D2, hs2⟩; have hsz2 := hs2.below.size; have HS2 := Lib.hid hs2; clear hs2) | (at_builtin; refine append_at (v := .slice none 0 0) rfl (.tmp 73) (.tmp 75) 31 rfl 3 (.int .i64 0) 1 8 Try.underlying31 ninfoInt rfl (by decide) rfl (HS2.out).row hsz2 [.int .i64 ((A2 : Nat) : Int)] rfl (by simp [Value.oneCell']) rfl rfl (by decide) (by omega) ?_; intro g6 cap6 w6 own6 keep6 where6; have H6 := Lib.hid ((HS2.out).push own6 keep6 where6); clear own6 keep6 where6))
          all_goals go_roundw
          all_goals first
            | exact ⟨i + 1, A1, [] ++ [A2], v2, D2, by go_num, by omega, HRUN.out, H6.out, fun h => by simp at h⟩
            | (simp [intOf] <;> omega)
        · have hrow := (HST.out).row
          obtain ⟨g5, c5, hv6, hg5, hc5, hcm5, hgl5⟩ := own_some hrow (by omega)
          subst hv6
          have HCUT := HST
          have hr64 : r.length ≤ 64 := by omega
          clear n0 hrow
          by_cases hcc : c5 = r.length
          · subst hcc
            have HMK : Hid (∀ W, Below (wr.alloc (.cells #[.int .i64 x.t0, .int .i64 x.t1, .int .i64 x.t2, .int .i64 x.t3, .int .i64 x.t4, .int .i64 x.t5, .int .i64 x.t6] 70)).heap.size (wr.alloc (.cells #[.int .i64 x.t0, .int .i64 x.t1, .int .i64 x.t2, .int .i64 x.t3, .int .i64 x.t4, .int .i64 x.t5, .int .i64 x.t6] 70)) W → Calls Try.prog 60 #[.pointer (some ⟨w.heap.size + 1, 0, none⟩), .agg #[.int .i64 x.t0, .int .i64 x.t1, .int .i64 x.t2, .int .i64 x.t3, .int .i64 x.t4, .int .i64 x.t5, .int .i64 x.t6]] W fun e w2 => e = .returned (.int .i64 (((putP S (atm x)).2 : Nat) : Int)) ∧ ∃ v' D', NSt w w2 (w.heap.size + 1) (w.heap.size) (putP S (atm x)).1 r (.slice (some ⟨g5, 0, none⟩) r.length r.length) v' D') := Lib.hid fun W hbw => by
              have hk := (HCUT.out).later hbw
              exact (katom_any hk.k hk.below.size (by omega) x hxk).mono fun e w2 h => ⟨h.1, hk.call h⟩
            have HRUN : Hid (nrun l (i + 1) = some ((putP S (atm x)).1, r ++ [(putP S (atm x)).2])) := Lib.hid (by rw [HSUC.out, nstp_leaf HN.out])
            clear hGd hxk HSUC HFEW HST hS2 hnil hlt2
            generalize (putP S (atm x)) = A at *
            obtain ⟨A1, A2⟩ := A
            go_wp2_with (first | (refine wpList_load_mid rfl 70 (.tmp 22) rfl b (off + i * 7) rfl _ _ hrw2 Try.underlying70 rfl nsizeInst ?_) | (go_at_call 18; refine (AR2.out _).mono ?_; rintro e w2 ⟨rfl, rfl⟩) | (go_at_call 60; (with_reducible refine (HMK.out _ (by repeat (first | exact Below.refl _ _ | apply rrbelow_dn | apply Below.drew))).mono ?_); rintro e w2 ⟨rfl, v2, D2, hs2⟩; have hsz2 := hs2.below.size; have HS2 := Lib.hid hs2; clear hs2) | (at_builtin; refine append_at (v := .slice (some ⟨g5, 0, none⟩) r.length r.length) rfl (.tmp 73) (.tmp 75) 31 rfl 3 (.int .i64 0) 1 8 Try.underlying31 ninfoInt rfl (by decide) rfl (HS2.out).row hsz2 [.int .i64 ((A2 : Nat) : Int)] rfl (by simp [Value.oneCell']) rfl rfl (by decide) (by omega) ?_; intro g6 cap6 w6 own6 keep6 where6; have H6 := Lib.hid ((HS2.out).push own6 keep6 where6); clear own6 keep6 where6))
            all_goals go_roundw
            all_goals first
              | exact ⟨i + 1, A1, r ++ [A2], v2, D2, by go_num, by omega, HRUN.out, H6.out, fun h => by simp at h⟩
              | (simp [intOf] <;> omega)
          · have hcne : ¬ c5 = r.length := hcc
            have HMK : Hid (∀ W, Below (wr.alloc (.cells #[.int .i64 x.t0, .int .i64 x.t1, .int .i64 x.t2, .int .i64 x.t3, .int .i64 x.t4, .int .i64 x.t5, .int .i64 x.t6] 70)).heap.size (wr.alloc (.cells #[.int .i64 x.t0, .int .i64 x.t1, .int .i64 x.t2, .int .i64 x.t3, .int .i64 x.t4, .int .i64 x.t5, .int .i64 x.t6] 70)) W → Calls Try.prog 60 #[.pointer (some ⟨w.heap.size + 1, 0, none⟩), .agg #[.int .i64 x.t0, .int .i64 x.t1, .int .i64 x.t2, .int .i64 x.t3, .int .i64 x.t4, .int .i64 x.t5, .int .i64 x.t6]] W fun e w2 => e = .returned (.int .i64 (((putP S (atm x)).2 : Nat) : Int)) ∧ ∃ v' D', NSt w w2 (w.heap.size + 1) (w.heap.size) (putP S (atm x)).1 r (.slice (some ⟨g5, 0, none⟩) r.length c5) v' D') := Lib.hid fun W hbw => by
              have hk := (HCUT.out).later hbw
              exact (katom_any hk.k hk.below.size (by omega) x hxk).mono fun e w2 h => ⟨h.1, hk.call h⟩
            have HRUN : Hid (nrun l (i + 1) = some ((putP S (atm x)).1, r ++ [(putP S (atm x)).2])) := Lib.hid (by rw [HSUC.out, nstp_leaf HN.out])
            clear hGd hxk HSUC HFEW HST hS2 hnil hlt2
            generalize (putP S (atm x)) = A at *
            obtain ⟨A1, A2⟩ := A
            go_wp2_with (first | (refine wpList_load_mid rfl 70 (.tmp 22) rfl b (off + i * 7) rfl _ _ hrw2 Try.underlying70 rfl nsizeInst ?_) | (go_at_call 18; refine (AR2.out _).mono ?_; rintro e w2 ⟨rfl, rfl⟩) | (go_at_call 60; (with_reducible refine (HMK.out _ (by repeat (first | exact Below.refl _ _ | apply rrbelow_dn | apply Below.drew))).mono ?_); rintro e w2 ⟨rfl, v2, D2, hs2⟩; have hsz2 := hs2.below.size; have HS2 := Lib.hid hs2; clear hs2) | (at_builtin; refine append_at (v := .slice (some ⟨g5, 0, none⟩) r.length c5) rfl (.tmp 73) (.tmp 75) 31 rfl 3 (.int .i64 0) 1 8 Try.underlying31 ninfoInt rfl (by decide) rfl (HS2.out).row hsz2 [.int .i64 ((A2 : Nat) : Int)] rfl (by simp [Value.oneCell']) rfl rfl (by decide) (by omega) ?_; intro g6 cap6 w6 own6 keep6 where6; have H6 := Lib.hid ((HS2.out).push own6 keep6 where6); clear own6 keep6 where6))
            all_goals go_roundw
            all_goals first
              | exact ⟨i + 1, A1, r ++ [A2], v2, D2, by go_num, by omega, HRUN.out, H6.out, fun h => by simp at h⟩
              | (simp [intOf] <;> omega)
      by_cases n1 : Tr.ar x.t0 = 1
      · have AR2 := HARW.out 1 n1
        have HN := Lib.hid n1
        by_cases hr0 : r.length = 0
        · have hre : r = [] := List.eq_nil_of_length_eq_zero hr0
          subst hre
          have hv6 := hnil rfl
          have HNO := Lib.hid (HFEW.out (by omega))
          subst hv6
          clear HSUC hnil hrl hlt2
          go_wp2_with (first | (refine wpList_load_mid rfl 70 (.tmp 22) rfl b (off + i * 7) rfl _ _ hrw2 Try.underlying70 rfl nsizeInst ?_) | (go_at_call 18; refine (AR2.out _).mono ?_; rintro e w2 ⟨rfl, rfl⟩))
          go_ret3
          exact HBAD.out _ HNO.out (HST.out).below
        · obtain ⟨r', k1, hr, hm3⟩ := Tr.snoc_of (r := r) (n := r.length - 1) (by omega)
          subst hr
          have hrow := (HST.out).row
          obtain ⟨g5, c5, hv6, hg5, hc5, hcm5, hgl5⟩ := own_some hrow (by omega)
          subst hv6
          have hk1 : k1 < S.length := hlt2 k1 (by simp)
          have hck := nown_cell1 hrow r'.length (nV k1) (by rw [List.map_append, List.getElem?_append_right (by simp)]; simp)
          have HCUT := Lib.hid ((HST.out).cut)
          have hll : (r' ++ [k1]).length = r'.length + 1 := by simp
          rw [hll] at *
          have hm64 : r'.length ≤ 64 := by omega
          have hcne : ¬ c5 = r'.length := by omega
          have hcle : r'.length ≤ c5 := by omega
          clear n0 n1 hrow hm3 hr0 hll
          have HMK : Hid (∀ W, Below (wr.alloc (.cells #[.int .i64 x.t0, .int .i64 x.t1, .int .i64 x.t2, .int .i64 x.t3, .int .i64 x.t4, .int .i64 x.t5, .int .i64 x.t6] 70)).heap.size (wr.alloc (.cells #[.int .i64 x.t0, .int .i64 x.t1, .int .i64 x.t2, .int .i64 x.t3, .int .i64 x.t4, .int .i64 x.t5, .int .i64 x.t6] 70)) W → Calls Try.prog 61 #[.pointer (some ⟨w.heap.size + 1, 0, none⟩), .int .i64 x.t0, .int .i64 ((k1 : Nat) : Int)] W fun e w2 => e = .returned (.int .i64 (((oneP S x.t0 k1).2 : Nat) : Int)) ∧ ∃ v' D', NSt w w2 (w.heap.size + 1) (w.heap.size) (oneP S x.t0 k1).1 r' (.slice (some ⟨g5, 0, none⟩) r'.length c5) v' D') := Lib.hid fun W hbw => by
            have hk := (HCUT.out).later hbw
            exact (kone_any hk.k hk.below.size hS2 hGd x.t0 k1 hk1).mono fun e w2 h => ⟨h.1, hk.call h⟩
          have HRUN : Hid (nrun l (i + 1) = some ((oneP S x.t0 k1).1, r' ++ [(oneP S x.t0 k1).2])) := Lib.hid (by rw [HSUC.out, nstp_one HN.out])
          clear hGd hxk HSUC HFEW HST hk1 hS2 hnil hlt2
          generalize (oneP S x.t0 k1) = A at *
          obtain ⟨A1, A2⟩ := A
          go_wp2_with (first | (refine wpList_load_mid rfl 70 (.tmp 22) rfl b (off + i * 7) rfl _ _ hrw2 Try.underlying70 rfl nsizeInst ?_) | (go_at_call 18; refine (AR2.out _).mono ?_; rintro e w2 ⟨rfl, rfl⟩) | fail | (at_builtin; refine append_at (v := .slice (some ⟨g5, 0, none⟩) r'.length c5) rfl (.tmp 73) (.tmp 75) 31 rfl 3 (.int .i64 0) 1 8 Try.underlying31 ninfoInt rfl (by decide) rfl (HS2.out).row hsz2 [.int .i64 ((A2 : Nat) : Int)] rfl (by simp [Value.oneCell']) rfl rfl (by decide) (by omega) ?_; intro g6 cap6 w6 own6 keep6 where6; have H6 := Lib.hid ((HS2.out).push own6 keep6 where6); clear own6 keep6 where6))
          go_region_with (first | (go_at_call 61; (with_reducible refine (HMK.out _ (by repeat (first | exact Below.refl _ _ | apply rrbelow_dn | apply Below.drew))).mono ?_); rintro e w2 ⟨rfl, v2, D2, hs2⟩; have hsz2 := hs2.below.size; have HS2 := Lib.hid hs2; clear hs2))
          all_goals go_wp2_with (first | (at_builtin; refine append_at (v := .slice (some ⟨g5, 0, none⟩) r'.length c5) rfl (.tmp 73) (.tmp 75) 31 rfl 3 (.int .i64 0) 1 8 Try.underlying31 ninfoInt rfl (by decide) rfl (HS2.out).row hsz2 [.int .i64 ((A2 : Nat) : Int)] rfl (by simp [Value.oneCell']) rfl rfl (by decide) (by omega) ?_; intro g6 cap6 w6 own6 keep6 where6; have H6 := Lib.hid ((HS2.out).push own6 keep6 where6); clear own6 keep6 where6))
          all_goals go_roundw
          all_goals first
            | exact ⟨i + 1, A1, r' ++ [A2], v2, D2, by go_num, by omega, HRUN.out, H6.out, fun h => by simp at h⟩
            | (simp [intOf] <;> omega)
      · have n2 : Tr.ar x.t0 = 2 := by omega
        have AR2 := HARW.out 2 n2
        have HN := Lib.hid n2
        by_cases hr0 : r.length = 0
        · have hre : r = [] := List.eq_nil_of_length_eq_zero hr0
          subst hre
          have hv6 := hnil rfl
          have HNO := Lib.hid (HFEW.out (by omega))
          subst hv6
          clear HSUC hnil hrl hlt2
          go_wp2_with (first | (refine wpList_load_mid rfl 70 (.tmp 22) rfl b (off + i * 7) rfl _ _ hrw2 Try.underlying70 rfl nsizeInst ?_) | (go_at_call 18; refine (AR2.out _).mono ?_; rintro e w2 ⟨rfl, rfl⟩))
          go_ret3
          exact HBAD.out _ HNO.out (HST.out).below
        · by_cases hr1 : r.length = 1
          · obtain ⟨a5, c5, hv6⟩ := own_len (HST.out).row
            rw [hr1] at hv6
            have HNO := Lib.hid (HFEW.out (by omega))
            subst hv6
            clear HSUC hnil hrl hlt2
            go_wp2_with (first | (refine wpList_load_mid rfl 70 (.tmp 22) rfl b (off + i * 7) rfl _ _ hrw2 Try.underlying70 rfl nsizeInst ?_) | (go_at_call 18; refine (AR2.out _).mono ?_; rintro e w2 ⟨rfl, rfl⟩))
            go_ret3
            exact HBAD.out _ HNO.out (HST.out).below
          · obtain ⟨r', k1, k2, hr, hm3⟩ := Tr.snoc2_of (r := r) (n := r.length - 2) (by omega)
            subst hr
            have hrow := (HST.out).row
            obtain ⟨g5, c5, hv6, hg5, hc5, hcm5, hgl5⟩ := own_some hrow (by omega)
            subst hv6
            have hk1 : k1 < S.length := hlt2 k1 (by simp)
            have hk2 : k2 < S.length := hlt2 k2 (by simp)
            have hck := nown_cell1 hrow r'.length (nV k1) (by rw [List.map_append, List.getElem?_append_right (by simp)]; simp)
            have hck' := nown_cell1 hrow (r'.length + 1) (nV k2) (by rw [List.map_append, List.getElem?_append_right (by simp)]; simp)
            have HCUT := Lib.hid ((HST.out).cut)
            have hll : (r' ++ [k1, k2]).length = r'.length + 2 := by simp
            rw [hll] at *
            have hm64 : r'.length ≤ 64 := by omega
            have hcne : ¬ c5 = r'.length := by omega
            have hcle : r'.length ≤ c5 := by omega
            clear n0 n1 n2 hrow hm3 hr0 hr1 hll
            have HMK : Hid (∀ W, Below (wr.alloc (.cells #[.int .i64 x.t0, .int .i64 x.t1, .int .i64 x.t2, .int .i64 x.t3, .int .i64 x.t4, .int .i64 x.t5, .int .i64 x.t6] 70)).heap.size (wr.alloc (.cells #[.int .i64 x.t0, .int .i64 x.t1, .int .i64 x.t2, .int .i64 x.t3, .int .i64 x.t4, .int .i64 x.t5, .int .i64 x.t6] 70)) W → Calls Try.prog 62 #[.pointer (some ⟨w.heap.size + 1, 0, none⟩), .int .i64 x.t0, .int .i64 ((k1 : Nat) : Int), .int .i64 ((k2 : Nat) : Int)] W fun e w2 => e = .returned (.int .i64 (((twoP S x.t0 k1 k2).2 : Nat) : Int)) ∧ ∃ v' D', NSt w w2 (w.heap.size + 1) (w.heap.size) (twoP S x.t0 k1 k2).1 r' (.slice (some ⟨g5, 0, none⟩) r'.length c5) v' D') := Lib.hid fun W hbw => by
              have hk := (HCUT.out).later hbw
              exact (ktwo_any hk.k hk.below.size hS2 hGd x.t0 k1 k2 hk1 hk2).mono fun e w2 h => ⟨h.1, hk.call h⟩
            have HRUN : Hid (nrun l (i + 1) = some ((twoP S x.t0 k1 k2).1, r' ++ [(twoP S x.t0 k1 k2).2])) := Lib.hid (by rw [HSUC.out, nstp_two HN.out])
            clear hGd hxk HSUC HFEW HST hk1 hk2 hS2 hnil hlt2
            generalize (twoP S x.t0 k1 k2) = A at *
            obtain ⟨A1, A2⟩ := A
            go_wp2_with (first | (refine wpList_load_mid rfl 70 (.tmp 22) rfl b (off + i * 7) rfl _ _ hrw2 Try.underlying70 rfl nsizeInst ?_) | (go_at_call 18; refine (AR2.out _).mono ?_; rintro e w2 ⟨rfl, rfl⟩) | fail | (at_builtin; refine append_at (v := .slice (some ⟨g5, 0, none⟩) r'.length c5) rfl (.tmp 73) (.tmp 75) 31 rfl 3 (.int .i64 0) 1 8 Try.underlying31 ninfoInt rfl (by decide) rfl (HS2.out).row hsz2 [.int .i64 ((A2 : Nat) : Int)] rfl (by simp [Value.oneCell']) rfl rfl (by decide) (by omega) ?_; intro g6 cap6 w6 own6 keep6 where6; have H6 := Lib.hid ((HS2.out).push own6 keep6 where6); clear own6 keep6 where6))
            go_region_with (first | (go_at_call 62; (with_reducible refine (HMK.out _ (by repeat (first | exact Below.refl _ _ | apply rrbelow_dn | apply Below.drew))).mono ?_); rintro e w2 ⟨rfl, v2, D2, hs2⟩; have hsz2 := hs2.below.size; have HS2 := Lib.hid hs2; clear hs2))
            all_goals go_wp2_with (first | (at_builtin; refine append_at (v := .slice (some ⟨g5, 0, none⟩) r'.length c5) rfl (.tmp 73) (.tmp 75) 31 rfl 3 (.int .i64 0) 1 8 Try.underlying31 ninfoInt rfl (by decide) rfl (HS2.out).row hsz2 [.int .i64 ((A2 : Nat) : Int)] rfl (by simp [Value.oneCell']) rfl rfl (by decide) (by omega) ?_; intro g6 cap6 w6 own6 keep6 where6; have H6 := Lib.hid ((HS2.out).push own6 keep6 where6); clear own6 keep6 where6))
            all_goals go_roundw
            all_goals first
              | exact ⟨i + 1, A1, r' ++ [A2], v2, D2, by go_num, by omega, HRUN.out, H6.out, fun h => by simp at h⟩
              | (simp [intOf] <;> omega)
    · have hie : i = l.length := by omega
      subst hie
      have hst2 := hst
      obtain ⟨a5, c5, hv6⟩ := own_len hst.row
      subst hv6
      have HG := Lib.hid (And.intro hst hrun)
      clear hnil HR HX
      by_cases h1 : r.length = 1
      · obtain ⟨n, rfl⟩ : ∃ n, r = [n] := by
          match r, h1 with
          | [n], _ => exact ⟨n, rfl⟩
        have hrow := hst.row
        obtain ⟨g5, c6, hv6, hg5, hc5, hcm5, hgl5⟩ := own_some hrow (by simp)
        simp only [Value.slice.injEq] at hv6
        obtain ⟨rfl, _, rfl⟩ := hv6
        have hck := nown_cell1 hrow 0 (nV n) rfl
        have hms := cell_of_row wr (w.heap.size + 1) 0 _ _ _ hst.k.block
        simp only [List.getElem?_toArray, List.getElem?_cons_zero] at hms
        clear hst hst2 hrun hrow hgl5 hlt2 hGd hS2
        go_wp2_with fail
        go_region
        all_goals go_wp2_with fail
        all_goals go_ret3
        all_goals exact HOK.out _ _ _ _ (HG.out).2 (HG.out).1.k.out (HG.out).1.k.oks (by repeat (first | exact (HG.out).1.below | apply rrbelow_dn | apply Below.drew))
      · have hno : nall l = none := nall_not hrun h1
        have hr1 : ((r.length : Int) != 1) = true := by rw [bne_iff_ne]; omega
        have HNO := Lib.hid hno
        clear hst hst2 hrun hno hlt2 hGd hS2 h1
        go_wp2_with fail
        go_ret3
        exact HBAD.out _ HNO.out (HG.out).1.below
end Go.Proofs.Ytofbdgpbekcibaa
