/-
  Norm: what is made of a formula is few, may be, and none stands twice.
-/
import Derived.Test.YtofbdgpbekcibaaNrmAw
import Derived.Test.YtofbdgpbekcibaaNrmEq
import Derived.Test.YtofbdgpbekcibaaNrmChk
import Derived.Test.YtofbdgpbekcibaaNrmLawC
import Derived.Deep.RegionWith
import Derived.BigQuiet
namespace Go.Proofs.Ytofbdgpbekcibaa
open Go.RowKit Go.Maps
set_option linter.unusedVariables false
set_option linter.unusedSimpArgs false

theorem fit_of {x : Sp} {i : Nat} (h : Fits x i) : fitB x i = true := by
  unfold fitB ahd
  rcases h with h | ⟨h, h1, h2⟩ | ⟨h, ⟨h1, h2⟩, h3, h4⟩
  · rw [if_neg (by omega), if_neg (by omega)]; simp [h]
  · rw [if_pos h]; simp [h1, h2]
  · rw [if_neg (by omega), if_pos h]; simp [h1, h2, h3, h4]
theorem fitL_of {S : List Sp} (h : Gd S) : fitL S = true := fitL_yes fun i x hi hx => fit_of (h.chk i x hx)
theorem gd_ne {S : List Sp} (h : Gd S) {i k : Nat} (hi : i < S.length) (hk : k < i) : S[i] ≠ S[k]'(by omega) := fun e =>
  (List.pairwise_iff_getElem.1 h.nodup k i (by omega) hi hk) e.symm
set_option maxRecDepth 100000 in
set_option maxHeartbeats 40000000 in
theorem normFew_walk (a : Option Addr) (c : Nat) (l : List Inx) (w : World) (hl : RdX w a l) (hok : ∀ x ∈ l, x.ok) (hm : l.length ≤ maxLen) :
    Calls Try.prog 12 #[.slice a l.length c] w fun e w' => e = .returned (.bool true) ∧ Below w.heap.size w w' := by
  have hu : ∀ b : Bool, ¬ (some undef = some (Value.bool b)) := fun b h => by cases h
  have hm2 : l.length ≤ 9223372036854775807 := by unfold maxLen at hm; omega
  have HAW := nawake_hid w
  have HST := Lib.hid (ksteps_any a c l w hl hok hm)
  clear hl hok hm
  by_cases h100 : 100 < l.length
  · go_enter Try.func12, Try.ntmps12
    go_wp2_with (go_at_call 41; refine (HAW.out _ (Below.refl _ _)).mono ?_; rintro e w2 ⟨rfl, hb⟩; have HB := Lib.hid hb; clear hb)
    go_ret
    exact ⟨rfl, HB.out⟩
  go_enter Try.func12, Try.ntmps12
  go_wp2_with fail
  refine HST.out.mono ?_
  rintro e w2 ⟨hb2, ⟨S, n, v, h64, hall, rfl, hown, hks⟩ | ⟨_, rfl⟩⟩
  rotate_left
  · have HB2 := Lib.hid hb2
    clear hb2
    go_wp2_with (go_at_call 41; refine (HAW.out _ HB2.out).mono ?_; rintro e w2 ⟨rfl, hb⟩; have HB := Lib.hid hb; clear hb)
    go_ret
    exact ⟨rfl, HB.out⟩
  obtain ⟨hgd, hle, hn⟩ := nall_gd hall
  have HB2 := Lib.hid hb2
  have hsz := hb2.size
  have HGD := Lib.hid hgd
  have HOWN := Lib.hid hown
  obtain ⟨g, cv, rfl, hbg, hcn, hcm, hgl⟩ := own_some hown (by omega)
  clear hb2 hall hown hks hgd HST
  go_wp2_with fail
  have HC : Hid (∀ wr, Below w2.heap.size w2 wr → ∀ i (hi : i < S.length) j v, S[i].cells[j]? = some v → wr.cell? ⟨g, i * 10 + j, none⟩ = some v) := Lib.hid fun wr hb i hi j v hv => by
    have hj : j < 10 := by rw [← Sp.cells_len S[i]]; exact (List.getElem?_eq_some_iff.1 hv).1
    have h1 := own_cell Sp.cells_len HOWN.out i j hi hj
    rw [hv] at h1
    exact (hb.cell (p := ⟨g, i * 10 + j, none⟩) (lt_of_cell h1)).trans h1
  go_loopw [6] (fun v6 wr => ∃ i : Nat, v6 = .int .i64 i ∧ i ≤ S.length ∧ Below w2.heap.size w2 wr) (fun v6 _ => S.length - (intOf v6).toNat)
  case atStart => exact ⟨0, rfl, by omega, Below.refl _ _⟩
  case round =>
    obtain ⟨i, rfl, hi, hbel⟩ := hrel
    by_cases hlt : i < S.length
    · have hli : (i : Int) < (S.length : Int) := by omega
      go_wp2_with fail
      go_loopw [7] (fun v7 wr => ∃ k : Nat, v7 = .int .i64 k ∧ k ≤ i ∧ Below w2.heap.size w2 wr) (fun v7 _ => i - (intOf v7).toNat)
      case atStart => exact ⟨0, rfl, by omega, hbel⟩
      case round =>
        clear hbel
        obtain ⟨k, rfl, hk, hbel⟩ := hrel
        by_cases hkt : k < i
        · have hki : (k : Int) < (i : Int) := by omega
          have hks : k < S.length := by omega
          have ci := HC.out wr hbel i hlt
          have ck := HC.out wr hbel k hks
          have hne := gd_ne HGD.out hlt hkt
          have HB := Lib.hid hbel
          generalize S[i] = x at *
          generalize S[k] = y at *
          have hq := fun w => nqStep x y hne w
          have c0 : wr.cell? ⟨g, i * 10, none⟩ = some (.int .i64 x.op) := ci 0 _ rfl
          have c1 : wr.cell? ⟨g, i * 10 + 1, none⟩ = some (.int .i64 x.a) := ci 1 _ rfl
          have c2 : wr.cell? ⟨g, i * 10 + 2, none⟩ = some (.int .i64 x.b) := ci 2 _ rfl
          have c3 : wr.cell? ⟨g, i * 10 + 3, none⟩ = some (.int .i64 x.t0) := ci 3 _ rfl
          have c4 : wr.cell? ⟨g, i * 10 + 4, none⟩ = some (.int .i64 x.t1) := ci 4 _ rfl
          have c5 : wr.cell? ⟨g, i * 10 + 5, none⟩ = some (.int .i64 x.t2) := ci 5 _ rfl
          have c6 : wr.cell? ⟨g, i * 10 + 6, none⟩ = some (.int .i64 x.t3) := ci 6 _ rfl
          have c7 : wr.cell? ⟨g, i * 10 + 7, none⟩ = some (.int .i64 x.t4) := ci 7 _ rfl
          have c8 : wr.cell? ⟨g, i * 10 + 8, none⟩ = some (.int .i64 x.t5) := ci 8 _ rfl
          have c9 : wr.cell? ⟨g, i * 10 + 9, none⟩ = some (.int .i64 x.t6) := ci 9 _ rfl
          have d0 : wr.cell? ⟨g, k * 10, none⟩ = some (.int .i64 y.op) := ck 0 _ rfl
          have d1 : wr.cell? ⟨g, k * 10 + 1, none⟩ = some (.int .i64 y.a) := ck 1 _ rfl
          have d2 : wr.cell? ⟨g, k * 10 + 2, none⟩ = some (.int .i64 y.b) := ck 2 _ rfl
          have d3 : wr.cell? ⟨g, k * 10 + 3, none⟩ = some (.int .i64 y.t0) := ck 3 _ rfl
          have d4 : wr.cell? ⟨g, k * 10 + 4, none⟩ = some (.int .i64 y.t1) := ck 4 _ rfl
          have d5 : wr.cell? ⟨g, k * 10 + 5, none⟩ = some (.int .i64 y.t2) := ck 5 _ rfl
          have d6 : wr.cell? ⟨g, k * 10 + 6, none⟩ = some (.int .i64 y.t3) := ck 6 _ rfl
          have d7 : wr.cell? ⟨g, k * 10 + 7, none⟩ = some (.int .i64 y.t4) := ck 7 _ rfl
          have d8 : wr.cell? ⟨g, k * 10 + 8, none⟩ = some (.int .i64 y.t5) := ck 8 _ rfl
          have d9 : wr.cell? ⟨g, k * 10 + 9, none⟩ = some (.int .i64 y.t6) := ck 9 _ rfl
          have hw1 : IntKind.i64.wrap ((k : Int) + 1) = ((k + 1 : Nat) : Int) := by rw [IntWalk.i64_in _ (by omega)]; omega
          clear ci ck hbel hne HC HGD HOWN
          go_wp2_with fail
          go_quiet (fail)
          all_goals go_wp2_with fail
          all_goals go_roundw
          all_goals first
            | exact ⟨k + 1, by go_num, by omega, by repeat (first | exact HB.out | apply rrbelow_dn | apply Below.drew)⟩
            | (simp [intOf] <;> omega)
        · have hke : k = i := by omega
          subst hke
          have ci := HC.out wr hbel k hlt
          have HB := Lib.hid hbel
          have hw1 : IntKind.i64.wrap ((k : Int) + 1) = ((k + 1 : Nat) : Int) := by rw [IntWalk.i64_in _ (by omega)]; omega
          by_cases ho : S[k].op = 15
          · obtain ⟨j, z, hj, hxa, hz, hzo⟩ := HGD.out.neg k S[k] (List.getElem?_eq_getElem hlt) ho
            have hjs : j < S.length := by omega
            have hz2 : S[j] = z := Option.some.inj ((List.getElem?_eq_getElem hjs).symm.trans hz)
            have cj := HC.out wr hbel j hjs 0 (.int .i64 z.op) (by rw [hz2]; rfl)
            have c0 : wr.cell? ⟨g, k * 10, none⟩ = some (.int .i64 15) := (ci 0 _ rfl).trans (by rw [ho])
            have c1 : wr.cell? ⟨g, k * 10 + 1, none⟩ = some (.int .i64 (j : Nat)) := (ci 1 _ rfl).trans (by rw [hxa])
            have d0 : wr.cell? ⟨g, j * 10, none⟩ = some (.int .i64 z.op) := cj
            have hzb : (z.op == 15) = false := by simpa using hzo
            have hj1 : ¬ (j : Int) < 0 := by omega
            have hj2 : ¬ (k : Int) ≤ (j : Int) := by omega
            have hjk : (j : Int) < (k : Int) := by omega
            clear ci cj hz hz2 hxa ho hbel HC HGD HOWN hzo
            go_wp2_with fail
            go_roundw
            case rel => exact ⟨k + 1, by go_num, by omega, HB.out⟩
            case measure => simp [intOf] <;> omega
          · have hob : (S[k].op == 15) = false := by simpa using ho
            have c0 : wr.cell? ⟨g, k * 10, none⟩ = some (.int .i64 S[k].op) := ci 0 _ rfl
            generalize S[k] = x at *
            clear ci ho hbel HC HGD HOWN
            go_wp2_with fail
            go_roundw
            case rel => exact ⟨k + 1, by go_num, by omega, HB.out⟩
            case measure => simp [intOf] <;> omega
    · have hie : i = S.length := by omega
      subst hie
      have hrd : RdP w2 (some ⟨g, 0, none⟩) S := by
        obtain ⟨a2, c2, hv, hr⟩ := own_readsP HOWN.out rfl
        cases hv
        exact hr
      have hsm : S.length ≤ maxLen := by unfold maxLen; omega
      have HCK : Hid (∀ W, Below w2.heap.size w2 W → Calls Try.prog 39 #[.slice (some ⟨g, 0, none⟩) S.length cv] W fun e w' => e = .returned (.bool true) ∧ Below W.heap.size W w') := Lib.hid fun W hb => by
        have := ncheck_any (some ⟨g, 0, none⟩) cv S W (hrd.mono hb (Nat.le_refl _)) hsm
        rw [fitL_of HGD.out] at this
        exact this
      have HB := Lib.hid hbel
      have HBW := Lib.hid (HB2.out.trans (hbel.mono hsz))
      have hw8 : IntKind.i64.wrap (8 * (l.length : Int)) = ((8 * l.length : Nat) : Int) := by rw [IntWalk.i64_in _ (by omega)]; omega
      have hn0 : ¬ (n : Int) < 0 := by omega
      have hd1 : decide ((S.length : Int) ≤ ((8 * l.length : Nat) : Int)) = true := by simp; omega
      have hd2 : decide ((n : Int) < (S.length : Int)) = true := by simp; omega
      clear hbel hrd HC HGD HOWN
      go_wp2_with (first | (go_at_call 39; refine (HCK.out _ HB.out).mono ?_; rintro e w5 ⟨rfl, hb5⟩; have HB5 := Lib.hid (HBW.out.trans (hb5.mono HBW.out.size)); clear hb5) | (go_at_call 41; refine (HAW.out _ HB5.out).mono ?_; rintro e w6 ⟨rfl, hb6⟩; have HB6 := Lib.hid hb6; clear hb6))
      go_ret
      exact ⟨rfl, HB6.out⟩
end Go.Proofs.Ytofbdgpbekcibaa
