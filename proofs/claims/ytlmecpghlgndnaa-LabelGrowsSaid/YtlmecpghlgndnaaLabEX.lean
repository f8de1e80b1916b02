/-
  label.EX: by a walk.
-/
import Derived.Test.YtlmecpghlgndnaaLabBools
namespace Go.Proofs.Ytlmecpghlgndnaa
open Go.RowKit
set_option linter.unusedVariables false
set_option linter.unusedSimpArgs false

/-- Of the first places all ways are gone through, and so many of one more. -/
def exP (nx : List (List Int)) (a : List Bool) (k : Nat) (R : List Int) (i : Nat) : Prop := (∃ t, t < k ∧ Lb.E nx i t ∧ Lb.inB a t = true) ∨ (Lb.inB a k = true ∧ (i : Int) ∈ R)
set_option maxHeartbeats 4000000 in
theorem ex_any (a a2 : Option Addr) (c c2 : Nat) (nx : List (List Int)) (A : List Bool) (w : World) (hl : RdG w a nx) (hA : Reads w a2 (A.map Value.bool)) (hn : nx.length ≤ 1000) (hr : ∀ i, (Lb.row nx i).length ≤ 1000) :
    Calls Try.prog 13 #[.slice a nx.length c, .slice a2 A.length c2] w (BoolsAns (Lb.IsSet nx.length (fun i => ∃ t, Lb.E nx i t ∧ Lb.inB A t = true)) w) := by
  have hu : ∀ b : Bool, ¬ (some undef = some (Value.bool b)) := fun b h => by cases h
  have HL := Lib.hid (And.intro hl hA)
  clear hl hA
  go_enter Try.func13, Try.ntmps13
  go_wp2_with (at_make; refine make_one rfl _ _ 23 rfl 4 (.bool false) 1 Try.underlying23 Try.infoB rfl _ nx.length rfl rfl rfl (by omega) (by unfold maxLen; omega) ?_; intro w1 own1 keep1; rw [show List.replicate nx.length (Value.bool false) = (List.replicate nx.length false).map Value.bool by rw [List.map_replicate]] at own1)
  have bel1 := keep1.below (fun _ hf => hf.elim) (Nat.le_refl _)
  have hg1 := (own1.lt w.heap.size rfl).2
  have O1 := Lib.hid (And.intro own1 bel1)
  clear own1 keep1
  refine (froms_any a c nx w1 ((HL.out).1.mono bel1 (Nat.le_refl _)) hn hr).mono ?_
  rintro e w2 ⟨g, vs, rfl, hF⟩
  have k2 : Keeps (fun j => w1.heap.size ≤ j) w1 w2 := ⟨hF.below.os, hF.below.tape, hF.below.output, hF.below.size, fun j hj _ => hF.below.block j hj⟩
  have own2 := k2.own (O1.out).1 (fun j hj e => by simp [Value.ownBlock] at hj; omega)
  have bel2 := bel1.trans (hF.below.mono bel1.size)
  have hgr : w1.heap.size ≤ g := hF.grid.base.1
  have hsz2 := hF.below.size
  have F2 := Lib.hid (And.intro hF.grid (And.intro own2 bel2))
  clear k2 own2 bel2 hF bel1 O1
  go_wp2_with fail
  go_loopw [6, 7, 9, 16, 26] (fun _ _ _ v16 _ wr => ∃ (k : Nat) (F : List Bool), k ≤ nx.length ∧ v16 = .int .i64 k ∧ Lb.IsSet nx.length (fun i => ∃ t, t < k ∧ Lb.E nx i t ∧ Lb.inB A t = true) F ∧
    wr.ownsRow w.heap.size 4 1 (.slice (some ⟨w.heap.size, 0, none⟩) nx.length nx.length) nx.length (F.map Value.bool) ∧ Grid wr w1.heap.size 34 3 g nx.length vs (Lb.rowsF nx.length (Lb.fr nx nx.length)) ∧ Below w.heap.size w wr) (fun _ _ _ v16 _ _ => nx.length - (intOf v16).toNat)
  case atStart => exact ⟨0, _, by omega, rfl, ⟨by simp, fun i _ => ⟨fun h => absurd h (by rw [inB_rep]; simp), fun ⟨t, ht, _⟩ => absurd ht (by omega)⟩⟩, (F2.out).2.1, (F2.out).1, (F2.out).2.2⟩
  case round =>
    obtain ⟨k, F, hk, rfl, hS, hO, hG, hB⟩ := hrel
    by_cases hlt : k < nx.length
    · obtain ⟨xv, r, hvx, hrx, hcx, hox⟩ := hG.cell k hlt
      have hrx2 := Lb.rowsF_at nx.length (Lb.fr nx nx.length) k hlt
      rw [hrx] at hrx2
      have hre : r = (Lb.fr nx nx.length k).map (Value.int .i64) := Option.some.inj hrx2
      obtain ⟨xa, xc, hxe⟩ := own_len hox
      subst hxe
      have hrl : r.length ≤ 1000000 := by
        rw [hre, List.length_map]
        have := Lb.fr_len nx 1000 hr k nx.length
        have : nx.length * 1000 ≤ 1000000 := by omega
        omega
      have HS := Lib.hid (And.intro hS (And.intro hO (And.intro hG hB)))
      have HX := Lib.hid (And.intro hvx (And.intro hrx hre))
      have INA := Lib.hid (in_any a2 c2 A k wr ((HL.out).2.mono hB (Nat.le_refl _)) (by omega))
      clear hS hO hG hB hvx hrx hrx2 hre hox
      by_cases hin : Lb.inB A k = true
      · have HIN := Lib.hid hin
        clear hin
        go_wp2_with fail
        refine (INA.out).mono ?_
        rintro e w3 ⟨rfl, rfl⟩
        rw [Int.toNat_natCast, HIN.out]
        go_wp2_with fail
        go_loopw [9, 26] (fun _ v26 wn => ∃ (j : Nat) (F : List Bool), j ≤ r.length ∧ v26 = .int .i64 j ∧ Lb.IsSet nx.length (exP nx A k ((Lb.fr nx nx.length k).take j)) F ∧
          wn.ownsRow w.heap.size 4 1 (.slice (some ⟨w.heap.size, 0, none⟩) nx.length nx.length) nx.length (F.map Value.bool) ∧ Grid wn w1.heap.size 34 3 g nx.length vs (Lb.rowsF nx.length (Lb.fr nx nx.length)) ∧ Below w.heap.size w wn) (fun _ v26 _ => r.length - (intOf v26).toNat)
        case atStart => exact ⟨0, F, by omega, rfl, ⟨(HS.out).1.1, fun i hi => ((HS.out).1.2 i hi).trans ⟨Or.inl, fun h => h.elim id (fun h => by simp at h)⟩⟩, (HS.out).2.1, (HS.out).2.2.1, (HS.out).2.2.2⟩
        case round =>
          obtain ⟨j, F2, hj, rfl, hS2, hO2, hG2, hB2⟩ := hrel
          by_cases hjl : j < r.length
          · have hor := hG2.row k _ r (HX.out).1 (HX.out).2.1
            obtain ⟨g7, c7, hv7, _, hc7, hcm7, hgs7⟩ := own_some hor (by omega)
            simp only [Value.slice.injEq] at hv7
            obtain ⟨rfl, _, rfl⟩ := hv7
            have hcy := hor.cellAt j (by omega)
            have hre := (HX.out).2.2
            have hkl : j < (Lb.fr nx nx.length k).length := by rw [hre, List.length_map] at hjl; exact hjl
            rw [hre, List.getElem?_map, List.getElem?_eq_getElem hkl] at hcy
            have hmem : (Lb.fr nx nx.length k)[j] ∈ Lb.fr nx nx.length k := List.getElem_mem hkl
            have htk : (Lb.fr nx nx.length k).take (j + 1) = (Lb.fr nx nx.length k).take j ++ [(Lb.fr nx nx.length k)[j]] := List.take_succ_eq_append_getElem hkl
            obtain ⟨yy, hyy, hyl, hyx⟩ := Lb.fr_mem hmem
            rw [hyy] at hcy htk
            simp only [Option.map_some] at hcy
            have hfz := hO2.frozenAt yy
            have hgF := (hO2.lt w.heap.size rfl).2
            have st := bool_stored hO2 yy true
            have hkg : Keeps (fun j => j = w.heap.size) wr (wr.setCell ⟨w.heap.size, yy, none⟩ (.bool true)) := Keeps.setCell _ _ _ rfl
            have g3 := hG2.keeps hkg (fun j hj e => by have := (hG2.in_lt j hj).1; omega)
            have b3 := hB2.trans (hkg.below (fun j e => by omega) hB2.size)
            have hFl := own_blen hO2
            have hce : ∃ u, wr.cell? ⟨w.heap.size, yy, none⟩ = some u := ⟨_, bool_cell hO2 yy hyl⟩
            obtain ⟨u, hcu⟩ := hce
            have N3 := Lib.hid (And.intro st (And.intro g3 b3))
            have HT := Lib.hid (And.intro htk hS2)
            clear st hkg g3 b3 hor hre hmem htk hyx hS2 hG2 hyy hkl
            go_wp2_with fail
            go_roundw
            case rel =>
              refine ⟨j + 1, F2.set yy true, by omega, by go_num, ⟨by simpa using hFl, fun i hi => ?_⟩, (N3.out).1, (N3.out).2.1, (N3.out).2.2⟩
              rw [inB_set _ _ _ _ (by omega), (HT.out).1]
              by_cases e : i = yy
              · subst e
                rw [if_pos rfl]
                exact ⟨fun _ => Or.inr ⟨HIN.out, by simp⟩, fun _ => rfl⟩
              · rw [if_neg e, (HT.out).2.2 i hi]
                unfold exP
                refine or_congr Iff.rfl (and_congr Iff.rfl ?_)
                simp
                omega
            case measure => simp [intOf]; omega
          · have hjn : j = r.length := by omega
            subst hjn
            have hre := (HX.out).2.2
            have hall : (Lb.fr nx nx.length k).take r.length = Lb.fr nx nx.length k := List.take_of_length_le (by rw [hre, List.length_map]; omega)
            rw [hall] at hS2
            have HS2 := Lib.hid (And.intro hS2 (And.intro hO2 (And.intro hG2 hB2)))
            clear hS2 hO2 hG2 hB2 hre hall
            go_wp2_with fail
            go_roundw
            case rel =>
              refine ⟨k + 1, F2, by omega, by go_num, ⟨(HS2.out).1.1, fun i hi => ((HS2.out).1.2 i hi).trans ?_⟩, (HS2.out).2.1, (HS2.out).2.2.1, (HS2.out).2.2.2⟩
              constructor
              · rintro (⟨t, h1, h2, h3⟩ | ⟨h1, h2⟩)
                · exact ⟨t, by omega, h2, h3⟩
                · obtain ⟨i', e, h4, h5⟩ := Lb.fr_mem h2
                  have : i' = i := by omega
                  subst this
                  exact ⟨k, by omega, ⟨hlt, h5⟩, h1⟩
              · rintro ⟨t, h1, h2, h3⟩
                by_cases e : t = k
                · subst e; exact Or.inr ⟨h3, Lb.mem_fr hi h2.2⟩
                · exact Or.inl ⟨t, by omega, h2, h3⟩
            case measure => simp [intOf]; omega
      · have hf : Lb.inB A k = false := by simpa using hin
        have HIN := Lib.hid (And.intro hf hin)
        clear hin hf
        go_wp2_with fail
        refine (INA.out).mono ?_
        rintro e w3 ⟨rfl, rfl⟩
        rw [Int.toNat_natCast, (HIN.out).1]
        go_wp2_with fail
        go_roundw
        case rel =>
          refine ⟨k + 1, F, by omega, by go_num, ⟨(HS.out).1.1, fun i hi => ((HS.out).1.2 i hi).trans ⟨fun ⟨t, h1, h2⟩ => ⟨t, by omega, h2⟩, fun ⟨t, h1, h2, h3⟩ => ?_⟩⟩, (HS.out).2.1, (HS.out).2.2.1, (HS.out).2.2.2⟩
          by_cases e : t = k
          · subst e; exact absurd h3 (HIN.out).2
          · exact ⟨t, by omega, h2, h3⟩
        case measure => simp [intOf]; omega
    · have hkl : k = nx.length := by omega
      subst hkl
      have hFl := own_blen hO
      have HS := Lib.hid (And.intro hS (And.intro hO hB))
      clear hS hO hB
      go_wp2_with fail
      go_ret
      exact ⟨_, F, rfl, ⟨(HS.out).1.1, fun i hi => ((HS.out).1.2 i hi).trans ⟨fun ⟨t, _, h2⟩ => ⟨t, h2⟩, fun ⟨t, h2⟩ => ⟨t, h2.1.1, h2⟩⟩⟩, by rw [hFl]; exact (HS.out).2.1, (HS.out).2.2⟩
end Go.Proofs.Ytlmecpghlgndnaa
