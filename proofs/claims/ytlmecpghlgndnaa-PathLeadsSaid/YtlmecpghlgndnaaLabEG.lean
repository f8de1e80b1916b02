/-
  label.EG: by a walk.
-/
import Derived.Test.YtlmecpghlgndnaaLabLeave
import Derived.Deep.LoopGhost
import Derived.Deep.RegionWith
import Derived.Deep.RegionHeld3
namespace Go.Proofs.Ytlmecpghlgndnaa
open Go.RowKit
set_option linter.unusedVariables false
set_option linter.unusedSimpArgs false

/-- The set alone. -/
structure One (w : World) (n bO : Nat) (F : List Bool) (wr : World) : Prop where
  outb : Box wr w.heap.size bO 23 (.slice (some ⟨w.heap.size, 0, none⟩) n n)
  out : wr.ownsRow w.heap.size 4 1 (.slice (some ⟨w.heap.size, 0, none⟩) n n) n (F.map Value.bool)
  below : Below w.heap.size w wr
section
variable {w wr w2 : World} {n bO : Nat} {F : List Bool}
theorem One.keeps {S : Nat → Prop} (h : One w n bO F wr) (k : Keeps S wr w2) (h1 : ¬ S bO) (h2 : ¬ S w.heap.size) (hb : ∀ j, S j → w.heap.size ≤ j) : One w n bO F w2 :=
  ⟨h.outb.keeps k h1, k.own h.out (fun j hj => by simp [Value.ownBlock] at hj; rw [← hj]; exact h2), h.below.trans (k.below hb h.below.size)⟩
theorem One.setF (h : One w n bO F wr) (i : Nat) (b : Bool) : One w n bO (F.set i b) (wr.setCell ⟨w.heap.size, i, none⟩ (.bool b)) := by
  have hk : Keeps (fun j => j = w.heap.size) wr (wr.setCell ⟨w.heap.size, i, none⟩ (.bool b)) := Keeps.setCell _ _ _ rfl
  exact ⟨h.outb.keeps hk (fun e => lie_apart h.outb h.out (by decide) bO rfl (by rw [e]; rfl)), bool_stored h.out i b, h.below.trans (hk.below (fun j e => by omega) h.below.size)⟩
theorem One.drew (h : One w n bO F wr) : One w n bO F wr.drew := h.keeps (S := fun _ => False) (Keeps.drew _ _) id id (fun _ hf => hf.elim)
theorem One.drewN (h : One w n bO F wr) (m : Nat) : One w n bO F (wr.drewN m) := h.keeps (S := fun _ => False) (Keeps.drewN _ _ _) id id (fun _ hf => hf.elim)
theorem One.lts (h : One w n bO F wr) : (w.heap.size ≤ bO ∧ bO < wr.heap.size) ∧ w.heap.size < wr.heap.size := ⟨h.outb.lt, (h.out.lt w.heap.size rfl).2⟩
end
theorem row_base {w : World} {B B' n size : Nat} {e : TypeId} {v : Value} {xs : List Value} (h : w.ownsRow B e size v n xs) (hb : B' ≤ B) : w.ownsRow B' e size v n xs := by
  refine ⟨h.1, ?_⟩
  rcases h.2 with hn | ⟨g, cap, cur, h1, h2, rest⟩
  · exact Or.inl hn
  · exact Or.inr ⟨g, cap, cur, h1, by omega, rest⟩
namespace Lb
theorem getD_rep (n i : Nat) : (List.replicate n (0 : Int)).getD i 0 = 0 := by
  rw [List.getD_eq_getElem?_getD, List.getElem?_replicate]
  split <;> rfl
theorem deg_none (n : Nat) (P : Nat → Bool) (r : List Int) (h : ∀ t, t < n → P t = false) : deg n P r = 0 := by
  rcases Nat.eq_zero_or_pos (deg n P r) with h1 | h1
  · exact h1
  · obtain ⟨t, h2, _, h3⟩ := deg_pos.1 h1
    rw [h t h2] at h3; cases h3
/-- Of the set the first places. -/
def low (F : List Bool) (k t : Nat) : Bool := decide (t < k) && inB F t
theorem deg_low (n : Nat) (F : List Bool) (k : Nat) (r : List Int) (hk : k < n) (h : inB F k = true) : deg n (low F (k + 1)) r = deg n (low F k) r + occ r k := by
  refine deg_split n _ _ k hk ?_ ?_ (fun u _ hne => ?_) r
  · unfold low; rw [h]; simp
  · unfold low; simp
  · unfold low
    have : (u < k + 1) ↔ (u < k) := by omega
    rw [decide_eq_decide.2 this]
theorem deg_low0 (n : Nat) (F : List Bool) (k : Nat) (r : List Int) (h : inB F k = false) : deg n (low F (k + 1)) r = deg n (low F k) r := by
  refine deg_congr n _ _ r (fun u _ => ?_)
  unfold low
  by_cases e : u = k
  · subst e; rw [h]; simp
  · have : (u < k + 1) ↔ (u < k) := by omega
    rw [decide_eq_decide.2 this]
theorem deg_all (n : Nat) (F : List Bool) (r : List Int) : deg n (low F n) r = deg n (inB F) r :=
  deg_congr n _ _ r (fun u hu => by unfold low; rw [decide_eq_true hu]; rfl)
theorem occ_le_fr (nx : List (List Int)) (q j i : Nat) : occ ((fr nx nx.length q).take j) i ≤ (row nx i).length := by
  have h1 := occ_fr nx q i nx.length
  have h2 := occ_append ((fr nx nx.length q).take j) ((fr nx nx.length q).drop j) i
  rw [List.take_append_drop] at h2
  have h3 := occ_le (row nx i) q
  split at h1 <;> omega
end Lb
set_option maxHeartbeats 8000000 in
theorem eg_any (a a2 : Option Addr) (c c2 : Nat) (nx : List (List Int)) (A : List Bool) (w : World) (hl : RdG w a nx) (hA : Reads w a2 (A.map Value.bool)) (hn : nx.length ≤ 1000) (hr : ∀ i, (Lb.row nx i).length ≤ 1000) :
    Calls Try.prog 17 #[.slice a nx.length c, .slice a2 A.length c2] w (BoolsAns (Lb.IsSet nx.length (Lb.EG nx A)) w) := by
  have hu : ∀ b : Bool, ¬ (some undef = some (Value.bool b)) := fun b h => by cases h
  have HL := Lib.hid (And.intro hl hA)
  clear hl hA
  go_enter Try.func17, Try.ntmps17
  go_wp2_with (at_make; refine make_one rfl _ _ 23 rfl 4 (.bool false) 1 Try.underlying23 Try.infoB rfl _ nx.length rfl rfl rfl (by omega) (by unfold maxLen; omega) ?_; intro w1 own1 keep1; rw [show List.replicate nx.length (Value.bool false) = (List.replicate nx.length false).map Value.bool by rw [List.map_replicate]] at own1)
  have hg1 := (own1.lt w.heap.size rfl).2
  have o0 : One w nx.length w1.heap.size (List.replicate nx.length false) (w1.alloc (.cells #[.slice (some ⟨w.heap.size, 0, none⟩) nx.length nx.length] 23)) := by
    have hk : Keeps (fun _ => False) w1 (w1.alloc (.cells #[.slice (some ⟨w.heap.size, 0, none⟩) nx.length nx.length] 23)) := Keeps.alloc _ _ _
    exact ⟨box_new _ _ _ _ (by omega), hk.own own1 (fun _ _ hf => hf), (keep1.below (fun _ hf => hf.elim) (Nat.le_refl _)).trans (hk.below (fun _ hf => hf.elim) (by omega))⟩
  have O0 := Lib.hid o0
  clear o0 own1 keep1
  generalize (w1.alloc (.cells #[.slice (some ⟨w.heap.size, 0, none⟩) nx.length nx.length] 23)) = w2 at *
  generalize w1.heap.size = bO at *
  go_loopw [6, 25] (fun _ v25 wr => ∃ (k : Nat) (F : List Bool), k ≤ nx.length ∧ v25 = .int .i64 k ∧ One w nx.length bO F wr ∧ (∀ i, i < k → Lb.inB F i = Lb.inB A i)) (fun _ v25 _ => nx.length - (intOf v25).toNat)
  case atStart => exact ⟨0, _, by omega, rfl, O0.out, fun i hi => by omega⟩
  case round =>
    obtain ⟨k, F, hk, rfl, hO, hin⟩ := hrel
    have hFl := own_blen hO.out
    by_cases hlt : k < nx.length
    · have hob := hO.outb.cell
      have hlts := hO.lts
      have hfz := hO.out.frozenAt k
      have hcu := bool_cell hO.out k hlt
      have IN := Lib.hid (fun w' (hw : ∃ n, w' = wr.drewN n) => in_any a2 c2 A k w' (by obtain ⟨n, rfl⟩ := hw; exact (HL.out).2.mono (below_drewN hO.below n) (Nat.le_refl _)) (by omega))
      have HO := Lib.hid (And.intro hO hin)
      clear hO hin
      go_wp2_with fail
      go_region_with (go_at_call 29; refine (IN.out _ (by first | exact ⟨0, rfl⟩ | exact ⟨_, rfl⟩)).mono ?_; rintro e w1 ⟨rfl, rfl⟩)
      all_goals go_wp2_with fail
      all_goals go_roundw
      all_goals first | (simp [intOf]; omega) | skip
      all_goals
        refine ⟨k + 1, F.set k (Lb.inB A k), by omega, by go_num, ?_, fun i hi => ?_⟩
        · repeat (first | exact (HO.out).1 | apply One.drew | apply One.drewN | apply One.setF)
        · rw [inB_set _ _ _ _ (by omega)]
          by_cases e : i = k
          · rw [if_pos e, e]
          · rw [if_neg e]; exact (HO.out).2 i (by omega)
    · have hkl : k = nx.length := by omega
      subst hkl
      have hlts := hO.lts
      have HO := Lib.hid (And.intro hO hin)
      clear hO hin
      go_wp2_with (at_make; refine make_one rfl _ _ 34 rfl 3 (.int .i64 0) 8 Try.underlying34 Try.info3 rfl _ nx.length rfl rfl rfl (by omega) (by unfold maxLen; omega) ?_; intro w3 own3 keep3; rw [show List.replicate nx.length (Value.int .i64 0) = (List.replicate nx.length (0 : Int)).map (Value.int .i64) by rw [List.map_replicate]] at own3)
      have hg3 := (own3.lt wr.heap.size rfl).2
      have tw : Two w nx.length bO wr.heap.size w3.heap.size F (List.replicate nx.length 0) (w3.alloc (.cells #[.slice (some ⟨wr.heap.size, 0, none⟩) nx.length nx.length] 34)) := by
        have hk : Keeps (fun _ => False) w3 (w3.alloc (.cells #[.slice (some ⟨wr.heap.size, 0, none⟩) nx.length nx.length] 34)) := Keeps.alloc _ _ _
        have h1 := ((HO.out).1.keeps keep3 id id (fun _ hf => hf.elim)).keeps hk id id (fun _ hf => hf.elim)
        exact ⟨h1.outb, h1.out, box_new _ _ _ _ (by omega), hk.own (row_base own3 (by omega)) (fun _ _ hf => hf), h1.below⟩
      have hord : w.heap.size < w3.heap.size + 1 ∧ bO < w3.heap.size + 1 ∧ wr.heap.size < w3.heap.size + 1 ∧ w3.heap.size < w3.heap.size + 1 := by omega
      have hsz4 : (w3.alloc (.cells #[.slice (some ⟨wr.heap.size, 0, none⟩) nx.length nx.length] 34)).heap.size = w3.heap.size + 1 := by simp
      have hin := (HO.out).2
      have TW := Lib.hid (And.intro tw hin)
      clear tw own3 keep3 HO hin O0
      generalize (w3.alloc (.cells #[.slice (some ⟨wr.heap.size, 0, none⟩) nx.length nx.length] 34)) = w4 at *
      generalize w3.heap.size = bD at *
      generalize wr.heap.size = gD at *
      refine (froms_any a c nx w4 ((HL.out).1.mono (TW.out).1.below (Nat.le_refl _)) hn hr).mono ?_
      rintro e w5 ⟨g, vs, rfl, hF⟩
      have tw5 : Two w nx.length bO gD bD F (List.replicate nx.length 0) w5 := by
        have hb4 := hF.below
        have k4 : Keeps (fun j => w4.heap.size ≤ j) w4 w5 := ⟨hb4.os, hb4.tape, hb4.output, hb4.size, fun j hj _ => hb4.block j hj⟩
        have hs := (TW.out).1.lts
        exact (TW.out).1.keeps k4 (by omega) (by omega) (by omega) (by omega) (fun j hj => by omega)
      have hG5 := hF.grid
      rw [hsz4] at hG5
      have H5 := Lib.hid (And.intro tw5 (And.intro hG5 (TW.out).2))
      have hFl := tw5.flen
      clear tw5 hG5 hF TW
      go_wp2_with fail
      go_loopw [9, 10, 12, 42, 53] (fun _ _ _ v42 _ wr => ∃ (k : Nat) (D : List Int), k ≤ nx.length ∧ v42 = .int .i64 k ∧ Two w nx.length bO gD bD F D wr ∧ Grid wr (bD + 1) 34 3 g nx.length vs (Lb.rowsF nx.length (Lb.fr nx nx.length)) ∧ ∀ i, i < nx.length → D.getD i 0 = ((Lb.deg nx.length (Lb.low F k) (Lb.row nx i) : Nat) : Int)) (fun _ _ _ v42 _ _ => nx.length - (intOf v42).toNat)
      case atStart => exact ⟨0, _, by omega, rfl, (H5.out).1, (H5.out).2.1, fun i _ => by rw [Lb.getD_rep, Lb.deg_none _ _ _ (fun t _ => by unfold Lb.low; simp)]; rfl⟩
      case round =>
        obtain ⟨k, D, hk, rfl, hT, hG, hD⟩ := hrel
        by_cases hlt : k < nx.length
        · obtain ⟨xv, r, hvx, hrx, hcx, hox⟩ := hG.cell k hlt
          have hrx2 := Lb.rowsF_at nx.length (Lb.fr nx nx.length) k hlt
          rw [hrx] at hrx2
          have hre : r = (Lb.fr nx nx.length k).map (Value.int .i64) := Option.some.inj hrx2
          obtain ⟨xa, xc, hxe⟩ := own_len hox
          subst hxe
          have hrl : r.length ≤ 1000000 := by
            rw [hre, List.length_map]
            have := Lb.fr_len nx 1000 hr k nx.length
            have : nx.length * 1000 ≤ 1000000 := by omega
            omega
          have hob := hT.outb.cell
          have hcu := bool_cell hT.out k hlt
          have HT := Lib.hid (And.intro hT (And.intro hG hD))
          have HX := Lib.hid (And.intro hvx (And.intro hrx hre))
          clear hT hG hD hvx hrx hrx2 hre hox
          cases hFk : Lb.inB F k with
          | false =>
            rw [hFk] at hcu
            have HFK := Lib.hid hFk
            clear hFk
            go_wp2_with fail
            go_roundw
            case rel => exact ⟨k + 1, D, by omega, by go_num, (HT.out).1, (HT.out).2.1, fun i hi => by rw [Lb.deg_low0 _ _ _ _ HFK.out]; exact (HT.out).2.2 i hi⟩
            case measure => simp [intOf]; omega
          | true =>
            rw [hFk] at hcu
            have HFK := Lib.hid hFk
            clear hFk
            go_wp2_with fail
            go_loopw [12, 53] (fun _ v53 wr => ∃ (j : Nat) (D : List Int), j ≤ r.length ∧ v53 = .int .i64 j ∧ Two w nx.length bO gD bD F D wr ∧ Grid wr (bD + 1) 34 3 g nx.length vs (Lb.rowsF nx.length (Lb.fr nx nx.length)) ∧ ∀ i, i < nx.length → D.getD i 0 = ((Lb.deg nx.length (Lb.low F k) (Lb.row nx i) + Lb.occ ((Lb.fr nx nx.length k).take j) i : Nat) : Int)) (fun _ v53 _ => r.length - (intOf v53).toNat)
            case atStart => exact ⟨0, D, by omega, rfl, (HT.out).1, (HT.out).2.1, fun i hi => by rw [(HT.out).2.2 i hi]; simp [Lb.occ]⟩
            case round =>
              obtain ⟨j, D2, hj, rfl, hT2, hG2, hD2⟩ := hrel
              by_cases hjl : j < r.length
              · have hor := hG2.row k _ r (HX.out).1 (HX.out).2.1
                obtain ⟨g7, c7, hv7, _, hc7, hcm7, hgs7⟩ := own_some hor (by omega)
                simp only [Value.slice.injEq] at hv7
                obtain ⟨rfl, _, rfl⟩ := hv7
                have hcy := hor.cellAt j (by omega)
                have hre := (HX.out).2.2
                have hkl : j < (Lb.fr nx nx.length k).length := by rw [hre, List.length_map] at hjl; exact hjl
                rw [hre, List.getElem?_map, List.getElem?_eq_getElem hkl] at hcy
                have hmem : (Lb.fr nx nx.length k)[j] ∈ Lb.fr nx nx.length k := List.getElem_mem hkl
                have htk : (Lb.fr nx nx.length k).take (j + 1) = (Lb.fr nx nx.length k).take j ++ [(Lb.fr nx nx.length k)[j]] := List.take_succ_eq_append_getElem hkl
                obtain ⟨yy, hyy, hyl, hyx⟩ := Lb.fr_mem hmem
                rw [hyy] at hcy htk
                simp only [Option.map_some] at hcy
                have hdb := hT2.onb.cell
                have hcd := int_at hT2.on yy hyl
                have hdl := hT2.dlen
                have hfz := hT2.on.frozenAt yy
                have hlts2 := hT2.lts
                have hd1 := Lb.deg_le nx.length (Lb.low F k) (Lb.row nx yy)
                have hd2 := Lb.occ_le_fr nx k j yy
                have hd3 := hr yy
                have hdv := hD2 yy hyl
                have hst := hT2.setD yy (D2.getD yy 0 + 1)
                have hkg : Keeps (fun j => j = gD) wr (wr.setCell ⟨gD, yy, none⟩ (.int .i64 (D2.getD yy 0 + 1))) := Keeps.setCell _ _ _ rfl
                have hg3 := hG2.keeps hkg (fun j hj e => by have := (hG2.in_lt j hj).1; omega)
                have HS := Lib.hid (And.intro hst (And.intro hg3 (And.intro hD2 htk)))
                clear hst hg3 hkg hT2 hG2 hD2 htk hyy hmem hkl hre hor hyx
                generalize hdy : D2.getD yy 0 = d at *
                have HDY := Lib.hid hdy
                have hdb1 : 0 ≤ d ∧ d ≤ 2000 := by omega
                clear hdv hdy hd1 hd2 hd3
                go_wp2_with fail
                go_roundw
                case rel =>
                  refine ⟨j + 1, D2.set yy (d + 1), by omega, by go_num, (HS.out).1, (HS.out).2.1, fun i hi => ?_⟩
                  rw [Lb.getD_set _ _ _ _ _ (by omega), (HS.out).2.2.2, Lb.occ_append, Lb.occ_cons, Lb.occ_nil]
                  have h0 := (HS.out).2.2.1 i hi
                  by_cases e : i = yy
                  · subst e
                    rw [if_pos rfl, if_pos rfl]
                    have := HDY.out
                    omega
                  · rw [if_neg e, if_neg (by omega)]
                    omega
                case measure => simp [intOf]; omega
              · have hjn : j = r.length := by omega
                subst hjn
                have hre := (HX.out).2.2
                have hall : (Lb.fr nx nx.length k).take r.length = Lb.fr nx nx.length k := List.take_of_length_le (by rw [hre, List.length_map]; omega)
                rw [hall] at hD2
                have HS := Lib.hid (And.intro hT2 (And.intro hG2 hD2))
                clear hT2 hG2 hD2 hre hall
                go_wp2_with fail
                go_roundw
                case rel => exact ⟨k + 1, D2, by omega, by go_num, (HS.out).1, (HS.out).2.1, fun i hi => by rw [(HS.out).2.2 i hi, Lb.deg_low _ _ _ _ hlt HFK.out, Lb.occ_fr, if_pos hi]⟩
                case measure => simp [intOf]; omega
        · have hkl : k = nx.length := by omega
          subst hkl
          have est : Est w nx bO gD bD (bD + 1) g wr.heap.size wr.heap.size vs F D (.slice none 0 0) [] (wr.alloc (.cells #[.slice none 0 0] 46)) := by
            have hk : Keeps (fun _ => False) wr (wr.alloc (.cells #[.slice none 0 0] 46)) := Keeps.alloc _ _ _
            have hb := hG.base
            exact ⟨hT.keeps hk id id id id (fun _ hf => hf.elim), ⟨hord.1, hord.2.1, hord.2.2.1, by omega, by omega⟩, hG.keeps hk (fun _ _ hf => hf), fun j hj => (hG.in_lt j hj).2, ⟨box_new _ _ _ _ (Nat.le_refl _), World.ownsRow_nil _ _ _ _⟩⟩
          have lv : Lb.Lv nx A (fun j => j < 0) F D [] [] := Lb.Lv.start hT.flen (H5.out).2.2 hT.dlen (fun i hi => by rw [hD i hi, Lb.deg_all])
          have hcn := Lb.cntT_le F
          have HE := Lib.hid (And.intro est lv)
          clear est lv hT hG hD
          go_wp2_with fail
          generalize (wr.alloc (.cells #[.slice none 0 0] 46)) = w6 at *
          obtain ⟨B2, hB2⟩ : ∃ B2, wr.heap.size = B2 := ⟨_, rfl⟩
          rw [hB2] at HE ⊢
          go_loopw [15, 68] (fun _ v68 wr => ∃ (k : Nat) (F : List Bool) (D : List Int) (v : Value) (St : List Int), k ≤ nx.length ∧ v68 = .int .i64 k ∧ Est w nx bO gD bD (bD + 1) g B2 B2 vs F D v St wr ∧ Lb.Lv nx A (fun j => j < k) F D St [] ∧ Lb.cntT F + St.length ≤ nx.length) (fun _ v68 _ => nx.length - (intOf v68).toNat)
          case atStart => exact ⟨0, F, D, _, [], by omega, rfl, (HE.out).1, (HE.out).2, by simp; omega⟩
          case round =>
            obtain ⟨k, F2, D2, v2, S2, hk, rfl, hE2, hL2, hc2⟩ := hrel
            have hlts2 := hE2.two.lts
            by_cases hlt : k < nx.length
            · by_cases hgo : Lb.inB F2 k = true ∧ D2.getD k 0 = 0
              · have LG := Lib.hid (leave_go hE2 (by omega) hn k hlt hgo.1 hgo.2)
                have hcu := Lb.cntT_unset F2 k (by rw [hL2.flen]; exact hlt) hgo.1
                have hlv := (hL2.leave k hlt hgo.1 hgo.2).weaken (K' := fun j => j < k + 1) (fun i _ h => by omega)
                have HL2 := Lib.hid hlv
                clear hE2 hL2 hlv hgo
                go_wp2_with fail
                refine (LG.out).mono ?_
                rintro e w7 ⟨⟨rr, rfl⟩, v', hE'⟩
                have HE' := Lib.hid hE'
                clear hE'
                go_wp2_with fail
                go_roundw
                case rel => exact ⟨k + 1, _, D2, v', _, by omega, by go_num, HE'.out, HL2.out, by simp; omega⟩
                case measure => simp [intOf]; omega
              · have hs : Lb.inB F2 k = true → D2.getD k 0 ≠ 0 := fun h1 h2 => hgo ⟨h1, h2⟩
                have LN := Lib.hid (leave_no hE2 hn k hlt hs)
                have hlv := (hL2.stay k hs).weaken (K' := fun j => j < k + 1) (fun i _ h => by omega)
                have HL2 := Lib.hid (And.intro hE2 hlv)
                clear hE2 hL2 hlv hgo hs
                go_wp2_with fail
                refine (LN.out).mono ?_
                rintro e w7 ⟨⟨rr, rfl⟩, rfl⟩
                go_wp2_with fail
                go_roundw
                case rel => exact ⟨k + 1, F2, D2, v2, S2, by omega, by go_num, (HL2.out).1, (HL2.out).2, hc2⟩
                case measure => simp [intOf]; omega
            · have hkl : k = nx.length := by omega
              subst hkl
              have hlv := hL2.weaken (K' := fun _ => True) (fun i hi _ => hi)
              have HL2 := Lib.hid (And.intro hE2 hlv)
              clear hE2 hL2 hlv
              go_wp2_with fail
              go_loopg [16, 17, 19, 87] nx.length (fun gk _ _ _ _ wr => ∃ (F : List Bool) (D : List Int) (v : Value) (St : List Int), Est w nx bO gD bD (bD + 1) g B2 B2 vs F D v St wr ∧ Lb.Lv nx A (fun _ => True) F D St [] ∧ Lb.cntT F + St.length ≤ gk ∧ Lb.cntT F + St.length ≤ nx.length)
              case atStart => exact ⟨F2, D2, v2, S2, (HL2.out).1, (HL2.out).2, hc2, hc2⟩
              case round =>
                obtain ⟨F3, D3, v3, S3, hE3, hL3, hg3, hn3⟩ := hrel
                have hFl3 := hL3.flen
                rcases List.eq_nil_or_concat S3 with rfl | ⟨S4, x, rfl⟩
                · have hend := hL3.done
                  have hob := hE3.two.outb.cell
                  have PN := Lib.hid (pop_none _ _ _ _ hE3.stk)
                  have HE3 := Lib.hid (And.intro hend hE3)
                  clear hend hE3 hL3
                  go_wp2_with fail
                  refine (PN.out).mono ?_
                  rintro e w8 ⟨rfl, rfl⟩
                  go_wp2_with fail
                  go_ret
                  exact ⟨_, F3, rfl, (HE3.out).1, by rw [hFl3]; exact (HE3.out).2.two.out, (HE3.out).2.two.below⟩
                · rw [List.concat_eq_append] at hE3 hL3 hg3 hn3
                  simp only [List.length_append, List.length_singleton] at hg3 hn3
                  obtain ⟨hx0, hx1, _⟩ := hL3.st x (by simp)
                  have PS := Lib.hid (pop_some _ _ _ S4 x _ hE3.stk (by omega))
                  have hlv := hL3.pop
                  have HE3 := Lib.hid (And.intro hE3 hlv)
                  clear hE3 hL3 hlv
                  go_wp2_with fail
                  refine (PS.out).mono ?_
                  rintro e w8 ⟨rfl, v8, hs8, hk8, hv8⟩
                  have hE8 := (HE3.out).1.popped hs8 hk8
                  obtain ⟨xv, r, hvx, hrx, hcx, hox⟩ := hE8.grid.cell x.toNat (by omega)
                  have hrx2 := Lb.rowsF_at nx.length (Lb.fr nx nx.length) x.toNat (by omega)
                  rw [hrx] at hrx2
                  have hre : r = (Lb.fr nx nx.length x.toNat).map (Value.int .i64) := Option.some.inj hrx2
                  obtain ⟨xa, xc, hxe⟩ := own_len hox
                  subst hxe
                  have hrl : r.length ≤ 1000000 := by
                    rw [hre, List.length_map]
                    have := Lb.fr_len nx 1000 hr x.toNat nx.length
                    have : nx.length * 1000 ≤ 1000000 := by omega
                    omega
                  have HX := Lib.hid (And.intro hvx (And.intro hrx hre))
                  have H8 := Lib.hid hE8
                  clear hvx hrx hrx2 hre hox hE8 hs8 hk8 hv8
                  go_wp2_with fail
                  go_loopw [19, 87] (fun _ v87 wn => ∃ (j : Nat) (F : List Bool) (D : List Int) (v : Value) (St : List Int), j ≤ r.length ∧ v87 = .int .i64 j ∧ Est w nx bO gD bD (bD + 1) g B2 B2 vs F D v St wn ∧ Lb.Lv nx A (fun _ => True) F D St ((Lb.fr nx nx.length x.toNat).drop j) ∧ Lb.cntT F + St.length < gk ∧ Lb.cntT F + St.length ≤ nx.length) (fun _ v87 _ => r.length - (intOf v87).toNat)
                  case atStart => exact ⟨0, F3, D3, _, S4, by omega, rfl, H8.out, (HE3.out).2, by omega, by omega⟩
                  case round =>
                    obtain ⟨j, F7, D7, v7, S7, hj, rfl, hE7, hL7, hg7', hn7⟩ := hrel
                    by_cases hjl : j < r.length
                    · have hor := hE7.grid.row x.toNat _ r (HX.out).1 (HX.out).2.1
                      obtain ⟨g7, c7, hv7, _, hc7, hcm7, hgs7⟩ := own_some hor (by omega)
                      simp only [Value.slice.injEq] at hv7
                      obtain ⟨rfl, _, rfl⟩ := hv7
                      have hcy := hor.cellAt j (by omega)
                      have hre := (HX.out).2.2
                      have hkl : j < (Lb.fr nx nx.length x.toNat).length := by rw [hre, List.length_map] at hjl; exact hjl
                      rw [hre, List.getElem?_map, List.getElem?_eq_getElem hkl] at hcy
                      have hmem : (Lb.fr nx nx.length x.toNat)[j] ∈ Lb.fr nx nx.length x.toNat := List.getElem_mem hkl
                      rw [List.drop_eq_getElem_cons hkl] at hL7
                      obtain ⟨yy, hyy, hyl, hyx⟩ := Lb.fr_mem hmem
                      rw [hyy] at hcy hL7
                      simp only [Option.map_some] at hcy
                      have hdb := hE7.two.onb.cell
                      have hcd := int_at hE7.two.on yy hyl
                      have hdl := hE7.two.dlen
                      have hfl := hE7.two.flen
                      have hfz := hE7.two.on.frozenAt yy
                      have hlts7 := hE7.two.lts
                      have hdv := hL7.dg yy hyl
                      have hdle := Lb.deg_le nx.length (Lb.pend F7 S7) (Lb.row nx yy)
                      have hole : Lb.occ ((yy : Int) :: (Lb.fr nx nx.length x.toNat).drop (j + 1)) yy ≤ (Lb.row nx yy).length := by
                        have h1 := Lb.occ_fr nx x.toNat yy nx.length
                        have h2 := Lb.occ_append ((Lb.fr nx nx.length x.toNat).take j) ((Lb.fr nx nx.length x.toNat).drop j) yy
                        rw [List.take_append_drop, List.drop_eq_getElem_cons hkl, hyy] at h2
                        have h3 := Lb.occ_le (Lb.row nx yy) x.toNat
                        rw [if_pos hyl] at h1
                        omega
                      have hrl7 := hr yy
                      obtain ⟨hpos, hdn⟩ := hL7.down hyl
                      have hEd := hE7.down yy (D7.getD yy 0 - 1)
                      have hgd : (D7.set yy (D7.getD yy 0 - 1)).getD yy 0 = D7.getD yy 0 - 1 := by rw [Lb.getD_set _ _ _ _ _ (by omega), if_pos rfl]
                      have hdb1 : D7.getD yy 0 ≤ 2000 := by omega
                      have HS := Lib.hid (And.intro hEd hdn)
                      clear hE7 hL7 hEd hdn hyy hmem hkl hre hor hyx hdv hdle hole
                      generalize D7.getD yy 0 = d at *
                      by_cases hgo : Lb.inB F7 yy = true ∧ d - 1 = 0
                      · have LG := Lib.hid (leave_go (HS.out).1 (by omega) hn yy hyl hgo.1 (by rw [hgd]; exact hgo.2))
                        have hcu := Lb.cntT_unset F7 yy (by omega) hgo.1
                        have hlv := ((HS.out).2.leave yy hyl hgo.1 (by rw [hgd]; exact hgo.2)).weaken (K' := fun _ => True) (fun i _ _ => by by_cases e : i = yy; exact Or.inr e; exact Or.inl ⟨trivial, e⟩)
                        have HL7 := Lib.hid hlv
                        clear hlv hgo hgd
                        go_wp2_with fail
                        refine (LG.out).mono ?_
                        rintro e w9 ⟨⟨rr, rfl⟩, v', hE'⟩
                        have HE' := Lib.hid hE'
                        clear hE'
                        go_wp2_with fail
                        go_roundw
                        case rel => exact ⟨j + 1, _, _, v', _, by omega, by go_num, HE'.out, HL7.out, by simp; omega, by simp; omega⟩
                        case measure => simp [intOf]; omega
                      · have hs : Lb.inB F7 yy = true → (D7.set yy (d - 1)).getD yy 0 ≠ 0 := fun h1 h2 => hgo ⟨h1, by rw [← hgd]; exact h2⟩
                        have LN := Lib.hid (leave_no (HS.out).1 hn yy hyl hs)
                        have hlv := ((HS.out).2.stay yy hs).weaken (K' := fun _ => True) (fun i _ _ => by by_cases e : i = yy; exact Or.inr e; exact Or.inl ⟨trivial, e⟩)
                        have HL7 := Lib.hid (And.intro (HS.out).1 hlv)
                        clear hlv hgo hgd hs HS
                        go_wp2_with fail
                        refine (LN.out).mono ?_
                        rintro e w9 ⟨⟨rr, rfl⟩, rfl⟩
                        go_wp2_with fail
                        go_roundw
                        case rel => exact ⟨j + 1, F7, _, v7, S7, by omega, by go_num, (HL7.out).1, (HL7.out).2, hg7', hn7⟩
                        case measure => simp [intOf]; omega
                    · have hkl : (Lb.fr nx nx.length x.toNat).length ≤ j := by have := (HX.out).2.2; rw [this, List.length_map] at hjl; omega
                      rw [List.drop_eq_nil_of_le hkl] at hL7
                      have H7 := Lib.hid (And.intro hE7 hL7)
                      clear hE7 hL7
                      go_wp2_with fail
                      go_roundg (Lb.cntT F7 + S7.length)
                      case measure => exact hg7'
                      case rel => exact ⟨F7, D7, v7, S7, (H7.out).1, (H7.out).2, Nat.le_refl _, hn7⟩
end Go.Proofs.Ytlmecpghlgndnaa
