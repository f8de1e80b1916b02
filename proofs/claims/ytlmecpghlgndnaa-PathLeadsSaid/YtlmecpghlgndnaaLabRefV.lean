/-
  warderref32.EU, EG: by walks.
-/
import Derived.Test.YtlmecpghlgndnaaLabRefU
namespace Go.Proofs.Ytlmecpghlgndnaa
open Go.RowKit
set_option linter.unusedVariables false
set_option linter.unusedSimpArgs false

namespace Lb
theorem cntT_mono : ∀ (F G : List Bool), F.length = G.length → (∀ i, inB F i = true → inB G i = true) → cntT F ≤ cntT G ∧ ((∃ i, i < F.length ∧ inB F i ≠ inB G i) → cntT F < cntT G)
  | [], [], _, _ => ⟨Nat.le_refl _, fun ⟨i, h, _⟩ => by simp at h⟩
  | [], _ :: _, h, _ => by simp at h
  | _ :: _, [], h, _ => by simp at h
  | b :: F, c :: G, h, hm => by
    have ih := cntT_mono F G (by simpa using h) (fun i hi => hm (i + 1) hi)
    have h0 : b = true → c = true := hm 0
    have hb : (if b = true then 1 else 0) ≤ (if c = true then 1 else 0 : Nat) := by
      cases b with
      | false => simp
      | true => rw [h0 rfl]; simp
    refine ⟨by simp only [cntT]; omega, ?_⟩
    rintro ⟨i, hi, hne⟩
    simp only [cntT]
    cases i with
    | zero =>
      have hne : b ≠ c := hne
      cases b with
      | true => exact absurd (h0 rfl).symm hne
      | false =>
        cases c with
        | false => exact absurd rfl hne
        | true => have := ih.1; simp; omega
    | succ i =>
      have := ih.2 ⟨i, by simpa using hi, hne⟩
      omega
/-- One step more, from below. -/
def up1 (nx : List (List Int)) (A Bs F : List Bool) (i : Nat) : Bool := inB Bs i || (inB A i && exB nx F i)
/-- Up to a place nothing has changed. -/
def smB (f : Nat → Bool) (F : List Bool) (j : Nat) : Bool := (List.range j).all (fun i => f i == inB F i)
theorem smB_succ (f : Nat → Bool) (F : List Bool) (j : Nat) : smB f F (j + 1) = (smB f F j && (f j == inB F j)) := by
  unfold smB; rw [List.range_succ, List.all_append]; simp
theorem smB_iff {f : Nat → Bool} {F : List Bool} {j : Nat} : smB f F j = true ↔ ∀ i, i < j → f i = inB F i := by
  unfold smB
  rw [List.all_eq_true]
  constructor
  · intro h i hi; have := h i (List.mem_range.2 hi); simpa using this
  · intro h i hi; simpa using h i (List.mem_range.1 hi)
/-- The first places are new, the others old. -/
def Mix (f : Nat → Bool) (F : List Bool) (j : Nat) (G : List Bool) : Prop := G.length = F.length ∧ ∀ i, i < F.length → inB G i = if i < j then f i else inB F i
theorem Mix.zero (f : Nat → Bool) (F : List Bool) : Mix f F 0 F := ⟨rfl, fun i _ => by rw [if_neg (by omega)]⟩
theorem Mix.next {f : Nat → Bool} {F : List Bool} {j : Nat} {G : List Bool} (h : Mix f F j G) (hj : j < F.length) : Mix f F (j + 1) (G.set j (f j)) := by
  refine ⟨by simpa using h.1, fun i hi => ?_⟩
  rw [inB_set _ _ _ _ (by rw [h.1]; exact hj)]
  by_cases e : i = j
  · rw [if_pos e, if_pos (by omega), e]
  · rw [if_neg e, h.2 i hi]
    by_cases e2 : i < j
    · rw [if_pos e2, if_pos (by omega)]
    · rw [if_neg e2, if_neg (by omega)]
theorem Mix.at {f : Nat → Bool} {F : List Bool} {j : Nat} {G : List Bool} (h : Mix f F j G) (hj : j < F.length) : inB G j = inB F j := by rw [h.2 j hj, if_neg (by omega)]
theorem Mix.all {f : Nat → Bool} {F G : List Bool} (h : Mix f F F.length G) : ∀ i, i < F.length → inB G i = f i := fun i hi => by rw [h.2 i hi, if_pos hi]
theorem exB_mono {nx : List (List Int)} {F G : List Bool} (h : ∀ i, inB F i = true → inB G i = true) (i : Nat) : exB nx F i = true → exB nx G i = true := by
  rw [exB_iff, exB_iff]
  rintro ⟨t, h1, h2⟩
  exact ⟨t, h1, h t h2⟩
/-- The state from below, after so many steps. -/
structure Lo (nx : List (List Int)) (A Bs F : List Bool) (m : Nat) : Prop where
  len : F.length = nx.length
  sound : ∀ i, inB F i = true → EU nx A Bs i
  grow : ∀ i, i < nx.length → inB F i = true → up1 nx A Bs F i = true
  many : m ≤ cntT F ∨ ∀ i, i < nx.length → up1 nx A Bs F i = inB F i
theorem Lo.start (nx : List (List Int)) (A Bs : List Bool) : Lo nx A Bs (List.replicate nx.length false) 0 :=
  ⟨by simp, fun i h => absurd h (by rw [inB_rep]; simp), fun i _ h => absurd h (by rw [inB_rep]; simp), Or.inl (by omega)⟩
theorem Lo.step {nx : List (List Int)} {A Bs F G : List Bool} {m : Nat} (h : Lo nx A Bs F m) (hG : Mix (up1 nx A Bs F) F F.length G) : Lo nx A Bs G (m + 1) := by
  have hg := hG.all
  have hl := h.len
  have hGl : G.length = nx.length := by rw [hG.1, hl]
  have hsub : ∀ i, inB F i = true → inB G i = true := fun i hi => by
    have := inB_lt hi
    rw [hg i this]; exact h.grow i (by omega) hi
  refine ⟨hGl, fun i hi => ?_, fun i hi hgi => ?_, ?_⟩
  · have hil := inB_lt hi
    rw [hg i (by omega)] at hi
    unfold up1 at hi
    simp only [Bool.or_eq_true, Bool.and_eq_true] at hi
    rcases hi with h1 | ⟨h1, h2⟩
    · exact EU.base i (by omega) h1
    · obtain ⟨t, h3, h4⟩ := exB_iff.1 h2
      exact EU.step i t (by omega) h1 h3 (h.sound t h4)
  · rw [hg i (by omega)] at hgi
    unfold up1 at hgi ⊢
    simp only [Bool.or_eq_true, Bool.and_eq_true] at hgi ⊢
    exact hgi.imp id (fun h1 => ⟨h1.1, exB_mono hsub i h1.2⟩)
  · by_cases hs : ∀ i, i < nx.length → up1 nx A Bs F i = inB F i
    · right
      have hFG : G = F := by
        apply List.ext_getElem?
        intro i
        by_cases hi : i < nx.length
        · have h1 := (hg i (by omega)).trans (hs i hi)
          rw [getD_at G i false (by omega), getD_at F i false (by omega)]
          exact congrArg some h1
        · rw [List.getElem?_eq_none (by omega), List.getElem?_eq_none (by omega)]
      rw [hFG]; exact hs
    · left
      have hm : m ≤ cntT F := h.many.resolve_right hs
      have hex : ∃ i, i < F.length ∧ inB F i ≠ inB G i := by
        simp only [Classical.not_forall] at hs
        obtain ⟨i, hi, hne⟩ := hs
        exact ⟨i, by omega, fun e => hne (by rw [e]; exact (hg i (by omega)).symm)⟩
      have := (cntT_mono F G (by rw [hG.1]) hsub).2 hex
      omega
theorem Lo.fixed {nx : List (List Int)} {A Bs F : List Bool} {m : Nat} (h : Lo nx A Bs F m) (hf : ∀ i, i < nx.length → up1 nx A Bs F i = inB F i) : IsSet nx.length (EU nx A Bs) F := by
  refine ⟨h.len, fun i _ => ⟨h.sound i, fun hE => ?_⟩⟩
  induction hE with
  | base i hi hb => rw [← hf i hi]; unfold up1; rw [hb]; rfl
  | step i t hi ha hE hU ih =>
    rw [← hf i hi]
    unfold up1
    rw [ha, exB_iff.2 ⟨t, hE, ih hU.lt⟩]
    simp
theorem Lo.ends {nx : List (List Int)} {A Bs F : List Bool} {m : Nat} (h : Lo nx A Bs F m) (hm : nx.length < m) : ∀ i, i < nx.length → up1 nx A Bs F i = inB F i := by
  rcases h.many with h1 | h1
  · have := cntT_le F
    rw [h.len] at this
    omega
  · exact h1
/-- One step more, from above. -/
def dn1 (nx : List (List Int)) (F : List Bool) (i : Nat) : Bool := inB F i && exB nx F i
structure Hi (nx : List (List Int)) (A F : List Bool) (m : Nat) : Prop where
  len : F.length = nx.length
  sub : ∀ i, inB F i = true → inB A i = true
  up : ∀ i, EG nx A i → inB F i = true
  many : cntT F + m ≤ nx.length
theorem Hi.same {nx : List (List Int)} {A F : List Bool} {m : Nat} (h : Hi nx A F m) (hf : ∀ i, i < nx.length → dn1 nx F i = inB F i) : IsSet nx.length (EG nx A) F := by
  refine ⟨h.len, fun i hi => ⟨fun hF => ⟨fun j => inB F j = true, hF, fun j hj => ?_⟩, h.up i⟩⟩
  have hjl : j < nx.length := by rw [← h.len]; exact inB_lt hj
  have h1 := hf j hjl
  unfold dn1 at h1
  rw [hj, Bool.true_and] at h1
  obtain ⟨t, h2, h3⟩ := exB_iff.1 h1
  exact ⟨hjl, h.sub j hj, t, h3, h2⟩
theorem Hi.step {nx : List (List Int)} {A F G : List Bool} {m : Nat} (h : Hi nx A F m) (hG : Mix (dn1 nx F) F F.length G) (hs : ¬ ∀ i, i < nx.length → dn1 nx F i = inB F i) : Hi nx A G (m + 1) := by
  have hg := hG.all
  have hl := h.len
  have hsub : ∀ i, inB G i = true → inB F i = true := fun i hi => by
    have := inB_lt hi
    rw [hg i (by rw [← hG.1]; exact this)] at hi
    unfold dn1 at hi
    simp only [Bool.and_eq_true] at hi
    exact hi.1
  refine ⟨by rw [hG.1, hl], fun i hi => h.sub i (hsub i hi), fun i hi => ?_, ?_⟩
  · obtain ⟨h1, _, t, h3, h4⟩ := hi.out
    rw [hg i (by omega)]
    unfold dn1
    rw [h.up i hi, exB_iff.2 ⟨t, h4, h.up t h3⟩]; rfl
  · have hex : ∃ i, i < G.length ∧ inB G i ≠ inB F i := by
      simp only [Classical.not_forall] at hs
      obtain ⟨i, hi, hne⟩ := hs
      exact ⟨i, by rw [hG.1]; omega, fun e => hne (by rw [← e]; exact (hg i (by omega)).symm)⟩
    have := (cntT_mono G F (by rw [hG.1]) hsub).2 hex
    have := h.many
    omega
end Lb
/-- What EX answers, as a list. -/
theorem exSet_get {nx : List (List Int)} {F X : List Bool} (h : Lb.IsSet nx.length (fun i => ∃ t, Lb.E nx i t ∧ Lb.inB F t = true) X) (i : Nat) (hi : i < nx.length) : Lb.inB X i = Lb.exB nx F i := by
  have h1 : Lb.inB X i = true ↔ ∃ t, Lb.E nx i t ∧ Lb.inB F t = true := h.2 i hi
  rw [← Lb.exB_iff] at h1
  exact Bool.eq_iff_iff.2 h1
set_option maxHeartbeats 4000000 in
theorem reu_any (a a2 a3 : Option Addr) (c c2 c3 : Nat) (nx : List (List Int)) (A Bs : List Bool) (w : World) (hl : RdG w a nx) (hA : Reads w a2 (A.map Value.bool)) (hB : Reads w a3 (Bs.map Value.bool)) (hn : nx.length ≤ 1000) (hr : ∀ i, (Lb.row nx i).length ≤ 1000) :
    Calls Try.prog 16 #[.slice a nx.length c, .slice a2 A.length c2, .slice a3 Bs.length c3] w (BoolsAns (Lb.IsSet nx.length (Lb.EU nx A Bs)) w) := by
  have hu : ∀ b : Bool, ¬ (some undef = some (Value.bool b)) := fun b h => by cases h
  have HL := Lib.hid (And.intro hl (And.intro hA hB))
  clear hl hA hB
  go_enter Try.func16, Try.ntmps16
  go_wp2_with (at_make; refine make_one rfl _ _ 23 rfl 4 (.bool false) 1 Try.underlying23 Try.infoB rfl _ nx.length rfl rfl rfl (by omega) (by unfold maxLen; omega) ?_; intro w1 own1 keep1; rw [show List.replicate nx.length (Value.bool false) = (List.replicate nx.length false).map Value.bool by rw [List.map_replicate]] at own1)
  have bel1 := keep1.below (fun _ hf => hf.elim) (Nat.le_refl _)
  have O1 := Lib.hid (And.intro own1 bel1)
  clear own1 keep1 bel1
  go_loopw [8, 9, 10, 11, 12] (fun v8 _ _ _ _ wr => ∃ (m : Nat) (F : List Bool), m ≤ nx.length + 1 ∧ v8 = .int .i64 m ∧ Lb.Lo nx A Bs F m ∧
    wr.ownsRow w.heap.size 4 1 (.slice (some ⟨w.heap.size, 0, none⟩) nx.length nx.length) nx.length (F.map Value.bool) ∧ Below w.heap.size w wr) (fun v8 _ _ _ _ _ => nx.length + 1 - (intOf v8).toNat)
  case atStart => exact ⟨0, _, by omega, rfl, Lb.Lo.start nx A Bs, (O1.out).1, (O1.out).2⟩
  case round =>
    obtain ⟨m, F, hk, rfl, hL, hO, hB⟩ := hrel
    have hFl := hL.len
    by_cases hlt : m ≤ nx.length
    · have EX := Lib.hid (rex_any a (some ⟨w.heap.size, 0, none⟩) c nx.length nx F wr ((HL.out).1.mono hB (Nat.le_refl _)) (by
        obtain ⟨a', c', e1, e2⟩ := Reads.of_own hO
        simp only [Value.slice.injEq] at e1
        rw [e1.1]; exact e2) hn hr)
      rw [hFl] at EX
      have HLo := Lib.hid (And.intro hL (And.intro hO hB))
      have hgw := (hO.lt w.heap.size rfl).2
      clear hL hO hB
      go_wp2_with fail
      refine (EX.out).mono ?_
      rintro e w3 ⟨x, X, rfl, hX, hOX, hBX⟩
      have hXl := hX.1
      rw [hXl] at hOX
      obtain ⟨xa, xc, hxe⟩ := own_len hOX
      subst hxe
      have hO3 : w3.ownsRow w.heap.size 4 1 (.slice (some ⟨w.heap.size, 0, none⟩) nx.length nx.length) nx.length (F.map Value.bool) := by
        have k4 : Keeps (fun j => wr.heap.size ≤ j) wr w3 := ⟨hBX.os, hBX.tape, hBX.output, hBX.size, fun j hj _ => hBX.block j hj⟩
        exact k4.own (HLo.out).2.1 (fun j hj e => by have := ((HLo.out).2.1.lt j hj).2; omega)
      have hB3 := (HLo.out).2.2.trans (hBX.mono (HLo.out).2.2.size)
      have HX := Lib.hid (And.intro hX (And.intro hOX (And.intro hO3 hB3)))
      clear hX hOX hO3 hB3 hBX
      have hf : ∃ f, f = Lb.up1 nx A Bs F := ⟨_, rfl⟩
      obtain ⟨f, hf⟩ := hf
      have HFE := Lib.hid hf
      clear hf
      obtain ⟨BX, hBX⟩ : ∃ BX, wr.heap.size = BX := ⟨_, rfl⟩
      rw [hBX] at HX hgw
      go_wp2_with fail
      go_loopw [10, 11, 12] (fun v10 v11 _ wr => ∃ (j : Nat) (G : List Bool), j ≤ nx.length ∧ v11 = .int .i64 j ∧ v10 = .bool (Lb.smB f F j) ∧ Lb.Mix f F j G ∧
        wr.ownsRow w.heap.size 4 1 (.slice (some ⟨w.heap.size, 0, none⟩) nx.length nx.length) nx.length (G.map Value.bool) ∧ wr.ownsRow BX 4 1 (.slice xa nx.length xc) nx.length (X.map Value.bool) ∧ Below w.heap.size w wr) (fun _ v11 _ _ => nx.length - (intOf v11).toNat)
      case atStart => exact ⟨0, F, by omega, rfl, rfl, Lb.Mix.zero _ _, (HX.out).2.2.1, (HX.out).2.1, (HX.out).2.2.2⟩
      case round =>
        obtain ⟨j, G, hj, rfl, rfl, hM, hG, hXr, hBr⟩ := hrel
        by_cases hjl : j < nx.length
        · have hcg := bool_cell hG j hjl
          rw [hM.at (by omega)] at hcg
          obtain ⟨gx, cx, hvx, hgx, hc7, hcm7, hgs7⟩ := own_some hXr (by omega)
          simp only [Value.slice.injEq] at hvx
          obtain ⟨rfl, _, rfl⟩ := hvx
          have hcx : wr.cell? ⟨gx, j, none⟩ = some (.bool (Lb.inB X j)) := by
            rw [hXr.cellAt j (by omega), List.getElem?_map, Lb.getD_at X j false (by omega)]; rfl
          rw [exSet_get (HX.out).1 j hjl] at hcx
          have hfz := hG.frozenAt j
          have hgF := (hG.lt w.heap.size rfl).2
          have st := bool_stored hG j (f j)
          have hkg : Keeps (fun j => j = w.heap.size) wr (wr.setCell ⟨w.heap.size, j, none⟩ (.bool (f j))) := Keeps.setCell _ _ _ rfl
          have b3 := hBr.trans (hkg.below (fun j e => by omega) hBr.size)
          have x3 := hkg.own hXr (fun j hj e => by simp [Value.ownBlock] at hj; omega)
          have HS := Lib.hid (And.intro st (And.intro x3 (And.intro b3 (hM.next (by omega)))))
          have ISB := Lib.hid (ris_any a3 c3 Bs j wr ((HL.out).2.2.mono hBr (Nat.le_refl _)))
          have ISA := Lib.hid (ris_any a2 c2 A j wr ((HL.out).2.1.mono hBr (Nat.le_refl _)))
          have hsm := Lb.smB_succ f F j
          have hfj : f j = Lb.up1 nx A Bs F j := by rw [HFE.out]
          unfold Lb.up1 at hfj
          have HSM := Lib.hid hsm
          clear st hkg b3 x3 hM hG hXr hBr hsm
          generalize Lb.exB nx F j = xb at *
          generalize Lb.inB F j = ob at *
          generalize Lb.smB f F j = sm at *
          have fin : f j = f j := rfl
          cases hbj : Lb.inB Bs j with
          | true =>
            rw [hbj, Bool.true_or] at hfj
            have HJ := Lib.hid (And.intro hfj hbj)
            clear hfj hbj
            cases sm with
            | true =>
              go_wp2_with fail
              refine (ISB.out).mono ?_
              rintro e w5 ⟨rfl, rfl⟩
              rw [Int.toNat_natCast, (HJ.out).2]
              go_wp2_with fail
              go_roundw
              case rel => exact ⟨j + 1, G.set j (f j), by omega, by go_num, by rw [HSM.out, (HJ.out).1]; first | rfl | (cases ob <;> rfl), (HS.out).2.2.2, by rw [(HJ.out).1] at HS ⊢; exact (HS.out).1, by rw [(HJ.out).1] at HS; exact (HS.out).2.1, by rw [(HJ.out).1] at HS; exact (HS.out).2.2.1⟩
              case measure => simp [intOf]; omega
            | false =>
              go_wp2_with fail
              refine (ISB.out).mono ?_
              rintro e w5 ⟨rfl, rfl⟩
              rw [Int.toNat_natCast, (HJ.out).2]
              go_wp2_with fail
              go_roundw
              case rel => exact ⟨j + 1, G.set j (f j), by omega, by go_num, by rw [HSM.out]; rfl, (HS.out).2.2.2, by rw [(HJ.out).1] at HS ⊢; exact (HS.out).1, by rw [(HJ.out).1] at HS; exact (HS.out).2.1, by rw [(HJ.out).1] at HS; exact (HS.out).2.2.1⟩
              case measure => simp [intOf]; omega
          | false =>
            rw [hbj, Bool.false_or] at hfj
            cases haj : Lb.inB A j with
            | true =>
              rw [haj, Bool.true_and] at hfj
              have HJ := Lib.hid (And.intro hfj (And.intro hbj haj))
              clear hfj hbj haj
              cases sm with
              | true =>
                go_wp2_with fail
                refine (ISB.out).mono ?_
                rintro e w5 ⟨rfl, rfl⟩
                rw [Int.toNat_natCast, (HJ.out).2.1]
                go_wp2_with fail
                refine (ISA.out).mono ?_
                rintro e w5 ⟨rfl, rfl⟩
                rw [Int.toNat_natCast, (HJ.out).2.2]
                go_wp2_with fail
                go_roundw
                case rel => exact ⟨j + 1, G.set j (f j), by omega, by go_num, by rw [HSM.out, (HJ.out).1]; first | rfl | (cases ob <;> rfl), (HS.out).2.2.2, by rw [(HJ.out).1] at HS ⊢; exact (HS.out).1, by rw [(HJ.out).1] at HS; exact (HS.out).2.1, by rw [(HJ.out).1] at HS; exact (HS.out).2.2.1⟩
                case measure => simp [intOf]; omega
              | false =>
                go_wp2_with fail
                refine (ISB.out).mono ?_
                rintro e w5 ⟨rfl, rfl⟩
                rw [Int.toNat_natCast, (HJ.out).2.1]
                go_wp2_with fail
                refine (ISA.out).mono ?_
                rintro e w5 ⟨rfl, rfl⟩
                rw [Int.toNat_natCast, (HJ.out).2.2]
                go_wp2_with fail
                go_roundw
                case rel => exact ⟨j + 1, G.set j (f j), by omega, by go_num, by rw [HSM.out]; rfl, (HS.out).2.2.2, by rw [(HJ.out).1] at HS ⊢; exact (HS.out).1, by rw [(HJ.out).1] at HS; exact (HS.out).2.1, by rw [(HJ.out).1] at HS; exact (HS.out).2.2.1⟩
                case measure => simp [intOf]; omega
            | false =>
              rw [haj, Bool.false_and] at hfj
              have HJ := Lib.hid (And.intro hfj (And.intro hbj haj))
              clear hfj hbj haj
              cases sm with
              | true =>
                go_wp2_with fail
                refine (ISB.out).mono ?_
                rintro e w5 ⟨rfl, rfl⟩
                rw [Int.toNat_natCast, (HJ.out).2.1]
                go_wp2_with fail
                refine (ISA.out).mono ?_
                rintro e w5 ⟨rfl, rfl⟩
                rw [Int.toNat_natCast, (HJ.out).2.2]
                go_wp2_with fail
                go_roundw
                case rel => exact ⟨j + 1, G.set j (f j), by omega, by go_num, by rw [HSM.out, (HJ.out).1]; first | rfl | (cases ob <;> rfl), (HS.out).2.2.2, by rw [(HJ.out).1] at HS ⊢; exact (HS.out).1, by rw [(HJ.out).1] at HS; exact (HS.out).2.1, by rw [(HJ.out).1] at HS; exact (HS.out).2.2.1⟩
                case measure => simp [intOf]; omega
              | false =>
                go_wp2_with fail
                refine (ISB.out).mono ?_
                rintro e w5 ⟨rfl, rfl⟩
                rw [Int.toNat_natCast, (HJ.out).2.1]
                go_wp2_with fail
                refine (ISA.out).mono ?_
                rintro e w5 ⟨rfl, rfl⟩
                rw [Int.toNat_natCast, (HJ.out).2.2]
                go_wp2_with fail
                go_roundw
                case rel => exact ⟨j + 1, G.set j (f j), by omega, by go_num, by rw [HSM.out]; rfl, (HS.out).2.2.2, by rw [(HJ.out).1] at HS ⊢; exact (HS.out).1, by rw [(HJ.out).1] at HS; exact (HS.out).2.1, by rw [(HJ.out).1] at HS; exact (HS.out).2.2.1⟩
                case measure => simp [intOf]; omega
        · have hjn : j = nx.length := by omega
          subst hjn
          have hM2 : Lb.Mix (Lb.up1 nx A Bs F) F F.length G := by rw [← HFE.out, hFl]; exact hM
          have hstep := (HLo.out).1.step hM2
          have HM := Lib.hid (And.intro hstep (And.intro hG (And.intro hBr hM2)))
          have hGl := hM.1
          clear hstep hM hM2 hG hBr hXr
          cases hsm : Lb.smB f F nx.length with
          | true =>
            have hfix : ∀ i, i < nx.length → Lb.up1 nx A Bs F i = Lb.inB F i := by rw [← HFE.out]; exact Lb.smB_iff.1 hsm
            have HFX := Lib.hid hfix
            clear hfix hsm
            by_cases hm0 : 0 < m
            · have hfix2 : ∀ i, i < nx.length → Lb.up1 nx A Bs G i = Lb.inB G i := by
                have hFG : G = F := by
                  apply List.ext_getElem?
                  intro i
                  by_cases hi : i < nx.length
                  · have h1 := ((HM.out).2.2.2.all i (by omega)).trans (HFX.out i hi)
                    rw [Lb.getD_at G i false (by omega), Lb.getD_at F i false (by omega)]
                    exact congrArg some h1
                  · rw [List.getElem?_eq_none (by omega), List.getElem?_eq_none (by omega)]
                rw [hFG]; exact HFX.out
              have hend := (HM.out).1.fixed hfix2
              have HE := Lib.hid hend
              clear hend hfix2
              go_wp2_with fail
              go_ret
              exact ⟨_, G, rfl, HE.out, by rw [hGl, hFl]; exact (HM.out).2.1, (HM.out).2.2.1⟩
            · go_wp2_with fail
              go_roundw
              case rel => exact ⟨m + 1, G, by omega, by go_num, (HM.out).1, (HM.out).2.1, (HM.out).2.2.1⟩
              case measure => simp [intOf]; omega
          | false =>
            go_wp2_with fail
            go_roundw
            case rel => exact ⟨m + 1, G, by omega, by go_num, (HM.out).1, (HM.out).2.1, (HM.out).2.2.1⟩
            case measure => simp [intOf]; omega
    · have hend := hL.fixed (hL.ends (by omega))
      have HE := Lib.hid (And.intro hend (And.intro hO hB))
      clear hend hL hO hB
      go_wp2_with fail
      go_ret
      exact ⟨_, F, rfl, (HE.out).1, by rw [hFl]; exact (HE.out).2.1, (HE.out).2.2⟩
set_option maxHeartbeats 4000000 in
theorem reg_any (a a2 : Option Addr) (c c2 : Nat) (nx : List (List Int)) (A : List Bool) (w : World) (hl : RdG w a nx) (hA : Reads w a2 (A.map Value.bool)) (hn : nx.length ≤ 1000) (hr : ∀ i, (Lb.row nx i).length ≤ 1000) :
    Calls Try.prog 18 #[.slice a nx.length c, .slice a2 A.length c2] w (BoolsAns (Lb.IsSet nx.length (Lb.EG nx A)) w) := by
  have hu : ∀ b : Bool, ¬ (some undef = some (Value.bool b)) := fun b h => by cases h
  have HL := Lib.hid (And.intro hl hA)
  clear hl hA
  go_enter Try.func18, Try.ntmps18
  go_wp2_with (at_make; refine make_one rfl _ _ 23 rfl 4 (.bool false) 1 Try.underlying23 Try.infoB rfl _ nx.length rfl rfl rfl (by omega) (by unfold maxLen; omega) ?_; intro w1 own1 keep1; rw [show List.replicate nx.length (Value.bool false) = (List.replicate nx.length false).map Value.bool by rw [List.map_replicate]] at own1)
  have bel1 := keep1.below (fun _ hf => hf.elim) (Nat.le_refl _)
  have O1 := Lib.hid (And.intro own1 bel1)
  clear own1 keep1 bel1
  go_loopw [6] (fun v6 wr => ∃ (k : Nat) (F : List Bool), k ≤ nx.length ∧ v6 = .int .i64 k ∧ F.length = nx.length ∧ (∀ i, i < k → Lb.inB F i = Lb.inB A i) ∧
    wr.ownsRow w.heap.size 4 1 (.slice (some ⟨w.heap.size, 0, none⟩) nx.length nx.length) nx.length (F.map Value.bool) ∧ Below w.heap.size w wr) (fun v6 _ => nx.length - (intOf v6).toNat)
  case atStart => exact ⟨0, _, by omega, rfl, by simp, fun i hi => by omega, (O1.out).1, (O1.out).2⟩
  case round =>
    obtain ⟨k, F, hk, rfl, hFl, hin, hO, hB⟩ := hrel
    by_cases hlt : k < nx.length
    · have hfz := hO.frozenAt k
      have hgF := (hO.lt w.heap.size rfl).2
      have hcu := bool_cell hO k hlt
      have st := bool_stored hO k (Lb.inB A k)
      have hkg : Keeps (fun j => j = w.heap.size) wr (wr.setCell ⟨w.heap.size, k, none⟩ (.bool (Lb.inB A k))) := Keeps.setCell _ _ _ rfl
      have b3 := hB.trans (hkg.below (fun j e => by omega) hB.size)
      have IS := Lib.hid (ris_any a2 c2 A k wr ((HL.out).2.mono hB (Nat.le_refl _)))
      have HS := Lib.hid (And.intro st (And.intro b3 hin))
      clear st hkg b3 hin hO hB
      go_wp2_with fail
      refine (IS.out).mono ?_
      rintro e w5 ⟨rfl, rfl⟩
      rw [Int.toNat_natCast, decide_eq_true (by omega), Bool.true_and]
      go_wp2_with fail
      go_roundw
      case rel =>
        refine ⟨k + 1, F.set k (Lb.inB A k), by omega, by go_num, by simpa using hFl, fun i hi => ?_, (HS.out).1, (HS.out).2.1⟩
        rw [inB_set _ _ _ _ (by omega)]
        by_cases e : i = k
        · rw [if_pos e, e]
        · rw [if_neg e]; exact (HS.out).2.2 i (by omega)
      case measure => simp [intOf]; omega
    · have hkl : k = nx.length := by omega
      subst hkl
      have h0 : Lb.Hi nx A F 0 := ⟨hFl, fun i hi => by rw [← hin i (by rw [← hFl]; exact Lb.inB_lt hi)]; exact hi, fun i hi => by rw [hin i hi.out.1]; exact hi.out.2.1, by have := Lb.cntT_le F; omega⟩
      have H0 := Lib.hid (And.intro h0 (And.intro hO hB))
      clear h0 hin hO hB O1
      go_wp2_with fail
      go_loopw [7, 8, 9, 10] (fun v7 _ _ _ wr => ∃ (m : Nat) (F : List Bool), m ≤ nx.length + 1 ∧ v7 = .int .i64 m ∧ Lb.Hi nx A F m ∧
        wr.ownsRow w.heap.size 4 1 (.slice (some ⟨w.heap.size, 0, none⟩) nx.length nx.length) nx.length (F.map Value.bool) ∧ Below w.heap.size w wr) (fun v7 _ _ _ _ => nx.length + 1 - (intOf v7).toNat)
      case atStart => exact ⟨0, F, by omega, rfl, (H0.out).1, (H0.out).2.1, (H0.out).2.2⟩
      case round =>
        obtain ⟨m, F, hk, rfl, hL, hO, hB⟩ := hrel
        have hFl := hL.len
        have hmany := hL.many
        have EX := Lib.hid (rex_any a (some ⟨w.heap.size, 0, none⟩) c nx.length nx F wr ((HL.out).1.mono hB (Nat.le_refl _)) (by
          obtain ⟨a', c', e1, e2⟩ := Reads.of_own hO
          simp only [Value.slice.injEq] at e1
          rw [e1.1]; exact e2) hn hr)
        rw [hFl] at EX
        have HLo := Lib.hid (And.intro hL (And.intro hO hB))
        have hgw := (hO.lt w.heap.size rfl).2
        have hlt : m ≤ nx.length := by omega
        clear hL hO hB
        go_wp2_with fail
        refine (EX.out).mono ?_
        rintro e w3 ⟨x, X, rfl, hX, hOX, hBX⟩
        have hXl := hX.1
        rw [hXl] at hOX
        obtain ⟨xa, xc, hxe⟩ := own_len hOX
        subst hxe
        have hO3 : w3.ownsRow w.heap.size 4 1 (.slice (some ⟨w.heap.size, 0, none⟩) nx.length nx.length) nx.length (F.map Value.bool) := by
          have k4 : Keeps (fun j => wr.heap.size ≤ j) wr w3 := ⟨hBX.os, hBX.tape, hBX.output, hBX.size, fun j hj _ => hBX.block j hj⟩
          exact k4.own (HLo.out).2.1 (fun j hj e => by have := ((HLo.out).2.1.lt j hj).2; omega)
        have hB3 := (HLo.out).2.2.trans (hBX.mono (HLo.out).2.2.size)
        have HX := Lib.hid (And.intro hX (And.intro hOX (And.intro hO3 hB3)))
        clear hX hOX hO3 hB3 hBX
        have hf : ∃ f, f = Lb.dn1 nx F := ⟨_, rfl⟩
        obtain ⟨f, hf⟩ := hf
        have HFE := Lib.hid hf
        clear hf
        obtain ⟨BX, hBX⟩ : ∃ BX, wr.heap.size = BX := ⟨_, rfl⟩
        rw [hBX] at HX hgw
        go_wp2_with fail
        go_loopw [9, 10] (fun v9 v10 wr => ∃ (j : Nat) (G : List Bool), j ≤ nx.length ∧ v10 = .int .i64 j ∧ v9 = .bool (Lb.smB f F j) ∧ Lb.Mix f F j G ∧
          wr.ownsRow w.heap.size 4 1 (.slice (some ⟨w.heap.size, 0, none⟩) nx.length nx.length) nx.length (G.map Value.bool) ∧ wr.ownsRow BX 4 1 (.slice xa nx.length xc) nx.length (X.map Value.bool) ∧ Below w.heap.size w wr) (fun _ v10 _ => nx.length - (intOf v10).toNat)
        case atStart => exact ⟨0, F, by omega, rfl, rfl, Lb.Mix.zero _ _, (HX.out).2.2.1, (HX.out).2.1, (HX.out).2.2.2⟩
        case round =>
          obtain ⟨j, G, hj, rfl, rfl, hM, hG, hXr, hBr⟩ := hrel
          by_cases hjl : j < nx.length
          · have hcg := bool_cell hG j hjl
            rw [hM.at (by omega)] at hcg
            obtain ⟨gx, cx, hvx, hgx, hc7, hcm7, hgs7⟩ := own_some hXr (by omega)
            simp only [Value.slice.injEq] at hvx
            obtain ⟨rfl, _, rfl⟩ := hvx
            have hcx : wr.cell? ⟨gx, j, none⟩ = some (.bool (Lb.inB X j)) := by
              rw [hXr.cellAt j (by omega), List.getElem?_map, Lb.getD_at X j false (by omega)]; rfl
            rw [exSet_get (HX.out).1 j hjl] at hcx
            have hfz := hG.frozenAt j
            have hgF := (hG.lt w.heap.size rfl).2
            have st := bool_stored hG j (f j)
            have hkg : Keeps (fun j => j = w.heap.size) wr (wr.setCell ⟨w.heap.size, j, none⟩ (.bool (f j))) := Keeps.setCell _ _ _ rfl
            have b3 := hBr.trans (hkg.below (fun j e => by omega) hBr.size)
            have x3 := hkg.own hXr (fun j hj e => by simp [Value.ownBlock] at hj; omega)
            have HS := Lib.hid (And.intro st (And.intro x3 (And.intro b3 (hM.next (by omega)))))
            have hsm := Lb.smB_succ f F j
            have hfj : f j = Lb.dn1 nx F j := by rw [HFE.out]
            unfold Lb.dn1 at hfj
            have HSM := Lib.hid hsm
            clear st hkg b3 x3 hM hG hXr hBr hsm
            generalize Lb.exB nx F j = xb at *
            generalize Lb.inB F j = ob at *
            generalize Lb.smB f F j = sm at *
            have HJ := Lib.hid hfj
            clear hfj
            cases sm
            all_goals cases ob
            all_goals cases xb
            all_goals go_wp2_with fail
            all_goals go_roundw
            all_goals first | (simp [intOf]; omega) | skip
            all_goals exact ⟨j + 1, G.set j (f j), by omega, by go_num, by rw [HSM.out, HJ.out]; rfl, (HS.out).2.2.2, by rw [HJ.out] at HS ⊢; exact (HS.out).1, by rw [HJ.out] at HS; exact (HS.out).2.1, by rw [HJ.out] at HS; exact (HS.out).2.2.1⟩
          · have hjn : j = nx.length := by omega
            subst hjn
            have hM2 : Lb.Mix (Lb.dn1 nx F) F F.length G := by rw [← HFE.out, hFl]; exact hM
            have hGl := hM.1
            cases hsm : Lb.smB f F nx.length with
            | true =>
              have hfix : ∀ i, i < nx.length → Lb.dn1 nx F i = Lb.inB F i := by rw [← HFE.out]; exact Lb.smB_iff.1 hsm
              have hFG : G = F := by
                apply List.ext_getElem?
                intro i
                by_cases hi : i < nx.length
                · have h1 := (hM2.all i (by omega)).trans (hfix i hi)
                  rw [Lb.getD_at G i false (by omega), Lb.getD_at F i false (by omega)]
                  exact congrArg some h1
                · rw [List.getElem?_eq_none (by omega), List.getElem?_eq_none (by omega)]
              have hend := (HLo.out).1.same hfix
              rw [← hFG] at hend
              have HE := Lib.hid (And.intro hend (And.intro hG hBr))
              clear hend hfix hsm hFG hM hM2 hG hBr hXr
              go_wp2_with fail
              go_ret
              exact ⟨_, G, rfl, (HE.out).1, by rw [hGl, hFl]; exact (HE.out).2.1, (HE.out).2.2⟩
            | false =>
              have hnf : ¬ ∀ i, i < nx.length → Lb.dn1 nx F i = Lb.inB F i := fun h => by
                rw [← HFE.out] at h
                rw [Lb.smB_iff.2 h] at hsm; cases hsm
              have hstep := (HLo.out).1.step hM2 hnf
              have HM := Lib.hid (And.intro hstep (And.intro hG hBr))
              clear hstep hM hM2 hG hBr hXr hnf hsm
              go_wp2_with fail
              go_roundw
              case rel => exact ⟨m + 1, G, by omega, by go_num, (HM.out).1, (HM.out).2.1, (HM.out).2.2⟩
              case measure => simp [intOf]; omega
end Go.Proofs.Ytlmecpghlgndnaa
