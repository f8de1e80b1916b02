/-
  warderref04.Kids, Depth, Deep; the law of what is a formula: by walks.
-/
import Derived.Test.YtpbgicfoopicbaaTreeSame
namespace Go.Proofs.Ytpbgicfoopicbaa
open Go.RowKit
set_option linter.unusedVariables false
set_option linter.unusedSimpArgs false

def Tr.kidsP : Tr.Pt → List Tr.Pt
  | .leaf _ => []
  | .one k _ => [k]
  | .two a b _ => [a, b]
theorem kidsOf_parts {l : List It} (hf : fm l = true) {j : Nat} (hj : j < l.length) : kidsOf l j = (Tr.kidsP (partAt l j)).map (fun p => (p.end_ : Int)) := by
  cases hp : partAt l j with
  | leaf a => rw [kids_leaf hf hj hp]; rfl
  | one k a => rw [kids_one hf hj hp]; rfl
  | two a b i => rw [kids_two hf hj hp]; rfl
theorem Tr.Span.uniq {l : List Int} {s e : Nat} {p : Tr.Pt} (h : Tr.Span l s e p) : ∀ {s' : Nat} {q : Tr.Pt}, Tr.Span l s' e q → q = p := by
  induction h with
  | leaf i h1 h2 =>
    intro s' q hq
    cases hq with
    | leaf => rfl
    | one => omega
    | two => omega
  | one s e k h1 h2 h3 ih =>
    intro s' q hq
    cases hq with
    | leaf => omega
    | one s2 e2 k2 g1 g2 g3 => rw [ih g3]
    | two => omega
  | two s m e a b h1 h2 h3 h4 ih1 ih2 =>
    intro s' q hq
    cases hq with
    | leaf => omega
    | one => omega
    | two s2 m2 e2 a2 b2 g1 g2 g3 g4 =>
      have hb := ih2 g4
      subst hb
      have hm : m2 = m := by have := g4.begin; have := h4.begin; omega
      subst hm
      rw [ih1 g3]
theorem part_eq {l : List It} (hf : fm l = true) {s e : Nat} {p : Tr.Pt} (h : Tr.Span (opsOf l) s e p) : partAt l e = p := by
  have he : e < l.length := by have := h.le.2.1; rw [opsOf_len] at this; exact this
  obtain ⟨s', h'⟩ := part_span hf he
  exact h.uniq h'
set_option maxHeartbeats 1000000 in
theorem rkids_any (a : Option Addr) (c : Nat) (l : List It) (e : Nat) (w : World) (hl : RdI w a l) (hf : fm l = true) (he : e < l.length) :
    Calls Try.prog 24 #[.slice a l.length c, .int .i64 e] w (IntsAns (kidsOf l e) w) := by
  have hu : ∀ b : Bool, ¬ (some undef = some (Value.bool b)) := fun b h => by cases h
  obtain ⟨h1, h2, _⟩ := fm_yes hf
  obtain ⟨s, hsp⟩ := part_span hf he
  have BG := Lib.hid (rbegin_any a c l e w hl h2 (by omega))
  have AR := Lib.hid (rarity_any l[e].op w)
  unfold ArAns at AR
  obtain ⟨b, off, ha, hrg⟩ := hl.at (by omega)
  subst ha
  have hop := RdI.op (hrg e he)
  have hK : kidsOf l e = if Tr.ar l[e].op = 0 then [] else if Tr.ar l[e].op = 1 then [(e : Int) - 1] else [Tr.bw (opsOf l) e 1 - 1, (e : Int) - 1] := by
    unfold kidsOf
    rw [if_pos ⟨hf, by omega, by omega⟩, Int.toNat_natCast, opsOf_at he]
  have h01 : Tr.ar l[e].op = 0 ∨ Tr.ar l[e].op = 1 ∨ (Tr.ar l[e].op = 2 ∧ 0 ≤ Tr.bw (opsOf l) e 1 ∧ Tr.bw (opsOf l) e 1 ≤ 64) := by
    rw [← opsOf_at he]
    generalize partAt l e = pp at hsp
    cases hsp with
    | leaf i g1 g2 => exact Or.inl g2
    | one s2 e2 k2 g1 g2 g3 => exact Or.inr (Or.inl g2)
    | two s2 m2 e2 a2 b2 g1 g2 g3 g4 =>
      refine Or.inr (Or.inr ⟨g2, ?_⟩)
      rw [g4.begin]
      have := g4.le
      rw [opsOf_len] at this
      omega
  rw [hK]
  clear hK hsp hrg hl hf
  generalize l[e].op = op at *
  generalize Tr.bw (opsOf l) e 1 = R at *
  obtain ⟨n, hn⟩ : ∃ n, Tr.ar op = n := ⟨_, rfl⟩
  rw [hn] at AR h01 ⊢
  clear hn
  rcases h01 with rfl | rfl | ⟨rfl, hR0, hR1⟩
  · rw [if_pos rfl]
    go_enter Try.func24, Try.ntmps24
    go_wp2_with (go_at_call 19; refine AR.out.mono ?_; rintro e w2 ⟨rfl, rfl⟩)
    go_ret
    exact ints_nil (Below.refl _ _)
  · rw [if_neg (by decide), if_pos rfl]
    go_enter Try.func24, Try.ntmps24
    go_wp2_with (go_at_call 19; refine AR.out.mono ?_; rintro e w2 ⟨rfl, rfl⟩)
    go_ret
    exact ⟨_, rfl, own_new w w.heap.size [.int .i64 ((e : Int) - 1)] 3 (Nat.le_refl _) (by simp [maxLen]), below_new w _⟩
  · rw [if_neg (by decide), if_neg (by decide)]
    go_enter Try.func24, Try.ntmps24
    go_wp2_with (first | (go_at_call 19; refine AR.out.mono ?_; rintro e w2 ⟨rfl, rfl⟩) | (go_at_call 25; refine BG.out.mono ?_; rintro e w2 ⟨rfl, rfl⟩))
    go_ret
    exact ⟨_, rfl, own_new w w.heap.size [.int .i64 (R - 1), .int .i64 ((e : Int) - 1)] 3 (Nat.le_refl _) (by simp [maxLen]), below_new w _⟩
def mxTo (Ps : List Tr.Pt) (i : Nat) : Nat := ((Ps.take i).map Tr.Pt.deep).foldl max 0
theorem mxTo_succ {Ps : List Tr.Pt} {i : Nat} (hi : i < Ps.length) : mxTo Ps (i + 1) = max (mxTo Ps i) Ps[i].deep := by
  unfold mxTo
  rw [List.take_succ_eq_append_getElem hi, List.map_append, List.foldl_append]
  rfl
theorem deep_mx (p : Tr.Pt) : p.deep = mxTo (Tr.kidsP p) (Tr.kidsP p).length + 1 := by
  cases p with
  | leaf => rfl
  | one k a => simp [Tr.kidsP, mxTo, Tr.Pt.deep]; omega
  | two a b i => simp [Tr.kidsP, mxTo, Tr.Pt.deep]; omega
set_option maxHeartbeats 2000000 in
/-- One step down. -/
theorem rdepth_step (a : Option Addr) (c : Nat) (l : List It) (hf : fm l = true) (s e : Nat) (p : Tr.Pt) (hsp : Tr.Span (opsOf l) s e p) (w : World) (hl : RdI w a l)
    (IH : ∀ q ∈ Tr.kidsP p, ∀ w', Below w.heap.size w w' → Calls Try.prog 45 #[.slice a l.length c, .int .i64 (q.end_ : Int)] w' fun en w2 => en = .returned (.int .i64 q.deep) ∧ Below w'.heap.size w' w2)
    (hd : ∀ q ∈ Tr.kidsP p, q.deep ≤ 1000) :
    Calls Try.prog 45 #[.slice a l.length c, .int .i64 e] w fun en w' => en = .returned (.int .i64 p.deep) ∧ Below w.heap.size w w' := by
  have hu : ∀ b : Bool, ¬ (some undef = some (Value.bool b)) := fun b h => by cases h
  have he : e < l.length := by have := hsp.le.2.1; rw [opsOf_len] at this; exact this
  have KC := rkids_any a c l e w hl hf he
  rw [kidsOf_parts hf he, part_eq hf hsp] at KC
  have HK := Lib.hid KC
  have HI := Lib.hid (And.intro IH hd)
  have HD := Lib.hid (deep_mx p)
  obtain ⟨Ps, hP⟩ : ∃ Ps, Tr.kidsP p = Ps := ⟨_, rfl⟩
  have hPl : Ps.length ≤ 2 := by rw [← hP]; cases p <;> simp [Tr.kidsP]
  rw [hP] at HK HI HD
  rw [HD.out]
  clear hl hsp KC IH hd hf hP
  go_enter Try.func45, Try.ntmps45
  go_wp2_with fail
  refine HK.out.mono ?_
  rintro e w2 ⟨x, rfl, own2, hb2⟩
  rw [List.length_map] at own2
  obtain ⟨xa, xc, hv⟩ := own_len own2
  subst hv
  have HO := Lib.hid (And.intro own2 hb2)
  clear own2 hb2
  go_wp2_with fail
  go_loopw [5, 7] (fun v5 v7 wr => ∃ i : Nat, i ≤ Ps.length ∧ v7 = .int .i64 i ∧ v5 = .int .i64 (mxTo Ps i) ∧ mxTo Ps i ≤ 1000 ∧ Below w.heap.size w wr ∧ Below w2.heap.size w2 wr) (fun _ v7 _ => Ps.length - (intOf v7).toNat)
  case atStart => exact ⟨0, by omega, rfl, rfl, by simp [mxTo], (HO.out).2, Below.refl _ _⟩
  case round =>
    obtain ⟨i, hi, rfl, rfl, hmx, hb, hb2⟩ := hrel
    by_cases hlt : i < Ps.length
    · have own3 := own_below (HO.out).1 hb2
      obtain ⟨g, cap, hv, _⟩ := own_some own3 (by omega)
      simp only [Value.slice.injEq] at hv
      obtain ⟨rfl, _, rfl⟩ := hv
      have hc := own_cell1 own3 i (.int .i64 (Ps[i].end_ : Int)) (by rw [List.getElem?_map, List.getElem?_map, List.getElem?_eq_getElem hlt]; rfl)
      have DC := Lib.hid ((HI.out).1 Ps[i] (List.getElem_mem hlt) wr hb)
      have hdi := (HI.out).2 Ps[i] (List.getElem_mem hlt)
      have HM := Lib.hid (mxTo_succ hlt)
      have HB := Lib.hid (And.intro hb hb2)
      clear own3 hb hb2
      generalize Ps[i] = q at *
      generalize (q.end_ : Int) = z at *
      generalize q.deep = d at *
      generalize mxTo Ps i = m at *
      go_wp2_with (go_at_call 45; refine DC.out.mono ?_; rintro e w3 ⟨rfl, hb3⟩)
      all_goals go_roundw
      all_goals first
        | (case rel => exact ⟨i + 1, by omega, by go_num, by rw [HM.out]; congr 1; omega, by rw [HM.out]; omega, (HB.out).1.trans (hb3.mono (HB.out).1.size), (HB.out).2.trans (hb3.mono (HB.out).2.size)⟩)
        | (case measure => simp [intOf] <;> omega)
    · have hie : i = Ps.length := by omega
      subst hie
      go_wp2_with fail
      go_ret
      exact ⟨ret_int (by omega), hb⟩
theorem rdepth_any (a : Option Addr) (c : Nat) (l : List It) (hf : fm l = true) : ∀ (p : Tr.Pt) (s e : Nat) (w : World), Tr.Span (opsOf l) s e p → RdI w a l →
    Calls Try.prog 45 #[.slice a l.length c, .int .i64 e] w fun en w' => en = .returned (.int .i64 p.deep) ∧ Below w.heap.size w w'
  | .leaf i, s, e, w, hsp, hl => rdepth_step a c l hf s e _ hsp w hl (fun q hq => by simp [Tr.kidsP] at hq) (fun q hq => by simp [Tr.kidsP] at hq)
  | .one k i, s, e, w, hsp, hl => by
    have h2 := (fm_yes hf).2.1
    obtain ⟨s', h', _⟩ : ∃ s', Tr.Span (opsOf l) s' k.end_ k ∧ True := by
      generalize hp : Tr.Pt.one k i = p at hsp
      cases hsp with
      | leaf => cases hp
      | one s2 e2 k2 g1 g2 g3 => injection hp with hp1 hp2; subst hp1; exact ⟨s, by rw [g3.le.2.2.1]; exact g3, trivial⟩
      | two => cases hp
    refine rdepth_step a c l hf s e _ hsp w hl (fun q hq w' hb => ?_) (fun q hq => ?_)
    · have hq : q = k := by simpa [Tr.kidsP] using hq
      rw [hq]
      exact rdepth_any a c l hf k s' k.end_ w' h' (hl.mono hb (Nat.le_refl _))
    · have hq : q = k := by simpa [Tr.kidsP] using hq
      subst hq
      have := h'.deep_le; have := h'.le; rw [opsOf_len] at this; omega
  | .two k1 k2 i, s, e, w, hsp, hl => by
    have h2 := (fm_yes hf).2.1
    obtain ⟨s', s2', h', h2'⟩ : ∃ s' s2', Tr.Span (opsOf l) s' k1.end_ k1 ∧ Tr.Span (opsOf l) s2' k2.end_ k2 := by
      generalize hp : Tr.Pt.two k1 k2 i = p at hsp
      cases hsp with
      | leaf => cases hp
      | one => cases hp
      | two s2 m2 e2 a2 b2 g1 g2 g3 g4 => injection hp with hp1 hp2 hp3; subst hp1 hp2; exact ⟨s, m2 + 1, by rw [g3.le.2.2.1]; exact g3, by rw [g4.le.2.2.1]; exact g4⟩
    refine rdepth_step a c l hf s e _ hsp w hl (fun q hq w' hb => ?_) (fun q hq => ?_)
    · have hq : q = k1 ∨ q = k2 := by simpa [Tr.kidsP] using hq
      rcases hq with hq | hq
      · rw [hq]; exact rdepth_any a c l hf k1 s' k1.end_ w' h' (hl.mono hb (Nat.le_refl _))
      · rw [hq]; exact rdepth_any a c l hf k2 s2' k2.end_ w' h2' (hl.mono hb (Nat.le_refl _))
    · have hq : q = k1 ∨ q = k2 := by simpa [Tr.kidsP] using hq
      rcases hq with rfl | rfl
      · have := h'.deep_le; have := h'.le; rw [opsOf_len] at this; omega
      · have := h2'.deep_le; have := h2'.le; rw [opsOf_len] at this; omega
theorem rdeep_any (a : Option Addr) (c : Nat) (l : List It) (w : World) (hl : RdI w a l) (hm : l.length ≤ maxLen) :
    Calls Try.prog 16 #[.slice a l.length c] w fun e w' => e = .returned (.int .i64 (deepOf l)) ∧ Below w.heap.size w w' := by
  have CC := Lib.hid (rcheck_any a c l w hl hm)
  cases hf : fm l with
  | true =>
    obtain ⟨h1, h2, _⟩ := fm_yes hf
    obtain ⟨s, hsp⟩ := part_span hf (show l.length - 1 < l.length by omega)
    have DC := rdepth_any a c l hf _ s (l.length - 1) w hsp hl
    rw [show ((l.length - 1 : Nat) : Int) = (l.length : Int) - 1 by omega] at DC
    have HD := Lib.hid DC
    have hD : deepOf l = ((partAt l (l.length - 1)).deep : Int) := by unfold deepOf; rw [if_pos hf]
    rw [chk_ok hf] at CC
    rw [hD]
    clear hl hm hf hsp DC hD
    generalize ((partAt l (l.length - 1)).deep : Int) = z at *
    go_enter Try.func16, Try.ntmps16
    go_wp2_with (first | (go_at_call 14; refine CC.out.mono ?_; rintro e w2 ⟨rfl, rfl⟩) | (go_at_call 45; refine HD.out.mono ?_; rintro e w2 ⟨rfl, hb⟩))
    go_ret
    exact ⟨rfl, hb⟩
  | false =>
    have hD : deepOf l = 0 := by unfold deepOf; rw [if_neg (by rw [hf]; decide)]
    have hz : (chk l != 0) = true := by rw [bne_iff_ne]; rcases chk_no hf with h | h | h <;> omega
    rw [hD]
    clear hl hm hf hD
    generalize chk l = z at *
    go_enter Try.func16, Try.ntmps16
    go_wp2_with (go_at_call 14; refine CC.out.mono ?_; rintro e w2 ⟨rfl, rfl⟩)
    go_ret
    exact ⟨rfl, Below.refl _ _⟩
end Go.Proofs.Ytpbgicfoopicbaa
