/-
  ref.side, ref.text: by walks.
-/
import Derived.Test.YtbplkphjjfgkmaaDoorShForm
import Derived.Test.YtbplkphjjfgkmaaDoorShRef
namespace Go.Proofs.YtbplkphjjfgkmaaDoor
open Go.RowKit
set_option linter.unusedVariables false
set_option linter.unusedSimpArgs false

def TextOk (b off c : Nat) (l : List It) (p : Tr.Pt) : Prop := ∀ w, RdI w (some ⟨b, off, none⟩) l → Calls Tryd.prog 83 #[.slice (some ⟨b, off, none⟩) l.length c, .int .i64 p.end_] w fun e w' => e = .returned (.string (Sh.txB l p)) ∧ Below w.heap.size w w'
theorem txB_small {l : List It} (hf : fm l = true) (hx : ∀ x ∈ l, Sh.few x) {s e : Nat} {p : Tr.Pt} (hsp : Tr.Span (opsOf l) s e p) : (Sh.txB l p).size ≤ 12800 := by
  have h1 := Sh.cnt_span hsp
  have h2 := hsp.le
  have h3 := Sh.txt_len hx p
  have h4 := (fm_yes hf).2.1
  rw [opsOf_len] at h2
  unfold Sh.txB
  rw [ba_size]
  omega
theorem rside_any (b off c : Nat) (l : List It) (p : Tr.Pt) (hT : TextOk b off c l p) (hlt : p.end_ < l.length) (hz : (Sh.txB l p).size ≤ 12800) (least : Int) (w : World) (hl : RdI w (some ⟨b, off, none⟩) l) :
    Calls Tryd.prog 145 #[.slice (some ⟨b, off, none⟩) l.length c, .int .i64 p.end_, .int .i64 least] w fun e w' => e = .returned (.string (innB (Sh.tgP l p) (Sh.txB l p) least)) ∧ Below w.heap.size w w' := by
  have hu : ∀ b : Bool, ¬ (some undef = some (Value.bool b)) := fun b h => by cases h
  have HT := Lib.hid (hT w hl)
  have hc0 : w.cell? ⟨b, off + p.end_ * 9, none⟩ = some (.int .i64 l[p.end_].op) := by
    obtain ⟨b', off', ha, hrg⟩ := hl.at (Nat.lt_of_le_of_lt (Nat.zero_le _) hlt)
    cases ha
    exact RdI.op (hrg p.end_ hlt)
  have htg : Sh.tgP l p = Sh.tg l[p.end_].op := by
    unfold Sh.tgP Sh.opAt
    rw [opsOf_at hlt]
  rw [htg]
  clear htg hT hl
  have hi1 : ((p.end_ : Nat) : Int) < (l.length : Int) := by omega
  have hi0 : (0 : Int) ≤ (p.end_ : Int) := by omega
  generalize Sh.txB l p = T at *
  generalize l[p.end_].op = op at *
  generalize p.end_ = i at *
  have HTI := Lib.hid (fun W => rtight_any op W)
  have y1 : ¬ 9223372036854775807 < 1 + T.size := by omega
  have y2 : ¬ 9223372036854775807 < 1 + T.size + 1 := by omega
  unfold innB
  generalize Sh.tg op = t at *
  go_enter Tryd.func145, Tryd.ntmps145
  go_wp2_with fail
  refine HT.out.mono ?_
  rintro e w2 ⟨rfl, hb2⟩
  have c0 := sh_mono hc0 hb2 (Nat.le_refl _)
  have H2 := Lib.hid hb2
  clear hb2 hc0 HT
  by_cases hc : t < least
  · have HR : Hid ((if t < least then ⟨#[40]⟩ ++ T ++ ⟨#[41]⟩ else T : ByteArray) = ⟨#[40]⟩ ++ T ++ ⟨#[41]⟩) := Lib.hid (if_pos hc)
    go_wp2_with fail
    refine (HTI.out _).mono ?_
    rintro e w3 ⟨rfl, rfl⟩
    go_wp2_with fail
    go_ret
    exact ⟨rfl, H2.out⟩
  · have HR : Hid ((if t < least then ⟨#[40]⟩ ++ T ++ ⟨#[41]⟩ else T : ByteArray) = T) := Lib.hid (if_neg hc)
    go_wp2_with fail
    refine (HTI.out _).mono ?_
    rintro e w3 ⟨rfl, rfl⟩
    go_wp2_with fail
    go_ret
    exact ⟨rfl, H2.out⟩
set_option maxRecDepth 100000 in
theorem rtext_one (b off c : Nat) (l : List It) (i : Nat) (k : Tr.Pt) (hf : fm l = true) (hi : i < l.length) (har : Tr.ar l[i].op = 1) (hpt : partAt l i = .one k i) (hT : TextOk b off c l k) (hk : k.end_ < l.length) (hz : (Sh.txB l k).size ≤ 12800) : TextOk b off c l (.one k i) := by
  have hu : ∀ b : Bool, ¬ (some undef = some (Value.bool b)) := fun b h => by cases h
  intro w hl
  have hrw0 : w.rangeAt b (off + i * 9) l[i].cells := by
    obtain ⟨b', off', ha, hrg⟩ := hl.at (Nat.lt_of_le_of_lt (Nat.zero_le _) hi)
    cases ha
    exact hrg i hi
  have hb1 := sh_bn w (.cells l[i].cells.toArray 54)
  have HK0 := rkids_any (some ⟨b, off, none⟩) c l i _ (hl.mono hb1 (Nat.le_refl _)) hf hi
  rw [kidsOf_parts hf hi, hpt] at HK0
  simp only [Tr.kidsP, List.map_cons, List.map_nil] at HK0
  have HSG := Lib.hid (fun W => rsign_any l[i].op W)
  have hi1 : ((i : Nat) : Int) < (l.length : Int) := by omega
  have hi0 : (0 : Int) ≤ (i : Int) := by omega
  have HSD : Hid (∀ W, Below w.heap.size w W → Calls Tryd.prog 145 #[.slice (some ⟨b, off, none⟩) l.length c, .int .i64 k.end_, .int .i64 4] W fun e w' => e = .returned (.string (innB (Sh.tgP l k) (Sh.txB l k) 4)) ∧ Below W.heap.size W w') := Lib.hid fun W h => rside_any b off c l k hT hk hz 4 W (hl.mono h (Nat.le_refl _))
  have HR : Hid ((⟨(Sh.sgn l[i].op).toArray⟩ ++ ⟨#[32]⟩ ++ innB (Sh.tgP l k) (Sh.txB l k) 4 : ByteArray) = Sh.txB l (.one k i)) := Lib.hid (by
    unfold Sh.txB
    apply ba_eq
    have HOP : Sh.opAt l i = l[i].op := opsOf_at hi
    simp [Sh.txt, HOP, innB_list, Sh.tgP, Sh.txB])
  have za := innB_size (Sh.tgP l k) (Sh.txB l k) 4
  have zs : (⟨(Sh.sgn l[i].op).toArray⟩ : ByteArray).size ≤ 8 := by rw [ba_size]; exact Sh.sgn_len _
  clear hT hf hpt hl
  change Calls Tryd.prog 83 #[.slice (some ⟨b, off, none⟩) l.length c, .int .i64 i] w _
  generalize innB (Sh.tgP l k) (Sh.txB l k) 4 = A at *
  generalize Sh.txB l (.one k i) = RT at *
  generalize k.end_ = ek at *
  generalize l[i] = x at *
  have hrw : w.rangeAt b (off + i * 9) [.int .i64 x.op, .string x.ln, .int .i64 x.lv, .string x.rn, .int .i64 x.rv, .string x.nm, .string x.us, .int .i64 x.line, .int .i64 x.col] := hrw0
  obtain ⟨W1, hW1⟩ : ∃ W1 : World, W1 = w.alloc (.cells #[.int .i64 x.op, .string x.ln, .int .i64 x.lv, .string x.rn, .int .i64 x.rv, .string x.nm, .string x.us, .int .i64 x.line, .int .i64 x.col] 54) := ⟨_, rfl⟩
  replace HK0 : Calls Tryd.prog 144 _ (w.alloc (.cells #[.int .i64 x.op, .string x.ln, .int .i64 x.lv, .string x.rn, .int .i64 x.rv, .string x.nm, .string x.us, .int .i64 x.line, .int .i64 x.col] 54)) (IntsAns _ (w.alloc (.cells #[.int .i64 x.op, .string x.ln, .int .i64 x.lv, .string x.rn, .int .i64 x.rv, .string x.nm, .string x.us, .int .i64 x.line, .int .i64 x.col] 54))) := HK0
  replace hb1 : Below w.heap.size w (w.alloc (.cells #[.int .i64 x.op, .string x.ln, .int .i64 x.lv, .string x.rn, .int .i64 x.rv, .string x.nm, .string x.us, .int .i64 x.line, .int .i64 x.col] 54)) := hb1
  rw [← hW1] at HK0 hb1
  have d0 : W1.cell? ⟨w.heap.size, 0, none⟩ = some (.int .i64 x.op) := by rw [hW1, World.cell?_alloc_at _ _ _ _ rfl]; rfl
  have d1 : W1.cell? ⟨w.heap.size, 1, none⟩ = some (.string x.ln) := by rw [hW1, World.cell?_alloc_at _ _ _ _ rfl]; rfl
  have d2 : W1.cell? ⟨w.heap.size, 2, none⟩ = some (.int .i64 x.lv) := by rw [hW1, World.cell?_alloc_at _ _ _ _ rfl]; rfl
  have d3 : W1.cell? ⟨w.heap.size, 3, none⟩ = some (.string x.rn) := by rw [hW1, World.cell?_alloc_at _ _ _ _ rfl]; rfl
  have d4 : W1.cell? ⟨w.heap.size, 4, none⟩ = some (.int .i64 x.rv) := by rw [hW1, World.cell?_alloc_at _ _ _ _ rfl]; rfl
  have d5 : W1.cell? ⟨w.heap.size, 5, none⟩ = some (.string x.nm) := by rw [hW1, World.cell?_alloc_at _ _ _ _ rfl]; rfl
  have d6 : W1.cell? ⟨w.heap.size, 6, none⟩ = some (.string x.us) := by rw [hW1, World.cell?_alloc_at _ _ _ _ rfl]; rfl
  have HK := Lib.hid HK0
  have H1 := Lib.hid hb1
  have HW := Lib.hid hW1
  clear hrw0 HK0 hb1 hW1
  unfold IntsAns at HK
  generalize (⟨(Sh.sgn x.op).toArray⟩ : ByteArray) = SG at *
  have y1 : ¬ 9223372036854775807 < SG.size + 1 := by omega
  have y2 : ¬ 9223372036854775807 < SG.size + 1 + A.size := by omega
  clear har
  go_enter Tryd.func83, Tryd.ntmps83
  go_wp2_with (first | (refine wpList_load_mid rfl 54 (.tmp 10) rfl b (off + i * 9) rfl _ _ hrw Tryd.underlying54 rfl sizeItem ?_))
  rw [← HW.out]
  clear HW hrw
  refine HK.out.mono ?_
  rintro e w2 ⟨v, rfl, own, hb2⟩
  obtain ⟨g, vc, hv, -⟩ := own_some own (by simp)
  subst hv
  have kc0 := own_cell1 own 0 _ rfl
  simp only [List.length_cons, List.length_nil, List.map_cons, List.map_nil] at own kc0 ⊢
  have p0 := sh_mono d0 hb2 (Nat.le_refl _)
  have p1 := sh_mono d1 hb2 (Nat.le_refl _)
  have p2 := sh_mono d2 hb2 (Nat.le_refl _)
  have p3 := sh_mono d3 hb2 (Nat.le_refl _)
  have p4 := sh_mono d4 hb2 (Nat.le_refl _)
  have p5 := sh_mono d5 hb2 (Nat.le_refl _)
  have p6 := sh_mono d6 hb2 (Nat.le_refl _)
  have H2 := Lib.hid (H1.out.trans (hb2.mono H1.out.size))
  clear d0 d1 d2 d3 d4 d5 d6 hb2 HK own
  go_wp2_with fail
  refine (HSG.out _).mono ?_
  rintro e w3 ⟨rfl, hb3⟩
  have q0 := sh_mono p0 hb3 (Nat.le_refl _)
  have q1 := sh_mono p1 hb3 (Nat.le_refl _)
  have q2 := sh_mono p2 hb3 (Nat.le_refl _)
  have q3 := sh_mono p3 hb3 (Nat.le_refl _)
  have q4 := sh_mono p4 hb3 (Nat.le_refl _)
  have q5 := sh_mono p5 hb3 (Nat.le_refl _)
  have q6 := sh_mono p6 hb3 (Nat.le_refl _)
  have k0 := sh_mono kc0 hb3 (Nat.le_refl _)
  have H3 := Lib.hid (H2.out.trans (hb3.mono H2.out.size))
  clear p0 p1 p2 p3 p4 p5 p6 kc0 hb3 H2 HSG
  go_wp2_with fail
  refine (HSD.out _ H3.out).mono ?_
  rintro e w4 ⟨rfl, hb4⟩
  have H4 := Lib.hid (H3.out.trans (hb4.mono H3.out.size))
  clear hb4
  go_wp2_with fail
  go_ret
  exact ⟨by rw [← HR.out]; rfl, H4.out⟩
set_option maxRecDepth 100000 in
theorem rtext_leaf (b off c : Nat) (l : List It) (i : Nat) (hf : fm l = true) (hi : i < l.length) (har : Tr.ar l[i].op = 0) (hpt : partAt l i = .leaf i) (hx : Sh.few l[i]) : TextOk b off c l (.leaf i) := by
  have hu : ∀ b : Bool, ¬ (some undef = some (Value.bool b)) := fun b h => by cases h
  intro w hl
  have hrw0 : w.rangeAt b (off + i * 9) l[i].cells := by
    obtain ⟨b', off', ha, hrg⟩ := hl.at (Nat.lt_of_le_of_lt (Nat.zero_le _) hi)
    cases ha
    exact hrg i hi
  have hb1 := sh_bn w (.cells l[i].cells.toArray 54)
  have HK0 := rkids_any (some ⟨b, off, none⟩) c l i _ (hl.mono hb1 (Nat.le_refl _)) hf hi
  rw [kidsOf_parts hf hi, hpt] at HK0
  simp only [Tr.kidsP, List.map_cons, List.map_nil] at HK0
  have HSG := Lib.hid (fun W => rsign_any l[i].op W)
  have hi1 : ((i : Nat) : Int) < (l.length : Int) := by omega
  have hi0 : (0 : Int) ≤ (i : Int) := by omega
  have HTX : Sh.txB l (.leaf i) = ⟨(Sh.atomL l[i]).toArray⟩ := by simp [Sh.txB, Sh.txt, List.getElem?_eq_getElem hi]
  have hbd : 1 ≤ l[i].op ∧ l[i].op ≤ 14 := by
    generalize l[i].op = op at *
    by_cases h : 1 ≤ op ∧ op ≤ 14
    · exact h
    · unfold Tr.ar at har
      rw [if_neg h] at har
      repeat' split at har
      all_goals omega
  clear hf hpt hl har
  change Calls Tryd.prog 83 #[.slice (some ⟨b, off, none⟩) l.length c, .int .i64 i] w _
  rw [HTX]
  clear HTX
  generalize l[i] = x at *
  have hrw : w.rangeAt b (off + i * 9) [.int .i64 x.op, .string x.ln, .int .i64 x.lv, .string x.rn, .int .i64 x.rv, .string x.nm, .string x.us, .int .i64 x.line, .int .i64 x.col] := hrw0
  obtain ⟨W1, hW1⟩ : ∃ W1 : World, W1 = w.alloc (.cells #[.int .i64 x.op, .string x.ln, .int .i64 x.lv, .string x.rn, .int .i64 x.rv, .string x.nm, .string x.us, .int .i64 x.line, .int .i64 x.col] 54) := ⟨_, rfl⟩
  replace HK0 : Calls Tryd.prog 144 _ (w.alloc (.cells #[.int .i64 x.op, .string x.ln, .int .i64 x.lv, .string x.rn, .int .i64 x.rv, .string x.nm, .string x.us, .int .i64 x.line, .int .i64 x.col] 54)) (IntsAns _ (w.alloc (.cells #[.int .i64 x.op, .string x.ln, .int .i64 x.lv, .string x.rn, .int .i64 x.rv, .string x.nm, .string x.us, .int .i64 x.line, .int .i64 x.col] 54))) := HK0
  replace hb1 : Below w.heap.size w (w.alloc (.cells #[.int .i64 x.op, .string x.ln, .int .i64 x.lv, .string x.rn, .int .i64 x.rv, .string x.nm, .string x.us, .int .i64 x.line, .int .i64 x.col] 54)) := hb1
  rw [← hW1] at HK0 hb1
  have d0 : W1.cell? ⟨w.heap.size, 0, none⟩ = some (.int .i64 x.op) := by rw [hW1, World.cell?_alloc_at _ _ _ _ rfl]; rfl
  have d1 : W1.cell? ⟨w.heap.size, 1, none⟩ = some (.string x.ln) := by rw [hW1, World.cell?_alloc_at _ _ _ _ rfl]; rfl
  have d2 : W1.cell? ⟨w.heap.size, 2, none⟩ = some (.int .i64 x.lv) := by rw [hW1, World.cell?_alloc_at _ _ _ _ rfl]; rfl
  have d3 : W1.cell? ⟨w.heap.size, 3, none⟩ = some (.string x.rn) := by rw [hW1, World.cell?_alloc_at _ _ _ _ rfl]; rfl
  have d4 : W1.cell? ⟨w.heap.size, 4, none⟩ = some (.int .i64 x.rv) := by rw [hW1, World.cell?_alloc_at _ _ _ _ rfl]; rfl
  have d5 : W1.cell? ⟨w.heap.size, 5, none⟩ = some (.string x.nm) := by rw [hW1, World.cell?_alloc_at _ _ _ _ rfl]; rfl
  have d6 : W1.cell? ⟨w.heap.size, 6, none⟩ = some (.string x.us) := by rw [hW1, World.cell?_alloc_at _ _ _ _ rfl]; rfl
  have HK := Lib.hid HK0
  have H1 := Lib.hid hb1
  have HW := Lib.hid hW1
  clear hrw0 HK0 hb1 hW1
  unfold IntsAns at HK
  have HWL := Lib.hid (fun W => rword_any x.ln x.lv W hx.lv)
  have HWR := Lib.hid (fun W => rword_any x.rn x.rv W hx.rv)
  have zs : (⟨(Sh.sgn x.op).toArray⟩ : ByteArray).size ≤ 8 := by rw [ba_size]; exact Sh.sgn_len _
  have zl : (⟨(Sh.wordL x.ln x.lv).toArray⟩ : ByteArray).size ≤ 60 := by rw [ba_size]; exact Sh.wordL_len hx.ln hx.lv
  have zr : (⟨(Sh.wordL x.rn x.rv).toArray⟩ : ByteArray).size ≤ 60 := by rw [ba_size]; exact Sh.wordL_len hx.rn hx.rv
  have z4 := hx.nm
  have z5 := hx.us
  have hsa := ba_app
  have hs1 : (⟨#[32]⟩ : ByteArray).size = 1 := rfl
  have HA1 : Hid (9 ≤ x.op ∧ x.op ≤ 11 → (⟨(Sh.sgn x.op).toArray⟩ ++ ⟨#[32]⟩ ++ x.nm : ByteArray) = ⟨(Sh.atomL x).toArray⟩) := Lib.hid fun h => by
    apply ba_eq; rw [(atom_op h).1]; simp
  have HA2 : Hid (x.op = 12 → (⟨(Sh.sgn x.op).toArray⟩ ++ ⟨#[32]⟩ ++ x.us ++ ⟨#[32]⟩ ++ x.nm : ByteArray) = ⟨(Sh.atomL x).toArray⟩) := Lib.hid fun h => by
    apply ba_eq; rw [(atom_did h).1]; simp
  have HA3 : Hid (3 ≤ x.op ∧ x.op ≤ 8 → (⟨(Sh.wordL x.ln x.lv).toArray⟩ ++ ⟨#[32]⟩ ++ ⟨(Sh.sgn x.op).toArray⟩ ++ ⟨#[32]⟩ ++ ⟨(Sh.wordL x.rn x.rv).toArray⟩ : ByteArray) = ⟨(Sh.atomL x).toArray⟩) := Lib.hid fun h => by
    apply ba_eq; rw [(atom_cmp h).1]; simp
  have HA4 : Hid (¬ (3 ≤ x.op ∧ x.op ≤ 12) → (⟨(Sh.sgn x.op).toArray⟩ : ByteArray) = ⟨(Sh.atomL x).toArray⟩) := Lib.hid fun h => by rw [(atom_no h).1]
  clear hx
  generalize (⟨(Sh.atomL x).toArray⟩ : ByteArray) = RT at *
  generalize (⟨(Sh.sgn x.op).toArray⟩ : ByteArray) = SG at *
  generalize (⟨(Sh.wordL x.ln x.lv).toArray⟩ : ByteArray) = WL at *
  generalize (⟨(Sh.wordL x.rn x.rv).toArray⟩ : ByteArray) = WR at *
  have y0 : ¬ 9223372036854775807 < SG.size + 1 := by omega
  have y1 : ¬ 9223372036854775807 < SG.size + 1 + x.nm.size := by omega
  have y2 : ¬ 9223372036854775807 < SG.size + 1 + x.us.size := by omega
  have y3 : ¬ 9223372036854775807 < SG.size + 1 + x.us.size + 1 := by omega
  have y4 : ¬ 9223372036854775807 < SG.size + 1 + x.us.size + 1 + x.nm.size := by omega
  have y5 : ¬ 9223372036854775807 < WL.size + 1 := by omega
  have y6 : ¬ 9223372036854775807 < WL.size + 1 + SG.size := by omega
  have y7 : ¬ 9223372036854775807 < WL.size + 1 + SG.size + 1 := by omega
  have y8 : ¬ 9223372036854775807 < WL.size + 1 + SG.size + 1 + WR.size := by omega
  have n25 : ¬ (25 : Int) ≤ x.op := by omega
  have n18 : ¬ x.op = 18 := by omega
  go_enter Tryd.func83, Tryd.ntmps83
  go_wp2_with (first | (refine wpList_load_mid rfl 54 (.tmp 10) rfl b (off + i * 9) rfl _ _ hrw Tryd.underlying54 rfl sizeItem ?_))
  rw [← HW.out]
  clear HW hrw
  refine HK.out.mono ?_
  rintro e w2 ⟨v, rfl, own, hb2⟩
  obtain ⟨va, vc, hv⟩ := own_len own
  subst hv
  simp only [List.length_cons, List.length_nil, List.map_cons, List.map_nil] at own ⊢
  have p0 := sh_mono d0 hb2 (Nat.le_refl _)
  have p1 := sh_mono d1 hb2 (Nat.le_refl _)
  have p2 := sh_mono d2 hb2 (Nat.le_refl _)
  have p3 := sh_mono d3 hb2 (Nat.le_refl _)
  have p4 := sh_mono d4 hb2 (Nat.le_refl _)
  have p5 := sh_mono d5 hb2 (Nat.le_refl _)
  have p6 := sh_mono d6 hb2 (Nat.le_refl _)
  have H2 := Lib.hid (H1.out.trans (hb2.mono H1.out.size))
  clear d0 d1 d2 d3 d4 d5 d6 hb2 HK own
  go_wp2_with fail
  refine (HSG.out _).mono ?_
  rintro e w3 ⟨rfl, hb3⟩
  have q0 := sh_mono p0 hb3 (Nat.le_refl _)
  have q1 := sh_mono p1 hb3 (Nat.le_refl _)
  have q2 := sh_mono p2 hb3 (Nat.le_refl _)
  have q3 := sh_mono p3 hb3 (Nat.le_refl _)
  have q4 := sh_mono p4 hb3 (Nat.le_refl _)
  have q5 := sh_mono p5 hb3 (Nat.le_refl _)
  have q6 := sh_mono p6 hb3 (Nat.le_refl _)
  have H3 := Lib.hid (H2.out.trans (hb3.mono H2.out.size))
  clear p0 p1 p2 p3 p4 p5 p6 hb3 H2 HSG
  by_cases hA : 3 ≤ x.op ∧ x.op ≤ 8
  · have HR := Lib.hid (HA3.out hA)
    have hA1 : (3 : Int) ≤ x.op := hA.1
    have hA2 : x.op ≤ 8 := hA.2
    clear HA1 HA2 HA3 HA4 hA
    go_wp2_with fail
    have HDR : Below w3.heap.size w3 w3.drew := (Below.refl _ _).drew
    have HRF : Below w3.heap.size w3 w3 := Below.refl _ _
    go_region_held3 (fun w' => w'.cell? ⟨w.heap.size, 1, none⟩ = some (.string x.ln) ∧ w'.cell? ⟨w.heap.size, 2, none⟩ = some (.int .i64 x.lv) ∧ w'.cell? ⟨w.heap.size, 3, none⟩ = some (.string x.rn) ∧ w'.cell? ⟨w.heap.size, 4, none⟩ = some (.int .i64 x.rv) ∧ Below w3.heap.size w3 w')
      (first
        | exact ⟨q1, q2, q3, q4, HDR⟩
        | exact ⟨q1, q2, q3, q4, HRF⟩
        | (go_split_ands
           refine ⟨?_, ?_, ?_, ?_, ?_⟩
           · exact sh_mono (by assumption) hb (Nat.le_refl _)
           · exact sh_mono (by assumption) hb (Nat.le_refl _)
           · exact sh_mono (by assumption) hb (Nat.le_refl _)
           · exact sh_mono (by assumption) hb (Nat.le_refl _)
           · exact Below.trans (by assumption) (hb.mono (Below.size (by assumption))))
        | go_keep)
      (first | (go_at_call 147; first | ((with_reducible refine (HWL.out _).mono ?_); rintro e' w2 ⟨rfl, hb⟩) | ((with_reducible refine (HWR.out _).mono ?_); rintro e' w2 ⟨rfl, hb⟩)))
    rename_i hh
    obtain ⟨-, -, -, -, hbl⟩ := hh
    have HF := Lib.hid (H3.out.trans (hbl.mono H3.out.size))
    clear hbl
    go_wp2_with fail
    go_ret
    exact ⟨by rw [← HR.out]; rfl, HF.out⟩
  · by_cases hC : x.op = 12
    · have HR := Lib.hid (HA2.out hC)
      rw [hC] at q0
      clear HA1 HA2 HA3 HA4 hA HWL HWR
      go_wp2_with fail
      go_ret
      exact ⟨by rw [← HR.out]; rfl, H3.out⟩
    · by_cases hB : 9 ≤ x.op ∧ x.op ≤ 11
      · have HR := Lib.hid (HA1.out hB)
        have hB1 : (3 : Int) ≤ x.op := by omega
        have hB2 : ¬ x.op ≤ 8 := by omega
        have hB3 : (9 : Int) ≤ x.op := hB.1
        have hB4 : x.op ≤ 11 := hB.2
        clear HA1 HA2 HA3 HA4 hA hB HWL HWR
        go_wp2_with fail
        go_ret
        exact ⟨by rw [← HR.out]; rfl, H3.out⟩
      · have HR := Lib.hid (HA4.out (by omega))
        clear HA1 HA2 HA3 HA4 HWL HWR
        by_cases h3 : 3 ≤ x.op
        · have h8 : ¬ x.op ≤ 8 := by omega
          have h9 : (9 : Int) ≤ x.op := by omega
          have h12 : ¬ x.op ≤ 11 := by omega
          clear hA hB
          go_wp2_with fail
          go_ret
          exact ⟨by rw [← HR.out]; rfl, H3.out⟩
        · have h9 : ¬ (9 : Int) ≤ x.op := by omega
          clear hA hB
          go_wp2_with fail
          go_ret
          exact ⟨by rw [← HR.out]; rfl, H3.out⟩
set_option maxRecDepth 100000 in
set_option maxHeartbeats 16000000 in
theorem rtext_two (b off c : Nat) (l : List It) (i : Nat) (ka kb : Tr.Pt) (hf : fm l = true) (hi : i < l.length) (har : Tr.ar l[i].op = 2) (hpt : partAt l i = .two ka kb i) (hTa : TextOk b off c l ka) (hka : ka.end_ < l.length) (hza : (Sh.txB l ka).size ≤ 12800)
    (hTb : TextOk b off c l kb) (hkb : kb.end_ < l.length) (hzb : (Sh.txB l kb).size ≤ 12800) : TextOk b off c l (.two ka kb i) := by
  have hu : ∀ b : Bool, ¬ (some undef = some (Value.bool b)) := fun b h => by cases h
  intro w hl
  have hrw0 : w.rangeAt b (off + i * 9) l[i].cells := by
    obtain ⟨b', off', ha, hrg⟩ := hl.at (Nat.lt_of_le_of_lt (Nat.zero_le _) hi)
    cases ha
    exact hrg i hi
  have hb1 := sh_bn w (.cells l[i].cells.toArray 54)
  have HK0 := rkids_any (some ⟨b, off, none⟩) c l i _ (hl.mono hb1 (Nat.le_refl _)) hf hi
  rw [kidsOf_parts hf hi, hpt] at HK0
  simp only [Tr.kidsP, List.map_cons, List.map_nil] at HK0
  have HSG := Lib.hid (fun W => rsign_any l[i].op W)
  have hi1 : ((i : Nat) : Int) < (l.length : Int) := by omega
  have hi0 : (0 : Int) ≤ (i : Int) := by omega
  have HSA : Hid (∀ least W, Below w.heap.size w W → Calls Tryd.prog 145 #[.slice (some ⟨b, off, none⟩) l.length c, .int .i64 ka.end_, .int .i64 least] W fun e w' => e = .returned (.string (innB (Sh.tgP l ka) (Sh.txB l ka) least)) ∧ Below W.heap.size W w') := Lib.hid fun least W h => rside_any b off c l ka hTa hka hza least W (hl.mono h (Nat.le_refl _))
  have HSB : Hid (∀ least W, Below w.heap.size w W → Calls Tryd.prog 145 #[.slice (some ⟨b, off, none⟩) l.length c, .int .i64 kb.end_, .int .i64 least] W fun e w' => e = .returned (.string (innB (Sh.tgP l kb) (Sh.txB l kb) least)) ∧ Below W.heap.size W w') := Lib.hid fun least W h => rside_any b off c l kb hTb hkb hzb least W (hl.mono h (Nat.le_refl _))
  have HTA : Hid (∀ W, Below w.heap.size w W → Calls Tryd.prog 83 #[.slice (some ⟨b, off, none⟩) l.length c, .int .i64 ka.end_] W fun e w' => e = .returned (.string (Sh.txB l ka)) ∧ Below W.heap.size W w') := Lib.hid fun W h => hTa W (hl.mono h (Nat.le_refl _))
  have HTB : Hid (∀ W, Below w.heap.size w W → Calls Tryd.prog 83 #[.slice (some ⟨b, off, none⟩) l.length c, .int .i64 kb.end_] W fun e w' => e = .returned (.string (Sh.txB l kb)) ∧ Below W.heap.size W w') := Lib.hid fun W h => hTb W (hl.mono h (Nat.le_refl _))
  have hops : l[i].op = 16 ∨ l[i].op = 17 ∨ l[i].op = 18 ∨ l[i].op = 25 ∨ l[i].op = 26 := by
    generalize l[i].op = op at *
    unfold Tr.ar at har
    by_cases h : op = 16 ∨ op = 17 ∨ op = 18 ∨ op = 25 ∨ op = 26
    · exact h
    · exfalso
      repeat' split at har
      all_goals omega
  have HOP : Sh.opAt l i = l[i].op := opsOf_at hi
  have HRT : Sh.txB l (.two ka kb i) = ⟨(Sh.two l[i].op (Sh.tgP l ka) (Sh.tgP l kb) (Sh.txB l ka).data.toList (Sh.txB l kb).data.toList).toArray⟩ := by
    unfold Sh.txB
    simp [Sh.txt, HOP, Sh.tgP]
  have hta : 1 ≤ Sh.tgP l ka := (Sh.tg_bd _).1
  have htb : 1 ≤ Sh.tgP l kb := (Sh.tg_bd _).1
  clear hTa hTb hf hpt hl har HOP
  change Calls Tryd.prog 83 #[.slice (some ⟨b, off, none⟩) l.length c, .int .i64 i] w _
  rw [HRT]
  clear HRT
  generalize Sh.txB l ka = A at *
  generalize Sh.txB l kb = B at *
  generalize Sh.tgP l ka = ta at *
  generalize Sh.tgP l kb = tb at *
  generalize ka.end_ = ea at *
  generalize kb.end_ = eb at *
  generalize l[i] = x at *
  obtain ⟨op, ln, lv, rn, rv, nm, us, li, co⟩ := x
  dsimp only at *
  have za := fun least => innB_size ta A least
  have zb := fun least => innB_size tb B least
  rcases hops with rfl | rfl | rfl | rfl | rfl
  · have HR : Hid ((innB ta A 3 ++ ⟨#[32]⟩ ++ ⟨(Sh.sgn 16).toArray⟩ ++ ⟨#[32]⟩ ++ innB tb B 4 : ByteArray) = ⟨(Sh.two 16 ta tb A.data.toList B.data.toList).toArray⟩) := Lib.hid (by
      apply ba_eq
      simp [Sh.two, Sh.la, Sh.lb, Sh.tg, innB_list])
    have za1 := za 3
    have zb1 := zb 4
    have hw1 : IntKind.i64.wrap ((3 : Int) + 1) = 4 := by decide
    have hw2 : IntKind.i64.wrap (4 : Int) = 4 := by decide
    have zs : (⟨(Sh.sgn 16).toArray⟩ : ByteArray).size ≤ 8 := by rw [ba_size]; exact Sh.sgn_len _
    clear za zb
    have hrw : w.rangeAt b (off + i * 9) [.int .i64 16, .string ln, .int .i64 lv, .string rn, .int .i64 rv, .string nm, .string us, .int .i64 li, .int .i64 co] := hrw0
    obtain ⟨W1, hW1⟩ : ∃ W1 : World, W1 = w.alloc (.cells #[.int .i64 16, .string ln, .int .i64 lv, .string rn, .int .i64 rv, .string nm, .string us, .int .i64 li, .int .i64 co] 54) := ⟨_, rfl⟩
    replace HK0 : Calls Tryd.prog 144 _ (w.alloc (.cells #[.int .i64 16, .string ln, .int .i64 lv, .string rn, .int .i64 rv, .string nm, .string us, .int .i64 li, .int .i64 co] 54)) (IntsAns _ (w.alloc (.cells #[.int .i64 16, .string ln, .int .i64 lv, .string rn, .int .i64 rv, .string nm, .string us, .int .i64 li, .int .i64 co] 54))) := HK0
    replace hb1 : Below w.heap.size w (w.alloc (.cells #[.int .i64 16, .string ln, .int .i64 lv, .string rn, .int .i64 rv, .string nm, .string us, .int .i64 li, .int .i64 co] 54)) := hb1
    rw [← hW1] at HK0 hb1
    have d0 : W1.cell? ⟨w.heap.size, 0, none⟩ = some (.int .i64 16) := by rw [hW1, World.cell?_alloc_at _ _ _ _ rfl]; rfl
    have d1 : W1.cell? ⟨w.heap.size, 1, none⟩ = some (.string ln) := by rw [hW1, World.cell?_alloc_at _ _ _ _ rfl]; rfl
    have d2 : W1.cell? ⟨w.heap.size, 2, none⟩ = some (.int .i64 lv) := by rw [hW1, World.cell?_alloc_at _ _ _ _ rfl]; rfl
    have d3 : W1.cell? ⟨w.heap.size, 3, none⟩ = some (.string rn) := by rw [hW1, World.cell?_alloc_at _ _ _ _ rfl]; rfl
    have d4 : W1.cell? ⟨w.heap.size, 4, none⟩ = some (.int .i64 rv) := by rw [hW1, World.cell?_alloc_at _ _ _ _ rfl]; rfl
    have d5 : W1.cell? ⟨w.heap.size, 5, none⟩ = some (.string nm) := by rw [hW1, World.cell?_alloc_at _ _ _ _ rfl]; rfl
    have d6 : W1.cell? ⟨w.heap.size, 6, none⟩ = some (.string us) := by rw [hW1, World.cell?_alloc_at _ _ _ _ rfl]; rfl
    have HK := Lib.hid HK0
    have H1 := Lib.hid hb1
    have HW := Lib.hid hW1
    clear hrw0 HK0 hb1 hW1
    unfold IntsAns at HK
    generalize (⟨(Sh.two 16 ta tb A.data.toList B.data.toList).toArray⟩ : ByteArray) = RT at *
    generalize (⟨(Sh.sgn 16).toArray⟩ : ByteArray) = SG at *
    have y0 : ¬ 9223372036854775807 < (innB ta A 3).size + 1 := by omega
    have y1 : ¬ 9223372036854775807 < (innB ta A 3).size + 1 + SG.size := by omega
    have y2 : ¬ 9223372036854775807 < (innB ta A 3).size + 1 + SG.size + 1 := by omega
    have y3 : ¬ 9223372036854775807 < (innB ta A 3).size + 1 + SG.size + 1 + (innB tb B 4).size := by omega
    go_enter Tryd.func83, Tryd.ntmps83
    go_wp2_with (first | (refine wpList_load_mid rfl 54 (.tmp 10) rfl b (off + i * 9) rfl _ _ hrw Tryd.underlying54 rfl sizeItem ?_))
    rw [← HW.out]
    clear HW hrw
    refine HK.out.mono ?_
    rintro e w2 ⟨v, rfl, own, hb2⟩
    obtain ⟨g, vc, hv, -⟩ := own_some own (by simp)
    subst hv
    have kc0 := own_cell1 own 0 _ rfl
    have kc1 := own_cell1 own 1 _ rfl
    simp only [List.length_cons, List.length_nil, List.map_cons, List.map_nil] at own kc0 kc1 ⊢
    have p0 := sh_mono d0 hb2 (Nat.le_refl _)
    have p1 := sh_mono d1 hb2 (Nat.le_refl _)
    have p2 := sh_mono d2 hb2 (Nat.le_refl _)
    have p3 := sh_mono d3 hb2 (Nat.le_refl _)
    have p4 := sh_mono d4 hb2 (Nat.le_refl _)
    have p5 := sh_mono d5 hb2 (Nat.le_refl _)
    have p6 := sh_mono d6 hb2 (Nat.le_refl _)
    have H2 := Lib.hid (H1.out.trans (hb2.mono H1.out.size))
    clear d0 d1 d2 d3 d4 d5 d6 hb2 HK own
    go_wp2_with fail
    refine (HSG.out _).mono ?_
    rintro e w3 ⟨rfl, hb3⟩
    have q0 := sh_mono p0 hb3 (Nat.le_refl _)
    have q1 := sh_mono p1 hb3 (Nat.le_refl _)
    have q2 := sh_mono p2 hb3 (Nat.le_refl _)
    have q3 := sh_mono p3 hb3 (Nat.le_refl _)
    have q4 := sh_mono p4 hb3 (Nat.le_refl _)
    have q5 := sh_mono p5 hb3 (Nat.le_refl _)
    have q6 := sh_mono p6 hb3 (Nat.le_refl _)
    have k0 := sh_mono kc0 hb3 (Nat.le_refl _)
    have k1 := sh_mono kc1 hb3 (Nat.le_refl _)
    have H3 := Lib.hid (H2.out.trans (hb3.mono H2.out.size))
    clear p0 p1 p2 p3 p4 p5 p6 kc0 kc1 hb3 H2 HSG
    have HSA2 : Hid (∀ W, Below w3.heap.size w3 W → Calls Tryd.prog 145 #[.slice (some ⟨b, off, none⟩) l.length c, .int .i64 ea, .int .i64 3] W fun e w' => e = .returned (.string (innB ta A 3)) ∧ Below W.heap.size W w') := Lib.hid fun W h => HSA.out 3 W (H3.out.trans (h.mono H3.out.size))
    have HSB2 : Hid (∀ W, Below w3.heap.size w3 W → Calls Tryd.prog 145 #[.slice (some ⟨b, off, none⟩) l.length c, .int .i64 eb, .int .i64 4] W fun e w' => e = .returned (.string (innB tb B 4)) ∧ Below W.heap.size W w') := Lib.hid fun W h => HSB.out 4 W (H3.out.trans (h.mono H3.out.size))
    have HTI : Hid (∀ W, Calls Tryd.prog 146 #[.int .i64 16] W fun e w' => e = .returned (.int .i64 3) ∧ W = w') := Lib.hid fun W => rtight_any 16 W
    clear HSA HSB HTA HTB
    go_wp2_with fail
    have HDR : Below w3.heap.size w3 w3.drew := (Below.refl _ _).drew
    have HRF : Below w3.heap.size w3 w3 := Below.refl _ _
    go_region_held3 (fun w' => w'.cell? ⟨g, 0, none⟩ = some (.int .i64 ea) ∧ w'.cell? ⟨g, 1, none⟩ = some (.int .i64 eb) ∧ w'.cell? ⟨w.heap.size, 0, none⟩ = some (.int .i64 16) ∧ Below w3.heap.size w3 w')
      (first
        | exact ⟨k0, k1, q0, HDR⟩
        | exact ⟨k0, k1, q0, HRF⟩
        | (go_split_ands
           refine ⟨?_, ?_, ?_, ?_⟩
           · exact sh_mono (by assumption) hb (Nat.le_refl _)
           · exact sh_mono (by assumption) hb (Nat.le_refl _)
           · exact sh_mono (by assumption) hb (Nat.le_refl _)
           · exact Below.trans (by assumption) (hb.mono (Below.size (by assumption))))
        | go_keep)
      (first | (go_at_call 145; first | ((with_reducible refine (HSA2.out _ (by first | assumption | (go_split_ands; assumption))).mono ?_); rintro e' w2 ⟨rfl, hb⟩) | ((with_reducible refine (HSB2.out _ (by first | assumption | (go_split_ands; assumption))).mono ?_); rintro e' w2 ⟨rfl, hb⟩)) | (go_at_call 146; ((with_reducible refine (HTI.out _).mono ?_); rintro e' w2 ⟨rfl, rfl⟩)))
    clear hw1 hw2
    rename_i hh
    obtain ⟨-, -, -, hbl⟩ := hh
    have HF := Lib.hid (H3.out.trans (hbl.mono H3.out.size))
    clear hbl
    go_wp2_with fail
    go_ret
    exact ⟨by rw [← HR.out]; rfl, HF.out⟩
  · have HR : Hid ((innB ta A 2 ++ ⟨#[32]⟩ ++ ⟨(Sh.sgn 17).toArray⟩ ++ ⟨#[32]⟩ ++ innB tb B 3 : ByteArray) = ⟨(Sh.two 17 ta tb A.data.toList B.data.toList).toArray⟩) := Lib.hid (by
      apply ba_eq
      simp [Sh.two, Sh.la, Sh.lb, Sh.tg, innB_list])
    have za1 := za 2
    have zb1 := zb 3
    have hw1 : IntKind.i64.wrap ((2 : Int) + 1) = 3 := by decide
    have hw2 : IntKind.i64.wrap (3 : Int) = 3 := by decide
    have zs : (⟨(Sh.sgn 17).toArray⟩ : ByteArray).size ≤ 8 := by rw [ba_size]; exact Sh.sgn_len _
    clear za zb
    have hrw : w.rangeAt b (off + i * 9) [.int .i64 17, .string ln, .int .i64 lv, .string rn, .int .i64 rv, .string nm, .string us, .int .i64 li, .int .i64 co] := hrw0
    obtain ⟨W1, hW1⟩ : ∃ W1 : World, W1 = w.alloc (.cells #[.int .i64 17, .string ln, .int .i64 lv, .string rn, .int .i64 rv, .string nm, .string us, .int .i64 li, .int .i64 co] 54) := ⟨_, rfl⟩
    replace HK0 : Calls Tryd.prog 144 _ (w.alloc (.cells #[.int .i64 17, .string ln, .int .i64 lv, .string rn, .int .i64 rv, .string nm, .string us, .int .i64 li, .int .i64 co] 54)) (IntsAns _ (w.alloc (.cells #[.int .i64 17, .string ln, .int .i64 lv, .string rn, .int .i64 rv, .string nm, .string us, .int .i64 li, .int .i64 co] 54))) := HK0
    replace hb1 : Below w.heap.size w (w.alloc (.cells #[.int .i64 17, .string ln, .int .i64 lv, .string rn, .int .i64 rv, .string nm, .string us, .int .i64 li, .int .i64 co] 54)) := hb1
    rw [← hW1] at HK0 hb1
    have d0 : W1.cell? ⟨w.heap.size, 0, none⟩ = some (.int .i64 17) := by rw [hW1, World.cell?_alloc_at _ _ _ _ rfl]; rfl
    have d1 : W1.cell? ⟨w.heap.size, 1, none⟩ = some (.string ln) := by rw [hW1, World.cell?_alloc_at _ _ _ _ rfl]; rfl
    have d2 : W1.cell? ⟨w.heap.size, 2, none⟩ = some (.int .i64 lv) := by rw [hW1, World.cell?_alloc_at _ _ _ _ rfl]; rfl
    have d3 : W1.cell? ⟨w.heap.size, 3, none⟩ = some (.string rn) := by rw [hW1, World.cell?_alloc_at _ _ _ _ rfl]; rfl
    have d4 : W1.cell? ⟨w.heap.size, 4, none⟩ = some (.int .i64 rv) := by rw [hW1, World.cell?_alloc_at _ _ _ _ rfl]; rfl
    have d5 : W1.cell? ⟨w.heap.size, 5, none⟩ = some (.string nm) := by rw [hW1, World.cell?_alloc_at _ _ _ _ rfl]; rfl
    have d6 : W1.cell? ⟨w.heap.size, 6, none⟩ = some (.string us) := by rw [hW1, World.cell?_alloc_at _ _ _ _ rfl]; rfl
    have HK := Lib.hid HK0
    have H1 := Lib.hid hb1
    have HW := Lib.hid hW1
    clear hrw0 HK0 hb1 hW1
    unfold IntsAns at HK
    generalize (⟨(Sh.two 17 ta tb A.data.toList B.data.toList).toArray⟩ : ByteArray) = RT at *
    generalize (⟨(Sh.sgn 17).toArray⟩ : ByteArray) = SG at *
    have y0 : ¬ 9223372036854775807 < (innB ta A 2).size + 1 := by omega
    have y1 : ¬ 9223372036854775807 < (innB ta A 2).size + 1 + SG.size := by omega
    have y2 : ¬ 9223372036854775807 < (innB ta A 2).size + 1 + SG.size + 1 := by omega
    have y3 : ¬ 9223372036854775807 < (innB ta A 2).size + 1 + SG.size + 1 + (innB tb B 3).size := by omega
    go_enter Tryd.func83, Tryd.ntmps83
    go_wp2_with (first | (refine wpList_load_mid rfl 54 (.tmp 10) rfl b (off + i * 9) rfl _ _ hrw Tryd.underlying54 rfl sizeItem ?_))
    rw [← HW.out]
    clear HW hrw
    refine HK.out.mono ?_
    rintro e w2 ⟨v, rfl, own, hb2⟩
    obtain ⟨g, vc, hv, -⟩ := own_some own (by simp)
    subst hv
    have kc0 := own_cell1 own 0 _ rfl
    have kc1 := own_cell1 own 1 _ rfl
    simp only [List.length_cons, List.length_nil, List.map_cons, List.map_nil] at own kc0 kc1 ⊢
    have p0 := sh_mono d0 hb2 (Nat.le_refl _)
    have p1 := sh_mono d1 hb2 (Nat.le_refl _)
    have p2 := sh_mono d2 hb2 (Nat.le_refl _)
    have p3 := sh_mono d3 hb2 (Nat.le_refl _)
    have p4 := sh_mono d4 hb2 (Nat.le_refl _)
    have p5 := sh_mono d5 hb2 (Nat.le_refl _)
    have p6 := sh_mono d6 hb2 (Nat.le_refl _)
    have H2 := Lib.hid (H1.out.trans (hb2.mono H1.out.size))
    clear d0 d1 d2 d3 d4 d5 d6 hb2 HK own
    go_wp2_with fail
    refine (HSG.out _).mono ?_
    rintro e w3 ⟨rfl, hb3⟩
    have q0 := sh_mono p0 hb3 (Nat.le_refl _)
    have q1 := sh_mono p1 hb3 (Nat.le_refl _)
    have q2 := sh_mono p2 hb3 (Nat.le_refl _)
    have q3 := sh_mono p3 hb3 (Nat.le_refl _)
    have q4 := sh_mono p4 hb3 (Nat.le_refl _)
    have q5 := sh_mono p5 hb3 (Nat.le_refl _)
    have q6 := sh_mono p6 hb3 (Nat.le_refl _)
    have k0 := sh_mono kc0 hb3 (Nat.le_refl _)
    have k1 := sh_mono kc1 hb3 (Nat.le_refl _)
    have H3 := Lib.hid (H2.out.trans (hb3.mono H2.out.size))
    clear p0 p1 p2 p3 p4 p5 p6 kc0 kc1 hb3 H2 HSG
    have HSA2 : Hid (∀ W, Below w3.heap.size w3 W → Calls Tryd.prog 145 #[.slice (some ⟨b, off, none⟩) l.length c, .int .i64 ea, .int .i64 2] W fun e w' => e = .returned (.string (innB ta A 2)) ∧ Below W.heap.size W w') := Lib.hid fun W h => HSA.out 2 W (H3.out.trans (h.mono H3.out.size))
    have HSB2 : Hid (∀ W, Below w3.heap.size w3 W → Calls Tryd.prog 145 #[.slice (some ⟨b, off, none⟩) l.length c, .int .i64 eb, .int .i64 3] W fun e w' => e = .returned (.string (innB tb B 3)) ∧ Below W.heap.size W w') := Lib.hid fun W h => HSB.out 3 W (H3.out.trans (h.mono H3.out.size))
    have HTI : Hid (∀ W, Calls Tryd.prog 146 #[.int .i64 17] W fun e w' => e = .returned (.int .i64 2) ∧ W = w') := Lib.hid fun W => rtight_any 17 W
    clear HSA HSB HTA HTB
    go_wp2_with fail
    have HDR : Below w3.heap.size w3 w3.drew := (Below.refl _ _).drew
    have HRF : Below w3.heap.size w3 w3 := Below.refl _ _
    go_region_held3 (fun w' => w'.cell? ⟨g, 0, none⟩ = some (.int .i64 ea) ∧ w'.cell? ⟨g, 1, none⟩ = some (.int .i64 eb) ∧ w'.cell? ⟨w.heap.size, 0, none⟩ = some (.int .i64 17) ∧ Below w3.heap.size w3 w')
      (first
        | exact ⟨k0, k1, q0, HDR⟩
        | exact ⟨k0, k1, q0, HRF⟩
        | (go_split_ands
           refine ⟨?_, ?_, ?_, ?_⟩
           · exact sh_mono (by assumption) hb (Nat.le_refl _)
           · exact sh_mono (by assumption) hb (Nat.le_refl _)
           · exact sh_mono (by assumption) hb (Nat.le_refl _)
           · exact Below.trans (by assumption) (hb.mono (Below.size (by assumption))))
        | go_keep)
      (first | (go_at_call 145; first | ((with_reducible refine (HSA2.out _ (by first | assumption | (go_split_ands; assumption))).mono ?_); rintro e' w2 ⟨rfl, hb⟩) | ((with_reducible refine (HSB2.out _ (by first | assumption | (go_split_ands; assumption))).mono ?_); rintro e' w2 ⟨rfl, hb⟩)) | (go_at_call 146; ((with_reducible refine (HTI.out _).mono ?_); rintro e' w2 ⟨rfl, rfl⟩)))
    clear hw1 hw2
    rename_i hh
    obtain ⟨-, -, -, hbl⟩ := hh
    have HF := Lib.hid (H3.out.trans (hbl.mono H3.out.size))
    clear hbl
    go_wp2_with fail
    go_ret
    exact ⟨by rw [← HR.out]; rfl, HF.out⟩
  · have HR : Hid ((innB ta A 2 ++ ⟨#[32, 105, 109, 112, 108, 105, 101, 115, 32]⟩ ++ B : ByteArray) = ⟨(Sh.two 18 ta tb A.data.toList B.data.toList).toArray⟩) := Lib.hid (by
      apply ba_eq
      simp [Sh.two, Sh.la, Sh.lb, Sh.tg, innB_list, Sh.sgn, Sh.signs]
      try simp [Sh.inn, show ¬ tb < 1 by omega])
    have za1 := za 2
    have zs : (⟨(Sh.sgn 18).toArray⟩ : ByteArray).size ≤ 8 := by rw [ba_size]; exact Sh.sgn_len _
    clear za zb
    have hrw : w.rangeAt b (off + i * 9) [.int .i64 18, .string ln, .int .i64 lv, .string rn, .int .i64 rv, .string nm, .string us, .int .i64 li, .int .i64 co] := hrw0
    obtain ⟨W1, hW1⟩ : ∃ W1 : World, W1 = w.alloc (.cells #[.int .i64 18, .string ln, .int .i64 lv, .string rn, .int .i64 rv, .string nm, .string us, .int .i64 li, .int .i64 co] 54) := ⟨_, rfl⟩
    replace HK0 : Calls Tryd.prog 144 _ (w.alloc (.cells #[.int .i64 18, .string ln, .int .i64 lv, .string rn, .int .i64 rv, .string nm, .string us, .int .i64 li, .int .i64 co] 54)) (IntsAns _ (w.alloc (.cells #[.int .i64 18, .string ln, .int .i64 lv, .string rn, .int .i64 rv, .string nm, .string us, .int .i64 li, .int .i64 co] 54))) := HK0
    replace hb1 : Below w.heap.size w (w.alloc (.cells #[.int .i64 18, .string ln, .int .i64 lv, .string rn, .int .i64 rv, .string nm, .string us, .int .i64 li, .int .i64 co] 54)) := hb1
    rw [← hW1] at HK0 hb1
    have d0 : W1.cell? ⟨w.heap.size, 0, none⟩ = some (.int .i64 18) := by rw [hW1, World.cell?_alloc_at _ _ _ _ rfl]; rfl
    have d1 : W1.cell? ⟨w.heap.size, 1, none⟩ = some (.string ln) := by rw [hW1, World.cell?_alloc_at _ _ _ _ rfl]; rfl
    have d2 : W1.cell? ⟨w.heap.size, 2, none⟩ = some (.int .i64 lv) := by rw [hW1, World.cell?_alloc_at _ _ _ _ rfl]; rfl
    have d3 : W1.cell? ⟨w.heap.size, 3, none⟩ = some (.string rn) := by rw [hW1, World.cell?_alloc_at _ _ _ _ rfl]; rfl
    have d4 : W1.cell? ⟨w.heap.size, 4, none⟩ = some (.int .i64 rv) := by rw [hW1, World.cell?_alloc_at _ _ _ _ rfl]; rfl
    have d5 : W1.cell? ⟨w.heap.size, 5, none⟩ = some (.string nm) := by rw [hW1, World.cell?_alloc_at _ _ _ _ rfl]; rfl
    have d6 : W1.cell? ⟨w.heap.size, 6, none⟩ = some (.string us) := by rw [hW1, World.cell?_alloc_at _ _ _ _ rfl]; rfl
    have HK := Lib.hid HK0
    have H1 := Lib.hid hb1
    have HW := Lib.hid hW1
    clear hrw0 HK0 hb1 hW1
    unfold IntsAns at HK
    generalize (⟨(Sh.two 18 ta tb A.data.toList B.data.toList).toArray⟩ : ByteArray) = RT at *
    generalize (⟨(Sh.sgn 18).toArray⟩ : ByteArray) = SG at *
    have y0 : ¬ 9223372036854775807 < (innB ta A 2).size + 9 := by omega
    have y1 : ¬ 9223372036854775807 < (innB ta A 2).size + 9 + B.size := by omega
    go_enter Tryd.func83, Tryd.ntmps83
    go_wp2_with (first | (refine wpList_load_mid rfl 54 (.tmp 10) rfl b (off + i * 9) rfl _ _ hrw Tryd.underlying54 rfl sizeItem ?_))
    rw [← HW.out]
    clear HW hrw
    refine HK.out.mono ?_
    rintro e w2 ⟨v, rfl, own, hb2⟩
    obtain ⟨g, vc, hv, -⟩ := own_some own (by simp)
    subst hv
    have kc0 := own_cell1 own 0 _ rfl
    have kc1 := own_cell1 own 1 _ rfl
    simp only [List.length_cons, List.length_nil, List.map_cons, List.map_nil] at own kc0 kc1 ⊢
    have p0 := sh_mono d0 hb2 (Nat.le_refl _)
    have p1 := sh_mono d1 hb2 (Nat.le_refl _)
    have p2 := sh_mono d2 hb2 (Nat.le_refl _)
    have p3 := sh_mono d3 hb2 (Nat.le_refl _)
    have p4 := sh_mono d4 hb2 (Nat.le_refl _)
    have p5 := sh_mono d5 hb2 (Nat.le_refl _)
    have p6 := sh_mono d6 hb2 (Nat.le_refl _)
    have H2 := Lib.hid (H1.out.trans (hb2.mono H1.out.size))
    clear d0 d1 d2 d3 d4 d5 d6 hb2 HK own
    go_wp2_with fail
    refine (HSG.out _).mono ?_
    rintro e w3 ⟨rfl, hb3⟩
    have q0 := sh_mono p0 hb3 (Nat.le_refl _)
    have q1 := sh_mono p1 hb3 (Nat.le_refl _)
    have q2 := sh_mono p2 hb3 (Nat.le_refl _)
    have q3 := sh_mono p3 hb3 (Nat.le_refl _)
    have q4 := sh_mono p4 hb3 (Nat.le_refl _)
    have q5 := sh_mono p5 hb3 (Nat.le_refl _)
    have q6 := sh_mono p6 hb3 (Nat.le_refl _)
    have k0 := sh_mono kc0 hb3 (Nat.le_refl _)
    have k1 := sh_mono kc1 hb3 (Nat.le_refl _)
    have H3 := Lib.hid (H2.out.trans (hb3.mono H2.out.size))
    clear p0 p1 p2 p3 p4 p5 p6 kc0 kc1 hb3 H2 HSG
    have HSA2 : Hid (∀ W, Below w3.heap.size w3 W → Calls Tryd.prog 145 #[.slice (some ⟨b, off, none⟩) l.length c, .int .i64 ea, .int .i64 2] W fun e w' => e = .returned (.string (innB ta A 2)) ∧ Below W.heap.size W w') := Lib.hid fun W h => HSA.out 2 W (H3.out.trans (h.mono H3.out.size))
    have HTB2 : Hid (∀ W, Below w3.heap.size w3 W → Calls Tryd.prog 83 #[.slice (some ⟨b, off, none⟩) l.length c, .int .i64 eb] W fun e w' => e = .returned (.string B) ∧ Below W.heap.size W w') := Lib.hid fun W h => HTB.out W (H3.out.trans (h.mono H3.out.size))
    clear HSA HSB HTA HTB
    go_wp2_with fail
    have HDR : Below w3.heap.size w3 w3.drew := (Below.refl _ _).drew
    have HRF : Below w3.heap.size w3 w3 := Below.refl _ _
    go_region_held3 (fun w' => w'.cell? ⟨g, 0, none⟩ = some (.int .i64 ea) ∧ w'.cell? ⟨g, 1, none⟩ = some (.int .i64 eb) ∧ w'.cell? ⟨w.heap.size, 0, none⟩ = some (.int .i64 18) ∧ Below w3.heap.size w3 w')
      (first
        | exact ⟨k0, k1, q0, HDR⟩
        | exact ⟨k0, k1, q0, HRF⟩
        | (go_split_ands
           refine ⟨?_, ?_, ?_, ?_⟩
           · exact sh_mono (by assumption) hb (Nat.le_refl _)
           · exact sh_mono (by assumption) hb (Nat.le_refl _)
           · exact sh_mono (by assumption) hb (Nat.le_refl _)
           · exact Below.trans (by assumption) (hb.mono (Below.size (by assumption))))
        | go_keep)
      (first | (go_at_call 145; first | ((with_reducible refine (HSA2.out _ (by first | assumption | (go_split_ands; assumption))).mono ?_); rintro e' w2 ⟨rfl, hb⟩)) | (go_at_call 83; first | ((with_reducible refine (HTB2.out _ (by first | assumption | (go_split_ands; assumption))).mono ?_); rintro e' w2 ⟨rfl, hb⟩)))
    rename_i hh
    obtain ⟨-, -, -, hbl⟩ := hh
    have HF := Lib.hid (H3.out.trans (hbl.mono H3.out.size))
    clear hbl
    go_wp2_with fail
    go_ret
    exact ⟨by rw [← HR.out]; rfl, HF.out⟩
  · have HR : Hid ((⟨(Sh.sgn 25).toArray⟩ ++ ⟨#[32, 91]⟩ ++ A ++ ⟨#[32, 85, 32]⟩ ++ B ++ ⟨#[93]⟩ : ByteArray) = ⟨(Sh.two 25 ta tb A.data.toList B.data.toList).toArray⟩) := Lib.hid (by
      apply ba_eq
      simp [Sh.two, Sh.la, Sh.lb, Sh.tg, innB_list])
    skip
    have zs : (⟨(Sh.sgn 25).toArray⟩ : ByteArray).size ≤ 8 := by rw [ba_size]; exact Sh.sgn_len _
    clear za zb
    have hrw : w.rangeAt b (off + i * 9) [.int .i64 25, .string ln, .int .i64 lv, .string rn, .int .i64 rv, .string nm, .string us, .int .i64 li, .int .i64 co] := hrw0
    obtain ⟨W1, hW1⟩ : ∃ W1 : World, W1 = w.alloc (.cells #[.int .i64 25, .string ln, .int .i64 lv, .string rn, .int .i64 rv, .string nm, .string us, .int .i64 li, .int .i64 co] 54) := ⟨_, rfl⟩
    replace HK0 : Calls Tryd.prog 144 _ (w.alloc (.cells #[.int .i64 25, .string ln, .int .i64 lv, .string rn, .int .i64 rv, .string nm, .string us, .int .i64 li, .int .i64 co] 54)) (IntsAns _ (w.alloc (.cells #[.int .i64 25, .string ln, .int .i64 lv, .string rn, .int .i64 rv, .string nm, .string us, .int .i64 li, .int .i64 co] 54))) := HK0
    replace hb1 : Below w.heap.size w (w.alloc (.cells #[.int .i64 25, .string ln, .int .i64 lv, .string rn, .int .i64 rv, .string nm, .string us, .int .i64 li, .int .i64 co] 54)) := hb1
    rw [← hW1] at HK0 hb1
    have d0 : W1.cell? ⟨w.heap.size, 0, none⟩ = some (.int .i64 25) := by rw [hW1, World.cell?_alloc_at _ _ _ _ rfl]; rfl
    have d1 : W1.cell? ⟨w.heap.size, 1, none⟩ = some (.string ln) := by rw [hW1, World.cell?_alloc_at _ _ _ _ rfl]; rfl
    have d2 : W1.cell? ⟨w.heap.size, 2, none⟩ = some (.int .i64 lv) := by rw [hW1, World.cell?_alloc_at _ _ _ _ rfl]; rfl
    have d3 : W1.cell? ⟨w.heap.size, 3, none⟩ = some (.string rn) := by rw [hW1, World.cell?_alloc_at _ _ _ _ rfl]; rfl
    have d4 : W1.cell? ⟨w.heap.size, 4, none⟩ = some (.int .i64 rv) := by rw [hW1, World.cell?_alloc_at _ _ _ _ rfl]; rfl
    have d5 : W1.cell? ⟨w.heap.size, 5, none⟩ = some (.string nm) := by rw [hW1, World.cell?_alloc_at _ _ _ _ rfl]; rfl
    have d6 : W1.cell? ⟨w.heap.size, 6, none⟩ = some (.string us) := by rw [hW1, World.cell?_alloc_at _ _ _ _ rfl]; rfl
    have HK := Lib.hid HK0
    have H1 := Lib.hid hb1
    have HW := Lib.hid hW1
    clear hrw0 HK0 hb1 hW1
    unfold IntsAns at HK
    generalize (⟨(Sh.two 25 ta tb A.data.toList B.data.toList).toArray⟩ : ByteArray) = RT at *
    generalize (⟨(Sh.sgn 25).toArray⟩ : ByteArray) = SG at *
    have y0 : ¬ 9223372036854775807 < SG.size + 2 := by omega
    have y1 : ¬ 9223372036854775807 < SG.size + 2 + A.size := by omega
    have y2 : ¬ 9223372036854775807 < SG.size + 2 + A.size + 3 := by omega
    have y3 : ¬ 9223372036854775807 < SG.size + 2 + A.size + 3 + B.size := by omega
    have y4 : ¬ 9223372036854775807 < SG.size + 2 + A.size + 3 + B.size + 1 := by omega
    go_enter Tryd.func83, Tryd.ntmps83
    go_wp2_with (first | (refine wpList_load_mid rfl 54 (.tmp 10) rfl b (off + i * 9) rfl _ _ hrw Tryd.underlying54 rfl sizeItem ?_))
    rw [← HW.out]
    clear HW hrw
    refine HK.out.mono ?_
    rintro e w2 ⟨v, rfl, own, hb2⟩
    obtain ⟨g, vc, hv, -⟩ := own_some own (by simp)
    subst hv
    have kc0 := own_cell1 own 0 _ rfl
    have kc1 := own_cell1 own 1 _ rfl
    simp only [List.length_cons, List.length_nil, List.map_cons, List.map_nil] at own kc0 kc1 ⊢
    have p0 := sh_mono d0 hb2 (Nat.le_refl _)
    have p1 := sh_mono d1 hb2 (Nat.le_refl _)
    have p2 := sh_mono d2 hb2 (Nat.le_refl _)
    have p3 := sh_mono d3 hb2 (Nat.le_refl _)
    have p4 := sh_mono d4 hb2 (Nat.le_refl _)
    have p5 := sh_mono d5 hb2 (Nat.le_refl _)
    have p6 := sh_mono d6 hb2 (Nat.le_refl _)
    have H2 := Lib.hid (H1.out.trans (hb2.mono H1.out.size))
    clear d0 d1 d2 d3 d4 d5 d6 hb2 HK own
    go_wp2_with fail
    refine (HSG.out _).mono ?_
    rintro e w3 ⟨rfl, hb3⟩
    have q0 := sh_mono p0 hb3 (Nat.le_refl _)
    have q1 := sh_mono p1 hb3 (Nat.le_refl _)
    have q2 := sh_mono p2 hb3 (Nat.le_refl _)
    have q3 := sh_mono p3 hb3 (Nat.le_refl _)
    have q4 := sh_mono p4 hb3 (Nat.le_refl _)
    have q5 := sh_mono p5 hb3 (Nat.le_refl _)
    have q6 := sh_mono p6 hb3 (Nat.le_refl _)
    have k0 := sh_mono kc0 hb3 (Nat.le_refl _)
    have k1 := sh_mono kc1 hb3 (Nat.le_refl _)
    have H3 := Lib.hid (H2.out.trans (hb3.mono H2.out.size))
    clear p0 p1 p2 p3 p4 p5 p6 kc0 kc1 hb3 H2 HSG
    have HTA2 : Hid (∀ W, Below w3.heap.size w3 W → Calls Tryd.prog 83 #[.slice (some ⟨b, off, none⟩) l.length c, .int .i64 ea] W fun e w' => e = .returned (.string A) ∧ Below W.heap.size W w') := Lib.hid fun W h => HTA.out W (H3.out.trans (h.mono H3.out.size))
    have HTB2 : Hid (∀ W, Below w3.heap.size w3 W → Calls Tryd.prog 83 #[.slice (some ⟨b, off, none⟩) l.length c, .int .i64 eb] W fun e w' => e = .returned (.string B) ∧ Below W.heap.size W w') := Lib.hid fun W h => HTB.out W (H3.out.trans (h.mono H3.out.size))
    clear HSA HSB HTA HTB
    go_wp2_with fail
    have HDR : Below w3.heap.size w3 w3.drew := (Below.refl _ _).drew
    have HRF : Below w3.heap.size w3 w3 := Below.refl _ _
    go_region_held3 (fun w' => w'.cell? ⟨g, 0, none⟩ = some (.int .i64 ea) ∧ w'.cell? ⟨g, 1, none⟩ = some (.int .i64 eb) ∧ w'.cell? ⟨w.heap.size, 0, none⟩ = some (.int .i64 25) ∧ Below w3.heap.size w3 w')
      (first
        | exact ⟨k0, k1, q0, HDR⟩
        | exact ⟨k0, k1, q0, HRF⟩
        | (go_split_ands
           refine ⟨?_, ?_, ?_, ?_⟩
           · exact sh_mono (by assumption) hb (Nat.le_refl _)
           · exact sh_mono (by assumption) hb (Nat.le_refl _)
           · exact sh_mono (by assumption) hb (Nat.le_refl _)
           · exact Below.trans (by assumption) (hb.mono (Below.size (by assumption))))
        | go_keep)
      (first | (go_at_call 83; first | ((with_reducible refine (HTA2.out _ (by first | assumption | (go_split_ands; assumption))).mono ?_); rintro e' w2 ⟨rfl, hb⟩) | ((with_reducible refine (HTB2.out _ (by first | assumption | (go_split_ands; assumption))).mono ?_); rintro e' w2 ⟨rfl, hb⟩)))
    rename_i hh
    obtain ⟨-, -, -, hbl⟩ := hh
    have HF := Lib.hid (H3.out.trans (hbl.mono H3.out.size))
    clear hbl
    go_wp2_with fail
    go_ret
    exact ⟨by rw [← HR.out]; rfl, HF.out⟩
  · have HR : Hid ((⟨(Sh.sgn 26).toArray⟩ ++ ⟨#[32, 91]⟩ ++ A ++ ⟨#[32, 85, 32]⟩ ++ B ++ ⟨#[93]⟩ : ByteArray) = ⟨(Sh.two 26 ta tb A.data.toList B.data.toList).toArray⟩) := Lib.hid (by
      apply ba_eq
      simp [Sh.two, Sh.la, Sh.lb, Sh.tg, innB_list])
    skip
    have zs : (⟨(Sh.sgn 26).toArray⟩ : ByteArray).size ≤ 8 := by rw [ba_size]; exact Sh.sgn_len _
    clear za zb
    have hrw : w.rangeAt b (off + i * 9) [.int .i64 26, .string ln, .int .i64 lv, .string rn, .int .i64 rv, .string nm, .string us, .int .i64 li, .int .i64 co] := hrw0
    obtain ⟨W1, hW1⟩ : ∃ W1 : World, W1 = w.alloc (.cells #[.int .i64 26, .string ln, .int .i64 lv, .string rn, .int .i64 rv, .string nm, .string us, .int .i64 li, .int .i64 co] 54) := ⟨_, rfl⟩
    replace HK0 : Calls Tryd.prog 144 _ (w.alloc (.cells #[.int .i64 26, .string ln, .int .i64 lv, .string rn, .int .i64 rv, .string nm, .string us, .int .i64 li, .int .i64 co] 54)) (IntsAns _ (w.alloc (.cells #[.int .i64 26, .string ln, .int .i64 lv, .string rn, .int .i64 rv, .string nm, .string us, .int .i64 li, .int .i64 co] 54))) := HK0
    replace hb1 : Below w.heap.size w (w.alloc (.cells #[.int .i64 26, .string ln, .int .i64 lv, .string rn, .int .i64 rv, .string nm, .string us, .int .i64 li, .int .i64 co] 54)) := hb1
    rw [← hW1] at HK0 hb1
    have d0 : W1.cell? ⟨w.heap.size, 0, none⟩ = some (.int .i64 26) := by rw [hW1, World.cell?_alloc_at _ _ _ _ rfl]; rfl
    have d1 : W1.cell? ⟨w.heap.size, 1, none⟩ = some (.string ln) := by rw [hW1, World.cell?_alloc_at _ _ _ _ rfl]; rfl
    have d2 : W1.cell? ⟨w.heap.size, 2, none⟩ = some (.int .i64 lv) := by rw [hW1, World.cell?_alloc_at _ _ _ _ rfl]; rfl
    have d3 : W1.cell? ⟨w.heap.size, 3, none⟩ = some (.string rn) := by rw [hW1, World.cell?_alloc_at _ _ _ _ rfl]; rfl
    have d4 : W1.cell? ⟨w.heap.size, 4, none⟩ = some (.int .i64 rv) := by rw [hW1, World.cell?_alloc_at _ _ _ _ rfl]; rfl
    have d5 : W1.cell? ⟨w.heap.size, 5, none⟩ = some (.string nm) := by rw [hW1, World.cell?_alloc_at _ _ _ _ rfl]; rfl
    have d6 : W1.cell? ⟨w.heap.size, 6, none⟩ = some (.string us) := by rw [hW1, World.cell?_alloc_at _ _ _ _ rfl]; rfl
    have HK := Lib.hid HK0
    have H1 := Lib.hid hb1
    have HW := Lib.hid hW1
    clear hrw0 HK0 hb1 hW1
    unfold IntsAns at HK
    generalize (⟨(Sh.two 26 ta tb A.data.toList B.data.toList).toArray⟩ : ByteArray) = RT at *
    generalize (⟨(Sh.sgn 26).toArray⟩ : ByteArray) = SG at *
    have y0 : ¬ 9223372036854775807 < SG.size + 2 := by omega
    have y1 : ¬ 9223372036854775807 < SG.size + 2 + A.size := by omega
    have y2 : ¬ 9223372036854775807 < SG.size + 2 + A.size + 3 := by omega
    have y3 : ¬ 9223372036854775807 < SG.size + 2 + A.size + 3 + B.size := by omega
    have y4 : ¬ 9223372036854775807 < SG.size + 2 + A.size + 3 + B.size + 1 := by omega
    go_enter Tryd.func83, Tryd.ntmps83
    go_wp2_with (first | (refine wpList_load_mid rfl 54 (.tmp 10) rfl b (off + i * 9) rfl _ _ hrw Tryd.underlying54 rfl sizeItem ?_))
    rw [← HW.out]
    clear HW hrw
    refine HK.out.mono ?_
    rintro e w2 ⟨v, rfl, own, hb2⟩
    obtain ⟨g, vc, hv, -⟩ := own_some own (by simp)
    subst hv
    have kc0 := own_cell1 own 0 _ rfl
    have kc1 := own_cell1 own 1 _ rfl
    simp only [List.length_cons, List.length_nil, List.map_cons, List.map_nil] at own kc0 kc1 ⊢
    have p0 := sh_mono d0 hb2 (Nat.le_refl _)
    have p1 := sh_mono d1 hb2 (Nat.le_refl _)
    have p2 := sh_mono d2 hb2 (Nat.le_refl _)
    have p3 := sh_mono d3 hb2 (Nat.le_refl _)
    have p4 := sh_mono d4 hb2 (Nat.le_refl _)
    have p5 := sh_mono d5 hb2 (Nat.le_refl _)
    have p6 := sh_mono d6 hb2 (Nat.le_refl _)
    have H2 := Lib.hid (H1.out.trans (hb2.mono H1.out.size))
    clear d0 d1 d2 d3 d4 d5 d6 hb2 HK own
    go_wp2_with fail
    refine (HSG.out _).mono ?_
    rintro e w3 ⟨rfl, hb3⟩
    have q0 := sh_mono p0 hb3 (Nat.le_refl _)
    have q1 := sh_mono p1 hb3 (Nat.le_refl _)
    have q2 := sh_mono p2 hb3 (Nat.le_refl _)
    have q3 := sh_mono p3 hb3 (Nat.le_refl _)
    have q4 := sh_mono p4 hb3 (Nat.le_refl _)
    have q5 := sh_mono p5 hb3 (Nat.le_refl _)
    have q6 := sh_mono p6 hb3 (Nat.le_refl _)
    have k0 := sh_mono kc0 hb3 (Nat.le_refl _)
    have k1 := sh_mono kc1 hb3 (Nat.le_refl _)
    have H3 := Lib.hid (H2.out.trans (hb3.mono H2.out.size))
    clear p0 p1 p2 p3 p4 p5 p6 kc0 kc1 hb3 H2 HSG
    have HTA2 : Hid (∀ W, Below w3.heap.size w3 W → Calls Tryd.prog 83 #[.slice (some ⟨b, off, none⟩) l.length c, .int .i64 ea] W fun e w' => e = .returned (.string A) ∧ Below W.heap.size W w') := Lib.hid fun W h => HTA.out W (H3.out.trans (h.mono H3.out.size))
    have HTB2 : Hid (∀ W, Below w3.heap.size w3 W → Calls Tryd.prog 83 #[.slice (some ⟨b, off, none⟩) l.length c, .int .i64 eb] W fun e w' => e = .returned (.string B) ∧ Below W.heap.size W w') := Lib.hid fun W h => HTB.out W (H3.out.trans (h.mono H3.out.size))
    clear HSA HSB HTA HTB
    go_wp2_with fail
    have HDR : Below w3.heap.size w3 w3.drew := (Below.refl _ _).drew
    have HRF : Below w3.heap.size w3 w3 := Below.refl _ _
    go_region_held3 (fun w' => w'.cell? ⟨g, 0, none⟩ = some (.int .i64 ea) ∧ w'.cell? ⟨g, 1, none⟩ = some (.int .i64 eb) ∧ w'.cell? ⟨w.heap.size, 0, none⟩ = some (.int .i64 26) ∧ Below w3.heap.size w3 w')
      (first
        | exact ⟨k0, k1, q0, HDR⟩
        | exact ⟨k0, k1, q0, HRF⟩
        | (go_split_ands
           refine ⟨?_, ?_, ?_, ?_⟩
           · exact sh_mono (by assumption) hb (Nat.le_refl _)
           · exact sh_mono (by assumption) hb (Nat.le_refl _)
           · exact sh_mono (by assumption) hb (Nat.le_refl _)
           · exact Below.trans (by assumption) (hb.mono (Below.size (by assumption))))
        | go_keep)
      (first | (go_at_call 83; first | ((with_reducible refine (HTA2.out _ (by first | assumption | (go_split_ands; assumption))).mono ?_); rintro e' w2 ⟨rfl, hb⟩) | ((with_reducible refine (HTB2.out _ (by first | assumption | (go_split_ands; assumption))).mono ?_); rintro e' w2 ⟨rfl, hb⟩)))
    rename_i hh
    obtain ⟨-, -, -, hbl⟩ := hh
    have HF := Lib.hid (H3.out.trans (hbl.mono H3.out.size))
    clear hbl
    go_wp2_with fail
    go_ret
    exact ⟨by rw [← HR.out]; rfl, HF.out⟩
end Go.Proofs.YtbplkphjjfgkmaaDoor
