/-
  show.Formula: by a walk.
-/
import Derived.Test.YtbplkphjjfgkmaaDoorShJoin
import Derived.Deep.RegionLaw
import Derived.Deep.AppendLies
namespace Go.Proofs.YtbplkphjjfgkmaaDoor
open Go.RowKit
set_option linter.unusedVariables false
set_option linter.unusedSimpArgs false

namespace Sh
def pc (l : List It) (p : Tr.Pt) : List Value := [.int .i64 (tgP l p), .string (txB l p)]
theorem pc_len (l : List It) (p : Tr.Pt) : (pc l p).length = 2 := rfl
theorem step {l : List It} {i : Nat} {r ps : List Tr.Pt} (hf : fm l = true) (hi : i < l.length) (hrun : Tr.run (opsOf l) i = some (r, ps)) :
    (Tr.ar l[i].op = 0 ∧ ∃ ps', Tr.run (opsOf l) (i + 1) = some (r ++ [.leaf i], ps')) ∨
    (∃ r0 k ps', Tr.ar l[i].op = 1 ∧ r = r0 ++ [k] ∧ Tr.run (opsOf l) (i + 1) = some (r0 ++ [.one k i], ps')) ∨
    (∃ r0 a b ps', Tr.ar l[i].op = 2 ∧ r = r0 ++ [a, b] ∧ Tr.run (opsOf l) (i + 1) = some (r0 ++ [.two a b i], ps')) := by
  have hop : (opsOf l).getD i 0 = l[i].op := opsOf_at hi
  have hbd := Tr.ar_bd l[i].op
  have hno : Tr.run (opsOf l) (i + 1) ≠ none := fun h => by
    have h1 := okF_none h (by rw [opsOf_len]; exact hi)
    rw [(fm_yes hf).2.2] at h1
    cases h1
  have hsu := Tr.run_succ hrun
  by_cases h0 : Tr.ar l[i].op = 0
  · refine Or.inl ⟨h0, ps ++ [.leaf i], ?_⟩
    rw [hsu, Tr.stp_leaf (by rw [hop]; exact h0)]
  · by_cases h1 : Tr.ar l[i].op = 1
    · have hl : 1 ≤ r.length := by
        rcases Nat.lt_or_ge r.length 1 with h | h
        · exfalso; apply hno; rw [hsu, Tr.stp_few (by rw [hop, h1]; omega)]
        · exact h
      obtain ⟨r0, k, rfl, -⟩ := Tr.snoc_of (r := r) (n := r.length - 1) (by omega)
      exact Or.inr (Or.inl ⟨r0, k, ps ++ [.one k i], h1, rfl, by rw [hsu, Tr.stp_one (by rw [hop]; exact h1)]⟩)
    · by_cases h2 : Tr.ar l[i].op = 2
      · have hl : 2 ≤ r.length := by
          rcases Nat.lt_or_ge r.length 2 with h | h
          · exfalso; apply hno; rw [hsu, Tr.stp_few (by rw [hop, h2]; omega)]
          · exact h
        obtain ⟨r0, a, b, rfl, -⟩ := Tr.snoc2_of (r := r) (n := r.length - 2) (by omega)
        exact Or.inr (Or.inr ⟨r0, a, b, ps ++ [.two a b i], h2, rfl, by rw [hsu, Tr.stp_two (by rw [hop]; exact h2)]⟩)
      · exfalso
        apply hno
        rw [hsu, Tr.stp_bad (by rw [hop]; omega)]
theorem rows_span {L : List Int} {i : Nat} {r : List Tr.Pt} (h : Tr.Rows L i r) : ∀ p ∈ r, ∃ s e, Tr.Span L s e p := by
  induction h with
  | nil => intro p hp; cases hp
  | snoc s e r p h1 h2 ih =>
    intro q hq
    rcases List.mem_append.1 hq with h | h
    · exact ih q h
    · simp at h; subst h; exact ⟨s, e, h2⟩
theorem small_txt {l : List It} {i : Nat} {r ps : List Tr.Pt} (hf : fm l = true) (hx : ∀ x ∈ l, few x) (hi : i ≤ l.length) (hrun : Tr.run (opsOf l) i = some (r, ps)) : ∀ p ∈ r, (txB l p).size ≤ 12800 := by
  intro p hp
  have hran := Tr.ran i r ps (by rw [opsOf_len]; exact hi) hrun
  obtain ⟨s, e, hsp⟩ := rows_span hran.rows p hp
  have h1 := cnt_span hsp
  have h2 := hsp.le
  have h3 := txt_len hx p
  have h4 := (fm_yes hf).2.1
  rw [opsOf_len] at h2
  unfold txB
  rw [ba_size]
  omega
theorem tg_leaf {op : Int} (h : Tr.ar op = 0) : tg op = 4 := by
  unfold Tr.ar at h
  unfold tg
  by_cases h1 : 1 ≤ op ∧ op ≤ 14
  · rw [if_neg (by omega), if_neg (by omega), if_neg (by omega)]
  · rw [if_neg h1] at h
    repeat' split at h
    all_goals omega
theorem tg_one {op : Int} (h : Tr.ar op = 1) : tg op = 4 := by
  unfold Tr.ar at h
  unfold tg
  by_cases h1 : op = 16 ∨ op = 17 ∨ op = 18
  · exfalso
    rw [if_neg (by omega), if_neg (by omega), if_pos (by omega)] at h
    omega
  · rw [if_neg (by omega), if_neg (by omega), if_neg (by omega)]
theorem atom_leaf {x : It} (h : ¬ Tr.ar x.op = 0) : atomOk x = true := by
  unfold atomOk
  unfold Tr.ar at h
  by_cases h1 : 1 ≤ x.op ∧ x.op ≤ 14
  · rw [if_pos h1] at h; exact absurd rfl h
  · rw [if_neg (by omega), if_neg (by omega), if_neg (by omega)]
/-- What a formula's text is, or why it has none. -/
def allOk (l : List It) : Bool := l.all atomOk
def ans (l : List It) : ByteArray × Int := if fm l = true then (if allOk l = true then (txB l (partAt l (l.length - 1)), 0) else (ByteArray.empty, 17)) else (ByteArray.empty, chk l)
theorem ans_bad {l : List It} (hf : fm l = true) {i : Nat} (hi : i < l.length) (h : atomOk l[i] = false) : ans l = (ByteArray.empty, 17) := by
  unfold ans
  rw [if_pos hf, if_neg]
  intro h2
  unfold allOk at h2
  rw [List.all_eq_true] at h2
  rw [h2 _ (List.getElem_mem hi)] at h
  cases h
theorem ans_ok {l : List It} (hf : fm l = true) (h : ∀ i (hi : i < l.length), atomOk l[i] = true) : ans l = (txB l (partAt l (l.length - 1)), 0) := by
  unfold ans
  rw [if_pos hf, if_pos]
  unfold allOk
  rw [List.all_eq_true]
  intro x hx
  obtain ⟨i, hi, rfl⟩ := List.mem_iff_getElem.1 hx
  exact h i hi
theorem ans_no {l : List It} (hf : fm l = false) : ans l = (ByteArray.empty, chk l) := by
  unfold ans
  rw [hf]
  rfl
theorem root {l : List It} (hf : fm l = true) {r ps : List Tr.Pt} (hrun : Tr.run (opsOf l) l.length = some (r, ps)) : r = [partAt l (l.length - 1)] := by
  obtain ⟨h1, h2, h3⟩ := fm_yes hf
  obtain ⟨p, ps', h4, h5, -⟩ := Tr.okF_yes h3
  rw [opsOf_len] at h4 h5
  rw [h4] at hrun
  injection hrun with hrun
  injection hrun with e1 e2
  subst e1 e2
  have hrows := h5.rows
  rw [show [p] = [] ++ [p] by rfl] at hrows
  obtain ⟨s, e, he, -, hsp⟩ := hrows.last
  have he2 : e = l.length - 1 := by omega
  rw [part_eq hf (s := s) (e := l.length - 1) (by rw [← he2]; exact hsp)]
end Sh
theorem infoPiece : (Tryd.prog.info? 124).map (fun i => (i.zero, i.size, i.bytes)) = some (some (.agg #[.int .i64 0, .string { data := #[] }]), 2, 24) := by kernel_rfl
theorem sizePc : (Tryd.prog.info? 124).map (·.size) = some 2 := by kernel_rfl
/-- The row of pieces while it grows. -/
structure Fs (w : World) (l : List It) (v5 : Value) (r : List Tr.Pt) (wr : World) : Prop where
  row : wr.ownsRow w.heap.size 124 2 v5 r.length (Rec.flat (Sh.pc l) r)
  bel : Below w.heap.size w wr
theorem sh_own_below {w w' : World} {B n size : Nat} {e : TypeId} {v : Value} {xs : List Value} (h : w.ownsRow B e size v n xs) (hb : Below w.heap.size w w') : w'.ownsRow B e size v n xs := own_below h hb
/-- A row cut, and a new piece behind it, out of a box. -/
theorem fs_push {w wr W4 W5 : World} {l : List It} {v5 : Value} {r r0 : List Tr.Pt} {g cap : Nat} {k : Tr.Pt} (h : Fs w l v5 r wr) (h4 : Keeps (fun j => wr.heap.size ≤ j) wr W4) {v6 : Value} (hv : ∀ j, v6.ownBlock = some j → v5.ownBlock = some j)
    (own : W5.ownsRow w.heap.size 124 2 (.slice (some ⟨g, 0, none⟩) (r0.length + 1) cap) (r0.length + 1) (Rec.flat (Sh.pc l) r0 ++ Sh.pc l k)) (keep : Keeps (fun j => v6.ownBlock = some j) W4 W5) : Fs w l (.slice (some ⟨g, 0, none⟩) (r0.length + 1) cap) (r0 ++ [k]) W5 := by
  refine ⟨by rw [List.length_append, List.length_singleton, Rec.flat_snoc]; exact own, ?_⟩
  have hb4 : Below w.heap.size w W4 := h.bel.trans (h4.below (fun j hj => Nat.le_trans h.bel.size hj) h.bel.size)
  exact hb4.trans (keep.below (fun j hj => (h.row.lt j (hv j hj)).1) hb4.size)
theorem fs_cut {w wr W4 : World} {l : List It} {r r0 : List Tr.Pt} {t : List Tr.Pt} {g c5 : Nat} (h : Fs w l (.slice (some ⟨g, 0, none⟩) r.length c5) r wr) (h4 : Keeps (fun j => wr.heap.size ≤ j) wr W4) (hr : r = r0 ++ t) :
    W4.ownsRow w.heap.size 124 2 (.slice (some ⟨g, 0, none⟩) r0.length c5) r0.length (Rec.flat (Sh.pc l) r0) := by
  have h1 := h4.own h.row (fun j hj hs => by have := (h.row.lt j hj).2; omega)
  have h2 := row_cut h1 r0.length (by rw [hr]; simp)
  have e : (Rec.flat (Sh.pc l) r).take (r0.length * 2) = Rec.flat (Sh.pc l) r0 := by
    rw [hr]
    have : Rec.flat (Sh.pc l) (r0 ++ t) = Rec.flat (Sh.pc l) r0 ++ Rec.flat (Sh.pc l) t := by simp [Rec.flat]
    rw [this, List.take_left' (Rec.flat_len (Sh.pc_len l) r0)]
  rw [e] at h2
  exact h2
theorem keeps_of {wr V W : World} (h1 : Below wr.heap.size wr V) (h2 : Below (wr.heap.size + 1) V W) : Keeps (fun j => wr.heap.size ≤ j) wr W := by
  have h := h1.trans (h2.mono (Nat.le_succ _))
  exact ⟨h.os, h.tape, h.output, h.size, fun j hj _ => h.block j hj⟩
theorem fs_cell {w wr : World} {l : List It} {r : List Tr.Pt} {g c5 : Nat} (h : Fs w l (.slice (some ⟨g, 0, none⟩) r.length c5) r wr) (m : Nat) (p : Tr.Pt) (hp : r[m]? = some p) :
    wr.cell? ⟨g, m * 2, none⟩ = some (.int .i64 (Sh.tgP l p)) ∧ wr.cell? ⟨g, m * 2 + 1, none⟩ = some (.string (Sh.txB l p)) := by
  have hm : m < r.length := (List.getElem?_eq_some_iff.1 hp).1
  have e := (List.getElem?_eq_some_iff.1 hp).2
  have hl := Rec.flat_len (Sh.pc_len l) r
  constructor
  · rw [h.row.cellAt (m * 2) (by omega)]
    have := Rec.flat_at (Sh.pc_len l) r m 0 hm (by omega)
    rw [Nat.add_zero] at this
    rw [this, e]; rfl
  · rw [h.row.cellAt (m * 2 + 1) (by omega)]
    rw [Rec.flat_at (Sh.pc_len l) r m 1 hm (by omega), e]; rfl
def FmAns (l : List It) (w : World) (e : Ending) (w' : World) : Prop := e = .returned (.tuple #[.string (Sh.ans l).1, .int .i64 (Sh.ans l).2]) ∧ Below w.heap.size w w'
set_option maxHeartbeats 16000000 in
theorem formula_any (a : Option Addr) (c : Nat) (l : List It) (w : World) (hl : RdI w a l) (hm : l.length ≤ maxLen) (hx : ∀ x ∈ l, Sh.few x) (ht : Tab10 w) :
    Calls Tryd.prog 40 #[.slice a l.length c] w (FmAns l w) := by
  have hu : ∀ b : Bool, ¬ (some undef = some (Value.bool b)) := fun b h => by cases h
  have HC := Lib.hid (check_any a c l w hl hm)
  cases hf : fm l with
  | false =>
    have HN := Lib.hid (Sh.ans_no hf)
    have hz := chk_no hf
    have hz2 : (chk l != 0) = true := by rcases hz with h | h | h <;> rw [h] <;> decide
    clear hz hl hm hx ht hf
    unfold FmAns
    rw [HN.out]
    generalize chk l = z at *
    go_enter Tryd.func40, Tryd.ntmps40
    go_wp2_with fail
    refine HC.out.mono ?_
    rintro e w2 ⟨rfl, hb⟩
    go_wp2_with fail
    go_ret2
    exact ⟨rfl, hb⟩
  | true =>
    obtain ⟨hp, h64, -⟩ := fm_yes hf
    have hz : chk l = 0 := chk_ok hf
    rw [hz] at HC
    have HX := Lib.hid hx
    have HF := Lib.hid hf
    obtain ⟨b, off, ha, hrg⟩ := hl.at hp
    subst ha
    have HR := Lib.hid hrg
    have HT := Lib.hid ht
    clear hz hl hm hx ht hf hrg
    go_enter Tryd.func40, Tryd.ntmps40
    go_wp2_with fail
    refine HC.out.mono ?_
    rintro e wc ⟨rfl, hbc⟩
    have HBC := Lib.hid hbc
    clear hbc HC
    go_wp2_with fail
    go_loopw [5, 7, 8, 9, 10, 11, 12, 20] (fun v5 v7 v8 v9 v10 v11 v12 v20 wr => ∃ (p7 p8 p9 p10 p11 p12 : Value) (i : Nat) (r ps : List Tr.Pt), v7 = p7 ∧ v8 = p8 ∧ v9 = p9 ∧ v10 = p10 ∧ v11 = p11 ∧ v12 = p12 ∧ v20 = .int .i64 i ∧ i ≤ l.length ∧ Hid (Tr.run (opsOf l) i = some (r, ps)) ∧ Hid (Fs w l v5 r wr) ∧ Hid (r = [] → v5 = .slice none 0 0) ∧ Hid (∀ j (hj : j < l.length), j < i → Sh.atomOk l[j] = true)) (fun _ _ _ _ _ _ _ v20 _ => l.length - (intOf v20).toNat)
    case atStart => exact ⟨_, _, _, _, _, _, 0, [], [], rfl, rfl, rfl, rfl, rfl, rfl, rfl, by omega, Lib.hid rfl, Lib.hid ⟨World.ownsRow_nil _ _ _ _, HBC.out⟩, Lib.hid fun _ => rfl, Lib.hid fun j hj h => by omega⟩
    case round =>
      obtain ⟨p7, p8, p9, p10, p11, p12, i, r, ps, rfl, rfl, rfl, rfl, rfl, rfl, rfl, hi, HRUN, HFS, HNIL, HOK⟩ := hrel
      by_cases hlt : i < l.length
      · have hrw : wr.rangeAt b (off + i * 9) l[i].cells := fun j v hj => sh_mono (HR.out i hlt j v hj) HFS.out.bel (Nat.le_refl _)
        have HSTEP := Lib.hid (Sh.step HF.out hlt HRUN.out)
        have HFEW := Lib.hid (HX.out _ (List.getElem_mem hlt))
        have HSM := Lib.hid (Sh.small_txt HF.out HX.out hi HRUN.out)
        have HOP : Hid (Sh.opAt l i = l[i].op) := Lib.hid (opsOf_at hlt)
        have HTL : Hid (Sh.txt l (.leaf i) = Sh.atomL l[i]) := Lib.hid (by simp [Sh.txt, List.getElem?_eq_getElem hlt])
        have HBAD : Hid (Sh.atomOk l[i] = false → Sh.ans l = (ByteArray.empty, 17)) := Lib.hid fun h => Sh.ans_bad HF.out hlt h
        have HOK2 : Hid (Sh.atomOk l[i] = true → ∀ j (hj : j < l.length), j < i + 1 → Sh.atomOk l[j] = true) := Lib.hid fun h j hj h2 => by
          by_cases e : j = i
          · subst e; exact h
          · exact HOK.out j hj (by omega)
        have hrl : r.length ≤ 64 := by
          have := (Tr.ran i r ps (by rw [opsOf_len]; exact hi) HRUN.out).rows.le.1
          omega
        clear HRUN HOK
        generalize l[i] = x at *
        have hrw2 : wr.rangeAt b (off + i * 9) [.int .i64 x.op, .string x.ln, .int .i64 x.lv, .string x.rn, .int .i64 x.rv, .string x.nm, .string x.us, .int .i64 x.line, .int .i64 x.col] := hrw
        clear hrw
        -- the two new blocks
        have HBW2 : Hid (Below wr.heap.size wr ((wr.alloc (.cells #[.int .i64 x.op, .string x.ln, .int .i64 x.lv, .string x.rn, .int .i64 x.rv, .string x.nm, .string x.us, .int .i64 x.line, .int .i64 x.col] 54)).alloc (.cells #[.int .i64 0, .string { data := #[] }] 124))) := Lib.hid ((sh_bn wr (.cells #[.int .i64 x.op, .string x.ln, .int .i64 x.lv, .string x.rn, .int .i64 x.rv, .string x.nm, .string x.us, .int .i64 x.line, .int .i64 x.col] 54)).trans ((sh_bn (wr.alloc (.cells #[.int .i64 x.op, .string x.ln, .int .i64 x.lv, .string x.rn, .int .i64 x.rv, .string x.nm, .string x.us, .int .i64 x.line, .int .i64 x.col] 54)) (.cells #[.int .i64 0, .string { data := #[] }] 124)).mono (by simp)))
        have HPH : Hid (((wr.alloc (.cells #[.int .i64 x.op, .string x.ln, .int .i64 x.lv, .string x.rn, .int .i64 x.rv, .string x.nm, .string x.us, .int .i64 x.line, .int .i64 x.col] 54)).alloc (.cells #[.int .i64 0, .string { data := #[] }] 124)).heap[wr.heap.size + 1]? = some (.cells #[.int .i64 0, .string { data := #[] }] 124 (0, 0))) := Lib.hid (by
          have h := heap_alloc_new (wr.alloc (.cells #[.int .i64 x.op, .string x.ln, .int .i64 x.lv, .string x.rn, .int .i64 x.rv, .string x.nm, .string x.us, .int .i64 x.line, .int .i64 x.col] 54)) (.cells #[.int .i64 0, .string { data := #[] }] 124)
          rw [show (wr.alloc (.cells #[.int .i64 x.op, .string x.ln, .int .i64 x.lv, .string x.rn, .int .i64 x.rv, .string x.nm, .string x.us, .int .i64 x.line, .int .i64 x.col] 54)).heap.size = wr.heap.size + 1 by simp] at h
          exact h)
        have HOC : Hid (((wr.alloc (.cells #[.int .i64 x.op, .string x.ln, .int .i64 x.lv, .string x.rn, .int .i64 x.rv, .string x.nm, .string x.us, .int .i64 x.line, .int .i64 x.col] 54)).alloc (.cells #[.int .i64 0, .string { data := #[] }] 124)).cell? ⟨wr.heap.size, 0, none⟩ = some (.int .i64 x.op)) := Lib.hid (sh_mono (by rw [World.cell?_alloc_at _ _ _ _ rfl]; rfl) (sh_bn (wr.alloc (.cells #[.int .i64 x.op, .string x.ln, .int .i64 x.lv, .string x.rn, .int .i64 x.rv, .string x.nm, .string x.us, .int .i64 x.line, .int .i64 x.col] 54)) (.cells #[.int .i64 0, .string { data := #[] }] 124)) (Nat.le_refl _))
        rcases HSTEP.out with ⟨har, ps', hrun'⟩ | ⟨r0, k, ps', har, hr, hrun'⟩ | ⟨r0, k, j, ps', har, hr, hrun'⟩
        · have AR2 : ∀ W, Calls Tryd.prog 77 #[.int .i64 x.op] W fun e w' => e = .returned (.int .i64 0) ∧ W = w' := fun W => by
            have h := arity_any x.op W
            unfold ArAns at h
            rw [har] at h
            exact h
          have HAR := Lib.hid AR2
          have HRU := Lib.hid hrun'
          have HAT : Hid (Calls Tryd.prog 78 #[.agg #[.int .i64 x.op, .string x.ln, .int .i64 x.lv, .string x.rn, .int .i64 x.rv, .string x.nm, .string x.us, .int .i64 x.line, .int .i64 x.col]] ((wr.alloc (.cells #[.int .i64 x.op, .string x.ln, .int .i64 x.lv, .string x.rn, .int .i64 x.rv, .string x.nm, .string x.us, .int .i64 x.line, .int .i64 x.col] 54)).alloc (.cells #[.int .i64 0, .string { data := #[] }] 124)) (TxOk (Sh.atomL x) (Sh.atomOk x) ((wr.alloc (.cells #[.int .i64 x.op, .string x.ln, .int .i64 x.lv, .string x.rn, .int .i64 x.rv, .string x.nm, .string x.us, .int .i64 x.line, .int .i64 x.col] 54)).alloc (.cells #[.int .i64 0, .string { data := #[] }] 124)))) := Lib.hid (atom_any x _ HFEW.out (HT.out.below (HFS.out.bel.trans (HBW2.out.mono HFS.out.bel.size))))
          have HPC : Hid (Sh.pc l (.leaf i) = [.int .i64 4, .string ⟨(Sh.atomL x).toArray⟩]) := Lib.hid (by
            unfold Sh.pc Sh.tgP Sh.txB
            rw [HTL.out]
            rw [show (Tr.Pt.leaf i).end_ = i from rfl, HOP.out, Sh.tg_leaf har])
          clear AR2 har hrun' HSTEP HSM
          have hw0 : IntKind.i64.wrap 0 = 0 := IntWalk.i64_in 0 (by omega)
          have hwl : IntKind.i64.wrap (r.length : Int) = (r.length : Int) := IntWalk.i64_in _ (by omega)
          by_cases hr0 : r.length = 0
          · have hre : r = [] := List.eq_nil_of_length_eq_zero hr0
            have hv5 := HNIL.out hre
            subst hv5
            subst hre
            go_wp2_with (first | (refine wpList_load_mid rfl 54 (.tmp 22) rfl b (off + i * 9) rfl _ _ hrw2 Tryd.underlying54 rfl sizeItem ?_) | (go_at_call 77; refine (HAR.out _).mono ?_; rintro e w2 ⟨rfl, rfl⟩))
            generalize ((wr.alloc (.cells #[.int .i64 x.op, .string x.ln, .int .i64 x.lv, .string x.rn, .int .i64 x.rv, .string x.nm, .string x.us, .int .i64 x.line, .int .i64 x.col] 54)).alloc (.cells #[.int .i64 0, .string { data := #[] }] 124)) = V2 at *
            refine HAT.out.mono ?_
            rintro e W3 ⟨rfl, hb3⟩
            have HB3 := Lib.hid (HBW2.out.trans (hb3.mono HBW2.out.size))
            have hk3 : W3.heap[wr.heap.size + 1]? = some (.cells #[.int .i64 0, .string { data := #[] }] 124 (0, 0)) := (hb3.block _ (obj_lt HPH.out)).trans HPH.out
            clear hb3
            have HK3 : Hid (Keeps (fun j => wr.heap.size ≤ j) wr W3) := Lib.hid ⟨HB3.out.os, HB3.out.tape, HB3.out.output, HB3.out.size, fun j hj _ => HB3.out.block j hj⟩
            have b0 := cell_of_row W3 (wr.heap.size + 1) 0 _ _ _ hk3
            have b1 := cell_of_row W3 (wr.heap.size + 1) 1 _ _ _ hk3
            have g0 := frozen_of_row W3 (wr.heap.size + 1) 0 _ _ hk3
            have g1 := frozen_of_row W3 (wr.heap.size + 1) 1 _ _ hk3
            simp at b0 b1
            generalize hok : Sh.atomOk x = ok at *
            generalize (⟨(Sh.atomL x).toArray⟩ : ByteArray) = T at *
            cases ok with
            | false =>
              have HAN := Lib.hid (HBAD.out rfl)
              go_wp2_with fail
              go_ret2
              exact ⟨by rw [HAN.out]; rfl, HFS.out.bel.trans (HB3.out.mono HFS.out.bel.size)⟩
            | true =>
              go_wp2_with fail
              have HK4 : Hid (Keeps (fun j => wr.heap.size ≤ j) wr ((W3.setCell ⟨wr.heap.size + 1, 0, none⟩ (.int .i64 4)).setCell ⟨wr.heap.size + 1, 1, none⟩ (.string T))) := Lib.hid ((HK3.out.trans (Keeps.setCell W3 ⟨wr.heap.size + 1, 0, none⟩ _ (Nat.le_succ _))).trans (Keeps.setCell _ ⟨wr.heap.size + 1, 1, none⟩ _ (Nat.le_succ _)))
              have HQ := Lib.hid (set2_cells (x0 := .int .i64 4) (x1 := .string T) hk3)
              have hsz4 : w.heap.size ≤ ((W3.setCell ⟨wr.heap.size + 1, 0, none⟩ (.int .i64 4)).setCell ⟨wr.heap.size + 1, 1, none⟩ (.string T)).heap.size := Nat.le_trans HFS.out.bel.size HK4.out.size
              have q0 := HQ.out.1
              have q1 := HQ.out.2
              have own4 := World.ownsRow_nil ((W3.setCell ⟨wr.heap.size + 1, 0, none⟩ (.int .i64 4)).setCell ⟨wr.heap.size + 1, 1, none⟩ (.string T)) w.heap.size 124 2
              generalize ((W3.setCell ⟨wr.heap.size + 1, 0, none⟩ (.int .i64 4)).setCell ⟨wr.heap.size + 1, 1, none⟩ (.string T)) = W4 at *
              clear b0 b1 g0 g1 hk3 HQ
              go_region_law (refine step_at (v := .slice none 0 0) rfl _ _ 120 rfl 124 _ 2 24 Tryd.underlying120 infoPiece rfl (by decide) rfl own4 hsz4 [.int .i64 4, .string T] rfl (by simp [Value.oneCell']) rfl (by simp) (by decide) (by omega) ⟨1, rfl⟩ ?_; intro g6 cap6 W5 own5 keep5 where5; rw [← HPC.out] at own5; have H5 := Lib.hid (fs_push (r0 := ([] : List Tr.Pt)) (v6 := .slice none 0 0) HFS.out HK4.out (fun j e => e) own5 keep5); clear own5 keep5 where5)
              go_wp2_with fail
              go_roundw
              case rel => exact ⟨_, _, _, _, _, _, i + 1, ([] : List Tr.Pt) ++ [.leaf i], _, rfl, rfl, rfl, rfl, rfl, rfl, by go_num, by omega, HRU, H5, Lib.hid (fun h => by simp at h), Lib.hid (HOK2.out (by first | rfl | trivial))⟩
              case measure => simp [intOf] <;> omega
          · obtain ⟨g5, c5, hv5, hg5, hc5, hcm5, hgl5⟩ := own_some HFS.out.row (by omega)
            subst hv5
            by_cases hcc : c5 = r.length
            · subst hcc
              go_wp2_with (first | (refine wpList_load_mid rfl 54 (.tmp 22) rfl b (off + i * 9) rfl _ _ hrw2 Tryd.underlying54 rfl sizeItem ?_) | (go_at_call 77; refine (HAR.out _).mono ?_; rintro e w2 ⟨rfl, rfl⟩))
              generalize ((wr.alloc (.cells #[.int .i64 x.op, .string x.ln, .int .i64 x.lv, .string x.rn, .int .i64 x.rv, .string x.nm, .string x.us, .int .i64 x.line, .int .i64 x.col] 54)).alloc (.cells #[.int .i64 0, .string { data := #[] }] 124)) = V2 at *
              refine HAT.out.mono ?_
              rintro e W3 ⟨rfl, hb3⟩
              have HB3 := Lib.hid (HBW2.out.trans (hb3.mono HBW2.out.size))
              have hk3 : W3.heap[wr.heap.size + 1]? = some (.cells #[.int .i64 0, .string { data := #[] }] 124 (0, 0)) := (hb3.block _ (obj_lt HPH.out)).trans HPH.out
              clear hb3
              have HK3 : Hid (Keeps (fun j => wr.heap.size ≤ j) wr W3) := Lib.hid ⟨HB3.out.os, HB3.out.tape, HB3.out.output, HB3.out.size, fun j hj _ => HB3.out.block j hj⟩
              have b0 := cell_of_row W3 (wr.heap.size + 1) 0 _ _ _ hk3
              have b1 := cell_of_row W3 (wr.heap.size + 1) 1 _ _ _ hk3
              have g0 := frozen_of_row W3 (wr.heap.size + 1) 0 _ _ hk3
              have g1 := frozen_of_row W3 (wr.heap.size + 1) 1 _ _ hk3
              simp at b0 b1
              generalize hok : Sh.atomOk x = ok at *
              generalize (⟨(Sh.atomL x).toArray⟩ : ByteArray) = T at *
              cases ok with
              | false =>
                have HAN := Lib.hid (HBAD.out rfl)
                go_wp2_with fail
                go_ret2
                exact ⟨by rw [HAN.out]; rfl, HFS.out.bel.trans (HB3.out.mono HFS.out.bel.size)⟩
              | true =>
                go_wp2_with fail
                have HK4 : Hid (Keeps (fun j => wr.heap.size ≤ j) wr ((W3.setCell ⟨wr.heap.size + 1, 0, none⟩ (.int .i64 4)).setCell ⟨wr.heap.size + 1, 1, none⟩ (.string T))) := Lib.hid ((HK3.out.trans (Keeps.setCell W3 ⟨wr.heap.size + 1, 0, none⟩ _ (Nat.le_succ _))).trans (Keeps.setCell _ ⟨wr.heap.size + 1, 1, none⟩ _ (Nat.le_succ _)))
                have HQ := Lib.hid (set2_cells (x0 := .int .i64 4) (x1 := .string T) hk3)
                have hsz4 : w.heap.size ≤ ((W3.setCell ⟨wr.heap.size + 1, 0, none⟩ (.int .i64 4)).setCell ⟨wr.heap.size + 1, 1, none⟩ (.string T)).heap.size := Nat.le_trans HFS.out.bel.size HK4.out.size
                have q0 := HQ.out.1
                have q1 := HQ.out.2
                have own4 := fs_cut (r0 := r) (t := []) HFS.out HK4.out (by simp)
                generalize ((W3.setCell ⟨wr.heap.size + 1, 0, none⟩ (.int .i64 4)).setCell ⟨wr.heap.size + 1, 1, none⟩ (.string T)) = W4 at *
                clear b0 b1 g0 g1 hk3 HQ
                go_region_law (refine step_at (v := .slice (some ⟨g5, 0, none⟩) r.length r.length) rfl _ _ 120 rfl 124 _ 2 24 Tryd.underlying120 infoPiece rfl (by decide) rfl own4 hsz4 [.int .i64 4, .string T] rfl (by simp [Value.oneCell']) rfl (by simp) (by decide) (by omega) ⟨1, rfl⟩ ?_; intro g6 cap6 W5 own5 keep5 where5; rw [← HPC.out] at own5; have H5 := Lib.hid (fs_push (r0 := r) (v6 := .slice (some ⟨g5, 0, none⟩) r.length r.length) HFS.out HK4.out (fun j e => e) own5 keep5); clear own5 keep5 where5)
                go_wp2_with fail
                go_roundw
                case rel => exact ⟨_, _, _, _, _, _, i + 1, r ++ [.leaf i], _, rfl, rfl, rfl, rfl, rfl, rfl, by go_num, by omega, HRU, H5, Lib.hid (fun h => by simp at h), Lib.hid (HOK2.out (by first | rfl | trivial))⟩
                case measure => simp [intOf] <;> omega
            · have hcc' : ¬ r.length = c5 := fun h => hcc h.symm
              go_wp2_with (first | (refine wpList_load_mid rfl 54 (.tmp 22) rfl b (off + i * 9) rfl _ _ hrw2 Tryd.underlying54 rfl sizeItem ?_) | (go_at_call 77; refine (HAR.out _).mono ?_; rintro e w2 ⟨rfl, rfl⟩))
              generalize ((wr.alloc (.cells #[.int .i64 x.op, .string x.ln, .int .i64 x.lv, .string x.rn, .int .i64 x.rv, .string x.nm, .string x.us, .int .i64 x.line, .int .i64 x.col] 54)).alloc (.cells #[.int .i64 0, .string { data := #[] }] 124)) = V2 at *
              refine HAT.out.mono ?_
              rintro e W3 ⟨rfl, hb3⟩
              have HB3 := Lib.hid (HBW2.out.trans (hb3.mono HBW2.out.size))
              have hk3 : W3.heap[wr.heap.size + 1]? = some (.cells #[.int .i64 0, .string { data := #[] }] 124 (0, 0)) := (hb3.block _ (obj_lt HPH.out)).trans HPH.out
              clear hb3
              have HK3 : Hid (Keeps (fun j => wr.heap.size ≤ j) wr W3) := Lib.hid ⟨HB3.out.os, HB3.out.tape, HB3.out.output, HB3.out.size, fun j hj _ => HB3.out.block j hj⟩
              have b0 := cell_of_row W3 (wr.heap.size + 1) 0 _ _ _ hk3
              have b1 := cell_of_row W3 (wr.heap.size + 1) 1 _ _ _ hk3
              have g0 := frozen_of_row W3 (wr.heap.size + 1) 0 _ _ hk3
              have g1 := frozen_of_row W3 (wr.heap.size + 1) 1 _ _ hk3
              simp at b0 b1
              generalize hok : Sh.atomOk x = ok at *
              generalize (⟨(Sh.atomL x).toArray⟩ : ByteArray) = T at *
              cases ok with
              | false =>
                have HAN := Lib.hid (HBAD.out rfl)
                go_wp2_with fail
                go_ret2
                exact ⟨by rw [HAN.out]; rfl, HFS.out.bel.trans (HB3.out.mono HFS.out.bel.size)⟩
              | true =>
                go_wp2_with fail
                have HK4 : Hid (Keeps (fun j => wr.heap.size ≤ j) wr ((W3.setCell ⟨wr.heap.size + 1, 0, none⟩ (.int .i64 4)).setCell ⟨wr.heap.size + 1, 1, none⟩ (.string T))) := Lib.hid ((HK3.out.trans (Keeps.setCell W3 ⟨wr.heap.size + 1, 0, none⟩ _ (Nat.le_succ _))).trans (Keeps.setCell _ ⟨wr.heap.size + 1, 1, none⟩ _ (Nat.le_succ _)))
                have HQ := Lib.hid (set2_cells (x0 := .int .i64 4) (x1 := .string T) hk3)
                have hsz4 : w.heap.size ≤ ((W3.setCell ⟨wr.heap.size + 1, 0, none⟩ (.int .i64 4)).setCell ⟨wr.heap.size + 1, 1, none⟩ (.string T)).heap.size := Nat.le_trans HFS.out.bel.size HK4.out.size
                have q0 := HQ.out.1
                have q1 := HQ.out.2
                have own4 := fs_cut (r0 := r) (t := []) HFS.out HK4.out (by simp)
                generalize ((W3.setCell ⟨wr.heap.size + 1, 0, none⟩ (.int .i64 4)).setCell ⟨wr.heap.size + 1, 1, none⟩ (.string T)) = W4 at *
                clear b0 b1 g0 g1 hk3 HQ
                go_region_law (refine step_at (v := .slice (some ⟨g5, 0, none⟩) r.length c5) rfl _ _ 120 rfl 124 _ 2 24 Tryd.underlying120 infoPiece rfl (by decide) rfl own4 hsz4 [.int .i64 4, .string T] rfl (by simp [Value.oneCell']) rfl (by simp) (by decide) (by omega) ⟨1, rfl⟩ ?_; intro g6 cap6 W5 own5 keep5 where5; rw [← HPC.out] at own5; have H5 := Lib.hid (fs_push (r0 := r) (v6 := .slice (some ⟨g5, 0, none⟩) r.length c5) HFS.out HK4.out (fun j e => e) own5 keep5); clear own5 keep5 where5)
                go_wp2_with fail
                go_roundw
                case rel => exact ⟨_, _, _, _, _, _, i + 1, r ++ [.leaf i], _, rfl, rfl, rfl, rfl, rfl, rfl, by go_num, by omega, HRU, H5, Lib.hid (fun h => by simp at h), Lib.hid (HOK2.out (by first | rfl | trivial))⟩
                case measure => simp [intOf] <;> omega
        ·
          subst hr
          have AR2 : ∀ W, Calls Tryd.prog 77 #[.int .i64 x.op] W fun e w' => e = .returned (.int .i64 1) ∧ W = w' := fun W => by
            have h := arity_any x.op W
            unfold ArAns at h
            rw [har] at h
            exact h
          have HAR := Lib.hid AR2
          have HRU := Lib.hid hrun'
          have HAO : Hid (Sh.atomOk x = true) := Lib.hid (Sh.atom_leaf (by rw [har]; decide))
          obtain ⟨tk, htk⟩ : ∃ t, Sh.tgP l k = t := ⟨_, rfl⟩
          obtain ⟨Tk, hTk⟩ : ∃ t, Sh.txB l k = t := ⟨_, rfl⟩
          have hzk : Tk.size ≤ 12800 := by rw [← hTk]; exact HSM.out k (by simp)
          obtain ⟨SG, hSG⟩ : ∃ t, (⟨(Sh.sgn x.op).toArray⟩ : ByteArray) = t := ⟨_, rfl⟩
          have hzs : SG.size ≤ 8 := by rw [← hSG, ba_size]; exact Sh.sgn_len _
          have HPC : Hid (Sh.pc l (.one k i) = [.int .i64 4, .string (SG ++ { data := #[32] } ++ innB tk Tk 4)]) := Lib.hid (by
            unfold Sh.pc Sh.tgP Sh.txB
            rw [show (Tr.Pt.one k i).end_ = i from rfl, HOP.out, Sh.tg_one har]
            congr 3
            symm
            apply ba_eq
            rw [← hSG, ← htk, ← hTk]
            simp [Sh.txt, HOP.out, innB_list, Sh.tgP, Sh.txB])
          have HSN : Hid (∀ W, W.heap[wr.heap.size + 1]? = some (.cells #[.int .i64 0, .string { data := #[] }] 124 (0, 0)) → Calls Tryd.prog 44 #[.int .i64 x.op] W fun e w' => e = .returned (.string SG) ∧ w'.heap[wr.heap.size + 1]? = some (.cells #[.int .i64 0, .string { data := #[] }] 124 (0, 0)) ∧ Below W.heap.size W w') := Lib.hid fun W h => by
            rw [← hSG]
            exact (sign_any x.op W).mono fun e w' h2 => ⟨h2.1, by rw [← h2.2]; exact h, by rw [← h2.2]; exact Below.refl _ _⟩
          have HWK : Hid (∀ W, W.heap[wr.heap.size + 1]? = some (.cells #[.int .i64 0, .string { data := #[] }] 124 (0, 0)) → Calls Tryd.prog 79 #[.agg #[.int .i64 tk, .string Tk], .int .i64 4] W fun e w' => e = .returned (.string (innB tk Tk 4)) ∧ w'.heap[wr.heap.size + 1]? = some (.cells #[.int .i64 0, .string { data := #[] }] 124 (0, 0)) ∧ Below W.heap.size W w') := Lib.hid fun W h => (within_any tk 4 Tk W (by omega)).mono fun e w' h2 => ⟨h2.1, (h2.2.block _ (obj_lt h)).trans h, h2.2⟩
          have zi := innB_size tk Tk 4
          have y1 : ¬ 9223372036854775807 < SG.size + 1 := by omega
          have y2 : ¬ 9223372036854775807 < SG.size + 1 + (innB tk Tk 4).size := by omega
          obtain ⟨g5, c5, hv5, hg5, hc5, hcm5, hgl5⟩ := own_some HFS.out.row (by simp)
          subst hv5
          obtain ⟨e0, e1⟩ := fs_cell HFS.out r0.length k (by simp)
          rw [htk] at e0
          rw [hTk] at e1
          have hc5' : r0.length + 1 ≤ c5 := by simpa using hc5
          have hc5i : (r0.length : Int) ≤ (c5 : Int) := by omega
          have hc5n : (r0.length : Int) + 1 ≤ (c5 : Int) := by omega
          have hrn : r0.length ≤ 64 := by simp at hrl; omega
          have hne5 : ¬ c5 = r0.length := by omega
          have hne6 : ¬ r0.length = c5 := by omega
          have hn0 : wr.heap.size ≠ wr.heap.size + 1 := by omega
          have hng : g5 ≠ wr.heap.size + 1 := by omega
          have s1 := sh_mono e0 HBW2.out (Nat.le_refl _)
          have s2 := sh_mono e1 HBW2.out (Nat.le_refl _)
          have hw1 := IntWalk.i64_in (r0.length : Int) (by omega)
          have hw2 := Lib.hid (IntWalk.wrap64_in (r0.length : Int) (by clear hw1; omega))
          have hw3 : (r0.length : Int) + 1 - 1 = (r0.length : Int) := Int.add_sub_cancel _ _
          have hw4 := Lib.hid hw1
          clear hw1
          have s0 := HOC.out
          have hk := HPH.out
          clear AR2 har hrun' HSTEP HSM HTL HBAD HFEW
          go_wp2_with (first | (refine wpList_load_mid rfl 54 (.tmp 22) rfl b (off + i * 9) rfl _ _ hrw2 Tryd.underlying54 rfl sizeItem ?_) | (go_at_call 77; refine (HAR.out _).mono ?_; rintro e w2 ⟨rfl, rfl⟩))
          have hzv : ((wr.alloc (.cells #[.int .i64 x.op, .string x.ln, .int .i64 x.lv, .string x.rn, .int .i64 x.rv, .string x.nm, .string x.us, .int .i64 x.line, .int .i64 x.col] 54)).alloc (.cells #[.int .i64 0, .string { data := #[] }] 124)).heap.size = wr.heap.size + 1 + 1 := by simp
          generalize ((wr.alloc (.cells #[.int .i64 x.op, .string x.ln, .int .i64 x.lv, .string x.rn, .int .i64 x.rv, .string x.nm, .string x.us, .int .i64 x.line, .int .i64 x.col] 54)).alloc (.cells #[.int .i64 0, .string { data := #[] }] 124)) = V2 at *
          have HLT : Hid (∀ W : World, Below (wr.heap.size + 1) V2 W → wr.heap.size + 1 ≤ W.heap.size) := Lib.hid fun W h => by have := h.size; omega
          have HDR : Below (wr.heap.size + 1) V2 V2.drew := (Below.refl _ _).drew
          have HRF : Below (wr.heap.size + 1) V2 V2 := Below.refl _ _
          have hkd : V2.drew.heap[wr.heap.size + 1]? = some (.cells #[.int .i64 0, .string { data := #[] }] 124 (0, 0)) := hk
          have hwl := hw4.out
          have hwn := hw2.out
          have hws : IntKind.i64.wrap ((r0.length : Int) + 1 - 1) = (r0.length : Int) := by rw [hw3]; exact hwl
          clear hw2 hw3 hw4
          go_region_held3 (fun w' => w'.cell? ⟨wr.heap.size, 0, none⟩ = some (.int .i64 x.op) ∧ w'.cell? ⟨g5, r0.length * 2, none⟩ = some (.int .i64 tk) ∧ w'.cell? ⟨g5, r0.length * 2 + 1, none⟩ = some (.string Tk) ∧ Below (wr.heap.size + 1) V2 w')
            (first
              | exact ⟨s0, s1, s2, HDR⟩
              | exact ⟨s0, s1, s2, HRF⟩
              | (go_split_ands
                 with_reducible exact ⟨set2_keep (by assumption) hn0, set2_keep (by assumption) hng, set2_keep (by assumption) hng, set2_bel (by assumption) (Nat.le_refl _)⟩)
              | (go_split_ands
                 refine ⟨?_, ?_, ?_, ?_⟩
                 · exact sh_mono (by assumption) hb (Nat.le_refl _)
                 · exact sh_mono (by assumption) hb (Nat.le_refl _)
                 · exact sh_mono (by assumption) hb (Nat.le_refl _)
                 · exact Below.trans (by assumption) (hb.mono (HLT.out _ (by assumption))))
              | go_keep)
            (first | (go_at_call 44; ((with_reducible refine (HSN.out _ (by assumption)).mono ?_); rintro e' w2 ⟨rfl, hk2, hb⟩; have b0 := cell_of_row w2 (wr.heap.size + 1) 0 _ _ _ hk2; have b1 := cell_of_row w2 (wr.heap.size + 1) 1 _ _ _ hk2; have g0 := frozen_of_row w2 (wr.heap.size + 1) 0 _ _ hk2; have g1 := frozen_of_row w2 (wr.heap.size + 1) 1 _ _ hk2; simp at b0 b1)) | (go_at_call 79; ((with_reducible refine (HWK.out _ (by assumption)).mono ?_); rintro e' w2 ⟨rfl, hk2, hb⟩; have b0 := cell_of_row w2 (wr.heap.size + 1) 0 _ _ _ hk2; have b1 := cell_of_row w2 (wr.heap.size + 1) 1 _ _ _ hk2; have g0 := frozen_of_row w2 (wr.heap.size + 1) 0 _ _ hk2; have g1 := frozen_of_row w2 (wr.heap.size + 1) 1 _ _ hk2; simp at b0 b1)))
          clear hwn hws
          rename_i hh
          obtain ⟨-, -, -, hbl⟩ := hh
          have HK4 : Hid (Keeps (fun j => wr.heap.size ≤ j) wr ((w2.setCell ⟨wr.heap.size + 1, 0, none⟩ (.int .i64 4)).setCell ⟨wr.heap.size + 1, 1, none⟩ (.string (SG ++ { data := #[32] } ++ innB tk Tk 4)))) := Lib.hid (keeps_of HBW2.out hbl)
          have HQ := Lib.hid (set2_cells (x0 := .int .i64 4) (x1 := .string (SG ++ { data := #[32] } ++ innB tk Tk 4)) hk2)
          have hsz4 : w.heap.size ≤ ((w2.setCell ⟨wr.heap.size + 1, 0, none⟩ (.int .i64 4)).setCell ⟨wr.heap.size + 1, 1, none⟩ (.string (SG ++ { data := #[32] } ++ innB tk Tk 4))).heap.size := Nat.le_trans HFS.out.bel.size HK4.out.size
          have q0 := HQ.out.1
          have q1 := HQ.out.2
          have own4 := fs_cut (r0 := r0) (t := [k]) HFS.out HK4.out rfl
          clear hbl
          go_wp2_with fail
          generalize ((w2.setCell ⟨wr.heap.size + 1, 0, none⟩ (.int .i64 4)).setCell ⟨wr.heap.size + 1, 1, none⟩ (.string (SG ++ { data := #[32] } ++ innB tk Tk 4))) = W4 at *
          clear b0 b1 g0 g1 hk2 HQ
          go_region_law (refine step_at (v := .slice (some ⟨g5, 0, none⟩) r0.length c5) rfl _ _ 120 rfl 124 _ 2 24 Tryd.underlying120 infoPiece rfl (by decide) rfl own4 hsz4 [.int .i64 4, .string (SG ++ { data := #[32] } ++ innB tk Tk 4)] rfl (by simp [Value.oneCell']) rfl (by simp) (by decide) (by omega) ⟨1, rfl⟩ ?_; intro g6 cap6 W5 own5 keep5 where5; rw [← HPC.out] at own5; have H5 := Lib.hid (fs_push (r0 := r0) (v6 := .slice (some ⟨g5, 0, none⟩) r0.length c5) HFS.out HK4.out (fun j e => e) own5 keep5); clear own5 keep5 where5)
          go_wp2_with fail
          go_roundw
          case rel => exact ⟨_, _, _, _, _, _, i + 1, r0 ++ [.one k i], _, rfl, rfl, rfl, rfl, rfl, rfl, by go_num, by omega, HRU, H5, Lib.hid (fun h => by simp at h), Lib.hid (HOK2.out HAO.out)⟩
          case measure => simp [intOf] <;> omega
        ·
          subst hr
          have AR2 : ∀ W, Calls Tryd.prog 77 #[.int .i64 x.op] W fun e w' => e = .returned (.int .i64 2) ∧ W = w' := fun W => by
            have h := arity_any x.op W
            unfold ArAns at h
            rw [har] at h
            exact h
          have HAR := Lib.hid AR2
          have HRU := Lib.hid hrun'
          have HAO : Hid (Sh.atomOk x = true) := Lib.hid (Sh.atom_leaf (by rw [har]; decide))
          obtain ⟨tk, htk⟩ : ∃ t, Sh.tgP l k = t := ⟨_, rfl⟩
          obtain ⟨Tk, hTk⟩ : ∃ t, Sh.txB l k = t := ⟨_, rfl⟩
          have hzk : Tk.size ≤ 12800 := by rw [← hTk]; exact HSM.out k (by simp)
          obtain ⟨tj, htj⟩ : ∃ t, Sh.tgP l j = t := ⟨_, rfl⟩
          obtain ⟨Tj, hTj⟩ : ∃ t, Sh.txB l j = t := ⟨_, rfl⟩
          have hzj : Tj.size ≤ 12800 := by rw [← hTj]; exact HSM.out j (by simp)
          obtain ⟨TG, hTG⟩ : ∃ t, Sh.tg x.op = t := ⟨_, rfl⟩
          obtain ⟨RT, hRT⟩ : ∃ t, (⟨(Sh.two x.op tk tj Tk.data.toList Tj.data.toList).toArray⟩ : ByteArray) = t := ⟨_, rfl⟩
          have HPC : Hid (Sh.pc l (.two k j i) = [.int .i64 TG, .string RT]) := Lib.hid (by
            unfold Sh.pc Sh.tgP Sh.txB
            rw [show (Tr.Pt.two k j i).end_ = i from rfl, HOP.out, ← hTG, ← hRT, ← htk, ← hTk, ← htj, ← hTj]
            simp [Sh.txt, HOP.out, Sh.tgP, Sh.txB])
          have HJN : Hid (∀ W, W.heap[wr.heap.size + 1]? = some (.cells #[.int .i64 0, .string { data := #[] }] 124 (0, 0)) → Calls Tryd.prog 80 #[.int .i64 x.op, .agg #[.int .i64 tk, .string Tk], .agg #[.int .i64 tj, .string Tj]] W fun e w' => e = .returned (.agg #[.int .i64 TG, .string RT]) ∧ w'.heap[wr.heap.size + 1]? = some (.cells #[.int .i64 0, .string { data := #[] }] 124 (0, 0)) ∧ Below W.heap.size W w') := Lib.hid fun W h => by
            rw [← hTG, ← hRT]
            exact (join_any x.op tk tj Tk Tj W (by omega) (by omega)).mono fun e w' h2 => ⟨h2.1, (h2.2.block _ (obj_lt h)).trans h, h2.2⟩
          obtain ⟨g5, c5, hv5, hg5, hc5, hcm5, hgl5⟩ := own_some HFS.out.row (by simp)
          subst hv5
          obtain ⟨e0, e1⟩ := fs_cell HFS.out r0.length k (by simp)
          rw [htk] at e0
          rw [hTk] at e1
          obtain ⟨e2, e3⟩ := fs_cell HFS.out (r0.length + 1) j (by simp)
          rw [htj, show (r0.length + 1) * 2 = r0.length * 2 + 2 by omega] at e2
          rw [hTj, show (r0.length + 1) * 2 + 1 = r0.length * 2 + 2 + 1 by omega] at e3
          have hc5' : r0.length + 2 ≤ c5 := by simpa using hc5
          have hc5i : (r0.length : Int) ≤ (c5 : Int) := by omega
          have hc5n : (r0.length : Int) + 2 ≤ (c5 : Int) := by omega
          have hrn : r0.length ≤ 64 := by simp at hrl; omega
          have hne5 : ¬ c5 = r0.length := by omega
          have hne6 : ¬ r0.length = c5 := by omega
          have hn0 : wr.heap.size ≠ wr.heap.size + 1 := by omega
          have hng : g5 ≠ wr.heap.size + 1 := by omega
          have s1 := sh_mono e0 HBW2.out (Nat.le_refl _)
          have s2 := sh_mono e1 HBW2.out (Nat.le_refl _)
          have s3 := sh_mono e2 HBW2.out (Nat.le_refl _)
          have s4 := sh_mono e3 HBW2.out (Nat.le_refl _)
          have hw1 := IntWalk.i64_in (r0.length : Int) (by omega)
          have hw2 := Lib.hid (IntWalk.wrap64_in (r0.length : Int) (by clear hw1; omega))
          have hw3 : (r0.length : Int) + 2 - 2 = (r0.length : Int) := Int.add_sub_cancel _ _
          have hw4 := Lib.hid hw1
          clear hw1
          have s0 := HOC.out
          have hk := HPH.out
          clear AR2 har hrun' HSTEP HSM HTL HBAD HFEW
          go_wp2_with (first | (refine wpList_load_mid rfl 54 (.tmp 22) rfl b (off + i * 9) rfl _ _ hrw2 Tryd.underlying54 rfl sizeItem ?_) | (go_at_call 77; refine (HAR.out _).mono ?_; rintro e w2 ⟨rfl, rfl⟩))
          have hzv : ((wr.alloc (.cells #[.int .i64 x.op, .string x.ln, .int .i64 x.lv, .string x.rn, .int .i64 x.rv, .string x.nm, .string x.us, .int .i64 x.line, .int .i64 x.col] 54)).alloc (.cells #[.int .i64 0, .string { data := #[] }] 124)).heap.size = wr.heap.size + 1 + 1 := by simp
          generalize ((wr.alloc (.cells #[.int .i64 x.op, .string x.ln, .int .i64 x.lv, .string x.rn, .int .i64 x.rv, .string x.nm, .string x.us, .int .i64 x.line, .int .i64 x.col] 54)).alloc (.cells #[.int .i64 0, .string { data := #[] }] 124)) = V2 at *
          have HLT : Hid (∀ W : World, Below (wr.heap.size + 1) V2 W → wr.heap.size + 1 ≤ W.heap.size) := Lib.hid fun W h => by have := h.size; omega
          have HDR : Below (wr.heap.size + 1) V2 V2.drew := (Below.refl _ _).drew
          have HRF : Below (wr.heap.size + 1) V2 V2 := Below.refl _ _
          have hkd : V2.drew.heap[wr.heap.size + 1]? = some (.cells #[.int .i64 0, .string { data := #[] }] 124 (0, 0)) := hk
          have hwl := hw4.out
          have hwn := hw2.out
          have hws : IntKind.i64.wrap ((r0.length : Int) + 2 - 2) = (r0.length : Int) := by rw [hw3]; exact hwl
          clear hw2 hw3 hw4
          go_region_held3 (fun w' => w'.cell? ⟨wr.heap.size, 0, none⟩ = some (.int .i64 x.op) ∧ w'.cell? ⟨g5, r0.length * 2, none⟩ = some (.int .i64 tk) ∧ w'.cell? ⟨g5, r0.length * 2 + 1, none⟩ = some (.string Tk) ∧ w'.cell? ⟨g5, r0.length * 2 + 2, none⟩ = some (.int .i64 tj) ∧ w'.cell? ⟨g5, r0.length * 2 + 2 + 1, none⟩ = some (.string Tj) ∧ Below (wr.heap.size + 1) V2 w')
            (first
              | exact ⟨s0, s1, s2, s3, s4, HDR⟩
              | exact ⟨s0, s1, s2, s3, s4, HRF⟩
              | (go_split_ands
                 with_reducible exact ⟨set2_keep (by assumption) hn0, set2_keep (by assumption) hng, set2_keep (by assumption) hng, set2_keep (by assumption) hng, set2_keep (by assumption) hng, set2_bel (by assumption) (Nat.le_refl _)⟩)
              | (go_split_ands
                 refine ⟨?_, ?_, ?_, ?_, ?_, ?_⟩
                 · exact sh_mono (by assumption) hb (Nat.le_refl _)
                 · exact sh_mono (by assumption) hb (Nat.le_refl _)
                 · exact sh_mono (by assumption) hb (Nat.le_refl _)
                 · exact sh_mono (by assumption) hb (Nat.le_refl _)
                 · exact sh_mono (by assumption) hb (Nat.le_refl _)
                 · exact Below.trans (by assumption) (hb.mono (HLT.out _ (by assumption))))
              | go_keep)
            (first | (go_at_call 80; ((with_reducible refine (HJN.out _ (by assumption)).mono ?_); rintro e' w2 ⟨rfl, hk2, hb⟩; have b0 := cell_of_row w2 (wr.heap.size + 1) 0 _ _ _ hk2; have b1 := cell_of_row w2 (wr.heap.size + 1) 1 _ _ _ hk2; have g0 := frozen_of_row w2 (wr.heap.size + 1) 0 _ _ hk2; have g1 := frozen_of_row w2 (wr.heap.size + 1) 1 _ _ hk2; simp at b0 b1)))
          clear hwn hws
          rename_i hh
          obtain ⟨-, -, -, -, -, hbl⟩ := hh
          have HK4 : Hid (Keeps (fun j => wr.heap.size ≤ j) wr ((w2.setCell ⟨wr.heap.size + 1, 0, none⟩ (.int .i64 TG)).setCell ⟨wr.heap.size + 1, 1, none⟩ (.string RT))) := Lib.hid (keeps_of HBW2.out hbl)
          have HQ := Lib.hid (set2_cells (x0 := .int .i64 TG) (x1 := .string RT) hk2)
          have hsz4 : w.heap.size ≤ ((w2.setCell ⟨wr.heap.size + 1, 0, none⟩ (.int .i64 TG)).setCell ⟨wr.heap.size + 1, 1, none⟩ (.string RT)).heap.size := Nat.le_trans HFS.out.bel.size HK4.out.size
          have q0 := HQ.out.1
          have q1 := HQ.out.2
          have own4 := fs_cut (r0 := r0) (t := [k, j]) HFS.out HK4.out rfl
          clear hbl
          go_wp2_with fail
          generalize ((w2.setCell ⟨wr.heap.size + 1, 0, none⟩ (.int .i64 TG)).setCell ⟨wr.heap.size + 1, 1, none⟩ (.string RT)) = W4 at *
          clear b0 b1 g0 g1 hk2 HQ
          go_region_law (refine step_at (v := .slice (some ⟨g5, 0, none⟩) r0.length c5) rfl _ _ 120 rfl 124 _ 2 24 Tryd.underlying120 infoPiece rfl (by decide) rfl own4 hsz4 [.int .i64 TG, .string RT] rfl (by simp [Value.oneCell']) rfl (by simp) (by decide) (by omega) ⟨1, rfl⟩ ?_; intro g6 cap6 W5 own5 keep5 where5; rw [← HPC.out] at own5; have H5 := Lib.hid (fs_push (r0 := r0) (v6 := .slice (some ⟨g5, 0, none⟩) r0.length c5) HFS.out HK4.out (fun j e => e) own5 keep5); clear own5 keep5 where5)
          go_wp2_with fail
          go_roundw
          case rel => exact ⟨_, _, _, _, _, _, i + 1, r0 ++ [.two k j i], _, rfl, rfl, rfl, rfl, rfl, rfl, by go_num, by omega, HRU, H5, Lib.hid (fun h => by simp at h), Lib.hid (HOK2.out HAO.out)⟩
          case measure => simp [intOf] <;> omega
      · have hie : i = l.length := by omega
        subst hie
        have hroot := Sh.root HF.out HRUN.out
        have HAN := Lib.hid (Sh.ans_ok HF.out (fun j hj => HOK.out j hj hj))
        subst hroot
        obtain ⟨g, c5, hv5, -, -, -, -⟩ := own_some HFS.out.row (by simp)
        subst hv5
        have hcl := fs_cell HFS.out 0 _ rfl
        have h1 : wr.cell? ⟨g, 1, none⟩ = some (.string (Sh.txB l (partAt l (l.length - 1)))) := hcl.2
        have HE := Lib.hid HFS.out.bel
        clear hcl HFS HRUN HNIL HOK
        generalize Sh.txB l (partAt l (l.length - 1)) = T at *
        go_wp2_with fail
        go_ret2
        exact ⟨by rw [HAN.out]; rfl, HE.out⟩
end Go.Proofs.YtbplkphjjfgkmaaDoor
