/-
  What is put of formulas, in plain words; formulas that came in.
-/
import Derived.Test.YtpbgicfoopicbaaTreeNests
import Derived.Test.YtpbgicfoopicbaaApp
namespace Go.Proofs.Ytpbgicfoopicbaa
open Go.RowKit
set_option linter.unusedVariables false
set_option linter.unusedSimpArgs false

/-- A list of items that came in, with where it lies. -/
structure Kd where
  l : List It
  a : Option Addr
  c : Nat
def Kd.cell (k : Kd) : Value := .slice k.a k.l.length k.c
structure RdK (w : World) (a : Option Addr) (ks : List Kd) : Prop where
  row : Reads w a (ks.map Kd.cell)
  each : ∀ k ∈ ks, RdI w k.a k.l ∧ k.l.length ≤ maxLen
theorem RdK.mono {w w' : World} {B : Nat} {a : Option Addr} {ks : List Kd} (h : RdK w a ks) (hb : Below B w w') (hB : w.heap.size ≤ B) : RdK w' a ks :=
  ⟨h.row.mono hb hB, fun k hk => ⟨(h.each k hk).1.mono hb hB, (h.each k hk).2⟩⟩
theorem RdK.at {w : World} {a : Option Addr} {ks : List Kd} (h : RdK w a ks) (hp : 0 < ks.length) :
    ∃ b off, a = some ⟨b, off, none⟩ ∧ ∀ i (hi : i < ks.length), w.cell? ⟨b, off + i, none⟩ = some (.slice ks[i].a ks[i].l.length ks[i].c) := by
  obtain ⟨b, off, rfl, hc⟩ := Reads.at h.row (by simpa using hp)
  refine ⟨b, off, rfl, fun i hi => ?_⟩
  rw [hc i (by simpa using hi)]
  simp [hi, Kd.cell]
theorem cells1sl : Try.prog.cellsOf 22 = 1 := by kernel_rfl
theorem flat_one (ks : List Kd) : Rec.flat (fun k => [Kd.cell k]) ks = ks.map Kd.cell := by
  unfold Rec.flat
  induction ks with
  | nil => rfl
  | cons x ks ih => rw [List.flatMap_cons, ih]; rfl
theorem open_kids {H : Type} {enc : TypeId × Value → H} {w : World} {a : Option Addr} {len cap : Nat} {d : DataW H} {ps : List MemPlace} (h : DataW.Trod enc Try.prog w 0 (fun _ => true) true 34 (.slice a len cap) d ps) :
    ∃ ks : List Kd, ks.length = len ∧ RdK w a ks ∧ True ∧ ks.length ≤ maxLen := by
  obtain ⟨ks, h1, h2, h3, h4⟩ := open_recs (k := 1) (fun k => [Kd.cell k]) (fun k => RdI w k.a k.l ∧ k.l.length ≤ maxLen) (fun _ => rfl) Try.underlying34 cells1sl (by omega) (fun fuel cs y hy => by
    have hform : ∃ a l c, cs = (Value.slice a l c).cells.toList := by
      rcases DataW.trod_slice Try.underlying22 hy with ⟨hcs, _⟩ | ⟨x, l, c, _, _, _, _, hcs, _⟩
      · exact ⟨_, _, _, hcs⟩
      · exact ⟨_, _, _, hcs⟩
    obtain ⟨a, l, c, rfl⟩ := hform
    obtain ⟨xs, e1, e2, _, e3⟩ := open_items (len := l) (cap := c) (a := a) (d := y.1) (ps := y.2) ⟨fuel, hy⟩
    subst e1
    exact ⟨⟨xs, a, c⟩, rfl, e2, e3⟩) h
  rw [flat_one] at h2
  exact ⟨ks, h1, ⟨h2, h3⟩, trivial, h4⟩
/-- The first so many, one behind the other. -/
def catTo (ks : List Kd) (k : Nat) : List It := ((ks.take k).map Kd.l).flatten
theorem catTo_zero (ks : List Kd) : catTo ks 0 = [] := by simp [catTo]
theorem catTo_succ {ks : List Kd} {k : Nat} (hk : k < ks.length) : catTo ks (k + 1) = catTo ks k ++ ks[k].l := by
  unfold catTo
  rw [List.take_succ_eq_append_getElem hk, List.map_append, List.flatten_append]
  simp only [List.map_cons, List.map_nil, List.flatten_cons, List.flatten_nil, List.append_nil]
theorem catTo_le {ks : List Kd} (hs : ∀ k ∈ ks, k.l.length ≤ 100) : ∀ k, k ≤ ks.length → (catTo ks k).length ≤ k * 100
  | 0, _ => by rw [catTo_zero]; simp
  | k + 1, hk => by
    have h1 := catTo_le hs k (by omega)
    have h2 := hs ks[k] (List.getElem_mem (by omega))
    rw [catTo_succ (by omega), List.length_append]
    omega
/-- Are the first so many formulas? -/
def fmTo (ks : List Kd) (k : Nat) : Bool := (ks.take k).all (fun x => fm x.l)
theorem fmTo_succ {ks : List Kd} {k : Nat} (hk : k < ks.length) : fmTo ks (k + 1) = (fmTo ks k && fm ks[k].l) := by
  unfold fmTo
  rw [List.take_succ_eq_append_getElem hk, List.all_append, List.all_cons, List.all_nil, Bool.and_true]
theorem fmTo_no {ks : List Kd} {k : Nat} (hk : k < ks.length) (h : fm ks[k].l = false) : fmTo ks ks.length = false := by
  unfold fmTo
  rw [List.take_length, List.all_eq_false]
  exact ⟨ks[k], List.getElem_mem hk, by rw [h]; decide⟩
/-- May it be put of them? -/
def mayTo (op : Int) (ks : List Kd) (k : Nat) : Bool := (Tr.ar op == (ks.length : Int)) && fmTo ks k
def puts (op : Int) (ks : List Kd) : Bool := mayTo op ks ks.length && decide ((catTo ks ks.length).length < 64)
def putL (op : Int) (ks : List Kd) : List It := catTo ks ks.length ++ [it0 op]
theorem putL_len (op : Int) (ks : List Kd) : (putL op ks).length = (catTo ks ks.length).length + 1 := by unfold putL; simp
/-- A part of a piece is one of the whole list. -/
theorem span_up {l l2 : List Int} {s e : Nat} {p : Tr.Pt} (h : Tr.Span l s e p) (d : Nat) : (∀ i, i ≤ e → l2.getD (i + d) 0 = l.getD i 0 ∧ i + d < l2.length) → ∃ p', Tr.Span l2 (s + d) (e + d) p' := by
  induction h with
  | leaf i h1 h2 =>
    intro hl
    have h3 := hl i (Nat.le_refl _)
    exact ⟨_, .leaf (i + d) h3.2 (by rw [h3.1]; exact h2)⟩
  | one s1 e1 k h1 h2 h3 ih =>
    intro hl
    have h5 := hl (e1 + 1) (Nat.le_refl _)
    obtain ⟨p', hp'⟩ := ih (fun i hi => hl i (by omega))
    rw [show e1 + 1 + d = (e1 + d) + 1 by omega] at h5 ⊢
    exact ⟨_, .one (s1 + d) (e1 + d) p' h5.2 (by rw [h5.1]; exact h2) hp'⟩
  | two s1 m1 e1 a b h1 h2 h3 h4 ih1 ih2 =>
    intro hl
    have h6 := h3.le
    have h7 := h4.le
    have h5 := hl (e1 + 1) (Nat.le_refl _)
    obtain ⟨p1, hp1⟩ := ih1 (fun i hi => hl i (by omega))
    obtain ⟨p2, hp2⟩ := ih2 (fun i hi => hl i (by omega))
    rw [show e1 + 1 + d = (e1 + d) + 1 by omega] at h5 ⊢
    rw [show m1 + 1 + d = (m1 + d) + 1 by omega] at hp2
    exact ⟨_, .two (s1 + d) (m1 + d) (e1 + d) p1 p2 h5.2 (by rw [h5.1]; exact h2) hp1 hp2⟩
theorem span_whole {l : List It} (hf : fm l = true) : ∃ p, Tr.Span (opsOf l) 0 (l.length - 1) p := by
  have h1 := (fm_yes hf).1
  obtain ⟨s, h2, h3, h4⟩ := start_in hf (show l.length - 1 < l.length by omega)
  have h5 := start_all hf
  rw [show ((l.length : Int) - 1) = ((l.length - 1 : Nat) : Int) by omega] at h5
  obtain rfl : s = 0 := by omega
  exact ⟨_, h4⟩
theorem fm_of_span {l : List It} {p : Tr.Pt} (h0 : 0 < l.length) (h64 : l.length ≤ 64) (h : Tr.Span (opsOf l) 0 (l.length - 1) p) : fm l = true := by
  have hb := h.begin
  unfold fm
  rw [decide_eq_true h0, decide_eq_true h64]
  show (true && true && Tr.okF _) = true
  unfold Tr.okF
  rw [opsOf_len]
  rw [show l.length - 1 + 1 = l.length by omega] at hb
  rw [hb]
  rfl
theorem opsOf_append (l m : List It) : opsOf (l ++ m) = opsOf l ++ opsOf m := by unfold opsOf; simp
theorem getD_left {l m : List Int} {i : Nat} (h : i < l.length) : (l ++ m).getD i 0 = l.getD i 0 := by
  rw [List.getD_eq_getElem?_getD, List.getD_eq_getElem?_getD, List.getElem?_append_left h]
theorem getD_right {l m : List Int} {i : Nat} : (l ++ m).getD (i + l.length) 0 = m.getD i 0 := by
  rw [List.getD_eq_getElem?_getD, List.getD_eq_getElem?_getD, List.getElem?_append_right (by omega), Nat.add_sub_cancel]
/-- The last items of the first so many. -/
def ends (ks : List Kd) : List Int := (List.range ks.length).map (fun i => ((catTo ks (i + 1)).length : Int) - 1)
theorem ends_at {ks : List Kd} {i : Nat} (h : i < ks.length) : (ends ks)[i]? = some (((catTo ks (i + 1)).length : Int) - 1) := by
  unfold ends
  simp [h]
theorem ends_len (ks : List Kd) : (ends ks).length = ks.length := by unfold ends; simp
theorem put_kids {op : Int} {ks : List Kd} (h : puts op ks = true) : kidsOf (putL op ks) ((catTo ks ks.length).length : Int) = ends ks := by
  unfold puts mayTo at h
  simp only [Bool.and_eq_true, beq_iff_eq, decide_eq_true_eq] at h
  obtain ⟨⟨har, hall⟩, hlen⟩ := h
  have hbd := Tr.ar_bd op
  have hops : opsOf (putL op ks) = opsOf (catTo ks ks.length) ++ [op] := by unfold putL; rw [opsOf_append]; rfl
  have hlast : (opsOf (putL op ks)).getD (catTo ks ks.length).length 0 = op := by
    rw [hops]
    have := getD_right (l := opsOf (catTo ks ks.length)) (m := [op]) (i := 0)
    rw [Nat.zero_add, opsOf_len] at this
    rw [this]; rfl
  have hL : (opsOf (putL op ks)).length = (catTo ks ks.length).length + 1 := by rw [opsOf_len, putL_len]
  have fin : ∀ p, Tr.Span (opsOf (putL op ks)) 0 (catTo ks ks.length).length p → fm (putL op ks) = true := fun p hp => by
    refine fm_of_span (p := p) (by rw [putL_len]; omega) (by rw [putL_len]; omega) ?_
    rw [putL_len, Nat.add_sub_cancel]
    exact hp
  match ks, har, hall, hlen, hops, hlast, hL, fin with
  | [], har, hall, hlen, hops, hlast, hL, fin =>
    have h0 : Tr.ar op = 0 := by simpa using har
    have hc : (catTo ([] : List Kd) ([] : List Kd).length).length = 0 := rfl
    rw [hc] at hlast hL fin ⊢
    have hf := fin _ (.leaf 0 (by omega) (by rw [hlast]; exact h0))
    unfold kidsOf
    rw [if_pos ⟨hf, by omega, by rw [putL_len, hc]; omega⟩, show ((0 : Nat) : Int).toNat = 0 by rfl, hlast, if_pos h0]
    rfl
  | [x], har, hall, hlen, hops, hlast, hL, fin =>
    have h1 : Tr.ar op = 1 := by simpa using har
    have hx : fm x.l = true := by simpa [fmTo] using hall
    have hc : catTo [x] [x].length = x.l := by simp [catTo]
    rw [hc] at hops hlast hL fin hlen ⊢
    obtain ⟨p, hp⟩ := span_whole hx
    have hx0 := (fm_yes hx).1
    obtain ⟨p', hp'⟩ := span_up (l2 := opsOf (putL op [x])) hp 0 (fun i hi => ⟨by rw [hops, Nat.add_zero, getD_left (by rw [opsOf_len]; omega)], by omega⟩)
    rw [Nat.add_zero, Nat.add_zero] at hp'
    obtain ⟨n, hn⟩ : ∃ n, x.l.length = n + 1 := ⟨x.l.length - 1, by omega⟩
    rw [hn] at hlast hL fin hp'
    rw [Nat.add_sub_cancel] at hp'
    have hf := fin _ (.one 0 n p' (by omega) (by rw [hlast]; exact h1) hp')
    unfold kidsOf
    rw [if_pos ⟨hf, by omega, by rw [putL_len, hc]; omega⟩, Int.toNat_natCast, hn, hlast, if_neg (by omega), if_pos h1]
    unfold ends
    simp [catTo, hn]
  | [x, y], har, hall, hlen, hops, hlast, hL, fin =>
    have h2 : Tr.ar op = 2 := by simpa using har
    have hxy : fm x.l = true ∧ fm y.l = true := by simpa [fmTo] using hall
    have hc : catTo [x, y] [x, y].length = x.l ++ y.l := by simp [catTo]
    rw [hc] at hops hlast hL fin hlen ⊢
    rw [opsOf_append] at hops
    rw [List.length_append] at hlast hL fin hlen ⊢
    obtain ⟨p, hp⟩ := span_whole hxy.1
    obtain ⟨q, hq⟩ := span_whole hxy.2
    have hx0 := (fm_yes hxy.1).1
    have hy0 := (fm_yes hxy.2).1
    obtain ⟨p', hp'⟩ := span_up (l2 := opsOf (putL op [x, y])) hp 0 (fun i hi => ⟨by rw [hops, Nat.add_zero, List.append_assoc, getD_left (by rw [opsOf_len]; omega)], by omega⟩)
    obtain ⟨q', hq'⟩ := span_up (l2 := opsOf (putL op [x, y])) hq x.l.length (fun i hi => ⟨by
      rw [hops, List.append_assoc]
      have h3 := getD_right (l := opsOf x.l) (m := opsOf y.l ++ [op]) (i := i)
      rw [opsOf_len] at h3
      rw [h3, getD_left (by rw [opsOf_len]; omega)], by omega⟩)
    rw [Nat.add_zero, Nat.add_zero] at hp'
    rw [Nat.zero_add] at hq'
    have hbg := hq'.begin
    obtain ⟨n, hn⟩ : ∃ n, x.l.length = n + 1 := ⟨x.l.length - 1, by omega⟩
    obtain ⟨m, hm⟩ : ∃ m, y.l.length = m + 1 := ⟨y.l.length - 1, by omega⟩
    rw [hn, hm] at hlast hL fin hq' hbg
    rw [hn] at hp'
    rw [Nat.add_sub_cancel] at hp' hq' hbg
    rw [show n + 1 + (m + 1) = m + (n + 1) + 1 by omega] at hlast hL fin
    have hf := fin _ (.two 0 n (m + (n + 1)) p' q' (by omega) (by rw [hlast]; exact h2) hp' hq')
    unfold kidsOf
    rw [if_pos ⟨hf, by omega, by rw [putL_len, hc, List.length_append]; omega⟩, Int.toNat_natCast, hn, hm, show n + 1 + (m + 1) = m + (n + 1) + 1 by omega, hlast, if_neg (by omega), if_neg (by omega), hbg]
    have he : ends [x, y] = [(x.l.length : Int) - 1, ((x.l.length + y.l.length : Nat) : Int) - 1] := by simp [ends, catTo, List.range_succ]
    rw [he, hn, hm, show n + 1 + (m + 1) = m + (n + 1) + 1 by omega]
  | x :: y :: z :: ks, har, hall, hlen, hops, hlast, hL, fin =>
    simp only [List.length_cons] at har
    omega
end Go.Proofs.Ytpbgicfoopicbaa
