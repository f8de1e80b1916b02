/-
  token.Tokens, by a walk.
-/
import Derived.Test.YtbplkphjjfgkmaaDoorTokOne
import Derived.Test.YtbplkphjjfgkmaaDoorTxAt
import Derived.Test.YtbplkphjjfgkmaaDoorRec
namespace Go.Proofs.YtbplkphjjfgkmaaDoor
open Go.RowKit
set_option linter.unusedVariables false
set_option linter.unusedSimpArgs false

theorem Tk.Tok.cells_len (t : Tk.Tok) : t.cells.length = 5 := rfl
/-- What Tokens answers. -/
def TokensR (s : ByteArray) (w : World) (e : Ending) (w' : World) : Prop :=
  (∃ (N : Nat) (l : List Tk.Tok) (v : Value) (B : Nat), Ends s N ∧ N ≤ 16384 ∧ Tk.scan s N 0 false [] = .toks l ∧ l.length ≤ 4097 ∧ e = .returned (.tuple #[v, .agg #[.int .i64 0, .int .i64 0, .int .i64 0]]) ∧ w'.ownsRow B 42 5 v l.length (Rec.flat Tk.Tok.cells l) ∧ w.heap.size ≤ B ∧ Below w.heap.size w w') ∨
  (∃ (N : Nat) (er : Int) (li co : Nat), Ends s N ∧ N ≤ 16384 ∧ Tk.scan s N 0 false [] = .bad er li co ∧ er ≠ 0 ∧ e = .returned (.tuple #[.slice none 0 0, .agg #[.int .i64 er, .int .i64 li, .int .i64 co]]) ∧ Below w.heap.size w w') ∨
  ((∀ j, j ≤ 16384 → (Rn.st s j).p < s.size) ∧ e = .returned (.tuple #[.slice none 0 0, .agg #[.int .i64 3, .int .i64 0, .int .i64 0]]) ∧ Below w.heap.size w w')
/-- What lies in memory while tokens are gathered: the scanner, the list, the fault to be. -/
structure TA (w wr : World) (p : Nat) (ra : Option Addr) (rc g : Nat) (s : ByteArray) (N i B : Nat) (v : Value) (out : List Tk.Tok) : Prop where
  scn : Scn wr p ra rc g s N i
  own : wr.ownsRow B 42 5 v out.length (Rec.flat Tk.Tok.cells out)
  res : wr.heap[w.heap.size]? = some (.cells #[.int .i64 0, .int .i64 0, .int .i64 0] 35 (0, 0))
  below : Below w.heap.size w wr
  pl : w.heap.size < p
  pb : p < B
  bl : B ≤ wr.heap.size
section
variable {w wr wn : World} {p rc g N i j B : Nat} {ra : Option Addr} {s : ByteArray} {v : Value} {out : List Tk.Tok}
theorem below_keeps {a b : World} (h : Below a.heap.size a b) : Keeps (fun _ => False) a b := ⟨h.os, h.tape, h.output, h.size, fun k hk _ => h.block k hk⟩
theorem TA.move (h : TA w wr p ra rc g s N i B v out) (hs : Scn wn p ra rc g s N j) (hm : Moves p wr wn) : TA w wn p ra rc g s N j B v out :=
  ⟨hs, Keeps.own hm h.own (fun k hk e => by have := (h.own.lt k hk).1; have := h.pb; omega), keep_obj h.res hm (by have := h.pl; omega), h.below.trans (Keeps.below hm (fun k hk => by have := h.pl; omega) h.below.size), h.pl, h.pb, Nat.le_trans h.bl hm.size⟩
theorem TA.grow (h : TA w wr p ra rc g s N i B v out) (hb : Below wr.heap.size wr wn) : TA w wn p ra rc g s N i B v out :=
  ⟨h.scn.below hb, (below_keeps hb).own h.own (fun _ _ hf => hf), (hb.block _ (obj_lt h.res)).trans h.res, h.below.trans (hb.mono h.below.size), h.pl, h.pb, Nat.le_trans h.bl hb.size⟩
theorem TA.dn (h : TA w wr p ra rc g s N i B v out) (n : Nat) : TA w (wr.drewN n) p ra rc g s N i B v out := h.grow ⟨rfl, rfl, rfl, Nat.le_refl _, fun _ _ => rfl⟩
theorem TA.put (h : TA w wr p ra rc g s N i B v out) (k : Keeps (fun k => v.ownBlock = some k) wr wn) {v' : Value} {ys : List Tk.Tok} (ho : wn.ownsRow B 42 5 v' ys.length (Rec.flat Tk.Tok.cells ys)) (hg : 0 < N → g < B) : TA w wn p ra rc g s N i B v' ys := by
  have hne : ∀ b, b < B → ¬ v.ownBlock = some b := fun b hb e => by have := (h.own.lt b e).1; omega
  refine ⟨h.scn.keeps k (hne p h.pb) (fun h0 => hne g (hg h0)), ho, keep_obj h.res k (hne _ (by have := h.pl; have := h.pb; omega)), h.below.trans (k.below (fun b hb => by have := (h.own.lt b hb).1; have := h.pl; have := h.pb; omega) h.below.size), h.pl, h.pb, Nat.le_trans h.bl k.size⟩
/-- skip, where tokens are gathered. -/
theorem skip_ta (h : TA w wr p ra rc g s N i B v out) : Calls Tryd.prog 66 #[.pointer (some ⟨p, 0, none⟩)] wr fun e w' => ∃ j, i ≤ j ∧ TA w w' p ra rc g s N j B v out ∧
    ((e = .returned (.agg #[.int .i64 0, .int .i64 0, .int .i64 0]) ∧ (∀ out, Tk.scan s N i false out = Tk.scan s N j false out) ∧ (j < N → Tk.skipc (Tk.rn s N j) false = false)) ∨
     (e = .returned (.agg #[.int .i64 1, .int .i64 (Rn.st s j).l, .int .i64 (Rn.st s j).c]) ∧ ∀ out, Tk.scan s N i false out = .bad 1 (Rn.st s j).l (Rn.st s j).c)) :=
  (skip_any h.scn).mono fun e w' ⟨j, hij, hs, hm, hc⟩ => ⟨j, hij, h.move hs hm, hc⟩
theorem token_ta (h : TA w wr p ra rc g s N i B v out) (hi : i < N) (hn : NumIs w) : Calls Tryd.prog 68 #[.pointer (some ⟨p, 0, none⟩)] wr fun e w' =>
    ∃ (k m : Int) (x : ByteArray), e = .returned (.tuple #[.agg #[.int .i64 k, .string x, .int .i64 m, .int .i64 (Rn.st s i).l, .int .i64 (Rn.st s i).c], .int .i64 (Tk.one s N i).err]) ∧ Below w.heap.size w w' ∧ w'.heap[w.heap.size]? = some (.cells #[.int .i64 0, .int .i64 0, .int .i64 0] 35 (0, 0)) ∧
      ((Tk.one s N i).err = 0 → k = (Tk.one s N i).kind ∧ m = (Tk.one s N i).num ∧ x = Tk.txt s i (Tk.one s N i).fin ∧ TA w w' p ra rc g s N (Tk.one s N i).fin B v out) :=
  (token_any h.scn hi (fun W hm => hn.below (h.below.trans (Keeps.below hm (fun k hk => by have := h.pl; omega) h.below.size)))).mono fun e w' ⟨k, m, x, he, hm, hc⟩ =>
    ⟨k, m, x, he, h.below.trans (Keeps.below hm (fun k hk => by have := h.pl; omega) h.below.size), keep_obj h.res hm (by have := h.pl; omega), fun h0 => ⟨(hc h0).1, (hc h0).2.1, (hc h0).2.2.1, h.move (hc h0).2.2.2 hm⟩⟩
end
theorem infoTok : (Tryd.prog.info? 42).map (fun i => (i.zero, i.size, i.bytes)) = some (some (.agg #[.int .i64 0, .string { data := #[] }, .int .i64 0, .int .i64 0, .int .i64 0]), 5, 48) := by kernel_rfl
theorem infoFlt3 : (Tryd.prog.info? 35).map (·.size) = some 3 := by kernel_rfl
/-- Below the fault's block a store of it leaves all. -/
theorem flt_below {w wr wn : World} (h : Below w.heap.size w wr) (k : Keeps (fun k => k = w.heap.size) wr wn) : Below w.heap.size w wn := h.trans (k.below (fun b hb => by omega) h.size)
set_option maxRecDepth 1000000 in
set_option maxHeartbeats 16000000 in
theorem tokens_any (s : ByteArray) (w : World) (hs : s.size ≤ 1000000) (hn : NumIs w) : Calls Tryd.prog 25 #[.string s] w (TokensR s w) := by
  have HB1 : Hid (Below w.heap.size w (w.alloc (.cells #[.int .i64 0, .int .i64 0, .int .i64 0] 35))) := Lib.hid ((Below.refl _ _).alloc (Nat.le_refl _) _)
  have HQ : Hid (∀ w', Below (w.alloc (.cells #[.int .i64 0, .int .i64 0, .int .i64 0] 35)).heap.size (w.alloc (.cells #[.int .i64 0, .int .i64 0, .int .i64 0] 35)) w' → w'.heap[w.heap.size]? = some (.cells #[.int .i64 0, .int .i64 0, .int .i64 0] 35 (0, 0)) ∧ w.heap.size < w'.heap.size ∧ Below w.heap.size w w') := Lib.hid fun w' h =>
    ⟨(h.block _ (by simp)).trans (heap_alloc_new _ _), by have := h.size; simp at this; omega, HB1.out.trans (h.mono HB1.out.size)⟩
  have HRU := Lib.hid (runes_any s (w.alloc (.cells #[.int .i64 0, .int .i64 0, .int .i64 0] 35)) (by omega))
  have HN := Lib.hid hn
  clear hn HB1
  go_enter Tryd.func25, Tryd.ntmps25
  go_wp2_with fail
  refine HRU.out.mono ?_
  clear HRU
  rintro e w1 (⟨N, x, B0, hE, hN, rfl, hown, hB0, hb1⟩ | ⟨hall, rfl, hb1⟩)
  · obtain ⟨hq, hq2, hbw⟩ := HQ.out w1 hb1
    obtain ⟨ra, rc, hx⟩ := own_len hown
    subst hx
    obtain ⟨g, hg⟩ : ∃ g, N = 0 ∨ ra = some ⟨g, 0, none⟩ := by
      rcases hown.2 with ⟨e, h0⟩ | ⟨g, cap, cur, e, _⟩
      · exact ⟨0, Or.inl h0⟩
      · injection e with e _ _; exact ⟨g, Or.inr e⟩
    have hcell : ∀ j t, j < N → t < 5 → w1.cell? ⟨g, j * 5 + t, none⟩ = (Rn.cells s j)[t]? := fun j t hj ht => by
      rcases hg with h | h
      · omega
      · subst h
        have := hown.cellAt (j * 5 + t) (by omega)
        rw [this]
        exact all_at s N j t hj ht
    have hgl : 0 < N → g < w1.heap.size := fun h0 => by
      obtain ⟨v, hv⟩ : ∃ v, (Rn.cells s 0)[0]? = some v := ⟨_, rfl⟩
      have := hcell 0 0 h0 (by omega)
      rw [hv] at this
      exact lt_of_cell this
    have HTA : Hid (TA w (w1.alloc (.cells #[.string s, .slice ra N rc, .int .i64 0] 96)) w1.heap.size ra rc g s N 0 (w1.heap.size + 1) (.slice none 0 0) [] ∧ (0 < N → g < w1.heap.size + 1)) := Lib.hid ⟨⟨⟨heap_alloc_new _ _, hg, fun j t hj ht => by
      have h1 := hcell j t hj ht
      have h2 : ∃ v, (Rn.cells s j)[t]? = some v := ⟨_, List.getElem?_eq_getElem (by show t < 5; exact ht)⟩
      obtain ⟨v, hv⟩ := h2
      rw [hv] at h1 ⊢
      exact (((Below.refl w1.heap.size w1).alloc (Nat.le_refl _) _).cell (p := ⟨g, j * 5 + t, none⟩) (lt_of_cell h1)).trans h1, Nat.zero_le _, hN, hE, hs, fun h0 => by have := hgl h0; omega⟩,
      World.ownsRow_nil _ _ _ _, (Below.heap_alloc _ _ _ hq2).trans hq, hbw.alloc (by have := hbw.size; omega) _, hq2, by omega, by simp⟩, fun h0 => by have := hgl h0; omega⟩
    have HE := Lib.hid hE
    clear hE hown hb1 hq hq2 hbw hg hcell hgl HQ hB0
    go_wp2
    obtain ⟨p, hp⟩ : ∃ p, p = w1.heap.size := ⟨_, rfl⟩
    rw [← hp] at HTA
    generalize w1.alloc (.cells #[.string s, .slice ra N rc, .int .i64 0] 96) = w2 at *
    rw [← hp]
    clear hp
    go_loopg [7] (N + 1) (fun kx v7 wr => ∃ (i : Nat) (out : List Tk.Tok), N + 1 - i ≤ kx ∧ i ≤ N ∧ out.length ≤ 4096 ∧ Hid (Tk.scan s N 0 false [] = Tk.scan s N i false out) ∧ Hid (TA w wr p ra rc g s N i (p + 1) v7 out ∧ (0 < N → g < p + 1)))
    case atStart => exact ⟨0, [], by omega, Nat.zero_le _, by simp, Lib.hid rfl, HTA⟩
    case round =>
      obtain ⟨i, out, hkx, hiN, hol, HSC, HT⟩ := hrel
      obtain ⟨av, cv, hv⟩ := own_len HT.out.1.own
      subst hv
      have HSK := Lib.hid (skip_ta HT.out.1)
      go_wp2_with fail
      refine HSK.out.mono ?_
      rintro e w3 ⟨j, hij, ht3, hc⟩
      have HT3 : Hid (TA w w3 p ra rc g s N j (p + 1) (.slice av out.length cv) out ∧ (0 < N → g < p + 1)) := Lib.hid ⟨ht3, HT.out.2⟩
      clear ht3 HT HSK
      rcases hc with ⟨rfl, hsc, hns⟩ | ⟨rfl, hsc⟩
      · have HT4 : Hid (TA w (w3.alloc (.cells #[.int .i64 0, .int .i64 0, .int .i64 0] 35)) p ra rc g s N j (p + 1) (.slice av out.length cv) out ∧ (0 < N → g < p + 1)) := Lib.hid ⟨HT3.out.1.grow ((Below.refl _ _).alloc (Nat.le_refl _) _), HT3.out.2⟩
        have HSC2 : Hid (Tk.scan s N 0 false [] = Tk.scan s N j false out) := Lib.hid (HSC.out.trans (hsc out))
        have HNS := Lib.hid hns
        have c1 := HT4.out.1.scn.c1
        have c2 := HT4.out.1.scn.c2
        have hjN := HT4.out.1.scn.le
        clear hsc hns HSC HT3
        by_cases hlt : j < N
        · have heq : ((j : Int) == (N : Int)) = false := by simp; omega
          have HTO : Hid (∀ W, TA w W p ra rc g s N j (p + 1) (.slice av out.length cv) out → Calls Tryd.prog 68 #[.pointer (some ⟨p, 0, none⟩)] W fun e w' =>
            ∃ (k m : Int) (x : ByteArray), e = .returned (.tuple #[.agg #[.int .i64 k, .string x, .int .i64 m, .int .i64 (Rn.st s j).l, .int .i64 (Rn.st s j).c], .int .i64 (Tk.one s N j).err]) ∧ Below w.heap.size w w' ∧ w'.heap[w.heap.size]? = some (.cells #[.int .i64 0, .int .i64 0, .int .i64 0] 35 (0, 0)) ∧
              ((Tk.one s N j).err = 0 → k = (Tk.one s N j).kind ∧ m = (Tk.one s N j).num ∧ x = Tk.txt s j (Tk.one s N j).fin ∧ TA w w' p ra rc g s N (Tk.one s N j).fin (p + 1) (.slice av out.length cv) out)) := Lib.hid fun W h => token_ta h hlt HN.out
          have HBAD : Hid ((Tk.one s N j).err ≠ 0 → Tk.scan s N 0 false [] = .bad (Tk.one s N j).err (Rn.st s j).l (Rn.st s j).c) := Lib.hid fun h => HSC2.out.trans (Tk.scan_bad hlt (HNS.out hlt) h)
          have HLONG : Hid ((Tk.one s N j).err = 0 → out.length = 4096 → Tk.scan s N 0 false [] = .bad 3 (Rn.st s j).l (Rn.st s j).c) := Lib.hid fun h hl => HSC2.out.trans (Tk.scan_long hlt (HNS.out hlt) h hl)
          have HTOK : Hid ((Tk.one s N j).err = 0 → out.length ≠ 4096 → Tk.scan s N 0 false [] = Tk.scan s N (Tk.one s N j).fin false (out ++ [⟨(Tk.one s N j).kind, Tk.txt s j (Tk.one s N j).fin, (Tk.one s N j).num, (Rn.st s j).l, (Rn.st s j).c⟩]) ∧ j < (Tk.one s N j).fin ∧ (Tk.one s N j).fin ≤ N) := Lib.hid fun h hl => ⟨HSC2.out.trans (Tk.scan_tok hlt (HNS.out hlt) h hl), Tk.one_fin s N j hlt h⟩
          clear HSC2 HNS
          generalize (Rn.st s j).l = ll at *
          generalize (Rn.st s j).c = cc at *
          generalize (Tk.one s N j).err = er at *
          generalize (Tk.one s N j).kind = ki at *
          generalize (Tk.one s N j).num = nu at *
          go_wp2
          go_quiet (fail)
          go_wp2_with fail
          refine (HTO.out _ (HT4.out.1.dn _)).mono ?_
          rintro e w5 ⟨k, m, x, rfl, hb5, hq5, hc5⟩
          have hq6 : (w5.alloc (.cells #[.int .i64 k, .string x, .int .i64 m, .int .i64 ll, .int .i64 cc] 42)).heap[w.heap.size]? = some (.cells #[.int .i64 0, .int .i64 0, .int .i64 0] 35 (0, 0)) := (Below.heap_alloc _ _ _ (obj_lt hq5)).trans hq5
          have HB6 : Hid (Below w.heap.size w (w5.alloc (.cells #[.int .i64 k, .string x, .int .i64 m, .int .i64 ll, .int .i64 cc] 42))) := Lib.hid (hb5.alloc hb5.size _)
          clear HTO c1 c2 hb5 hq5
          by_cases her : er = 0
          · obtain ⟨rfl, rfl, hx, ht5⟩ := hc5 her
            have HT6 : Hid (TA w (w5.alloc (.cells #[.int .i64 k, .string x, .int .i64 m, .int .i64 ll, .int .i64 cc] 42)) p ra rc g s N (Tk.one s N j).fin (p + 1) (.slice av out.length cv) out) := Lib.hid (ht5.grow ((Below.refl _ _).alloc (Nat.le_refl _) _))
            have hee : (er == 0) = true := by simpa using her
            by_cases hl : out.length = 4096
            · have HF := Lib.hid (HLONG.out her hl)
              have hll : ((out.length : Int) == 4096) = true := by simp; omega
              clear HBAD HTOK HLONG hc5 ht5 HT6 hx
              have r0 := cell_of_row (w5.alloc (.cells #[.int .i64 k, .string x, .int .i64 m, .int .i64 ll, .int .i64 cc] 42)) w.heap.size 0 _ _ _ hq6
              have e0 := frozen_of_row (w5.alloc (.cells #[.int .i64 k, .string x, .int .i64 m, .int .i64 ll, .int .i64 cc] 42)) w.heap.size 0 _ _ hq6
              have r1 := cell_of_row (w5.alloc (.cells #[.int .i64 k, .string x, .int .i64 m, .int .i64 ll, .int .i64 cc] 42)) w.heap.size 1 _ _ _ hq6
              have e1 := frozen_of_row (w5.alloc (.cells #[.int .i64 k, .string x, .int .i64 m, .int .i64 ll, .int .i64 cc] 42)) w.heap.size 1 _ _ hq6
              have r2 := cell_of_row (w5.alloc (.cells #[.int .i64 k, .string x, .int .i64 m, .int .i64 ll, .int .i64 cc] 42)) w.heap.size 2 _ _ _ hq6
              have e2 := frozen_of_row (w5.alloc (.cells #[.int .i64 k, .string x, .int .i64 m, .int .i64 ll, .int .i64 cc] 42)) w.heap.size 2 _ _ hq6
              simp at r0 r1 r2
              have hz : w.heap.size < (w5.alloc (.cells #[.int .i64 k, .string x, .int .i64 m, .int .i64 ll, .int .i64 cc] 42)).heap.size := obj_lt hq6
              clear hq6
              go_wp2
              go_region
              all_goals
                go_wp2
                refine bodyPost_ret (v := .tuple #[.slice none 0 0, .agg #[.int .i64 3, .int .i64 ll, .int .i64 cc]]) (by simp [results, Tryd.results25, go_sem, r0, r1, r2, hz, World.cell?_setCell_other]) rfl (Or.inr (Or.inl ⟨N, 3, ll, cc, HE.out, hN, HF.out, by decide, rfl, ?_⟩))
                repeat (first | exact HB6.out | refine Below.setCell ?_ (by simp) _ | refine Below.drew ?_)
            · obtain ⟨hsc, hf1, hf2⟩ := HTOK.out her hl
              rw [← hx] at hsc
              have HSC3 := Lib.hid hsc
              have hll : ((out.length : Int) == 4096) = false := by simp; omega
              have hHT := HT4.out.2
              have HG := Lib.hid hHT
              have hfl : Rec.flat Tk.Tok.cells (out ++ [⟨k, x, m, ll, cc⟩]) = Rec.flat Tk.Tok.cells out ++ [.int .i64 k, .string x, .int .i64 m, .int .i64 ll, .int .i64 cc] := Rec.flat_snoc _ _ _
              have HFL := Lib.hid hfl
              clear HBAD HTOK HLONG hc5 ht5 hx hsc hq6 hHT hfl HT4
              go_wp2_with (at_builtin; refine append_at (v := .slice av out.length cv) rfl _ _ 30 rfl 42 (.agg #[.int .i64 0, .string { data := #[] }, .int .i64 0, .int .i64 0, .int .i64 0]) 5 48 Tryd.underlying30 infoTok rfl (by decide) rfl HT6.out.own HT6.out.bl _ rfl (by simp [Value.oneCell']) rfl (by simp) (by decide) (by omega) ?_; intro g7 cap7 w7 own7 keep7 _; have HT7 : Hid (TA w w7 p ra rc g s N (Tk.one s N j).fin (p + 1) (.slice (some ⟨g7, 0, none⟩) (out.length + 1) cap7) (out ++ [⟨k, x, m, ll, cc⟩])) := Lib.hid (HT6.out.put keep7 (by rw [HFL.out]; simpa using own7) HG.out); clear own7 keep7)
              go_roundg (N + 1 - (Tk.one s N j).fin)
              case measure => omega
              case rel => exact ⟨(Tk.one s N j).fin, out ++ [⟨k, x, m, ll, cc⟩], Nat.le_refl _, hf2, by simp; omega, HSC3, Lib.hid ⟨HT7.out, HG.out⟩⟩
          · have HF := Lib.hid (HBAD.out her)
            have hee : (er == 0) = false := by simpa using her
            clear HBAD HTOK HLONG hc5
            have r0 := cell_of_row (w5.alloc (.cells #[.int .i64 k, .string x, .int .i64 m, .int .i64 ll, .int .i64 cc] 42)) w.heap.size 0 _ _ _ hq6
            have e0 := frozen_of_row (w5.alloc (.cells #[.int .i64 k, .string x, .int .i64 m, .int .i64 ll, .int .i64 cc] 42)) w.heap.size 0 _ _ hq6
            have r1 := cell_of_row (w5.alloc (.cells #[.int .i64 k, .string x, .int .i64 m, .int .i64 ll, .int .i64 cc] 42)) w.heap.size 1 _ _ _ hq6
            have e1 := frozen_of_row (w5.alloc (.cells #[.int .i64 k, .string x, .int .i64 m, .int .i64 ll, .int .i64 cc] 42)) w.heap.size 1 _ _ hq6
            have r2 := cell_of_row (w5.alloc (.cells #[.int .i64 k, .string x, .int .i64 m, .int .i64 ll, .int .i64 cc] 42)) w.heap.size 2 _ _ _ hq6
            have e2 := frozen_of_row (w5.alloc (.cells #[.int .i64 k, .string x, .int .i64 m, .int .i64 ll, .int .i64 cc] 42)) w.heap.size 2 _ _ hq6
            simp at r0 r1 r2
            have hz : w.heap.size < (w5.alloc (.cells #[.int .i64 k, .string x, .int .i64 m, .int .i64 ll, .int .i64 cc] 42)).heap.size := obj_lt hq6
            clear hq6
            go_wp2
            go_region
            all_goals
              go_wp2
              refine bodyPost_ret (v := .tuple #[.slice none 0 0, .agg #[.int .i64 er, .int .i64 ll, .int .i64 cc]]) (by simp [results, Tryd.results25, go_sem, r0, r1, r2, hz, World.cell?_setCell_other]) rfl (Or.inr (Or.inl ⟨N, er, ll, cc, HE.out, hN, HF.out, her, rfl, ?_⟩))
              repeat (first | exact HB6.out | refine Below.setCell ?_ (by simp) _ | refine Below.drew ?_)
        · obtain rfl : j = N := by omega
          have heq : ((j : Int) == (j : Int)) = true := by simp
          have HF : Hid (Tk.scan s j 0 false [] = .toks (out ++ [⟨5, ByteArray.empty, 0, (Rn.st s j).l, (Rn.st s j).c⟩])) := Lib.hid (HSC2.out.trans (Tk.scan_end hlt))
          have HAT := Lib.hid (fun W => at_any s s.size W (by omega))
          clear HSC2 HNS
          go_wp2
          go_quiet (fail)
          go_wp2_with fail
          refine (HAT.out _).mono ?_
          rintro e w5 ⟨k, hk, rfl, hb5⟩
          have hkk : k = j := ends_unique (s := s) ⟨fun i hi => (hk.1 i hi).1, by rcases hk.2 with ⟨h1, h2⟩ | h2 <;> omega⟩ HE.out
          subst hkk
          have HT5 : Hid (TA w w5 p ra rc g s k k (p + 1) (.slice av out.length cv) out) := Lib.hid ((HT4.out.1.dn _).grow hb5)
          have HG := Lib.hid HT4.out.2
          have hfl : Rec.flat Tk.Tok.cells (out ++ [⟨5, ByteArray.empty, 0, (Rn.st s k).l, (Rn.st s k).c⟩]) = Rec.flat Tk.Tok.cells out ++ [.int .i64 5, .string { data := #[] }, .int .i64 0, .int .i64 (Rn.st s k).l, .int .i64 (Rn.st s k).c] := Rec.flat_snoc _ _ _
          have HFL := Lib.hid hfl
          clear hk hb5 HAT HT4 hfl c1 c2
          generalize (Rn.st s k).l = ll at *
          generalize (Rn.st s k).c = cc at *
          go_wp2_with (first | (at_builtin; refine append_at (v := .slice av out.length cv) rfl _ _ 30 rfl 42 (.agg #[.int .i64 0, .string { data := #[] }, .int .i64 0, .int .i64 0, .int .i64 0]) 5 48 Tryd.underlying30 infoTok rfl (by decide) rfl HT5.out.own HT5.out.bl _ rfl (by simp [Value.oneCell']) rfl (by simp) (by decide) (by omega) ?_; intro g7 cap7 w7 own7 keep7 _; have HT7 : Hid (TA w w7 p ra rc g s k k (p + 1) (.slice (some ⟨g7, 0, none⟩) (out.length + 1) cap7) (out ++ [⟨5, ByteArray.empty, 0, ll, cc⟩])) := Lib.hid (HT5.out.put keep7 (by rw [HFL.out]; simpa using own7) HG.out); clear own7 keep7) | (refine st_rowTo rfl 35 _ _ rfl rfl w.heap.size #[.int .i64 0, .int .i64 0, .int .i64 0] rfl rfl 35 _ HT7.out.res infoFlt3 rfl (by simp [Value.oneCell']) ?_; intro w9 hr9 hk9))
          refine bodyPost_ret (v := .tuple #[.slice (some ⟨g7, 0, none⟩) (out.length + 1) cap7, .agg #[.int .i64 0, .int .i64 0, .int .i64 0]]) (by simp [results, Tryd.results25, asAddr, run_loadVar_row _ _ _ _ _ _ _ hr9 Tryd.underlying35 rfl infoFlt3]) rfl (Or.inl ⟨k, out ++ [⟨5, ByteArray.empty, 0, ll, cc⟩], _, p + 1, HE.out, hN, HF.out, by simp; omega, rfl, ?_, by have := HT7.out.pl; omega, flt_below HT7.out.below hk9⟩)
          have := hk9.own HT7.out.own (fun b hb e => by have := (HT7.out.own.lt b hb).1; have := HT7.out.pl; omega)
          simpa using this
      · have HF : Hid (Tk.scan s N 0 false [] = .bad 1 (Rn.st s j).l (Rn.st s j).c) := Lib.hid (HSC.out.trans (hsc out))
        have hq6 : (w3.alloc (.cells #[.int .i64 1, .int .i64 (Rn.st s j).l, .int .i64 (Rn.st s j).c] 35)).heap[w.heap.size]? = some (.cells #[.int .i64 0, .int .i64 0, .int .i64 0] 35 (0, 0)) := (Below.heap_alloc _ _ _ (obj_lt HT3.out.1.res)).trans HT3.out.1.res
        have HB6 : Hid (Below w.heap.size w (w3.alloc (.cells #[.int .i64 1, .int .i64 (Rn.st s j).l, .int .i64 (Rn.st s j).c] 35))) := Lib.hid (HT3.out.1.below.alloc HT3.out.1.below.size _)
        clear hsc HSC HT3
        generalize (Rn.st s j).l = ll at *
        generalize (Rn.st s j).c = cc at *
        have r0 := cell_of_row (w3.alloc (.cells #[.int .i64 1, .int .i64 ll, .int .i64 cc] 35)) w.heap.size 0 _ _ _ hq6
        have e0 := frozen_of_row (w3.alloc (.cells #[.int .i64 1, .int .i64 ll, .int .i64 cc] 35)) w.heap.size 0 _ _ hq6
        have r1 := cell_of_row (w3.alloc (.cells #[.int .i64 1, .int .i64 ll, .int .i64 cc] 35)) w.heap.size 1 _ _ _ hq6
        have e1 := frozen_of_row (w3.alloc (.cells #[.int .i64 1, .int .i64 ll, .int .i64 cc] 35)) w.heap.size 1 _ _ hq6
        have r2 := cell_of_row (w3.alloc (.cells #[.int .i64 1, .int .i64 ll, .int .i64 cc] 35)) w.heap.size 2 _ _ _ hq6
        have e2 := frozen_of_row (w3.alloc (.cells #[.int .i64 1, .int .i64 ll, .int .i64 cc] 35)) w.heap.size 2 _ _ hq6
        simp at r0 r1 r2
        have hz : w.heap.size < (w3.alloc (.cells #[.int .i64 1, .int .i64 ll, .int .i64 cc] 35)).heap.size := obj_lt hq6
        clear hq6
        go_wp2
        go_region
        all_goals
          go_wp2
          refine bodyPost_ret (v := .tuple #[.slice none 0 0, .agg #[.int .i64 1, .int .i64 ll, .int .i64 cc]]) (by simp [results, Tryd.results25, go_sem, r0, r1, r2, hz, World.cell?_setCell_other]) rfl (Or.inr (Or.inl ⟨N, 1, ll, cc, HE.out, hN, HF.out, by decide, rfl, ?_⟩))
          repeat (first | exact HB6.out | refine Below.setCell ?_ (by simp) _ | refine Below.drew ?_)
  · obtain ⟨hq, hq2, hbw⟩ := HQ.out w1 hb1
    have HALL := Lib.hid hall
    have HB6 := Lib.hid hbw
    have HQ6 := Lib.hid hq
    clear hall hb1 hq hq2 hbw HQ
    go_wp2_with (refine st_rowTo rfl 35 _ _ rfl rfl w.heap.size #[.int .i64 3, .int .i64 0, .int .i64 0] rfl rfl 35 _ HQ6.out infoFlt3 rfl (by simp [Value.oneCell']) ?_; intro w9 hr9 hk9)
    refine bodyPost_ret (v := .tuple #[.slice none 0 0, .agg #[.int .i64 3, .int .i64 0, .int .i64 0]]) (by simp [results, Tryd.results25, asAddr, run_loadVar_row _ _ _ _ _ _ _ hr9 Tryd.underlying35 rfl infoFlt3]) rfl (Or.inr (Or.inr ⟨HALL.out, rfl, flt_below HB6.out hk9⟩))
end Go.Proofs.YtbplkphjjfgkmaaDoor
