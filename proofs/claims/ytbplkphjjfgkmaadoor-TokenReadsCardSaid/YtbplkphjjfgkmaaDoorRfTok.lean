/-
  The document's Tokens, by a walk.
-/
import Derived.Test.YtbplkphjjfgkmaaDoorRfOne
import Derived.Test.YtbplkphjjfgkmaaDoorRfSame
namespace Go.Proofs.YtbplkphjjfgkmaaDoor
open Go.RowKit
set_option linter.unusedVariables false
set_option linter.unusedSimpArgs false

theorem Tk.one_bad {s : ByteArray} {N i : Nat} (h : Tk.rn s N i = -1) : (Tk.one s N i).err = 1 := by
  unfold Tk.one
  rw [h]
  rw [if_neg (by decide), if_neg (by rw [show Tk.dg (-1) = false from rfl]; simp)]
  rfl
/-- What the document's Tokens answers. -/
def RTokensR (s : ByteArray) (w : World) (e : Ending) (w' : World) : Prop :=
  (∃ (N : Nat) (l : List Tk.Tok) (v : Value) (B : Nat), Ends s N ∧ N ≤ 16384 ∧ Tk.scan s N 0 false [] = .toks l ∧ l.length ≤ 4097 ∧ e = .returned (.tuple #[v, .agg #[.int .i64 0, .int .i64 0, .int .i64 0]]) ∧ w'.ownsRow B 42 5 v l.length (Rec.flat Tk.Tok.cells l) ∧ w.heap.size ≤ B ∧ Below w.heap.size w w') ∨
  (∃ (N : Nat) (er : Int) (li co : Nat), Ends s N ∧ N ≤ 16384 ∧ Tk.scan s N 0 false [] = .bad er li co ∧ er ≠ 0 ∧ e = .returned (.tuple #[.slice none 0 0, .agg #[.int .i64 er, .int .i64 li, .int .i64 co]]) ∧ Below w.heap.size w w') ∨
  (∃ N, Ends s N ∧ 16384 < N ∧ e = .returned (.tuple #[.slice none 0 0, .agg #[.int .i64 3, .int .i64 0, .int .i64 0]]) ∧ Below w.heap.size w w')
structure RTA (w wr : World) (ra : Option Addr) (rc g : Nat) (s : ByteArray) (N B : Nat) (v : Value) (out : List Tk.Tok) : Prop where
  rfs : Rfs wr ra rc g s N
  own : wr.ownsRow B 42 5 v out.length (Rec.flat Tk.Tok.cells out)
  res : wr.heap[w.heap.size]? = some (.cells #[.int .i64 0, .int .i64 0, .int .i64 0] 35 (0, 0))
  below : Below w.heap.size w wr
  wb : w.heap.size < B
  gb : 0 < N → g < B
  bl : B ≤ wr.heap.size
section
variable {w wr wn : World} {rc g N B : Nat} {ra : Option Addr} {s : ByteArray} {v : Value} {out : List Tk.Tok}
theorem RTA.grow (h : RTA w wr ra rc g s N B v out) (hb : Below wr.heap.size wr wn) : RTA w wn ra rc g s N B v out :=
  ⟨h.rfs.below hb (Nat.le_refl _), (below_keeps hb).own h.own (fun _ _ hf => hf), (hb.block _ (obj_lt h.res)).trans h.res, h.below.trans (hb.mono h.below.size), h.wb, h.gb, Nat.le_trans h.bl hb.size⟩
theorem RTA.put (h : RTA w wr ra rc g s N B v out) (k : Keeps (fun k => v.ownBlock = some k) wr wn) {v' : Value} {ys : List Tk.Tok} (ho : wn.ownsRow B 42 5 v' ys.length (Rec.flat Tk.Tok.cells ys)) : RTA w wn ra rc g s N B v' ys := by
  have hne : ∀ b, b < B → ¬ v.ownBlock = some b := fun b hb e => by have := (h.own.lt b e).1; omega
  exact ⟨h.rfs.keeps k (fun h0 => hne g (h.gb h0)), ho, keep_obj h.res k (hne _ h.wb), h.below.trans (k.below (fun b hb => by have := (h.own.lt b hb).1; have := h.wb; omega) h.below.size), h.wb, h.gb, Nat.le_trans h.bl k.size⟩
end
set_option maxRecDepth 1000000 in
set_option maxHeartbeats 16000000 in
theorem rtokens_any (s : ByteArray) (w : World) (hs : s.size ≤ 1000000) : Calls Tryd.prog 26 #[.string s] w (RTokensR s w) := by
  have HRU := Lib.hid (rrunes_any s (w.alloc (.cells #[.int .i64 0, .int .i64 0, .int .i64 0] 35)) (by omega))
  have HQ : Hid (∀ w', Below (w.alloc (.cells #[.int .i64 0, .int .i64 0, .int .i64 0] 35)).heap.size (w.alloc (.cells #[.int .i64 0, .int .i64 0, .int .i64 0] 35)) w' → w'.heap[w.heap.size]? = some (.cells #[.int .i64 0, .int .i64 0, .int .i64 0] 35 (0, 0)) ∧ w.heap.size < w'.heap.size ∧ Below w.heap.size w w') := Lib.hid fun w' h =>
    ⟨(h.block _ (by simp)).trans (heap_alloc_new _ _), by have := h.size; simp at this; omega, ((Below.refl _ _).alloc (Nat.le_refl _) _).trans (h.mono (by simp))⟩
  go_enter Tryd.func26, Tryd.ntmps26
  go_wp2_with fail
  refine HRU.out.mono ?_
  clear HRU
  rintro e w1 (⟨N, x, hE, hN, rfl, hown, hb1⟩ | ⟨N, hE, hN, rfl, hb1⟩)
  · obtain ⟨hq, hq2, hbw⟩ := HQ.out w1 hb1
    obtain ⟨ra, rc, hx⟩ := own_len hown
    subst hx
    obtain ⟨g, hg⟩ : ∃ g, N = 0 ∨ ra = some ⟨g, 0, none⟩ := by
      rcases hown.2 with ⟨e, h0⟩ | ⟨g, cap, cur, e, _⟩
      · exact ⟨0, Or.inl h0⟩
      · injection e with e _ _; exact ⟨g, Or.inr e⟩
    have hrf : Rfs w1 ra rc g s N := ⟨hg, fun j t hj ht => by
      rcases hg with h | h
      · omega
      · subst h
        rw [hown.cellAt (j * 5 + t) (by omega)]
        exact rall_at s N j t hj ht, hN, hE, hs⟩
    have HT0 : Hid (RTA w w1 ra rc g s N w1.heap.size (.slice none 0 0) []) := Lib.hid ⟨hrf, World.ownsRow_nil _ _ _ _, hq, hbw, hq2, hrf.gl, Nat.le_refl _⟩
    have HE := Lib.hid hE
    clear hE hown hb1 hq hq2 hbw hg hrf HQ
    go_wp2_with fail
    generalize w1.heap.size = B at *
    go_loopw [6, 7, 8] (fun v6 v7 v8 wr => ∃ (i : Nat) (b : Bool) (out : List Tk.Tok), i ≤ N ∧ out.length ≤ 4096 ∧ v7 = .int .i64 i ∧ v8 = .bool b ∧ Hid (Tk.scan s N 0 false [] = Tk.scan s N i b out) ∧ Hid (RTA w wr ra rc g s N B v6 out)) (fun _ v7 _ _ => N - (intOf v7).toNat)
    case atStart => exact ⟨0, false, [], Nat.zero_le _, by simp, rfl, rfl, Lib.hid rfl, HT0⟩
    case round =>
      obtain ⟨i, b, out, hiN, hol, rfl, rfl, HSC, HT⟩ := hrel
      clear HT0
      obtain ⟨av, cv, hv⟩ := own_len HT.out.own
      subst hv
      by_cases hlt : i < N
      · have hlt1 : (i : Int) < (N : Int) := by omega
        rcases HT.out.rfs.at_ with h0 | h0
        · omega
        · subst h0
          have r0 := HT.out.rfs.r0 hlt
          obtain ⟨c, hc⟩ : ∃ c, c = Tk.rn s N i := ⟨_, rfl⟩
          rw [← hc] at r0
          have HCE : Hid (Tk.rn s N i = c) := Lib.hid hc.symm
          clear hc
          by_cases h10 : c = 10
          · subst h10
            cases b
            · have HSK : Hid (Tk.scan s N 0 false [] = Tk.scan s N (i + 1) false out) := Lib.hid (by rw [HSC.out, Tk.scan_skip hlt (by rw [HCE.out]; rfl), HCE.out]; rfl)
              go_wp2_with fail
              go_roundw
              case rel => exact ⟨i + 1, _, out, by omega, hol, by go_num, rfl, HSK, HT⟩
              case measure => simp [intOf]; omega
            · have HSK : Hid (Tk.scan s N 0 false [] = Tk.scan s N (i + 1) false out) := Lib.hid (by rw [HSC.out, Tk.scan_skip hlt (by rw [HCE.out]; rfl), HCE.out]; rfl)
              go_wp2_with fail
              go_roundw
              case rel => exact ⟨i + 1, _, out, by omega, hol, by go_num, rfl, HSK, HT⟩
              case measure => simp [intOf]; omega
          · cases b
            · by_cases hbl : c = 32 ∨ c = 9 ∨ c = 13 ∨ c = 35
              · rcases hbl with rfl | rfl | rfl | rfl
                · have HSK : Hid (Tk.scan s N 0 false [] = Tk.scan s N (i + 1) false out) := Lib.hid (by rw [HSC.out, Tk.scan_skip hlt (by rw [HCE.out]; rfl), HCE.out]; rfl)
                  go_wp2_with fail
                  go_roundw
                  case rel => exact ⟨i + 1, _, out, by omega, hol, by go_num, rfl, HSK, HT⟩
                  case measure => simp [intOf]; omega
                · have HSK : Hid (Tk.scan s N 0 false [] = Tk.scan s N (i + 1) false out) := Lib.hid (by rw [HSC.out, Tk.scan_skip hlt (by rw [HCE.out]; rfl), HCE.out]; rfl)
                  go_wp2_with fail
                  go_roundw
                  case rel => exact ⟨i + 1, _, out, by omega, hol, by go_num, rfl, HSK, HT⟩
                  case measure => simp [intOf]; omega
                · have HSK : Hid (Tk.scan s N 0 false [] = Tk.scan s N (i + 1) false out) := Lib.hid (by rw [HSC.out, Tk.scan_skip hlt (by rw [HCE.out]; rfl), HCE.out]; rfl)
                  go_wp2_with fail
                  go_roundw
                  case rel => exact ⟨i + 1, _, out, by omega, hol, by go_num, rfl, HSK, HT⟩
                  case measure => simp [intOf]; omega
                · have HSK : Hid (Tk.scan s N 0 false [] = Tk.scan s N (i + 1) true out) := Lib.hid (by rw [HSC.out, Tk.scan_skip hlt (by rw [HCE.out]; rfl), HCE.out]; rfl)
                  go_wp2_with fail
                  go_roundw
                  case rel => exact ⟨i + 1, _, out, by omega, hol, by go_num, rfl, HSK, HT⟩
                  case measure => simp [intOf]; omega
              · have n32 : (c == 32) = false := by simp; omega
                have n9 : (c == 9) = false := by simp; omega
                have n10 : (c == 10) = false := by simp; omega
                have n13 : (c == 13) = false := by simp; omega
                have n35 : (c == 35) = false := by simp; omega
                have hns : Tk.skipc c false = false := by unfold Tk.skipc Tk.bl; rw [n32, n9, n10, n13, n35]; rfl
                clear h10 hbl
                have HNS : Hid (Tk.skipc (Tk.rn s N i) false = false) := Lib.hid (by rw [HCE.out]; exact hns)
                have HON := Lib.hid (rone_any HT.out.rfs hlt)
                have HBAD : Hid ((Tk.one s N i).err ≠ 0 → Tk.scan s N 0 false [] = .bad (Tk.one s N i).err (Rn.st s i).l (Rn.st s i).c) := Lib.hid fun h => HSC.out.trans (Tk.scan_bad hlt HNS.out h)
                have HLONG : Hid ((Tk.one s N i).err = 0 → out.length = 4096 → Tk.scan s N 0 false [] = .bad 3 (Rn.st s i).l (Rn.st s i).c) := Lib.hid fun h hl => HSC.out.trans (Tk.scan_long hlt HNS.out h hl)
                have HTOK : Hid ((Tk.one s N i).err = 0 → out.length ≠ 4096 → Tk.scan s N 0 false [] = Tk.scan s N (Tk.one s N i).fin false (out ++ [⟨(Tk.one s N i).kind, Tk.txt s i (Tk.one s N i).fin, (Tk.one s N i).num, (Rn.st s i).l, (Rn.st s i).c⟩]) ∧ i < (Tk.one s N i).fin ∧ (Tk.one s N i).fin ≤ N) := Lib.hid fun h hl => ⟨HSC.out.trans (Tk.scan_tok hlt HNS.out h hl), Tk.one_fin s N i hlt h⟩
                clear HSC HNS hns HCE
                go_wp2_with fail
                refine HON.out.mono ?_
                rintro e w5 ⟨k, m, f, x, rfl, hb5, hc5⟩
                have HT5 := Lib.hid (HT.out.grow hb5)
                have HQ3 : Hid (∀ W, RTA w W (some ⟨g, 0, none⟩) rc g s N B (.slice av out.length cv) out → W.cell? ⟨g, i * 5 + 3, none⟩ = some (.int .i64 ((Rn.st s i).l : Nat)) ∧ W.cell? ⟨g, i * 5 + 3 + 1, none⟩ = some (.int .i64 ((Rn.st s i).c : Nat))) := Lib.hid fun W h => ⟨h.rfs.r3 hlt, h.rfs.r4 hlt⟩
                clear HON hb5 HT r0
                generalize (Rn.st s i).l = ll at *
                generalize (Rn.st s i).c = cc at *
                generalize (Tk.one s N i).err = er at *
                generalize (Tk.one s N i).kind = ki at *
                generalize (Tk.one s N i).num = nu at *
                have HT6 : Hid (RTA w (w5.alloc (.cells #[.int .i64 k, .string x, .int .i64 m, .int .i64 ll, .int .i64 cc] 42)) (some ⟨g, 0, none⟩) rc g s N B (.slice av out.length cv) out) := Lib.hid (HT5.out.grow ((Below.refl _ _).alloc (Nat.le_refl _) _))
                obtain ⟨hq3, hq4⟩ := HQ3.out _ HT6.out
                clear HT5 HQ3
                by_cases her : er = 0
                · obtain ⟨rfl, rfl, hx, rfl⟩ := hc5 her
                  have hee : (er == 0) = true := by simpa using her
                  have hen : (er != 0) = false := by simpa using her
                  by_cases hl : out.length = 4096
                  · have HF := Lib.hid (HLONG.out her hl)
                    have hll : ((out.length : Int) == 4096) = true := by simp; omega
                    clear HBAD HTOK HLONG hc5 hx
                    go_wp2_with fail
                    generalize w5.alloc (.cells #[.int .i64 k, .string x, .int .i64 m, .int .i64 ll, .int .i64 cc] 42) = w6 at *
                    have r0 := cell_of_row w6 w.heap.size 0 _ _ _ HT6.out.res
                    have e0 := frozen_of_row w6 w.heap.size 0 _ _ HT6.out.res
                    have r1 := cell_of_row w6 w.heap.size 1 _ _ _ HT6.out.res
                    have e1 := frozen_of_row w6 w.heap.size 1 _ _ HT6.out.res
                    have r2 := cell_of_row w6 w.heap.size 2 _ _ _ HT6.out.res
                    have e2 := frozen_of_row w6 w.heap.size 2 _ _ HT6.out.res
                    simp at r0 r1 r2
                    have hz : w.heap.size < w6.heap.size := obj_lt HT6.out.res
                    go_wp2_with fail
                    go_region
                    all_goals
                      go_wp2_with fail
                      refine bodyPost_ret (v := .tuple #[.slice none 0 0, .agg #[.int .i64 3, .int .i64 ll, .int .i64 cc]]) (by simp [results, Tryd.results26, go_sem, r0, r1, r2, hz, World.cell?_setCell_other]) rfl (Or.inr (Or.inl ⟨N, 3, ll, cc, HE.out, hN, HF.out, by decide, rfl, ?_⟩))
                      repeat (first | exact HT6.out.below | refine Below.setCell ?_ (by simp) _ | refine Below.drew ?_)
                  · obtain ⟨hsc, hf1, hf2⟩ := HTOK.out her hl
                    rw [← hx] at hsc
                    have HSC3 := Lib.hid hsc
                    have hll : ((out.length : Int) == 4096) = false := by simp; omega
                    have hfl : Rec.flat Tk.Tok.cells (out ++ [⟨k, x, m, ll, cc⟩]) = Rec.flat Tk.Tok.cells out ++ [.int .i64 k, .string x, .int .i64 m, .int .i64 ll, .int .i64 cc] := Rec.flat_snoc _ _ _
                    have HFL := Lib.hid hfl
                    clear HBAD HTOK HLONG hc5 hx hsc hfl hq3 hq4
                    go_wp2_with (at_builtin; refine append_at (v := .slice av out.length cv) rfl _ _ 30 rfl 42 (.agg #[.int .i64 0, .string { data := #[] }, .int .i64 0, .int .i64 0, .int .i64 0]) 5 48 Tryd.underlying30 infoTok rfl (by decide) rfl HT6.out.own HT6.out.bl _ rfl (by simp [Value.oneCell']) rfl (by simp) (by decide) (by omega) ?_; intro g7 cap7 w7 own7 keep7 _; have HT7 : Hid (RTA w w7 (some ⟨g, 0, none⟩) rc g s N B (.slice (some ⟨g7, 0, none⟩) (out.length + 1) cap7) (out ++ [⟨k, x, m, ll, cc⟩])) := Lib.hid (HT6.out.put keep7 (by rw [HFL.out]; simpa using own7)); clear own7 keep7)
                    go_roundw
                    case rel => exact ⟨(Tk.one s N i).fin, false, out ++ [⟨k, x, m, ll, cc⟩], hf2, by simp; omega, rfl, rfl, HSC3, Lib.hid (by simpa using HT7.out)⟩
                    case measure => simp [intOf]; omega
                · have HF := Lib.hid (HBAD.out her)
                  have hee : (er == 0) = false := by simpa using her
                  have hen : (er != 0) = true := by simpa using her
                  clear HBAD HTOK HLONG hc5
                  go_wp2_with fail
                  generalize w5.alloc (.cells #[.int .i64 k, .string x, .int .i64 m, .int .i64 ll, .int .i64 cc] 42) = w6 at *
                  have r0 := cell_of_row w6 w.heap.size 0 _ _ _ HT6.out.res
                  have e0 := frozen_of_row w6 w.heap.size 0 _ _ HT6.out.res
                  have r1 := cell_of_row w6 w.heap.size 1 _ _ _ HT6.out.res
                  have e1 := frozen_of_row w6 w.heap.size 1 _ _ HT6.out.res
                  have r2 := cell_of_row w6 w.heap.size 2 _ _ _ HT6.out.res
                  have e2 := frozen_of_row w6 w.heap.size 2 _ _ HT6.out.res
                  simp at r0 r1 r2
                  have hz : w.heap.size < w6.heap.size := obj_lt HT6.out.res
                  go_wp2_with fail
                  go_region
                  all_goals
                    go_wp2_with fail
                    refine bodyPost_ret (v := .tuple #[.slice none 0 0, .agg #[.int .i64 er, .int .i64 ll, .int .i64 cc]]) (by simp [results, Tryd.results26, go_sem, r0, r1, r2, hz, World.cell?_setCell_other]) rfl (Or.inr (Or.inl ⟨N, er, ll, cc, HE.out, hN, HF.out, her, rfl, ?_⟩))
                    repeat (first | exact HT6.out.below | refine Below.setCell ?_ (by simp) _ | refine Below.drew ?_)
            · by_cases h1 : c = -1
              · have hns : Tk.skipc c true = false := by rw [h1]; rfl
                subst h1
                clear h10
                have HE1 : Hid ((Tk.one s N i).err = 1) := Lib.hid (Tk.one_bad HCE.out)
                have HNS : Hid (Tk.skipc (Tk.rn s N i) true = false) := Lib.hid (by rw [HCE.out]; exact hns)
                have HON := Lib.hid (rone_any HT.out.rfs hlt)
                have HBAD : Hid ((Tk.one s N i).err ≠ 0 → Tk.scan s N 0 false [] = .bad (Tk.one s N i).err (Rn.st s i).l (Rn.st s i).c) := Lib.hid fun h => HSC.out.trans (Tk.scan_bad hlt HNS.out h)
                have HLONG : Hid ((Tk.one s N i).err = 0 → out.length = 4096 → Tk.scan s N 0 false [] = .bad 3 (Rn.st s i).l (Rn.st s i).c) := Lib.hid fun h hl => HSC.out.trans (Tk.scan_long hlt HNS.out h hl)
                have HTOK : Hid ((Tk.one s N i).err = 0 → out.length ≠ 4096 → Tk.scan s N 0 false [] = Tk.scan s N (Tk.one s N i).fin false (out ++ [⟨(Tk.one s N i).kind, Tk.txt s i (Tk.one s N i).fin, (Tk.one s N i).num, (Rn.st s i).l, (Rn.st s i).c⟩]) ∧ i < (Tk.one s N i).fin ∧ (Tk.one s N i).fin ≤ N) := Lib.hid fun h hl => ⟨HSC.out.trans (Tk.scan_tok hlt HNS.out h hl), Tk.one_fin s N i hlt h⟩
                clear HSC HNS hns HCE
                go_wp2_with fail
                refine HON.out.mono ?_
                rintro e w5 ⟨k, m, f, x, rfl, hb5, hc5⟩
                have HT5 := Lib.hid (HT.out.grow hb5)
                have HQ3 : Hid (∀ W, RTA w W (some ⟨g, 0, none⟩) rc g s N B (.slice av out.length cv) out → W.cell? ⟨g, i * 5 + 3, none⟩ = some (.int .i64 ((Rn.st s i).l : Nat)) ∧ W.cell? ⟨g, i * 5 + 3 + 1, none⟩ = some (.int .i64 ((Rn.st s i).c : Nat))) := Lib.hid fun W h => ⟨h.rfs.r3 hlt, h.rfs.r4 hlt⟩
                clear HON hb5 HT r0
                generalize (Rn.st s i).l = ll at *
                generalize (Rn.st s i).c = cc at *
                generalize (Tk.one s N i).err = er at *
                generalize (Tk.one s N i).kind = ki at *
                generalize (Tk.one s N i).num = nu at *
                have HT6 : Hid (RTA w (w5.alloc (.cells #[.int .i64 k, .string x, .int .i64 m, .int .i64 ll, .int .i64 cc] 42)) (some ⟨g, 0, none⟩) rc g s N B (.slice av out.length cv) out) := Lib.hid (HT5.out.grow ((Below.refl _ _).alloc (Nat.le_refl _) _))
                obtain ⟨hq3, hq4⟩ := HQ3.out _ HT6.out
                clear HT5 HQ3
                by_cases her : er = 0
                · exact absurd (her.symm.trans HE1.out) (by decide)
                · have HF := Lib.hid (HBAD.out her)
                  have hee : (er == 0) = false := by simpa using her
                  have hen : (er != 0) = true := by simpa using her
                  clear HBAD HTOK HLONG hc5
                  go_wp2_with fail
                  generalize w5.alloc (.cells #[.int .i64 k, .string x, .int .i64 m, .int .i64 ll, .int .i64 cc] 42) = w6 at *
                  have r0 := cell_of_row w6 w.heap.size 0 _ _ _ HT6.out.res
                  have e0 := frozen_of_row w6 w.heap.size 0 _ _ HT6.out.res
                  have r1 := cell_of_row w6 w.heap.size 1 _ _ _ HT6.out.res
                  have e1 := frozen_of_row w6 w.heap.size 1 _ _ HT6.out.res
                  have r2 := cell_of_row w6 w.heap.size 2 _ _ _ HT6.out.res
                  have e2 := frozen_of_row w6 w.heap.size 2 _ _ HT6.out.res
                  simp at r0 r1 r2
                  have hz : w.heap.size < w6.heap.size := obj_lt HT6.out.res
                  go_wp2_with fail
                  go_region
                  all_goals
                    go_wp2_with fail
                    refine bodyPost_ret (v := .tuple #[.slice none 0 0, .agg #[.int .i64 er, .int .i64 ll, .int .i64 cc]]) (by simp [results, Tryd.results26, go_sem, r0, r1, r2, hz, World.cell?_setCell_other]) rfl (Or.inr (Or.inl ⟨N, er, ll, cc, HE.out, hN, HF.out, her, rfl, ?_⟩))
                    repeat (first | exact HT6.out.below | refine Below.setCell ?_ (by simp) _ | refine Below.drew ?_)
              · have q1 : (c != 10) = true := by simpa using h10
                have q2 : (c != -1) = true := by simpa using h1
                have n10 : (c == 10) = false := by simpa using h10
                have HSK : Hid (Tk.scan s N 0 false [] = Tk.scan s N (i + 1) true out) := Lib.hid (by
                  rw [HSC.out, Tk.scan_skip hlt (by rw [HCE.out]; unfold Tk.skipc; rw [q1, q2]; rfl), HCE.out]
                  congr 1
                  unfold Tk.beh
                  rw [q1]; rfl)
                clear h10 h1
                go_wp2_with fail
                go_roundw
                case rel => exact ⟨i + 1, _, out, by omega, hol, by go_num, rfl, HSK, HT⟩
                case measure => simp [intOf]; omega
      · obtain rfl : i = N := by omega
        have hge : ¬ (i : Int) < (i : Int) := by omega
        have HF : Hid (Tk.scan s i 0 false [] = .toks (out ++ [⟨5, ByteArray.empty, 0, (Rn.st s i).l, (Rn.st s i).c⟩])) := Lib.hid (HSC.out.trans (Tk.scan_end hlt))
        have HEN := Lib.hid (fun W => end_any s W (by omega))
        clear HSC
        go_wp2_with fail
        refine (HEN.out _).mono ?_
        rintro e w5 ⟨k, hk, rfl, hb5⟩
        have hkk : k = i := ends_unique (s := s) hk HE.out
        subst hkk
        have HT5 := Lib.hid (HT.out.grow hb5)
        have hfl : Rec.flat Tk.Tok.cells (out ++ [⟨5, ByteArray.empty, 0, (Rn.st s k).l, (Rn.st s k).c⟩]) = Rec.flat Tk.Tok.cells out ++ [.int .i64 5, .string { data := #[] }, .int .i64 0, .int .i64 (Rn.st s k).l, .int .i64 (Rn.st s k).c] := Rec.flat_snoc _ _ _
        have HFL := Lib.hid hfl
        clear hk hb5 HEN HT hfl
        generalize (Rn.st s k).l = ll at *
        generalize (Rn.st s k).c = cc at *
        go_wp2_with (first | (at_builtin; refine append_at (v := .slice av out.length cv) rfl _ _ 30 rfl 42 (.agg #[.int .i64 0, .string { data := #[] }, .int .i64 0, .int .i64 0, .int .i64 0]) 5 48 Tryd.underlying30 infoTok rfl (by decide) rfl HT5.out.own HT5.out.bl _ rfl (by simp [Value.oneCell']) rfl (by simp) (by decide) (by omega) ?_; intro g7 cap7 w7 own7 keep7 _; have HT7 : Hid (RTA w w7 ra rc g s k B (.slice (some ⟨g7, 0, none⟩) (out.length + 1) cap7) (out ++ [⟨5, ByteArray.empty, 0, ll, cc⟩])) := Lib.hid (HT5.out.put keep7 (by rw [HFL.out]; simpa using own7)); clear own7 keep7) | (refine st_rowTo rfl 35 _ _ rfl rfl w.heap.size #[.int .i64 0, .int .i64 0, .int .i64 0] rfl rfl 35 _ HT7.out.res infoFlt3 rfl (by simp [Value.oneCell']) ?_; intro w9 hr9 hk9))
        refine bodyPost_ret (v := .tuple #[.slice (some ⟨g7, 0, none⟩) (out.length + 1) cap7, .agg #[.int .i64 0, .int .i64 0, .int .i64 0]]) (by simp [results, Tryd.results26, asAddr, run_loadVar_row _ _ _ _ _ _ _ hr9 Tryd.underlying35 rfl infoFlt3]) rfl (Or.inl ⟨k, out ++ [⟨5, ByteArray.empty, 0, ll, cc⟩], _, B, HE.out, hN, HF.out, by simp; omega, rfl, ?_, by have := HT7.out.wb; omega, flt_below HT7.out.below hk9⟩)
        have := hk9.own HT7.out.own (fun b hb e => by have := (HT7.out.own.lt b hb).1; have := HT7.out.wb; omega)
        simpa using this
  · obtain ⟨hq, hq2, hbw⟩ := HQ.out w1 hb1
    have HE := Lib.hid hE
    have HB6 := Lib.hid hbw
    have HQ6 := Lib.hid hq
    clear hE hb1 hq hq2 hbw HQ
    go_wp2_with (refine st_rowTo rfl 35 _ _ rfl rfl w.heap.size #[.int .i64 3, .int .i64 0, .int .i64 0] rfl rfl 35 _ HQ6.out infoFlt3 rfl (by simp [Value.oneCell']) ?_; intro w9 hr9 hk9)
    refine bodyPost_ret (v := .tuple #[.slice none 0 0, .agg #[.int .i64 3, .int .i64 0, .int .i64 0]]) (by simp [results, Tryd.results26, asAddr, run_loadVar_row _ _ _ _ _ _ _ hr9 Tryd.underlying35 rfl infoFlt3]) rfl (Or.inr (Or.inr ⟨N, HE.out, hN, rfl, flt_below HB6.out hk9⟩))
end Go.Proofs.YtbplkphjjfgkmaaDoor
