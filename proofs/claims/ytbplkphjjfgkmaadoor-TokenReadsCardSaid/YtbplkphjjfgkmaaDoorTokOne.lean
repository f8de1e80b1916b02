/-
  token's scanner: the token that stands at a rune, by a walk.
-/
import Derived.Test.YtbplkphjjfgkmaaDoorTokBytes
import Derived.Test.YtbplkphjjfgkmaaDoorTokNamed
import Derived.Test.YtbplkphjjfgkmaaDoorTokCounted
import Derived.Test.YtbplkphjjfgkmaaDoorTokSkip
namespace Go.Proofs.YtbplkphjjfgkmaaDoor
open Go.RowKit
set_option linter.unusedVariables false
set_option linter.unusedSimpArgs false

/-- What token answers. -/
def TokenR (w : World) (p : Nat) (ra : Option Addr) (rc g : Nat) (s : ByteArray) (N i : Nat) (e : Ending) (w' : World) : Prop :=
  ∃ (k m : Int) (x : ByteArray), e = .returned (.tuple #[.agg #[.int .i64 k, .string x, .int .i64 m, .int .i64 (Rn.st s i).l, .int .i64 (Rn.st s i).c], .int .i64 (Tk.one s N i).err]) ∧ Moves p w w' ∧
    ((Tk.one s N i).err = 0 → k = (Tk.one s N i).kind ∧ m = (Tk.one s N i).num ∧ x = Tk.txt s i (Tk.one s N i).fin ∧ Scn w' p ra rc g s N (Tk.one s N i).fin)
/-- What lies in memory while a token is made: the scanner; two blocks of the call's own. -/
structure TkAt (w wr : World) (p : Nat) (ra : Option Addr) (rc g : Nat) (s : ByteArray) (N i : Nat) (cs : Array Value) : Prop where
  scn : Scn wr p ra rc g s N i
  moves : Moves p w wr
  res : wr.heap[w.heap.size]? = some (.cells #[.int .i64 0, .string { data := #[] }, .int .i64 0, .int .i64 0, .int .i64 0] 42 (0, 0))
  tok : wr.heap[w.heap.size + 1]? = some (.cells cs 42 (0, 0))
  pl : p < w.heap.size
  gl : 0 < N → g < w.heap.size
section
variable {w wr wn : World} {p rc g N i j : Nat} {ra : Option Addr} {s : ByteArray} {cs ds : Array Value}
theorem TkAt.move (h : TkAt w wr p ra rc g s N i cs) (hs : Scn wn p ra rc g s N j) (hm : Moves p wr wn) : TkAt w wn p ra rc g s N j cs :=
  ⟨hs, h.moves.trans hm, keep_obj h.res hm (by have := h.pl; omega), keep_obj h.tok hm (by have := h.pl; omega), h.pl, h.gl⟩
theorem TkAt.drewN (h : TkAt w wr p ra rc g s N i cs) (n : Nat) : TkAt w (wr.drewN n) p ra rc g s N i cs := h.move (h.scn.drewN n) (Moves.drewN _ _ _)
theorem TkAt.next (h : TkAt w wr p ra rc g s N i cs) {k : Nat} (hk : k ≤ N) {v : Int} (hv : v = (k : Int)) : TkAt w (wr.setCell ⟨p, 2, none⟩ (.int .i64 v)) p ra rc g s N k cs :=
  h.move (h.scn.set hk hv) (Keeps.setCell _ _ _ rfl)
theorem moves_beyond {q : Nat} (hm : Moves p w wr) (hq : w.heap.size ≤ q) (k : Keeps (fun k => k = q) wr wn) : Moves p w wn :=
  ⟨k.os.trans hm.os, k.tape.trans hm.tape, k.output.trans hm.output, Nat.le_trans hm.size k.size, fun i hi hs => (k.block i (Nat.lt_of_lt_of_le hi hm.size) (by omega)).trans (hm.block i hi hs)⟩
theorem TkAt.set (h : TkAt w wr p ra rc g s N i cs) (k : Nat) (v : Value) : TkAt w (wr.setCell ⟨w.heap.size + 1, k, none⟩ v) p ra rc g s N i (cs.setIfInBounds k v) := by
  have kk : Keeps (fun k => k = w.heap.size + 1) wr (wr.setCell ⟨w.heap.size + 1, k, none⟩ v) := Keeps.setCell _ _ _ rfl
  refine ⟨h.scn.keeps kk (by have := h.pl; omega) (fun h0 => by have := h.gl h0; omega), moves_beyond h.moves (by omega) kk, keep_obj h.res kk (by omega), set_obj h.tok v, h.pl, h.gl⟩
theorem TkAt.grow (h : TkAt w wr p ra rc g s N i cs) (hb : Below wr.heap.size wr wn) : TkAt w wn p ra rc g s N i cs :=
  ⟨h.scn.below hb, h.moves.trans ⟨hb.os, hb.tape, hb.output, hb.size, fun k hk _ => hb.block k hk⟩, (hb.block _ (obj_lt h.res)).trans h.res, (hb.block _ (obj_lt h.tok)).trans h.tok, h.pl, h.gl⟩
end
section
variable {w wr : World} {p rc g N i k : Nat} {ra : Option Addr} {s : ByteArray} {cs : Array Value}
theorem rune0_tk (h : TkAt w wr p ra rc g s N i cs) : Calls Tryd.prog 112 #[.pointer (some ⟨p, 0, none⟩), .int .i64 0] wr fun e w' => e = .returned (.int .i32 (Tk.rn s N i)) ∧ TkAt w w' p ra rc g s N i cs :=
  (rune0_any h.scn).mono fun e w' ⟨he, n, hw⟩ => ⟨he, hw ▸ h.drewN n⟩
theorem rune1_tk (h : TkAt w wr p ra rc g s N i cs) : Calls Tryd.prog 112 #[.pointer (some ⟨p, 0, none⟩), .int .i64 1] wr fun e w' => e = .returned (.int .i32 (Tk.rn s N (i + 1))) ∧ TkAt w w' p ra rc g s N i cs :=
  (rune1_any h.scn).mono fun e w' ⟨he, n, hw⟩ => ⟨he, hw ▸ h.drewN n⟩
theorem since_tk (h : TkAt w wr p ra rc g s N i cs) (hk : k ≤ i) : Calls Tryd.prog 118 #[.pointer (some ⟨p, 0, none⟩), .int .i64 k] wr fun e w' => e = .returned (.string (Tk.txt s k i)) ∧ TkAt w w' p ra rc g s N i cs :=
  (since_any h.scn hk).mono fun e w' ⟨he, n, hw⟩ => ⟨he, hw ▸ h.drewN n⟩
theorem sign_tk (h : TkAt w wr p ra rc g s N i cs) : Calls Tryd.prog 120 #[.pointer (some ⟨p, 0, none⟩)] wr fun e w' => e = .returned (.int .i64 (Tk.sign (Tk.rn s N i) (Tk.rn s N (i + 1)) : Nat)) ∧ TkAt w w' p ra rc g s N i cs :=
  (scansign_any h.scn).mono fun e w' ⟨he, n, hw⟩ => ⟨he, hw ▸ h.drewN n⟩
theorem row_tk (h : TkAt w wr p ra rc g s N i cs) : Calls Tryd.prog 110 #[.pointer (some ⟨p, 0, none⟩), .func (.func 115) #[.pointer (some ⟨p, 0, none⟩)] #[]] wr fun e w' => e = .returned (.string (Tk.txt s i (Tk.wh N (Tk.rn s N) Tk.row i))) ∧ TkAt w w' p ra rc g s N (Tk.wh N (Tk.rn s N) Tk.row i) cs :=
  (while_any h.scn 115 Tk.row rfl (enters_of Tryd.func115 (by kernel_rfl) rfl) fun w j h => inRow_any h).mono fun e w' ⟨he, h1, h2⟩ => ⟨he, h.move h1 h2⟩
theorem digits_tk (h : TkAt w wr p ra rc g s N i cs) : Calls Tryd.prog 110 #[.pointer (some ⟨p, 0, none⟩), .func (.func 117) #[.pointer (some ⟨p, 0, none⟩)] #[]] wr fun e w' => e = .returned (.string (Tk.txt s i (Tk.wh N (Tk.rn s N) Tk.dg i))) ∧ TkAt w w' p ra rc g s N (Tk.wh N (Tk.rn s N) Tk.dg i) cs :=
  (while_any h.scn 117 Tk.dg rfl (enters_of Tryd.func117 (by kernel_rfl) rfl) fun w j h => inDigits_any h).mono fun e w' ⟨he, h1, h2⟩ => ⟨he, h.move h1 h2⟩
end
set_option maxRecDepth 1000000 in
set_option maxHeartbeats 8000000 in
theorem token_any {w : World} {p rc g N i : Nat} {ra : Option Addr} {s : ByteArray} (h : Scn w p ra rc g s N i) (hi : i < N) (hn : ∀ W, Moves p w W → NumIs W) :
    Calls Tryd.prog 68 #[.pointer (some ⟨p, 0, none⟩)] w (TokenR w p ra rc g s N i) := by
  have hT0 : TkAt w ((w.alloc (.cells #[.int .i64 0, .string { data := #[] }, .int .i64 0, .int .i64 0, .int .i64 0] 42)).alloc (.cells #[.int .i64 0, .string { data := #[] }, .int .i64 0, .int .i64 (Rn.st s i).l, .int .i64 (Rn.st s i).c] 42)) p ra rc g s N i #[.int .i64 0, .string { data := #[] }, .int .i64 0, .int .i64 (Rn.st s i).l, .int .i64 (Rn.st s i).c] :=
    ⟨h.below (((Below.refl _ _).alloc (Nat.le_refl _) _).alloc (by simp) _), (Keeps.alloc _ _ _).trans (Keeps.alloc _ _ _), heap_alloc2_old _ _ _, heap_alloc2_new _ _ _, h.lt, h.gl⟩
  have HT0 := Lib.hid hT0
  clear hT0
  have hc1 : (w.alloc (.cells #[.int .i64 0, .string { data := #[] }, .int .i64 0, .int .i64 0, .int .i64 0] 42)).cell? ⟨p, 1, none⟩ = some (.slice ra N rc) := (h.below ((Below.refl _ _).alloc (Nat.le_refl _) _)).c1
  have hs1 := h.below ((Below.refl w.heap.size w).alloc (Nat.le_refl _) (.cells #[.int .i64 0, .string { data := #[] }, .int .i64 0, .int .i64 0, .int .i64 0] 42))
  have HN := Lib.hid hn
  rcases h.at_ with h0 | h0
  · omega
  · subst h0
    have c1 := hs1.c1
    have c2 := hs1.c2
    have hr3 := hs1.r3 hi
    have hr4 : (w.alloc (.cells #[.int .i64 0, .string { data := #[] }, .int .i64 0, .int .i64 0, .int .i64 0] 42)).cell? ⟨g, i * 5 + 3 + 1, none⟩ = some (.int .i64 ((Rn.st s i).c : Nat)) := hs1.r4 hi
    have hs2 := h.below (((Below.refl w.heap.size w).alloc (Nat.le_refl _) (.cells #[.int .i64 0, .string { data := #[] }, .int .i64 0, .int .i64 0, .int .i64 0] 42)).alloc (by simp) (.cells #[.int .i64 0, .string { data := #[] }, .int .i64 0, .int .i64 0, .int .i64 0] 42))
    have d1 := hs2.c1
    have d2 := hs2.c2
    have hd3 := hs2.r3 hi
    have hd4 : ((w.alloc (.cells #[.int .i64 0, .string { data := #[] }, .int .i64 0, .int .i64 0, .int .i64 0] 42)).alloc (.cells #[.int .i64 0, .string { data := #[] }, .int .i64 0, .int .i64 0, .int .i64 0] 42)).cell? ⟨g, i * 5 + 3 + 1, none⟩ = some (.int .i64 ((Rn.st s i).c : Nat)) := hs2.r4 hi
    clear h hn hc1 hs1 hs2
    obtain ⟨ll, hll⟩ : ∃ ll, (Rn.st s i).l = ll := ⟨_, rfl⟩
    obtain ⟨cc, hcc⟩ : ∃ cc, (Rn.st s i).c = cc := ⟨_, rfl⟩
    rw [hll] at hr3 hd3 HT0
    rw [hcc] at hr4 hd4 HT0
    have HLL := Lib.hid hll
    have HCC := Lib.hid hcc
    clear hll hcc
    go_enter Tryd.func68, Tryd.ntmps68
    go_wp2
    go_region
    all_goals
      have HR0 := Lib.hid (rune0_tk (HT0.out.drewN 1))
      clear HT0
      go_wp2_with fail
      refine HR0.out.mono ?_
      rintro e w1 ⟨rfl, ht1⟩
      have HT1 := Lib.hid ht1
      clear ht1 HR0 c1 c2 hr3 hr4 d1 d2 hd3 hd4
      cases hl : (Tk.sm (Tk.rn s N i) || Tk.gr (Tk.rn s N i)) with
      | true =>
        have HONE : Hid (Tk.one s N i = ⟨(Tk.nameE (Tk.txt s i (Tk.wh N (Tk.rn s N) Tk.row i)).data.toList).1, Tk.wh N (Tk.rn s N) Tk.row i, 0, (Tk.nameE (Tk.txt s i (Tk.wh N (Tk.rn s N) Tk.row i)).data.toList).2⟩) := Lib.hid (by unfold Tk.one; simp only [hl, if_true])
        have HXE : Hid (Tk.txt s i (Tk.wh N (Tk.rn s N) Tk.row i) = Tk.txt s i (Tk.one s N i).fin) := Lib.hid (by rw [HONE.out])
        have hwt := Tk.word_txt HT1.out.scn.ends hi hl
        have hfew := HT1.out.scn.few
        have HNM : Hid (∀ W, Calls Tryd.prog 116 #[.agg #[.int .i64 0, .string (Tk.txt s i (Tk.wh N (Tk.rn s N) Tk.row i)), .int .i64 0, .int .i64 ll, .int .i64 cc]] W (NamedR W (Tk.txt s i (Tk.wh N (Tk.rn s N) Tk.row i)) 0 ll cc)) := Lib.hid fun W => named_any _ 0 ll cc W hwt.2 (by omega)
        have HLET : Hid (∀ W, Calls Tryd.prog 114 #[.int .i32 (Tk.rn s N i)] W fun e w' => e = .returned (.bool true) ∧ W = w') := Lib.hid fun W => by have := tletter_any (Tk.rn s N i) W; rw [hl] at this; exact this
        have HRW := Lib.hid (row_tk HT1.out)
        clear hl hwt
        generalize Tk.txt s i (Tk.wh N (Tk.rn s N) Tk.row i) = x at *
        generalize Tk.wh N (Tk.rn s N) Tk.row i = j at *
        generalize Tk.rn s N i = r at *
        go_wp2_with fail
        refine (HLET.out _).mono ?_
        rintro e w2 ⟨rfl, rfl⟩
        go_wp2_with fail
        refine HRW.out.mono ?_
        rintro e w2 ⟨rfl, ht2⟩
        have b1 := cell_of_row w2 (w.heap.size + 1) 1 _ _ _ ht2.tok
        have f1 := frozen_of_row w2 (w.heap.size + 1) 1 _ _ ht2.tok
        have hz : w.heap.size + 1 < w2.heap.size := obj_lt ht2.tok
        simp at b1
        have HTK : Hid (TkAt w (w2.setCell ⟨w.heap.size + 1, 1, none⟩ (.string x)) p (some ⟨g, 0, none⟩) rc g s N j #[.int .i64 0, .string x, .int .i64 0, .int .i64 ll, .int .i64 cc]) := Lib.hid (ht2.set 1 (.string x))
        clear ht2 HT1 HRW HLET
        go_wp2_with (refine wpList_load_row rfl 42 _ rfl (w.heap.size + 1) rfl 42 _ (0, 0) _ HTK.out.tok Tryd.underlying42 rfl infoTok5 ?_)
        refine (HNM.out _).mono ?_
        rintro e w4 ⟨k, rfl, hk, hb4⟩
        have HT4 := Lib.hid (HTK.out.grow hb4)
        have HK := Lib.hid hk
        clear hk hb4 HTK HNM
        obtain ⟨er, her⟩ : ∃ er, er = (Tk.nameE x.data.toList).2 := ⟨_, rfl⟩
        rw [← her] at HK
        have HER := Lib.hid her
        rw [← HER.out]
        clear her
        go_wp2_with (refine st_row rfl 42 _ _ rfl w.heap.size #[.int .i64 k, .string x, .int .i64 0, .int .i64 ll, .int .i64 cc] rfl rfl 42 _ HT4.out.res infoTok5 rfl (by simp [Value.oneCell']) ?_; intro w9 hr9 hk9)
        refine bodyPost_ret (v := .tuple #[.agg #[.int .i64 k, .string x, .int .i64 0, .int .i64 ll, .int .i64 cc], .int .i64 er]) (by simp [results, Tryd.results68, asAddr, run_loadVar_row _ _ _ _ _ _ _ hr9 Tryd.underlying42 rfl infoTok5]) rfl ⟨k, 0, x, by rw [HONE.out, HLL.out, HCC.out, HER.out], moves_beyond HT4.out.moves (Nat.le_refl _) hk9, fun he => ⟨?_, ?_, HXE.out, ?_⟩⟩
        · rw [HONE.out] at he ⊢
          exact HK.out (HER.out.trans he)
        · rw [HONE.out]
        · rw [HONE.out]
          exact HT4.out.scn.keeps hk9 (by have := HT4.out.pl; omega) (fun h0 => by have := HT4.out.gl h0; omega)
      | false =>
        have HLET : Hid (∀ W, Calls Tryd.prog 114 #[.int .i32 (Tk.rn s N i)] W fun e w' => e = .returned (.bool false) ∧ W = w') := Lib.hid fun W => by have := tletter_any (Tk.rn s N i) W; rw [hl] at this; exact this
        cases hd : (Tk.dg (Tk.rn s N i) || (Tk.rn s N i == 45 && Tk.dg (Tk.rn s N (i + 1)))) with
        | true =>
          have HONE : Hid (Tk.one s N i = ⟨3, Tk.wh N (Tk.rn s N) Tk.dg (i + 1), (Nm.told (Tk.txt s i (Tk.wh N (Tk.rn s N) Tk.dg (i + 1))).data.toList).1, (Nm.told (Tk.txt s i (Tk.wh N (Tk.rn s N) Tk.dg (i + 1))).data.toList).2⟩) := Lib.hid (by unfold Tk.one; simp only [hl, hd, if_true]; rfl)
          have HXE : Hid (Tk.txt s i (Tk.wh N (Tk.rn s N) Tk.dg (i + 1)) = Tk.txt s i (Tk.one s N i).fin) := Lib.hid (by rw [HONE.out])
          have hwt := Tk.num_txt HT1.out.scn.ends hi hd
          have hfew := HT1.out.scn.few
          have hge := Tk.wh_ge N (Tk.rn s N) Tk.dg (i + 1)
          have HCT : Hid (∀ W, Moves p w W → Calls Tryd.prog 119 #[.agg #[.int .i64 0, .string (Tk.txt s i (Tk.wh N (Tk.rn s N) Tk.dg (i + 1))), .int .i64 0, .int .i64 ll, .int .i64 cc]] W (CountedR W (Tk.txt s i (Tk.wh N (Tk.rn s N) Tk.dg (i + 1))) ll cc)) := Lib.hid fun W hW => counted_any _ ll cc W (HN.out W hW) (by omega) hwt.2.1 hwt.2.2
          have HDG : Hid (∀ W, Calls Tryd.prog 85 #[.int .i32 (Tk.rn s N i)] W fun e w' => e = .returned (.bool (Tk.dg (Tk.rn s N i))) ∧ W = w') := Lib.hid fun W => tdigit_any _ W
          have HDG1 : Hid (∀ W, Calls Tryd.prog 85 #[.int .i32 (Tk.rn s N (i + 1))] W fun e w' => e = .returned (.bool (Tk.dg (Tk.rn s N (i + 1)))) ∧ W = w') := Lib.hid fun W => tdigit_any _ W
          have HR1 : Hid (∀ W, TkAt w W p (some ⟨g, 0, none⟩) rc g s N i #[.int .i64 0, .string { data := #[] }, .int .i64 0, .int .i64 ll, .int .i64 cc] → Calls Tryd.prog 112 #[.pointer (some ⟨p, 0, none⟩), .int .i64 1] W fun e w' => e = .returned (.int .i32 (Tk.rn s N (i + 1))) ∧ TkAt w w' p (some ⟨g, 0, none⟩) rc g s N i #[.int .i64 0, .string { data := #[] }, .int .i64 0, .int .i64 ll, .int .i64 cc]) := Lib.hid fun W h => rune1_tk h
          have HDW : Hid (∀ W, TkAt w W p (some ⟨g, 0, none⟩) rc g s N (i + 1) #[.int .i64 0, .string { data := #[] }, .int .i64 0, .int .i64 ll, .int .i64 cc] → Calls Tryd.prog 110 #[.pointer (some ⟨p, 0, none⟩), .func (.func 117) #[.pointer (some ⟨p, 0, none⟩)] #[]] W fun e w' => e = .returned (.string (Tk.txt s (i + 1) (Tk.wh N (Tk.rn s N) Tk.dg (i + 1)))) ∧ TkAt w w' p (some ⟨g, 0, none⟩) rc g s N (Tk.wh N (Tk.rn s N) Tk.dg (i + 1)) #[.int .i64 0, .string { data := #[] }, .int .i64 0, .int .i64 ll, .int .i64 cc]) := Lib.hid fun W h => digits_tk h
          have HSI : Hid (∀ W, TkAt w W p (some ⟨g, 0, none⟩) rc g s N (Tk.wh N (Tk.rn s N) Tk.dg (i + 1)) #[.int .i64 0, .string { data := #[] }, .int .i64 0, .int .i64 ll, .int .i64 cc] → Calls Tryd.prog 118 #[.pointer (some ⟨p, 0, none⟩), .int .i64 i] W fun e w' => e = .returned (.string (Tk.txt s i (Tk.wh N (Tk.rn s N) Tk.dg (i + 1)))) ∧ TkAt w w' p (some ⟨g, 0, none⟩) rc g s N (Tk.wh N (Tk.rn s N) Tk.dg (i + 1)) #[.int .i64 0, .string { data := #[] }, .int .i64 0, .int .i64 ll, .int .i64 cc]) := Lib.hid fun W h => since_tk h (by omega)
          have hiN : i + 1 ≤ N := by omega
          clear hl hwt hge
          generalize Tk.txt s i (Tk.wh N (Tk.rn s N) Tk.dg (i + 1)) = x at *
          generalize Tk.txt s (i + 1) (Tk.wh N (Tk.rn s N) Tk.dg (i + 1)) = xx at *
          generalize Tk.wh N (Tk.rn s N) Tk.dg (i + 1) = j at *
          generalize Tk.rn s N i = r at *
          generalize Tk.rn s N (i + 1) = r1 at *
          cases h1 : Tk.dg r with
          | true =>
            rw [h1] at HDG
            clear hd HR1 HDG1
            go_wp2_with fail
            refine (HLET.out _).mono ?_
            rintro e w2 ⟨rfl, rfl⟩
            go_wp2_with fail
            refine (HDG.out _).mono ?_
            rintro e w2 ⟨rfl, rfl⟩
            have c2 := HT1.out.scn.c2
            have f2 := HT1.out.scn.f2
            have HT2 : Hid (TkAt w (w1.setCell ⟨p, 2, none⟩ (.int .i64 ((i : Int) + 1))) p (some ⟨g, 0, none⟩) rc g s N (i + 1) #[.int .i64 0, .string { data := #[] }, .int .i64 0, .int .i64 ll, .int .i64 cc]) := Lib.hid (HT1.out.next hiN (by omega))
            have HDW2 := Lib.hid (HDW.out _ HT2.out)
            clear HDW HT2
            go_wp2_with fail
            refine HDW2.out.mono ?_
            rintro e w5 ⟨rfl, ht5⟩
            have HSI2 := Lib.hid (HSI.out w5 ht5)
            clear ht5 HSI HDW2 c2 f2
            go_wp2_with fail
            refine HSI2.out.mono ?_
            rintro e w6 ⟨rfl, ht6⟩
            have b1 := cell_of_row w6 (w.heap.size + 1) 1 _ _ _ ht6.tok
            have f1 := frozen_of_row w6 (w.heap.size + 1) 1 _ _ ht6.tok
            have hz : w.heap.size + 1 < w6.heap.size := obj_lt ht6.tok
            simp at b1
            have HTK : Hid (TkAt w (w6.setCell ⟨w.heap.size + 1, 1, none⟩ (.string x)) p (some ⟨g, 0, none⟩) rc g s N j #[.int .i64 0, .string x, .int .i64 0, .int .i64 ll, .int .i64 cc]) := Lib.hid (ht6.set 1 (.string x))
            have HCT2 := Lib.hid (HCT.out _ HTK.out.moves)
            clear ht6 HSI2 HCT
            go_wp2_with (refine wpList_load_row rfl 42 _ rfl (w.heap.size + 1) rfl 42 _ (0, 0) _ HTK.out.tok Tryd.underlying42 rfl infoTok5 ?_)
            refine HCT2.out.mono ?_
            rintro e w7 ⟨k, m, rfl, hk, hb7⟩
            have HT7 := Lib.hid (HTK.out.grow hb7)
            have HK := Lib.hid hk
            clear hk hb7 HTK HCT2
            obtain ⟨er, her⟩ : ∃ er, er = (Nm.told x.data.toList).2 := ⟨_, rfl⟩
            rw [← her] at HK
            have HER := Lib.hid her
            rw [← HER.out]
            clear her
            go_wp2_with (refine st_row rfl 42 _ _ rfl w.heap.size #[.int .i64 k, .string x, .int .i64 m, .int .i64 ll, .int .i64 cc] rfl rfl 42 _ HT7.out.res infoTok5 rfl (by simp [Value.oneCell']) ?_; intro w9 hr9 hk9)
            refine bodyPost_ret (v := .tuple #[.agg #[.int .i64 k, .string x, .int .i64 m, .int .i64 ll, .int .i64 cc], .int .i64 er]) (by simp [results, Tryd.results68, asAddr, run_loadVar_row _ _ _ _ _ _ _ hr9 Tryd.underlying42 rfl infoTok5]) rfl ⟨k, m, x, by rw [HONE.out, HLL.out, HCC.out, HER.out], moves_beyond HT7.out.moves (Nat.le_refl _) hk9, fun he => ⟨?_, ?_, HXE.out, ?_⟩⟩
            · rw [HONE.out] at he ⊢
              exact (HK.out (HER.out.trans he)).1
            · rw [HONE.out] at he ⊢
              exact (HK.out (HER.out.trans he)).2
            · rw [HONE.out]
              exact HT7.out.scn.keeps hk9 (by have := HT7.out.pl; omega) (fun h0 => by have := HT7.out.gl h0; omega)
          | false =>
            rw [h1] at HDG
            have h45 : (r == 45) = true := by cases e : (r == 45) with
              | true => rfl
              | false => rw [h1, e] at hd; cases hd
            have hd1 : Tk.dg r1 = true := by cases e : Tk.dg r1 with
              | true => rfl
              | false => rw [h1, e] at hd; simp at hd
            rw [hd1] at HDG1
            have HR2 := Lib.hid (HR1.out _ HT1.out)
            clear hd h1 hd1 HR1
            go_wp2_with fail
            refine (HLET.out _).mono ?_
            rintro e w2 ⟨rfl, rfl⟩
            go_wp2_with fail
            refine (HDG.out _).mono ?_
            rintro e w2 ⟨rfl, rfl⟩
            go_wp2_with fail
            refine HR2.out.mono ?_
            rintro e w3 ⟨rfl, ht3⟩
            have HT3 := Lib.hid ht3
            clear ht3 HT1 HR2
            go_wp2_with fail
            refine (HDG1.out _).mono ?_
            rintro e w4 ⟨rfl, rfl⟩
            have c2 := HT3.out.scn.c2
            have f2 := HT3.out.scn.f2
            have HT2 : Hid (TkAt w (w3.setCell ⟨p, 2, none⟩ (.int .i64 ((i : Int) + 1))) p (some ⟨g, 0, none⟩) rc g s N (i + 1) #[.int .i64 0, .string { data := #[] }, .int .i64 0, .int .i64 ll, .int .i64 cc]) := Lib.hid (HT3.out.next hiN (by omega))
            have HDW2 := Lib.hid (HDW.out _ HT2.out)
            clear HDW HT2
            go_wp2_with fail
            refine HDW2.out.mono ?_
            rintro e w5 ⟨rfl, ht5⟩
            have HSI2 := Lib.hid (HSI.out w5 ht5)
            clear ht5 HSI HDW2 c2 f2
            go_wp2_with fail
            refine HSI2.out.mono ?_
            rintro e w6 ⟨rfl, ht6⟩
            have b1 := cell_of_row w6 (w.heap.size + 1) 1 _ _ _ ht6.tok
            have f1 := frozen_of_row w6 (w.heap.size + 1) 1 _ _ ht6.tok
            have hz : w.heap.size + 1 < w6.heap.size := obj_lt ht6.tok
            simp at b1
            have HTK : Hid (TkAt w (w6.setCell ⟨w.heap.size + 1, 1, none⟩ (.string x)) p (some ⟨g, 0, none⟩) rc g s N j #[.int .i64 0, .string x, .int .i64 0, .int .i64 ll, .int .i64 cc]) := Lib.hid (ht6.set 1 (.string x))
            have HCT2 := Lib.hid (HCT.out _ HTK.out.moves)
            clear ht6 HSI2 HCT
            go_wp2_with (refine wpList_load_row rfl 42 _ rfl (w.heap.size + 1) rfl 42 _ (0, 0) _ HTK.out.tok Tryd.underlying42 rfl infoTok5 ?_)
            refine HCT2.out.mono ?_
            rintro e w7 ⟨k, m, rfl, hk, hb7⟩
            have HT7 := Lib.hid (HTK.out.grow hb7)
            have HK := Lib.hid hk
            clear hk hb7 HTK HCT2
            obtain ⟨er, her⟩ : ∃ er, er = (Nm.told x.data.toList).2 := ⟨_, rfl⟩
            rw [← her] at HK
            have HER := Lib.hid her
            rw [← HER.out]
            clear her
            go_wp2_with (refine st_row rfl 42 _ _ rfl w.heap.size #[.int .i64 k, .string x, .int .i64 m, .int .i64 ll, .int .i64 cc] rfl rfl 42 _ HT7.out.res infoTok5 rfl (by simp [Value.oneCell']) ?_; intro w9 hr9 hk9)
            refine bodyPost_ret (v := .tuple #[.agg #[.int .i64 k, .string x, .int .i64 m, .int .i64 ll, .int .i64 cc], .int .i64 er]) (by simp [results, Tryd.results68, asAddr, run_loadVar_row _ _ _ _ _ _ _ hr9 Tryd.underlying42 rfl infoTok5]) rfl ⟨k, m, x, by rw [HONE.out, HLL.out, HCC.out, HER.out], moves_beyond HT7.out.moves (Nat.le_refl _) hk9, fun he => ⟨?_, ?_, HXE.out, ?_⟩⟩
            · rw [HONE.out] at he ⊢
              exact (HK.out (HER.out.trans he)).1
            · rw [HONE.out] at he ⊢
              exact (HK.out (HER.out.trans he)).2
            · rw [HONE.out]
              exact HT7.out.scn.keeps hk9 (by have := HT7.out.pl; omega) (fun h0 => by have := HT7.out.gl h0; omega)
        | false =>
          have hd0 : Tk.dg (Tk.rn s N i) = false := by cases e : Tk.dg (Tk.rn s N i) with
            | false => rfl
            | true => rw [e] at hd; cases hd
          have HONE : Hid (Tk.one s N i = ⟨4, i + Tk.sign (Tk.rn s N i) (Tk.rn s N (i + 1)), 0, if Tk.sign (Tk.rn s N i) (Tk.rn s N (i + 1)) = 0 then 1 else 0⟩) := Lib.hid (by unfold Tk.one; simp only [hl, hd]; rfl)
          have HDG : Hid (∀ W, Calls Tryd.prog 85 #[.int .i32 (Tk.rn s N i)] W fun e w' => e = .returned (.bool false) ∧ W = w') := Lib.hid fun W => by have := tdigit_any (Tk.rn s N i) W; rw [hd0] at this; exact this
          have HDG1 : Hid (∀ W, Calls Tryd.prog 85 #[.int .i32 (Tk.rn s N (i + 1))] W fun e w' => e = .returned (.bool (Tk.dg (Tk.rn s N (i + 1)))) ∧ W = w') := Lib.hid fun W => tdigit_any _ W
          have HR1 := Lib.hid (rune1_tk HT1.out)
          have HSG : Hid (∀ W, TkAt w W p (some ⟨g, 0, none⟩) rc g s N i #[.int .i64 0, .string { data := #[] }, .int .i64 0, .int .i64 ll, .int .i64 cc] → Calls Tryd.prog 120 #[.pointer (some ⟨p, 0, none⟩)] W fun e w' => e = .returned (.int .i64 (Tk.sign (Tk.rn s N i) (Tk.rn s N (i + 1)) : Nat)) ∧ TkAt w w' p (some ⟨g, 0, none⟩) rc g s N i #[.int .i64 0, .string { data := #[] }, .int .i64 0, .int .i64 ll, .int .i64 cc]) := Lib.hid fun W h => sign_tk h
          have HSI : Hid (∀ W n, TkAt w W p (some ⟨g, 0, none⟩) rc g s N (i + n) #[.int .i64 0, .string { data := #[] }, .int .i64 0, .int .i64 ll, .int .i64 cc] → Calls Tryd.prog 118 #[.pointer (some ⟨p, 0, none⟩), .int .i64 i] W fun e w' => e = .returned (.string (Tk.txt s i (i + n))) ∧ TkAt w w' p (some ⟨g, 0, none⟩) rc g s N (i + n) #[.int .i64 0, .string { data := #[] }, .int .i64 0, .int .i64 ll, .int .i64 cc]) := Lib.hid fun W n h => since_tk h (by omega)
          have hle := HT1.out.scn.le
          have hfew := HT1.out.scn.few
          have hsg : Tk.sign (Tk.rn s N i) (Tk.rn s N (i + 1)) ≤ 2 := by
            unfold Tk.sign
            split
            · omega
            · split <;> omega
          clear hl
          generalize Tk.sign (Tk.rn s N i) (Tk.rn s N (i + 1)) = n at *
          replace HSI := Lib.hid (fun W => HSI.out W n)
          generalize Tk.rn s N i = r at *
          generalize Tk.rn s N (i + 1) = r1 at *
          cases h45 : (r == 45) with
          | true =>
            have hd1 : Tk.dg r1 = false := by cases e : Tk.dg r1 with
              | false => rfl
              | true => rw [h45, e] at hd; simp at hd
            rw [hd1] at HDG1
            clear hd hd0 hd1
            go_wp2_with fail
            refine (HLET.out _).mono ?_
            rintro e w2 ⟨rfl, rfl⟩
            go_wp2_with fail
            refine (HDG.out _).mono ?_
            rintro e w2 ⟨rfl, rfl⟩
            go_wp2_with fail
            refine HR1.out.mono ?_
            rintro e w3 ⟨rfl, ht3⟩
            have HT3 := Lib.hid ht3
            clear ht3 HT1 HR1
            go_wp2_with fail
            refine (HDG1.out _).mono ?_
            rintro e w4 ⟨rfl, rfl⟩
            have HSG2 := Lib.hid (HSG.out _ HT3.out)
            clear HSG
            go_wp2_with fail
            refine HSG2.out.mono ?_
            rintro e w5 ⟨rfl, ht5⟩
            have HT5 := Lib.hid ht5
            clear ht5 HSG2
            cases hn0 : (n == 0) with
            | true =>
              have hn00 : n = 0 := by simpa using hn0
              have HER : Hid ((Tk.one s N i).err = 1) := Lib.hid (by rw [HONE.out, if_pos hn00])
              subst hn00
              have HTK := HT5
              clear hn0 HSI hle hfew
              go_wp2_with (first | (refine wpList_load_row rfl 42 _ rfl (w.heap.size + 1) rfl 42 _ (0, 0) _ HTK.out.tok Tryd.underlying42 rfl infoTok5 ?_) | (refine st_row rfl 42 _ _ rfl w.heap.size #[.int .i64 0, .string { data := #[] }, .int .i64 0, .int .i64 ll, .int .i64 cc] rfl rfl 42 _ HT5.out.res infoTok5 rfl (by simp [Value.oneCell']) ?_; intro w9 hr9 hk9))
              refine bodyPost_ret (v := .tuple #[.agg #[.int .i64 0, .string { data := #[] }, .int .i64 0, .int .i64 ll, .int .i64 cc], .int .i64 1]) (by simp [results, Tryd.results68, asAddr, run_loadVar_row _ _ _ _ _ _ _ hr9 Tryd.underlying42 rfl infoTok5]) rfl ⟨0, 0, { data := #[] }, by rw [HER.out, HLL.out, HCC.out], moves_beyond HT5.out.moves (Nat.le_refl _) hk9, fun he => by rw [HER.out] at he; exact absurd he (by decide)⟩
            | false =>
              have hn00 : ¬ n = 0 := by simpa using hn0
              have HER : Hid ((Tk.one s N i).err = 0) := Lib.hid (by rw [HONE.out, if_neg hn00])
              have HFI : Hid ((Tk.one s N i).fin = i + n) := Lib.hid (by rw [HONE.out])
              have HKI : Hid ((Tk.one s N i).kind = 4 ∧ (Tk.one s N i).num = 0) := Lib.hid (by rw [HONE.out]; exact ⟨rfl, rfl⟩)
              have hin : i + n ≤ N := by have := (Tk.one_fin s N i hi HER.out).2; rw [HFI.out] at this; exact this
              have hnz : ((n : Int) == 0) = false := by simpa using hn0
              have c2 := HT5.out.scn.c2
              have f2 := HT5.out.scn.f2
              have HT6 : Hid (TkAt w (w5.setCell ⟨p, 2, none⟩ (.int .i64 ((i : Int) + (n : Int)))) p (some ⟨g, 0, none⟩) rc g s N (i + n) #[.int .i64 0, .string { data := #[] }, .int .i64 0, .int .i64 ll, .int .i64 cc]) := Lib.hid (HT5.out.next hin (by omega))
              have HSI2 := Lib.hid (HSI.out _ HT6.out)
              have HXE : Hid (Tk.txt s i (i + n) = Tk.txt s i (Tk.one s N i).fin) := Lib.hid (by rw [HFI.out])
              have eat : (i : Int) + (n : Int) - (n : Int) = (i : Int) := by omega
              clear HSI hn0 hn00 HT5 HONE
              generalize Tk.txt s i (i + n) = x at *
              go_wp2_with fail
              refine HSI2.out.mono ?_
              rintro e w6 ⟨rfl, ht6⟩
              have b0 := cell_of_row w6 (w.heap.size + 1) 0 _ _ _ ht6.tok
              have f0 := frozen_of_row w6 (w.heap.size + 1) 0 _ _ ht6.tok
              have b1 := cell_of_row w6 (w.heap.size + 1) 1 _ _ _ ht6.tok
              have f1 := frozen_of_row w6 (w.heap.size + 1) 1 _ _ ht6.tok
              have hz : w.heap.size + 1 < w6.heap.size := obj_lt ht6.tok
              simp at b0 b1
              have HTK : Hid (TkAt w ((w6.setCell ⟨w.heap.size + 1, 0, none⟩ (.int .i64 4)).setCell ⟨w.heap.size + 1, 1, none⟩ (.string x)) p (some ⟨g, 0, none⟩) rc g s N (i + n) #[.int .i64 4, .string x, .int .i64 0, .int .i64 ll, .int .i64 cc]) := Lib.hid ((ht6.set 0 (.int .i64 4)).set 1 (.string x))
              clear ht6 HSI2 HT6 c2 f2
              go_wp2_with (first | (refine wpList_load_row rfl 42 _ rfl (w.heap.size + 1) rfl 42 _ (0, 0) _ HTK.out.tok Tryd.underlying42 rfl infoTok5 ?_) | (refine st_row rfl 42 _ _ rfl w.heap.size #[.int .i64 4, .string x, .int .i64 0, .int .i64 ll, .int .i64 cc] rfl rfl 42 _ HTK.out.res infoTok5 rfl (by simp [Value.oneCell']) ?_; intro w9 hr9 hk9))
              refine bodyPost_ret (v := .tuple #[.agg #[.int .i64 4, .string x, .int .i64 0, .int .i64 ll, .int .i64 cc], .int .i64 0]) (by simp [results, Tryd.results68, asAddr, run_loadVar_row _ _ _ _ _ _ _ hr9 Tryd.underlying42 rfl infoTok5]) rfl ⟨4, 0, x, by rw [HER.out, HLL.out, HCC.out], moves_beyond HTK.out.moves (Nat.le_refl _) hk9, fun he => ⟨HKI.out.1.symm, HKI.out.2.symm, HXE.out, ?_⟩⟩
              rw [HFI.out]
              exact HTK.out.scn.keeps hk9 (by have := HTK.out.pl; omega) (fun h0 => by have := HTK.out.gl h0; omega)
          | false =>
            clear hd hd0 HR1 HDG1
            go_wp2_with fail
            refine (HLET.out _).mono ?_
            rintro e w2 ⟨rfl, rfl⟩
            go_wp2_with fail
            refine (HDG.out _).mono ?_
            rintro e w2 ⟨rfl, rfl⟩
            have HSG2 := Lib.hid (HSG.out _ HT1.out)
            clear HSG
            go_wp2_with fail
            refine HSG2.out.mono ?_
            rintro e w5 ⟨rfl, ht5⟩
            have HT5 := Lib.hid ht5
            clear ht5 HSG2
            cases hn0 : (n == 0) with
            | true =>
              have hn00 : n = 0 := by simpa using hn0
              have HER : Hid ((Tk.one s N i).err = 1) := Lib.hid (by rw [HONE.out, if_pos hn00])
              subst hn00
              have HTK := HT5
              clear hn0 HSI hle hfew
              go_wp2_with (first | (refine wpList_load_row rfl 42 _ rfl (w.heap.size + 1) rfl 42 _ (0, 0) _ HTK.out.tok Tryd.underlying42 rfl infoTok5 ?_) | (refine st_row rfl 42 _ _ rfl w.heap.size #[.int .i64 0, .string { data := #[] }, .int .i64 0, .int .i64 ll, .int .i64 cc] rfl rfl 42 _ HT5.out.res infoTok5 rfl (by simp [Value.oneCell']) ?_; intro w9 hr9 hk9))
              refine bodyPost_ret (v := .tuple #[.agg #[.int .i64 0, .string { data := #[] }, .int .i64 0, .int .i64 ll, .int .i64 cc], .int .i64 1]) (by simp [results, Tryd.results68, asAddr, run_loadVar_row _ _ _ _ _ _ _ hr9 Tryd.underlying42 rfl infoTok5]) rfl ⟨0, 0, { data := #[] }, by rw [HER.out, HLL.out, HCC.out], moves_beyond HT5.out.moves (Nat.le_refl _) hk9, fun he => by rw [HER.out] at he; exact absurd he (by decide)⟩
            | false =>
              have hn00 : ¬ n = 0 := by simpa using hn0
              have HER : Hid ((Tk.one s N i).err = 0) := Lib.hid (by rw [HONE.out, if_neg hn00])
              have HFI : Hid ((Tk.one s N i).fin = i + n) := Lib.hid (by rw [HONE.out])
              have HKI : Hid ((Tk.one s N i).kind = 4 ∧ (Tk.one s N i).num = 0) := Lib.hid (by rw [HONE.out]; exact ⟨rfl, rfl⟩)
              have hin : i + n ≤ N := by have := (Tk.one_fin s N i hi HER.out).2; rw [HFI.out] at this; exact this
              have hnz : ((n : Int) == 0) = false := by simpa using hn0
              have c2 := HT5.out.scn.c2
              have f2 := HT5.out.scn.f2
              have HT6 : Hid (TkAt w (w5.setCell ⟨p, 2, none⟩ (.int .i64 ((i : Int) + (n : Int)))) p (some ⟨g, 0, none⟩) rc g s N (i + n) #[.int .i64 0, .string { data := #[] }, .int .i64 0, .int .i64 ll, .int .i64 cc]) := Lib.hid (HT5.out.next hin (by omega))
              have HSI2 := Lib.hid (HSI.out _ HT6.out)
              have HXE : Hid (Tk.txt s i (i + n) = Tk.txt s i (Tk.one s N i).fin) := Lib.hid (by rw [HFI.out])
              have eat : (i : Int) + (n : Int) - (n : Int) = (i : Int) := by omega
              clear HSI hn0 hn00 HT5 HONE
              generalize Tk.txt s i (i + n) = x at *
              go_wp2_with fail
              refine HSI2.out.mono ?_
              rintro e w6 ⟨rfl, ht6⟩
              have b0 := cell_of_row w6 (w.heap.size + 1) 0 _ _ _ ht6.tok
              have f0 := frozen_of_row w6 (w.heap.size + 1) 0 _ _ ht6.tok
              have b1 := cell_of_row w6 (w.heap.size + 1) 1 _ _ _ ht6.tok
              have f1 := frozen_of_row w6 (w.heap.size + 1) 1 _ _ ht6.tok
              have hz : w.heap.size + 1 < w6.heap.size := obj_lt ht6.tok
              simp at b0 b1
              have HTK : Hid (TkAt w ((w6.setCell ⟨w.heap.size + 1, 0, none⟩ (.int .i64 4)).setCell ⟨w.heap.size + 1, 1, none⟩ (.string x)) p (some ⟨g, 0, none⟩) rc g s N (i + n) #[.int .i64 4, .string x, .int .i64 0, .int .i64 ll, .int .i64 cc]) := Lib.hid ((ht6.set 0 (.int .i64 4)).set 1 (.string x))
              clear ht6 HSI2 HT6 c2 f2
              go_wp2_with (first | (refine wpList_load_row rfl 42 _ rfl (w.heap.size + 1) rfl 42 _ (0, 0) _ HTK.out.tok Tryd.underlying42 rfl infoTok5 ?_) | (refine st_row rfl 42 _ _ rfl w.heap.size #[.int .i64 4, .string x, .int .i64 0, .int .i64 ll, .int .i64 cc] rfl rfl 42 _ HTK.out.res infoTok5 rfl (by simp [Value.oneCell']) ?_; intro w9 hr9 hk9))
              refine bodyPost_ret (v := .tuple #[.agg #[.int .i64 4, .string x, .int .i64 0, .int .i64 ll, .int .i64 cc], .int .i64 0]) (by simp [results, Tryd.results68, asAddr, run_loadVar_row _ _ _ _ _ _ _ hr9 Tryd.underlying42 rfl infoTok5]) rfl ⟨4, 0, x, by rw [HER.out, HLL.out, HCC.out], moves_beyond HTK.out.moves (Nat.le_refl _) hk9, fun he => ⟨HKI.out.1.symm, HKI.out.2.symm, HXE.out, ?_⟩⟩
              rw [HFI.out]
              exact HTK.out.scn.keeps hk9 (by have := HTK.out.pl; omega) (fun h0 => by have := HTK.out.gl h0; omega)
end Go.Proofs.YtbplkphjjfgkmaaDoor
