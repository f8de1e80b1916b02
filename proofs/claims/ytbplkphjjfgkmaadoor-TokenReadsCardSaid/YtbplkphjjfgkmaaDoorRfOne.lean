/-
  The document's token at a place.
-/
import Derived.Test.YtbplkphjjfgkmaaDoorRfVal
namespace Go.Proofs.YtbplkphjjfgkmaaDoor
open Go.RowKit
set_option linter.unusedVariables false
set_option linter.unusedSimpArgs false

theorem Nm.told_two (L : List UInt8) (h : Nm.body L ≠ []) (h2 : (Nm.body L).all Nm.dig = true) : (Nm.told L).2 = 0 ∨ (Nm.told L).2 = 2 := by
  rw [Nm.told_digits L h h2]
  unfold Nm.told2
  split
  · exact Or.inl rfl
  · split
    · exact Or.inl rfl
    · exact Or.inr rfl
/-- What lies in memory while the document's token is made: two blocks of the call's own. -/
structure RTk (w wr : World) (cs : Array Value) : Prop where
  res : wr.heap[w.heap.size]? = some (.cells #[.int .i64 0, .string { data := #[] }, .int .i64 0, .int .i64 0, .int .i64 0] 42 (0, 0))
  tok : wr.heap[w.heap.size + 1]? = some (.cells cs 42 (0, 0))
  below : Below w.heap.size w wr
section
variable {w wr wn : World} {cs : Array Value}
theorem RTk.keep (h : RTk w wr cs) (k : Keeps (fun k => k = w.heap.size + 1) wr wn) {ds : Array Value} (ht : wn.heap[w.heap.size + 1]? = some (.cells ds 42 (0, 0))) : RTk w wn ds :=
  ⟨keep_obj h.res k (by omega), ht, h.below.trans (k.below (fun b hb => by omega) h.below.size)⟩
theorem RTk.set (h : RTk w wr cs) (k : Nat) (v : Value) : RTk w (wr.setCell ⟨w.heap.size + 1, k, none⟩ v) (cs.setIfInBounds k v) :=
  h.keep (Keeps.setCell _ _ _ rfl) (set_obj h.tok v)
theorem RTk.grow (h : RTk w wr cs) (hb : Below wr.heap.size wr wn) : RTk w wn cs :=
  ⟨(hb.block _ (obj_lt h.res)).trans h.res, (hb.block _ (obj_lt h.tok)).trans h.tok, h.below.trans (hb.mono h.below.size)⟩
theorem RTk.dn (h : RTk w wr cs) (n : Nat) : RTk w (wr.drewN n) cs := h.grow ⟨rfl, rfl, rfl, Nat.le_refl _, fun _ _ => rfl⟩
end
/-- What the document's one answers. -/
def ROneR (w : World) (s : ByteArray) (N i : Nat) (e : Ending) (w' : World) : Prop :=
  ∃ (k m f : Int) (x : ByteArray), e = .returned (.tuple #[.agg #[.int .i64 k, .string x, .int .i64 m, .int .i64 (Rn.st s i).l, .int .i64 (Rn.st s i).c], .int .i64 f, .int .i64 (Tk.one s N i).err]) ∧ Below w.heap.size w w' ∧
    ((Tk.one s N i).err = 0 → k = (Tk.one s N i).kind ∧ m = (Tk.one s N i).num ∧ x = Tk.txt s i (Tk.one s N i).fin ∧ f = ((Tk.one s N i).fin : Int))
set_option maxRecDepth 1000000 in
set_option maxHeartbeats 16000000 in
theorem rone_any {w : World} {rc g N i : Nat} {ra : Option Addr} {s : ByteArray} (h : Rfs w ra rc g s N) (hi : i < N) :
    Calls Tryd.prog 70 #[.string s, .slice ra N rc, .int .i64 i] w (ROneR w s N i) := by
  rcases h.at_ with h0 | h0
  · omega
  · subst h0
    have hfew := h.few
    have HRF : Hid (∀ wr, Below w.heap.size w wr → Rfs wr (some ⟨g, 0, none⟩) rc g s N) := Lib.hid fun wr hb => h.below hb (Nat.le_refl _)
    have hs1 := HRF.out _ ((Below.refl w.heap.size w).alloc (Nat.le_refl _) (.cells #[.int .i64 0, .string { data := #[] }, .int .i64 0, .int .i64 0, .int .i64 0] 42))
    have hr3 := hs1.r3 hi
    have hr4 : (w.alloc (.cells #[.int .i64 0, .string { data := #[] }, .int .i64 0, .int .i64 0, .int .i64 0] 42)).cell? ⟨g, i * 5 + 3 + 1, none⟩ = some (.int .i64 ((Rn.st s i).c : Nat)) := hs1.r4 hi
    clear h hs1
    obtain ⟨ll, hll⟩ : ∃ ll, (Rn.st s i).l = ll := ⟨_, rfl⟩
    obtain ⟨cc, hcc⟩ : ∃ cc, (Rn.st s i).c = cc := ⟨_, rfl⟩
    rw [hll] at hr3
    rw [hcc] at hr4
    have HLL := Lib.hid hll
    have HCC := Lib.hid hcc
    clear hll hcc
    have hi1 : (i : Int) < (N : Int) := by omega
    go_enter Tryd.func70, Tryd.ntmps70
    go_wp2_with (refine st_rowTo rfl 42 _ _ rfl rfl (w.heap.size + 1) #[.int .i64 0, .string { data := #[] }, .int .i64 0, .int .i64 ll, .int .i64 cc] rfl rfl 42 _ (heap_alloc2_new _ _ _) infoTok5 rfl (by simp [Value.oneCell']) ?_; intro w1 ht1 k1; have HT1 : Hid (RTk w w1 #[.int .i64 0, .string { data := #[] }, .int .i64 0, .int .i64 ll, .int .i64 cc]) := Lib.hid ⟨keep_obj (heap_alloc2_old _ _ _) k1 (by omega), ht1, (((Below.refl _ _).alloc (Nat.le_refl _) _).alloc (by simp) _).trans (k1.below (fun b hb => by omega) (by simp; omega))⟩; have r0 := (HRF.out w1 HT1.out.below).r0 hi; clear ht1 k1 hr3 hr4)
    have HSM : Hid (∀ W, Calls Tryd.prog 122 #[.int .i64 (Tk.rn s N i)] W fun e w' => e = .returned (.bool (Tk.sm (Tk.rn s N i))) ∧ W = w') := Lib.hid fun W => rsmall_any _ W
    have HGR : Hid (∀ W, Calls Tryd.prog 123 #[.int .i64 (Tk.rn s N i)] W fun e w' => e = .returned (.bool (Tk.gr (Tk.rn s N i))) ∧ W = w') := Lib.hid fun W => rgreat_any _ W
    have HDG : Hid (∀ W, Calls Tryd.prog 125 #[.int .i64 (Tk.rn s N i)] W fun e w' => e = .returned (.bool (Tk.dg (Tk.rn s N i))) ∧ W = w') := Lib.hid fun W => rdigit_any _ W
    have HDG1 : Hid (∀ W, Calls Tryd.prog 125 #[.int .i64 (Tk.rn s N (i + 1))] W fun e w' => e = .returned (.bool (Tk.dg (Tk.rn s N (i + 1)))) ∧ W = w') := Lib.hid fun W => rdigit_any _ W
    have HA1 : Hid (∀ W, Below w.heap.size w W → Calls Tryd.prog 126 #[.slice (some ⟨g, 0, none⟩) N rc, .int .i64 ((i : Int) + 1)] W fun e w' => e = .returned (.int .i64 (Tk.rn s N (i + 1))) ∧ W = w') := Lib.hid fun W hb => (rat1_any (HRF.out W hb) (by omega)).mono fun e w' h => ⟨h.1, h.2.symm⟩
    have HWD : Hid (∀ W, Below w.heap.size w W → Calls Tryd.prog 124 #[.slice (some ⟨g, 0, none⟩) N rc, .int .i64 i] W fun e w' => e = .returned (.int .i64 (Tk.wh N (Tk.rn s N) Tk.row i : Nat)) ∧ w' = W) := Lib.hid fun W hb => rword_any (HRF.out W hb) (by omega)
    cases c1 : Tk.sm (Tk.rn s N i)
    · rw [c1] at HSM
      cases c2 : Tk.gr (Tk.rn s N i)
      · rw [c2] at HGR
        have hl : (Tk.sm (Tk.rn s N i) || Tk.gr (Tk.rn s N i)) = false := by rw [c1, c2]; rfl
        clear c1 c2
        cases c3 : Tk.dg (Tk.rn s N i)
        · rw [c3] at HDG
          by_cases c4 : Tk.rn s N i = 45
          · have hm45 : (Tk.rn s N i == 45) = true := by rw [c4]; rfl
            cases c5 : Tk.dg (Tk.rn s N (i + 1))
            · rw [c5] at HDG1
              have hd : (Tk.dg (Tk.rn s N i) || (Tk.rn s N i == 45 && Tk.dg (Tk.rn s N (i + 1)))) = false := by rw [c3, c5]; simp
              clear c3 c4 c5
              obtain ⟨n, hn⟩ : ∃ n, n = Tk.sign (Tk.rn s N i) (Tk.rn s N (i + 1)) := ⟨_, rfl⟩
              have HSG : Hid (∀ W, Below w.heap.size w W → Calls Tryd.prog 127 #[.slice (some ⟨g, 0, none⟩) N rc, .int .i64 i] W fun e w' => e = .returned (.int .i64 (n : Nat)) ∧ w' = W) := Lib.hid fun W hb => by rw [hn]; exact rsign_any (HRF.out W hb) (by omega)
              have HONE : Hid (Tk.one s N i = ⟨4, i + n, 0, if n = 0 then 1 else 0⟩) := Lib.hid (by rw [hn]; unfold Tk.one; simp only [hl, hd]; rfl)
              have hn2 : n ≤ 2 := by rw [hn]; exact Tk.sign_le _ _
              have HFN : Hid (n ≠ 0 → i + n ≤ N) := Lib.hid fun h => by
                have he : (Tk.one s N i).err = 0 := by rw [HONE.out]; show (if n = 0 then (1 : Int) else 0) = 0; rw [if_neg h]
                have h2 := (Tk.one_fin s N i hi he).2
                rw [HONE.out] at h2
                exact h2
              have HSG1 := Lib.hid (HSG.out _ HT1.out.below)
              clear hl HWD hn HSG hd
              generalize Tk.rn s N (i + 1) = r1 at *
              generalize Tk.rn s N i = r at *
              have b0a := cell_of_row w1 (w.heap.size + 1) 0 _ _ _ HT1.out.tok
              have f0a := frozen_of_row w1 (w.heap.size + 1) 0 _ _ HT1.out.tok
              have hza : w.heap.size + 1 < w1.heap.size := obj_lt HT1.out.tok
              simp at b0a
              go_wp2_with fail
              refine (HSM.out _).mono ?_
              rintro e w2 ⟨rfl, rfl⟩
              go_wp2_with fail
              refine (HGR.out _).mono ?_
              rintro e w2 ⟨rfl, rfl⟩
              go_wp2_with fail
              refine (HDG.out _).mono ?_
              rintro e w2 ⟨rfl, rfl⟩
              go_wp2_with fail
              refine (HA1.out _ HT1.out.below).mono ?_
              rintro e w2 ⟨rfl, rfl⟩
              go_wp2_with fail
              refine (HDG1.out _).mono ?_
              rintro e w2 ⟨rfl, rfl⟩
              go_wp2_with fail
              refine HSG1.out.mono ?_
              rintro e w2 ⟨rfl, rfl⟩
              by_cases hn0 : n = 0
              · have HER : Hid ((Tk.one s N i).err = 1) := Lib.hid (by rw [HONE.out]; show (if n = 0 then (1 : Int) else 0) = 1; rw [if_pos hn0])
                have hadd : (i : Int) + (n : Int) = (i : Int) := by omega
                have heqi : ((i : Int) + (n : Int) == (i : Int)) = true := by simp; omega
                clear hn0 hn2
                have HT2 : Hid (RTk w (w2.setCell ⟨w.heap.size + 1, 0, none⟩ (.int .i64 4)) #[.int .i64 4, .string { data := #[] }, .int .i64 0, .int .i64 ll, .int .i64 cc]) := Lib.hid (HT1.out.set 0 (.int .i64 4))
                have b1g := cell_of_row (w2.setCell ⟨w.heap.size + 1, 0, none⟩ (.int .i64 4)) (w.heap.size + 1) 1 _ _ _ HT2.out.tok
                have b2g := cell_of_row (w2.setCell ⟨w.heap.size + 1, 0, none⟩ (.int .i64 4)) (w.heap.size + 1) 2 _ _ _ HT2.out.tok
                have b3g := cell_of_row (w2.setCell ⟨w.heap.size + 1, 0, none⟩ (.int .i64 4)) (w.heap.size + 1) 3 _ _ _ HT2.out.tok
                have b4g := cell_of_row (w2.setCell ⟨w.heap.size + 1, 0, none⟩ (.int .i64 4)) (w.heap.size + 1) 4 _ _ _ HT2.out.tok
                simp at b1g b2g b3g b4g
                go_wp2_with (first | (refine wpList_load_row rfl 42 _ rfl (w.heap.size + 1) rfl 42 _ (0, 0) _ HT2.out.tok Tryd.underlying42 rfl infoTok5 ?_) | (refine st_rowTo rfl 42 _ _ rfl rfl w.heap.size #[.int .i64 4, .string { data := #[] }, .int .i64 0, .int .i64 ll, .int .i64 cc] rfl rfl 42 _ HT2.out.res infoTok5 rfl (by simp [Value.oneCell']) ?_; intro w9 hr9 hk9))
                refine bodyPost_ret (v := .tuple #[.agg #[.int .i64 4, .string { data := #[] }, .int .i64 0, .int .i64 ll, .int .i64 cc], .int .i64 i, .int .i64 1]) (by simp [results, Tryd.results70, asAddr, run_loadVar_row _ _ _ _ _ _ _ hr9 Tryd.underlying42 rfl infoTok5]) rfl ⟨4, 0, i, { data := #[] }, by rw [HLL.out, HCC.out, HER.out], HT2.out.below.trans (hk9.below (fun b hb => by omega) HT2.out.below.size), fun he => ?_⟩
                rw [HER.out] at he
                exact absurd he (by decide)
              · have hin := HFN.out hn0
                have hne : ((i : Int) + (n : Int) == (i : Int)) = false := by simp; omega
                obtain ⟨j, hj⟩ : ∃ j, j = i + n := ⟨_, rfl⟩
                have hge : i + 1 ≤ j := by omega
                have hle : j ≤ N := by omega
                have hji : (i : Int) + (n : Int) = (j : Int) := by omega
                have HER : Hid ((Tk.one s N i).err = 0) := Lib.hid (by rw [HONE.out]; show (if n = 0 then (1 : Int) else 0) = 0; rw [if_neg hn0])
                obtain ⟨x, hx⟩ : ∃ x, x = Tk.txt s i j := ⟨_, rfl⟩
                have HTX : Hid (∀ m, m + 1 = j → s.extract (Rn.st s i).p (Rn.st s (m + 1)).p = x) := Lib.hid fun m hm => by rw [hm, hx]; rfl
                have HXE : Hid (x = Tk.txt s i (Tk.one s N i).fin) := Lib.hid (by rw [HONE.out, hx, hj])
                rw [← hj] at HONE
                clear hx hj hin HFN hn0
                go_wp2_with fail
                try rw [hji]
                obtain ⟨m, hm⟩ : ∃ m, m + 1 = j := ⟨j - 1, by omega⟩
                have HT2 : Hid (RTk w (w2.setCell ⟨w.heap.size + 1, 0, none⟩ (.int .i64 4)) #[.int .i64 4, .string { data := #[] }, .int .i64 0, .int .i64 ll, .int .i64 cc]) := Lib.hid (HT1.out.set 0 (.int .i64 4))
                generalize w2.setCell ⟨w.heap.size + 1, 0, none⟩ (.int .i64 4) = w3 at *
                have q1 := (HRF.out w3 HT2.out.below).r1 hi
                have q2 := (HRF.out w3 HT2.out.below).r2 (j := m) (by omega)
                have hp1 := st_mono s i (m + 1) (by omega)
                have hp2 := st_in (HRF.out w3 HT2.out.below).ends (m + 1) (by omega)
                have hp3 := (HRF.out w3 HT2.out.below).size
                have HTX1 := Lib.hid (HTX.out m hm)
                have b1t := cell_of_row w3 (w.heap.size + 1) 1 _ _ _ HT2.out.tok
                have f1t := frozen_of_row w3 (w.heap.size + 1) 1 _ _ HT2.out.tok
                have hzt : w.heap.size + 1 < w3.heap.size := obj_lt HT2.out.tok
                simp at b1t
                generalize (Rn.st s (m + 1)).p = pj at *
                generalize (Rn.st s i).p = pi at *
                have hjm : (j : Int) = (m : Int) + 1 := by omega
                clear HT1 r0 f0a hza b0a hm HTX
                go_region
                all_goals
                  have HT4 : Hid (RTk w ((w3.setCell ⟨w.heap.size + 1, 1, none⟩ (.string (s.extract pi pj))).drew) #[.int .i64 4, .string x, .int .i64 0, .int .i64 ll, .int .i64 cc]) := Lib.hid (by rw [HTX1.out]; exact (HT2.out.set 1 (.string x)).dn 1)
                  generalize (w3.setCell ⟨w.heap.size + 1, 1, none⟩ (.string (s.extract pi pj))).drew = w4 at *
                  clear HT2 q1 q2 hp1 hp2 hp3 hjm HTX1 b1t f1t hzt
                  have b0d := cell_of_row w4 (w.heap.size + 1) 0 _ _ _ HT4.out.tok
                  have f0d := frozen_of_row w4 (w.heap.size + 1) 0 _ _ HT4.out.tok
                  have b1d := cell_of_row w4 (w.heap.size + 1) 1 _ _ _ HT4.out.tok
                  have f1d := frozen_of_row w4 (w.heap.size + 1) 1 _ _ HT4.out.tok
                  have hzd : w.heap.size + 1 < w4.heap.size := obj_lt HT4.out.tok
                  simp at b0d b1d
                  go_wp2_with (first | (refine wpList_load_row rfl 42 _ rfl (w.heap.size + 1) rfl 42 _ (0, 0) _ HT4.out.tok Tryd.underlying42 rfl infoTok5 ?_) | (refine st_rowTo rfl 42 _ _ rfl rfl w.heap.size #[.int .i64 4, .string x, .int .i64 0, .int .i64 ll, .int .i64 cc] rfl rfl 42 _ HT4.out.res infoTok5 rfl (by simp [Value.oneCell']) ?_; intro w9 hr9 hk9))
                  refine bodyPost_ret (v := .tuple #[.agg #[.int .i64 4, .string x, .int .i64 0, .int .i64 ll, .int .i64 cc], .int .i64 j, .int .i64 0]) (by simp [results, Tryd.results70, asAddr, run_loadVar_row _ _ _ _ _ _ _ hr9 Tryd.underlying42 rfl infoTok5]) rfl ⟨4, 0, j, x, by rw [HLL.out, HCC.out, HER.out], HT4.out.below.trans (hk9.below (fun b hb => by omega) HT4.out.below.size), fun he => ?_⟩
                  exact ⟨by rw [HONE.out], by rw [HONE.out], HXE.out, by rw [HONE.out]⟩
            · rw [c5] at HDG1
              have hd : (Tk.dg (Tk.rn s N i) || (Tk.rn s N i == 45 && Tk.dg (Tk.rn s N (i + 1)))) = true := by rw [c3, c5, hm45]; rfl
              clear c3 c4 c5
              have HONE : Hid (Tk.one s N i = ⟨3, Tk.wh N (Tk.rn s N) Tk.dg (i + 1), (Nm.told (Tk.txt s i (Tk.wh N (Tk.rn s N) Tk.dg (i + 1))).data.toList).1, (Nm.told (Tk.txt s i (Tk.wh N (Tk.rn s N) Tk.dg (i + 1))).data.toList).2⟩) := Lib.hid (by unfold Tk.one; simp only [hl, hd, if_true]; rfl)
              have HXE : Hid (Tk.txt s i (Tk.wh N (Tk.rn s N) Tk.dg (i + 1)) = Tk.txt s i (Tk.one s N i).fin) := Lib.hid (by rw [HONE.out])
              have hwt := Tk.num_txt (HRF.out w1 HT1.out.below).ends hi hd
              have hge := Tk.wh_ge N (Tk.rn s N) Tk.dg (i + 1)
              have hle := Tk.wh_le N (Tk.rn s N) Tk.dg (i + 1) (by omega)
              clear hl HWD
              have HTX : Hid (∀ m, m + 1 = Tk.wh N (Tk.rn s N) Tk.dg (i + 1) → s.extract (Rn.st s i).p (Rn.st s (m + 1)).p = Tk.txt s i (Tk.wh N (Tk.rn s N) Tk.dg (i + 1))) := Lib.hid fun m hm => by rw [hm]; rfl
              have hxs := hwt.1
              have HBO := Lib.hid hwt.2
              clear hwt
              generalize Tk.txt s i (Tk.wh N (Tk.rn s N) Tk.dg (i + 1)) = x at *
              have HVL : Hid (∀ W, Calls Tryd.prog 129 #[.string x] W fun e w' => e = .returned (.tuple #[.int .i64 (Nm.told x.data.toList).1, .bool (decide ((Nm.told x.data.toList).2 = 0))]) ∧ w' = W) := Lib.hid fun W => rvalue_any x W (by omega) HBO.out.1 HBO.out.2
              have HAT : Hid (∀ W, Below w.heap.size w W → ∀ q, q ≤ N → Calls Tryd.prog 126 #[.slice (some ⟨g, 0, none⟩) N rc, .int .i64 q] W fun e w' => e = .returned (.int .i64 (Tk.rn s N q)) ∧ w' = W) := Lib.hid fun W hb q hq => rat_any (HRF.out W hb) (by omega)
              have HWG : Hid (∀ q, q < N → Tk.dg (Tk.rn s N q) = true → Tk.wh N (Tk.rn s N) Tk.dg q = Tk.wh N (Tk.rn s N) Tk.dg (q + 1)) := Lib.hid fun q h1 h2 => Tk.wh_go h1 h2
              have HWS : Hid (∀ q, ¬ (Tk.dg (Tk.rn s N q) = true) → Tk.wh N (Tk.rn s N) Tk.dg q = q) := Lib.hid fun q h => Tk.wh_stop (fun c => h c.2)
              obtain ⟨j, hj⟩ : ∃ j, j = Tk.wh N (Tk.rn s N) Tk.dg (i + 1) := ⟨_, rfl⟩
              rw [← hj] at HONE hge hle HTX
              have HJ := Lib.hid hj
              clear hj
              have b0a := cell_of_row w1 (w.heap.size + 1) 0 _ _ _ HT1.out.tok
              have f0a := frozen_of_row w1 (w.heap.size + 1) 0 _ _ HT1.out.tok
              have hza : w.heap.size + 1 < w1.heap.size := obj_lt HT1.out.tok
              simp at b0a
              go_wp2_with fail
              refine (HSM.out _).mono ?_
              rintro e w2 ⟨rfl, rfl⟩
              go_wp2_with fail
              refine (HGR.out _).mono ?_
              rintro e w2 ⟨rfl, rfl⟩
              go_wp2_with fail
              refine (HDG.out _).mono ?_
              rintro e w2 ⟨rfl, rfl⟩
              go_wp2_with fail
              refine (HA1.out _ HT1.out.below).mono ?_
              rintro e w2 ⟨rfl, rfl⟩
              go_wp2_with fail
              refine (HDG1.out _).mono ?_
              rintro e w2 ⟨rfl, rfl⟩
              go_wp2_with fail
              go_loopw [11] (fun v11 wr => ∃ q : Nat, q ≤ N ∧ v11 = .int .i64 q ∧ Hid (Tk.wh N (Tk.rn s N) Tk.dg q = j) ∧ wr = w1) (fun v11 _ => N - (intOf v11).toNat)
              case atStart => exact ⟨i + 1, by omega, by go_num, Lib.hid HJ.out.symm, rfl⟩
              case round =>
                obtain ⟨q, hq, rfl, HQ, rfl⟩ := hrel
                have HATQ := Lib.hid (HAT.out _ HT1.out.below q hq)
                have HDQ := Lib.hid (fun W => rdigit_any (Tk.rn s N q) W)
                by_cases hdq : Tk.dg (Tk.rn s N q) = true
                · have hqN : q < N := Tk.rn_lt (by intro e; rw [e] at hdq; exact absurd hdq (by decide))
                  have HQ2 : Hid (Tk.wh N (Tk.rn s N) Tk.dg (q + 1) = j) := Lib.hid (by rw [← HWG.out q hqN hdq]; exact HQ.out)
                  rw [hdq] at HDQ
                  generalize Tk.rn s N q = rq at *
                  go_wp2_with fail
                  refine HATQ.out.mono ?_
                  rintro e w3 ⟨rfl, rfl⟩
                  go_wp2_with fail
                  refine (HDQ.out _).mono ?_
                  rintro e w3 ⟨rfl, rfl⟩
                  go_wp2_with fail
                  go_roundw
                  case rel => exact ⟨q + 1, by omega, by go_num, HQ2, (by first | rfl | trivial)⟩
                  case measure => simp [intOf]; omega
                · have hqj : j = q := by rw [← HQ.out]; exact HWS.out q hdq
                  have hdq0 : Tk.dg (Tk.rn s N q) = false := by simpa using hdq
                  rw [hdq0] at HDQ
                  clear hdq hdq0 HJ HWG HWS HQ HAT
                  subst hqj
                  generalize Tk.rn s N j = rq at *
                  go_wp2_with fail
                  refine HATQ.out.mono ?_
                  rintro e w2 ⟨rfl, rfl⟩
                  go_wp2_with fail
                  refine (HDQ.out _).mono ?_
                  rintro e w2 ⟨rfl, rfl⟩
                  go_wp2_with fail
                  obtain ⟨m, hm⟩ : ∃ m, m + 1 = j := ⟨j - 1, by omega⟩
                  have HT2 : Hid (RTk w (w2.setCell ⟨w.heap.size + 1, 0, none⟩ (.int .i64 3)) #[.int .i64 3, .string { data := #[] }, .int .i64 0, .int .i64 ll, .int .i64 cc]) := Lib.hid (HT1.out.set 0 (.int .i64 3))
                  generalize w2.setCell ⟨w.heap.size + 1, 0, none⟩ (.int .i64 3) = w3 at *
                  have q1 := (HRF.out w3 HT2.out.below).r1 hi
                  have q2 := (HRF.out w3 HT2.out.below).r2 (j := m) (by omega)
                  have hp1 := st_mono s i (m + 1) (by omega)
                  have hp2 := st_in (HRF.out w3 HT2.out.below).ends (m + 1) (by omega)
                  have hp3 := (HRF.out w3 HT2.out.below).size
                  have HTX1 := Lib.hid (HTX.out m hm)
                  have b1t := cell_of_row w3 (w.heap.size + 1) 1 _ _ _ HT2.out.tok
                  have f1t := frozen_of_row w3 (w.heap.size + 1) 1 _ _ HT2.out.tok
                  have hzt : w.heap.size + 1 < w3.heap.size := obj_lt HT2.out.tok
                  simp at b1t
                  generalize (Rn.st s (m + 1)).p = pj at *
                  generalize (Rn.st s i).p = pi at *
                  have hjm : (j : Int) = (m : Int) + 1 := by omega
                  clear HT1 r0 f0a hza b0a hm HTX
                  go_region
                  all_goals
                    have HT4 : Hid (RTk w ((w3.setCell ⟨w.heap.size + 1, 1, none⟩ (.string (s.extract pi pj))).drew) #[.int .i64 3, .string x, .int .i64 0, .int .i64 ll, .int .i64 cc]) := Lib.hid (by rw [HTX1.out]; exact (HT2.out.set 1 (.string x)).dn 1)
                    generalize (w3.setCell ⟨w.heap.size + 1, 1, none⟩ (.string (s.extract pi pj))).drew = w4 at *
                    clear HT2 q1 q2 hp1 hp2 hp3 hjm HTX1 b1t f1t hzt
                    have b0d := cell_of_row w4 (w.heap.size + 1) 0 _ _ _ HT4.out.tok
                    have f0d := frozen_of_row w4 (w.heap.size + 1) 0 _ _ HT4.out.tok
                    have b1d := cell_of_row w4 (w.heap.size + 1) 1 _ _ _ HT4.out.tok
                    have f1d := frozen_of_row w4 (w.heap.size + 1) 1 _ _ HT4.out.tok
                    have hzd : w.heap.size + 1 < w4.heap.size := obj_lt HT4.out.tok
                    simp at b0d b1d
                    go_wp2_with fail
                    obtain ⟨ok, hok⟩ : ∃ ok, ok = decide ((Nm.told x.data.toList).2 = 0) := ⟨_, rfl⟩
                    have HOK := Lib.hid hok
                    refine (HVL.out _).mono ?_
                    rw [← hok]
                    clear hok
                    rintro e w5 ⟨rfl, rfl⟩
                    clear HVL
                    have b2f := cell_of_row w5 (w.heap.size + 1) 2 _ _ _ HT4.out.tok
                    have f2f := frozen_of_row w5 (w.heap.size + 1) 2 _ _ HT4.out.tok
                    have hzf : w.heap.size + 1 < w5.heap.size := obj_lt HT4.out.tok
                    simp at b2f
                    cases ok
                    · have HER : Hid ((Tk.one s N i).err = 2) := Lib.hid (by rw [HONE.out]; exact (Nm.told_two x.data.toList HBO.out.1 HBO.out.2).resolve_left (by simpa using HOK.out.symm))
                      have HT6 : Hid (RTk w (w5.setCell ⟨w.heap.size + 1, 2, none⟩ (.int .i64 (Nm.told x.data.toList).1)) #[.int .i64 3, .string x, .int .i64 (Nm.told x.data.toList).1, .int .i64 ll, .int .i64 cc]) := Lib.hid (HT4.out.set 2 (.int .i64 (Nm.told x.data.toList).1))
                      clear HOK
                      generalize Nm.told x.data.toList = tv at *
                      have b0h := cell_of_row (w5.setCell ⟨w.heap.size + 1, 2, none⟩ (.int .i64 tv.1)) (w.heap.size + 1) 0 _ _ _ HT6.out.tok
                      have b1h := cell_of_row (w5.setCell ⟨w.heap.size + 1, 2, none⟩ (.int .i64 tv.1)) (w.heap.size + 1) 1 _ _ _ HT6.out.tok
                      have b3h := cell_of_row (w5.setCell ⟨w.heap.size + 1, 2, none⟩ (.int .i64 tv.1)) (w.heap.size + 1) 3 _ _ _ HT6.out.tok
                      have b4h := cell_of_row (w5.setCell ⟨w.heap.size + 1, 2, none⟩ (.int .i64 tv.1)) (w.heap.size + 1) 4 _ _ _ HT6.out.tok
                      simp at b0h b1h b3h b4h
                      go_wp2_with (first | (refine wpList_load_row rfl 42 _ rfl (w.heap.size + 1) rfl 42 _ (0, 0) _ HT6.out.tok Tryd.underlying42 rfl infoTok5 ?_) | (refine st_rowTo rfl 42 _ _ rfl rfl w.heap.size #[.int .i64 3, .string x, .int .i64 tv.1, .int .i64 ll, .int .i64 cc] rfl rfl 42 _ HT6.out.res infoTok5 rfl (by simp [Value.oneCell']) ?_; intro w9 hr9 hk9))
                      refine bodyPost_ret (v := .tuple #[.agg #[.int .i64 3, .string x, .int .i64 tv.1, .int .i64 ll, .int .i64 cc], .int .i64 j, .int .i64 2]) (by simp [results, Tryd.results70, asAddr, run_loadVar_row _ _ _ _ _ _ _ hr9 Tryd.underlying42 rfl infoTok5]) rfl ⟨3, tv.1, j, x, by rw [HLL.out, HCC.out, HER.out], HT6.out.below.trans (hk9.below (fun b hb => by omega) HT6.out.below.size), fun he => ?_⟩
                      rw [HER.out] at he
                      exact absurd he (by decide)
                    · have HER : Hid ((Tk.one s N i).err = 0) := Lib.hid (by rw [HONE.out]; simpa using HOK.out.symm)
                      have HT6 : Hid (RTk w (w5.setCell ⟨w.heap.size + 1, 2, none⟩ (.int .i64 (Nm.told x.data.toList).1)) #[.int .i64 3, .string x, .int .i64 (Nm.told x.data.toList).1, .int .i64 ll, .int .i64 cc]) := Lib.hid (HT4.out.set 2 (.int .i64 (Nm.told x.data.toList).1))
                      clear HOK
                      generalize Nm.told x.data.toList = tv at *
                      have b0h := cell_of_row (w5.setCell ⟨w.heap.size + 1, 2, none⟩ (.int .i64 tv.1)) (w.heap.size + 1) 0 _ _ _ HT6.out.tok
                      have b1h := cell_of_row (w5.setCell ⟨w.heap.size + 1, 2, none⟩ (.int .i64 tv.1)) (w.heap.size + 1) 1 _ _ _ HT6.out.tok
                      have b3h := cell_of_row (w5.setCell ⟨w.heap.size + 1, 2, none⟩ (.int .i64 tv.1)) (w.heap.size + 1) 3 _ _ _ HT6.out.tok
                      have b4h := cell_of_row (w5.setCell ⟨w.heap.size + 1, 2, none⟩ (.int .i64 tv.1)) (w.heap.size + 1) 4 _ _ _ HT6.out.tok
                      simp at b0h b1h b3h b4h
                      go_wp2_with (first | (refine wpList_load_row rfl 42 _ rfl (w.heap.size + 1) rfl 42 _ (0, 0) _ HT6.out.tok Tryd.underlying42 rfl infoTok5 ?_) | (refine st_rowTo rfl 42 _ _ rfl rfl w.heap.size #[.int .i64 3, .string x, .int .i64 tv.1, .int .i64 ll, .int .i64 cc] rfl rfl 42 _ HT6.out.res infoTok5 rfl (by simp [Value.oneCell']) ?_; intro w9 hr9 hk9))
                      refine bodyPost_ret (v := .tuple #[.agg #[.int .i64 3, .string x, .int .i64 tv.1, .int .i64 ll, .int .i64 cc], .int .i64 j, .int .i64 0]) (by simp [results, Tryd.results70, asAddr, run_loadVar_row _ _ _ _ _ _ _ hr9 Tryd.underlying42 rfl infoTok5]) rfl ⟨3, tv.1, j, x, by rw [HLL.out, HCC.out, HER.out], HT6.out.below.trans (hk9.below (fun b hb => by omega) HT6.out.below.size), fun he => ?_⟩
                      exact ⟨by rw [HONE.out], by rw [HONE.out], HXE.out, by rw [HONE.out]⟩
          · have hm45 : (Tk.rn s N i == 45) = false := by simpa using c4
            have hd : (Tk.dg (Tk.rn s N i) || (Tk.rn s N i == 45 && Tk.dg (Tk.rn s N (i + 1)))) = false := by rw [c3, hm45]; rfl
            clear c3 c4
            obtain ⟨n, hn⟩ : ∃ n, n = Tk.sign (Tk.rn s N i) (Tk.rn s N (i + 1)) := ⟨_, rfl⟩
            have HSG : Hid (∀ W, Below w.heap.size w W → Calls Tryd.prog 127 #[.slice (some ⟨g, 0, none⟩) N rc, .int .i64 i] W fun e w' => e = .returned (.int .i64 (n : Nat)) ∧ w' = W) := Lib.hid fun W hb => by rw [hn]; exact rsign_any (HRF.out W hb) (by omega)
            have HONE : Hid (Tk.one s N i = ⟨4, i + n, 0, if n = 0 then 1 else 0⟩) := Lib.hid (by rw [hn]; unfold Tk.one; simp only [hl, hd]; rfl)
            have hn2 : n ≤ 2 := by rw [hn]; exact Tk.sign_le _ _
            have HFN : Hid (n ≠ 0 → i + n ≤ N) := Lib.hid fun h => by
              have he : (Tk.one s N i).err = 0 := by rw [HONE.out]; show (if n = 0 then (1 : Int) else 0) = 0; rw [if_neg h]
              have h2 := (Tk.one_fin s N i hi he).2
              rw [HONE.out] at h2
              exact h2
            have HSG1 := Lib.hid (HSG.out _ HT1.out.below)
            clear hl HWD hn HSG hd
            generalize Tk.rn s N (i + 1) = r1 at *
            generalize Tk.rn s N i = r at *
            have b0a := cell_of_row w1 (w.heap.size + 1) 0 _ _ _ HT1.out.tok
            have f0a := frozen_of_row w1 (w.heap.size + 1) 0 _ _ HT1.out.tok
            have hza : w.heap.size + 1 < w1.heap.size := obj_lt HT1.out.tok
            simp at b0a
            go_wp2_with fail
            refine (HSM.out _).mono ?_
            rintro e w2 ⟨rfl, rfl⟩
            go_wp2_with fail
            refine (HGR.out _).mono ?_
            rintro e w2 ⟨rfl, rfl⟩
            go_wp2_with fail
            refine (HDG.out _).mono ?_
            rintro e w2 ⟨rfl, rfl⟩
            go_wp2_with fail
            refine HSG1.out.mono ?_
            rintro e w2 ⟨rfl, rfl⟩
            by_cases hn0 : n = 0
            · have HER : Hid ((Tk.one s N i).err = 1) := Lib.hid (by rw [HONE.out]; show (if n = 0 then (1 : Int) else 0) = 1; rw [if_pos hn0])
              have hadd : (i : Int) + (n : Int) = (i : Int) := by omega
              have heqi : ((i : Int) + (n : Int) == (i : Int)) = true := by simp; omega
              clear hn0 hn2
              have HT2 : Hid (RTk w (w2.setCell ⟨w.heap.size + 1, 0, none⟩ (.int .i64 4)) #[.int .i64 4, .string { data := #[] }, .int .i64 0, .int .i64 ll, .int .i64 cc]) := Lib.hid (HT1.out.set 0 (.int .i64 4))
              have b1g := cell_of_row (w2.setCell ⟨w.heap.size + 1, 0, none⟩ (.int .i64 4)) (w.heap.size + 1) 1 _ _ _ HT2.out.tok
              have b2g := cell_of_row (w2.setCell ⟨w.heap.size + 1, 0, none⟩ (.int .i64 4)) (w.heap.size + 1) 2 _ _ _ HT2.out.tok
              have b3g := cell_of_row (w2.setCell ⟨w.heap.size + 1, 0, none⟩ (.int .i64 4)) (w.heap.size + 1) 3 _ _ _ HT2.out.tok
              have b4g := cell_of_row (w2.setCell ⟨w.heap.size + 1, 0, none⟩ (.int .i64 4)) (w.heap.size + 1) 4 _ _ _ HT2.out.tok
              simp at b1g b2g b3g b4g
              go_wp2_with (first | (refine wpList_load_row rfl 42 _ rfl (w.heap.size + 1) rfl 42 _ (0, 0) _ HT2.out.tok Tryd.underlying42 rfl infoTok5 ?_) | (refine st_rowTo rfl 42 _ _ rfl rfl w.heap.size #[.int .i64 4, .string { data := #[] }, .int .i64 0, .int .i64 ll, .int .i64 cc] rfl rfl 42 _ HT2.out.res infoTok5 rfl (by simp [Value.oneCell']) ?_; intro w9 hr9 hk9))
              refine bodyPost_ret (v := .tuple #[.agg #[.int .i64 4, .string { data := #[] }, .int .i64 0, .int .i64 ll, .int .i64 cc], .int .i64 i, .int .i64 1]) (by simp [results, Tryd.results70, asAddr, run_loadVar_row _ _ _ _ _ _ _ hr9 Tryd.underlying42 rfl infoTok5]) rfl ⟨4, 0, i, { data := #[] }, by rw [HLL.out, HCC.out, HER.out], HT2.out.below.trans (hk9.below (fun b hb => by omega) HT2.out.below.size), fun he => ?_⟩
              rw [HER.out] at he
              exact absurd he (by decide)
            · have hin := HFN.out hn0
              have hne : ((i : Int) + (n : Int) == (i : Int)) = false := by simp; omega
              obtain ⟨j, hj⟩ : ∃ j, j = i + n := ⟨_, rfl⟩
              have hge : i + 1 ≤ j := by omega
              have hle : j ≤ N := by omega
              have hji : (i : Int) + (n : Int) = (j : Int) := by omega
              have HER : Hid ((Tk.one s N i).err = 0) := Lib.hid (by rw [HONE.out]; show (if n = 0 then (1 : Int) else 0) = 0; rw [if_neg hn0])
              obtain ⟨x, hx⟩ : ∃ x, x = Tk.txt s i j := ⟨_, rfl⟩
              have HTX : Hid (∀ m, m + 1 = j → s.extract (Rn.st s i).p (Rn.st s (m + 1)).p = x) := Lib.hid fun m hm => by rw [hm, hx]; rfl
              have HXE : Hid (x = Tk.txt s i (Tk.one s N i).fin) := Lib.hid (by rw [HONE.out, hx, hj])
              rw [← hj] at HONE
              clear hx hj hin HFN hn0
              go_wp2_with fail
              try rw [hji]
              obtain ⟨m, hm⟩ : ∃ m, m + 1 = j := ⟨j - 1, by omega⟩
              have HT2 : Hid (RTk w (w2.setCell ⟨w.heap.size + 1, 0, none⟩ (.int .i64 4)) #[.int .i64 4, .string { data := #[] }, .int .i64 0, .int .i64 ll, .int .i64 cc]) := Lib.hid (HT1.out.set 0 (.int .i64 4))
              generalize w2.setCell ⟨w.heap.size + 1, 0, none⟩ (.int .i64 4) = w3 at *
              have q1 := (HRF.out w3 HT2.out.below).r1 hi
              have q2 := (HRF.out w3 HT2.out.below).r2 (j := m) (by omega)
              have hp1 := st_mono s i (m + 1) (by omega)
              have hp2 := st_in (HRF.out w3 HT2.out.below).ends (m + 1) (by omega)
              have hp3 := (HRF.out w3 HT2.out.below).size
              have HTX1 := Lib.hid (HTX.out m hm)
              have b1t := cell_of_row w3 (w.heap.size + 1) 1 _ _ _ HT2.out.tok
              have f1t := frozen_of_row w3 (w.heap.size + 1) 1 _ _ HT2.out.tok
              have hzt : w.heap.size + 1 < w3.heap.size := obj_lt HT2.out.tok
              simp at b1t
              generalize (Rn.st s (m + 1)).p = pj at *
              generalize (Rn.st s i).p = pi at *
              have hjm : (j : Int) = (m : Int) + 1 := by omega
              clear HT1 r0 f0a hza b0a hm HTX
              go_region
              all_goals
                have HT4 : Hid (RTk w ((w3.setCell ⟨w.heap.size + 1, 1, none⟩ (.string (s.extract pi pj))).drew) #[.int .i64 4, .string x, .int .i64 0, .int .i64 ll, .int .i64 cc]) := Lib.hid (by rw [HTX1.out]; exact (HT2.out.set 1 (.string x)).dn 1)
                generalize (w3.setCell ⟨w.heap.size + 1, 1, none⟩ (.string (s.extract pi pj))).drew = w4 at *
                clear HT2 q1 q2 hp1 hp2 hp3 hjm HTX1 b1t f1t hzt
                have b0d := cell_of_row w4 (w.heap.size + 1) 0 _ _ _ HT4.out.tok
                have f0d := frozen_of_row w4 (w.heap.size + 1) 0 _ _ HT4.out.tok
                have b1d := cell_of_row w4 (w.heap.size + 1) 1 _ _ _ HT4.out.tok
                have f1d := frozen_of_row w4 (w.heap.size + 1) 1 _ _ HT4.out.tok
                have hzd : w.heap.size + 1 < w4.heap.size := obj_lt HT4.out.tok
                simp at b0d b1d
                go_wp2_with (first | (refine wpList_load_row rfl 42 _ rfl (w.heap.size + 1) rfl 42 _ (0, 0) _ HT4.out.tok Tryd.underlying42 rfl infoTok5 ?_) | (refine st_rowTo rfl 42 _ _ rfl rfl w.heap.size #[.int .i64 4, .string x, .int .i64 0, .int .i64 ll, .int .i64 cc] rfl rfl 42 _ HT4.out.res infoTok5 rfl (by simp [Value.oneCell']) ?_; intro w9 hr9 hk9))
                refine bodyPost_ret (v := .tuple #[.agg #[.int .i64 4, .string x, .int .i64 0, .int .i64 ll, .int .i64 cc], .int .i64 j, .int .i64 0]) (by simp [results, Tryd.results70, asAddr, run_loadVar_row _ _ _ _ _ _ _ hr9 Tryd.underlying42 rfl infoTok5]) rfl ⟨4, 0, j, x, by rw [HLL.out, HCC.out, HER.out], HT4.out.below.trans (hk9.below (fun b hb => by omega) HT4.out.below.size), fun he => ?_⟩
                exact ⟨by rw [HONE.out], by rw [HONE.out], HXE.out, by rw [HONE.out]⟩
        · rw [c3] at HDG
          have hd : (Tk.dg (Tk.rn s N i) || (Tk.rn s N i == 45 && Tk.dg (Tk.rn s N (i + 1)))) = true := by rw [c3]; rfl
          clear c3
          have HONE : Hid (Tk.one s N i = ⟨3, Tk.wh N (Tk.rn s N) Tk.dg (i + 1), (Nm.told (Tk.txt s i (Tk.wh N (Tk.rn s N) Tk.dg (i + 1))).data.toList).1, (Nm.told (Tk.txt s i (Tk.wh N (Tk.rn s N) Tk.dg (i + 1))).data.toList).2⟩) := Lib.hid (by unfold Tk.one; simp only [hl, hd, if_true]; rfl)
          have HXE : Hid (Tk.txt s i (Tk.wh N (Tk.rn s N) Tk.dg (i + 1)) = Tk.txt s i (Tk.one s N i).fin) := Lib.hid (by rw [HONE.out])
          have hwt := Tk.num_txt (HRF.out w1 HT1.out.below).ends hi hd
          have hge := Tk.wh_ge N (Tk.rn s N) Tk.dg (i + 1)
          have hle := Tk.wh_le N (Tk.rn s N) Tk.dg (i + 1) (by omega)
          clear hl HWD
          have HTX : Hid (∀ m, m + 1 = Tk.wh N (Tk.rn s N) Tk.dg (i + 1) → s.extract (Rn.st s i).p (Rn.st s (m + 1)).p = Tk.txt s i (Tk.wh N (Tk.rn s N) Tk.dg (i + 1))) := Lib.hid fun m hm => by rw [hm]; rfl
          have hxs := hwt.1
          have HBO := Lib.hid hwt.2
          clear hwt
          generalize Tk.txt s i (Tk.wh N (Tk.rn s N) Tk.dg (i + 1)) = x at *
          have HVL : Hid (∀ W, Calls Tryd.prog 129 #[.string x] W fun e w' => e = .returned (.tuple #[.int .i64 (Nm.told x.data.toList).1, .bool (decide ((Nm.told x.data.toList).2 = 0))]) ∧ w' = W) := Lib.hid fun W => rvalue_any x W (by omega) HBO.out.1 HBO.out.2
          have HAT : Hid (∀ W, Below w.heap.size w W → ∀ q, q ≤ N → Calls Tryd.prog 126 #[.slice (some ⟨g, 0, none⟩) N rc, .int .i64 q] W fun e w' => e = .returned (.int .i64 (Tk.rn s N q)) ∧ w' = W) := Lib.hid fun W hb q hq => rat_any (HRF.out W hb) (by omega)
          have HWG : Hid (∀ q, q < N → Tk.dg (Tk.rn s N q) = true → Tk.wh N (Tk.rn s N) Tk.dg q = Tk.wh N (Tk.rn s N) Tk.dg (q + 1)) := Lib.hid fun q h1 h2 => Tk.wh_go h1 h2
          have HWS : Hid (∀ q, ¬ (Tk.dg (Tk.rn s N q) = true) → Tk.wh N (Tk.rn s N) Tk.dg q = q) := Lib.hid fun q h => Tk.wh_stop (fun c => h c.2)
          obtain ⟨j, hj⟩ : ∃ j, j = Tk.wh N (Tk.rn s N) Tk.dg (i + 1) := ⟨_, rfl⟩
          rw [← hj] at HONE hge hle HTX
          have HJ := Lib.hid hj
          clear hj
          have b0a := cell_of_row w1 (w.heap.size + 1) 0 _ _ _ HT1.out.tok
          have f0a := frozen_of_row w1 (w.heap.size + 1) 0 _ _ HT1.out.tok
          have hza : w.heap.size + 1 < w1.heap.size := obj_lt HT1.out.tok
          simp at b0a
          go_wp2_with fail
          refine (HSM.out _).mono ?_
          rintro e w2 ⟨rfl, rfl⟩
          go_wp2_with fail
          refine (HGR.out _).mono ?_
          rintro e w2 ⟨rfl, rfl⟩
          go_wp2_with fail
          refine (HDG.out _).mono ?_
          rintro e w2 ⟨rfl, rfl⟩
          go_wp2_with fail
          go_loopw [11] (fun v11 wr => ∃ q : Nat, q ≤ N ∧ v11 = .int .i64 q ∧ Hid (Tk.wh N (Tk.rn s N) Tk.dg q = j) ∧ wr = w1) (fun v11 _ => N - (intOf v11).toNat)
          case atStart => exact ⟨i + 1, by omega, by go_num, Lib.hid HJ.out.symm, rfl⟩
          case round =>
            obtain ⟨q, hq, rfl, HQ, rfl⟩ := hrel
            have HATQ := Lib.hid (HAT.out _ HT1.out.below q hq)
            have HDQ := Lib.hid (fun W => rdigit_any (Tk.rn s N q) W)
            by_cases hdq : Tk.dg (Tk.rn s N q) = true
            · have hqN : q < N := Tk.rn_lt (by intro e; rw [e] at hdq; exact absurd hdq (by decide))
              have HQ2 : Hid (Tk.wh N (Tk.rn s N) Tk.dg (q + 1) = j) := Lib.hid (by rw [← HWG.out q hqN hdq]; exact HQ.out)
              rw [hdq] at HDQ
              generalize Tk.rn s N q = rq at *
              go_wp2_with fail
              refine HATQ.out.mono ?_
              rintro e w3 ⟨rfl, rfl⟩
              go_wp2_with fail
              refine (HDQ.out _).mono ?_
              rintro e w3 ⟨rfl, rfl⟩
              go_wp2_with fail
              go_roundw
              case rel => exact ⟨q + 1, by omega, by go_num, HQ2, (by first | rfl | trivial)⟩
              case measure => simp [intOf]; omega
            · have hqj : j = q := by rw [← HQ.out]; exact HWS.out q hdq
              have hdq0 : Tk.dg (Tk.rn s N q) = false := by simpa using hdq
              rw [hdq0] at HDQ
              clear hdq hdq0 HJ HWG HWS HQ HAT
              subst hqj
              generalize Tk.rn s N j = rq at *
              go_wp2_with fail
              refine HATQ.out.mono ?_
              rintro e w2 ⟨rfl, rfl⟩
              go_wp2_with fail
              refine (HDQ.out _).mono ?_
              rintro e w2 ⟨rfl, rfl⟩
              go_wp2_with fail
              obtain ⟨m, hm⟩ : ∃ m, m + 1 = j := ⟨j - 1, by omega⟩
              have HT2 : Hid (RTk w (w2.setCell ⟨w.heap.size + 1, 0, none⟩ (.int .i64 3)) #[.int .i64 3, .string { data := #[] }, .int .i64 0, .int .i64 ll, .int .i64 cc]) := Lib.hid (HT1.out.set 0 (.int .i64 3))
              generalize w2.setCell ⟨w.heap.size + 1, 0, none⟩ (.int .i64 3) = w3 at *
              have q1 := (HRF.out w3 HT2.out.below).r1 hi
              have q2 := (HRF.out w3 HT2.out.below).r2 (j := m) (by omega)
              have hp1 := st_mono s i (m + 1) (by omega)
              have hp2 := st_in (HRF.out w3 HT2.out.below).ends (m + 1) (by omega)
              have hp3 := (HRF.out w3 HT2.out.below).size
              have HTX1 := Lib.hid (HTX.out m hm)
              have b1t := cell_of_row w3 (w.heap.size + 1) 1 _ _ _ HT2.out.tok
              have f1t := frozen_of_row w3 (w.heap.size + 1) 1 _ _ HT2.out.tok
              have hzt : w.heap.size + 1 < w3.heap.size := obj_lt HT2.out.tok
              simp at b1t
              generalize (Rn.st s (m + 1)).p = pj at *
              generalize (Rn.st s i).p = pi at *
              have hjm : (j : Int) = (m : Int) + 1 := by omega
              clear HT1 r0 f0a hza b0a hm HTX
              go_region
              all_goals
                have HT4 : Hid (RTk w ((w3.setCell ⟨w.heap.size + 1, 1, none⟩ (.string (s.extract pi pj))).drew) #[.int .i64 3, .string x, .int .i64 0, .int .i64 ll, .int .i64 cc]) := Lib.hid (by rw [HTX1.out]; exact (HT2.out.set 1 (.string x)).dn 1)
                generalize (w3.setCell ⟨w.heap.size + 1, 1, none⟩ (.string (s.extract pi pj))).drew = w4 at *
                clear HT2 q1 q2 hp1 hp2 hp3 hjm HTX1 b1t f1t hzt
                have b0d := cell_of_row w4 (w.heap.size + 1) 0 _ _ _ HT4.out.tok
                have f0d := frozen_of_row w4 (w.heap.size + 1) 0 _ _ HT4.out.tok
                have b1d := cell_of_row w4 (w.heap.size + 1) 1 _ _ _ HT4.out.tok
                have f1d := frozen_of_row w4 (w.heap.size + 1) 1 _ _ HT4.out.tok
                have hzd : w.heap.size + 1 < w4.heap.size := obj_lt HT4.out.tok
                simp at b0d b1d
                go_wp2_with fail
                obtain ⟨ok, hok⟩ : ∃ ok, ok = decide ((Nm.told x.data.toList).2 = 0) := ⟨_, rfl⟩
                have HOK := Lib.hid hok
                refine (HVL.out _).mono ?_
                rw [← hok]
                clear hok
                rintro e w5 ⟨rfl, rfl⟩
                clear HVL
                have b2f := cell_of_row w5 (w.heap.size + 1) 2 _ _ _ HT4.out.tok
                have f2f := frozen_of_row w5 (w.heap.size + 1) 2 _ _ HT4.out.tok
                have hzf : w.heap.size + 1 < w5.heap.size := obj_lt HT4.out.tok
                simp at b2f
                cases ok
                · have HER : Hid ((Tk.one s N i).err = 2) := Lib.hid (by rw [HONE.out]; exact (Nm.told_two x.data.toList HBO.out.1 HBO.out.2).resolve_left (by simpa using HOK.out.symm))
                  have HT6 : Hid (RTk w (w5.setCell ⟨w.heap.size + 1, 2, none⟩ (.int .i64 (Nm.told x.data.toList).1)) #[.int .i64 3, .string x, .int .i64 (Nm.told x.data.toList).1, .int .i64 ll, .int .i64 cc]) := Lib.hid (HT4.out.set 2 (.int .i64 (Nm.told x.data.toList).1))
                  clear HOK
                  generalize Nm.told x.data.toList = tv at *
                  have b0h := cell_of_row (w5.setCell ⟨w.heap.size + 1, 2, none⟩ (.int .i64 tv.1)) (w.heap.size + 1) 0 _ _ _ HT6.out.tok
                  have b1h := cell_of_row (w5.setCell ⟨w.heap.size + 1, 2, none⟩ (.int .i64 tv.1)) (w.heap.size + 1) 1 _ _ _ HT6.out.tok
                  have b3h := cell_of_row (w5.setCell ⟨w.heap.size + 1, 2, none⟩ (.int .i64 tv.1)) (w.heap.size + 1) 3 _ _ _ HT6.out.tok
                  have b4h := cell_of_row (w5.setCell ⟨w.heap.size + 1, 2, none⟩ (.int .i64 tv.1)) (w.heap.size + 1) 4 _ _ _ HT6.out.tok
                  simp at b0h b1h b3h b4h
                  go_wp2_with (first | (refine wpList_load_row rfl 42 _ rfl (w.heap.size + 1) rfl 42 _ (0, 0) _ HT6.out.tok Tryd.underlying42 rfl infoTok5 ?_) | (refine st_rowTo rfl 42 _ _ rfl rfl w.heap.size #[.int .i64 3, .string x, .int .i64 tv.1, .int .i64 ll, .int .i64 cc] rfl rfl 42 _ HT6.out.res infoTok5 rfl (by simp [Value.oneCell']) ?_; intro w9 hr9 hk9))
                  refine bodyPost_ret (v := .tuple #[.agg #[.int .i64 3, .string x, .int .i64 tv.1, .int .i64 ll, .int .i64 cc], .int .i64 j, .int .i64 2]) (by simp [results, Tryd.results70, asAddr, run_loadVar_row _ _ _ _ _ _ _ hr9 Tryd.underlying42 rfl infoTok5]) rfl ⟨3, tv.1, j, x, by rw [HLL.out, HCC.out, HER.out], HT6.out.below.trans (hk9.below (fun b hb => by omega) HT6.out.below.size), fun he => ?_⟩
                  rw [HER.out] at he
                  exact absurd he (by decide)
                · have HER : Hid ((Tk.one s N i).err = 0) := Lib.hid (by rw [HONE.out]; simpa using HOK.out.symm)
                  have HT6 : Hid (RTk w (w5.setCell ⟨w.heap.size + 1, 2, none⟩ (.int .i64 (Nm.told x.data.toList).1)) #[.int .i64 3, .string x, .int .i64 (Nm.told x.data.toList).1, .int .i64 ll, .int .i64 cc]) := Lib.hid (HT4.out.set 2 (.int .i64 (Nm.told x.data.toList).1))
                  clear HOK
                  generalize Nm.told x.data.toList = tv at *
                  have b0h := cell_of_row (w5.setCell ⟨w.heap.size + 1, 2, none⟩ (.int .i64 tv.1)) (w.heap.size + 1) 0 _ _ _ HT6.out.tok
                  have b1h := cell_of_row (w5.setCell ⟨w.heap.size + 1, 2, none⟩ (.int .i64 tv.1)) (w.heap.size + 1) 1 _ _ _ HT6.out.tok
                  have b3h := cell_of_row (w5.setCell ⟨w.heap.size + 1, 2, none⟩ (.int .i64 tv.1)) (w.heap.size + 1) 3 _ _ _ HT6.out.tok
                  have b4h := cell_of_row (w5.setCell ⟨w.heap.size + 1, 2, none⟩ (.int .i64 tv.1)) (w.heap.size + 1) 4 _ _ _ HT6.out.tok
                  simp at b0h b1h b3h b4h
                  go_wp2_with (first | (refine wpList_load_row rfl 42 _ rfl (w.heap.size + 1) rfl 42 _ (0, 0) _ HT6.out.tok Tryd.underlying42 rfl infoTok5 ?_) | (refine st_rowTo rfl 42 _ _ rfl rfl w.heap.size #[.int .i64 3, .string x, .int .i64 tv.1, .int .i64 ll, .int .i64 cc] rfl rfl 42 _ HT6.out.res infoTok5 rfl (by simp [Value.oneCell']) ?_; intro w9 hr9 hk9))
                  refine bodyPost_ret (v := .tuple #[.agg #[.int .i64 3, .string x, .int .i64 tv.1, .int .i64 ll, .int .i64 cc], .int .i64 j, .int .i64 0]) (by simp [results, Tryd.results70, asAddr, run_loadVar_row _ _ _ _ _ _ _ hr9 Tryd.underlying42 rfl infoTok5]) rfl ⟨3, tv.1, j, x, by rw [HLL.out, HCC.out, HER.out], HT6.out.below.trans (hk9.below (fun b hb => by omega) HT6.out.below.size), fun he => ?_⟩
                  exact ⟨by rw [HONE.out], by rw [HONE.out], HXE.out, by rw [HONE.out]⟩
      · rw [c2] at HGR
        have hl : (Tk.sm (Tk.rn s N i) || Tk.gr (Tk.rn s N i)) = true := by rw [c1, c2]; rfl
        clear c1 c2
        have HONE : Hid (Tk.one s N i = ⟨(Tk.nameE (Tk.txt s i (Tk.wh N (Tk.rn s N) Tk.row i)).data.toList).1, Tk.wh N (Tk.rn s N) Tk.row i, 0, (Tk.nameE (Tk.txt s i (Tk.wh N (Tk.rn s N) Tk.row i)).data.toList).2⟩) := Lib.hid (by unfold Tk.one; simp only [hl, if_true])
        have HXE : Hid (Tk.txt s i (Tk.wh N (Tk.rn s N) Tk.row i) = Tk.txt s i (Tk.one s N i).fin) := Lib.hid (by rw [HONE.out])
        have hwt := Tk.word_txt (HRF.out w1 HT1.out.below).ends hi hl
        have hge : i + 1 ≤ Tk.wh N (Tk.rn s N) Tk.row i := by
          have hr : Tk.row (Tk.rn s N i) = true := by unfold Tk.row; rw [hl]; rfl
          rw [Tk.wh_go hi hr]
          exact Tk.wh_ge N (Tk.rn s N) Tk.row (i + 1)
        have hle := Tk.wh_le N (Tk.rn s N) Tk.row i (by omega)
        have HWD1 := Lib.hid (HWD.out w1 HT1.out.below)
        clear hl HWD
        have HTX : Hid (∀ m, m + 1 = Tk.wh N (Tk.rn s N) Tk.row i → s.extract (Rn.st s i).p (Rn.st s (m + 1)).p = Tk.txt s i (Tk.wh N (Tk.rn s N) Tk.row i)) := Lib.hid fun m hm => by rw [hm]; rfl
        have hxs := hwt.1
        clear hwt
        generalize Tk.txt s i (Tk.wh N (Tk.rn s N) Tk.row i) = x at *
        have HKN : Hid (∀ W, Calls Tryd.prog 29 #[.string x] W fun e w' => e = .returned (.bool (Tk.known x.data.toList)) ∧ Below W.heap.size W w') := Lib.hid fun W => rknown_any x W
        have HHG : Hid (∀ W, Calls Tryd.prog 128 #[.string x] W fun e w' => e = .returned (.bool (x.data.toList.any fun b => Tk.gr (b.toNat : Int))) ∧ w' = W) := Lib.hid fun W => rhasGreat_any x W (by omega)
        generalize Tk.wh N (Tk.rn s N) Tk.row i = j at *
        generalize Tk.rn s N i = r at *
        have b0a := cell_of_row w1 (w.heap.size + 1) 0 _ _ _ HT1.out.tok
        have f0a := frozen_of_row w1 (w.heap.size + 1) 0 _ _ HT1.out.tok
        have hza : w.heap.size + 1 < w1.heap.size := obj_lt HT1.out.tok
        simp at b0a
        go_wp2_with fail
        refine (HSM.out _).mono ?_
        rintro e w2 ⟨rfl, rfl⟩
        go_wp2_with fail
        refine (HGR.out _).mono ?_
        rintro e w2 ⟨rfl, rfl⟩
        go_wp2_with fail
        refine HWD1.out.mono ?_
        rintro e w2 ⟨rfl, rfl⟩
        go_wp2_with fail
        obtain ⟨m, hm⟩ : ∃ m, m + 1 = j := ⟨j - 1, by omega⟩
        have HT2 : Hid (RTk w (w2.setCell ⟨w.heap.size + 1, 0, none⟩ (.int .i64 1)) #[.int .i64 1, .string { data := #[] }, .int .i64 0, .int .i64 ll, .int .i64 cc]) := Lib.hid (HT1.out.set 0 (.int .i64 1))
        generalize w2.setCell ⟨w.heap.size + 1, 0, none⟩ (.int .i64 1) = w3 at *
        have q1 := (HRF.out w3 HT2.out.below).r1 hi
        have q2 := (HRF.out w3 HT2.out.below).r2 (j := m) (by omega)
        have hp1 := st_mono s i (m + 1) (by omega)
        have hp2 := st_in (HRF.out w3 HT2.out.below).ends (m + 1) (by omega)
        have hp3 := (HRF.out w3 HT2.out.below).size
        have HTX1 := Lib.hid (HTX.out m hm)
        have b1t := cell_of_row w3 (w.heap.size + 1) 1 _ _ _ HT2.out.tok
        have f1t := frozen_of_row w3 (w.heap.size + 1) 1 _ _ HT2.out.tok
        have hzt : w.heap.size + 1 < w3.heap.size := obj_lt HT2.out.tok
        simp at b1t
        generalize (Rn.st s (m + 1)).p = pj at *
        generalize (Rn.st s i).p = pi at *
        have hjm : (j : Int) = (m : Int) + 1 := by omega
        clear HT1 r0 f0a hza b0a hm HTX
        go_region
        all_goals
          have HT4 : Hid (RTk w ((w3.setCell ⟨w.heap.size + 1, 1, none⟩ (.string (s.extract pi pj))).drew) #[.int .i64 1, .string x, .int .i64 0, .int .i64 ll, .int .i64 cc]) := Lib.hid (by rw [HTX1.out]; exact (HT2.out.set 1 (.string x)).dn 1)
          generalize (w3.setCell ⟨w.heap.size + 1, 1, none⟩ (.string (s.extract pi pj))).drew = w4 at *
          clear HT2 q1 q2 hp1 hp2 hp3 hjm HTX1 b1t f1t hzt
          have b0d := cell_of_row w4 (w.heap.size + 1) 0 _ _ _ HT4.out.tok
          have f0d := frozen_of_row w4 (w.heap.size + 1) 0 _ _ HT4.out.tok
          have b1d := cell_of_row w4 (w.heap.size + 1) 1 _ _ _ HT4.out.tok
          have f1d := frozen_of_row w4 (w.heap.size + 1) 1 _ _ HT4.out.tok
          have hzd : w.heap.size + 1 < w4.heap.size := obj_lt HT4.out.tok
          simp at b0d b1d
          go_wp2_with fail
          refine (HKN.out _).mono ?_
          rintro e w5 ⟨rfl, hb5⟩
          have HT5 := Lib.hid (HT4.out.grow hb5)
          clear b0d f0d b1d f1d hzd
          clear hb5 HT4
          have b0e := cell_of_row w5 (w.heap.size + 1) 0 _ _ _ HT5.out.tok
          have f0e := frozen_of_row w5 (w.heap.size + 1) 0 _ _ HT5.out.tok
          have b1e := cell_of_row w5 (w.heap.size + 1) 1 _ _ _ HT5.out.tok
          have f1e := frozen_of_row w5 (w.heap.size + 1) 1 _ _ HT5.out.tok
          have hze : w.heap.size + 1 < w5.heap.size := obj_lt HT5.out.tok
          simp at b0e b1e
          cases hkn : Tk.known x.data.toList
          · cases hgt : (x.data.toList.any fun b => Tk.gr (b.toNat : Int))
            · by_cases hlen : 16 < x.size
              · have HER : Hid ((Tk.one s N i).err = 3) := Lib.hid (by rw [HONE.out]; unfold Tk.nameE; simp [hkn, hgt, hlen])
                have hlen1 : (16 : Int) < (x.size : Int) := by omega
                rw [hkn] at *
                go_wp2_with fail
                refine (HHG.out _).mono ?_
                rw [hgt]
                rintro e w6 ⟨rfl, rfl⟩
                go_wp2_with (first | (refine wpList_load_row rfl 42 _ rfl (w.heap.size + 1) rfl 42 _ (0, 0) _ HT5.out.tok Tryd.underlying42 rfl infoTok5 ?_) | (refine st_rowTo rfl 42 _ _ rfl rfl w.heap.size #[.int .i64 1, .string x, .int .i64 0, .int .i64 ll, .int .i64 cc] rfl rfl 42 _ HT5.out.res infoTok5 rfl (by simp [Value.oneCell']) ?_; intro w9 hr9 hk9))
                refine bodyPost_ret (v := .tuple #[.agg #[.int .i64 1, .string x, .int .i64 0, .int .i64 ll, .int .i64 cc], .int .i64 j, .int .i64 3]) (by simp [results, Tryd.results70, asAddr, run_loadVar_row _ _ _ _ _ _ _ hr9 Tryd.underlying42 rfl infoTok5]) rfl ⟨1, 0, j, x, by rw [HLL.out, HCC.out, HER.out], HT5.out.below.trans (hk9.below (fun b hb => by omega) HT5.out.below.size), fun he => ?_⟩
                rw [HER.out] at he
                exact absurd he (by decide)
              · have HER : Hid ((Tk.one s N i).err = 0) := Lib.hid (by rw [HONE.out]; unfold Tk.nameE; simp [hkn, hgt, hlen])
                have HKD : Hid ((Tk.one s N i).kind = 1) := Lib.hid (by rw [HONE.out]; unfold Tk.nameE; simp [hkn, hgt, hlen])
                have hlen1 : ¬ (16 : Int) < (x.size : Int) := by omega
                rw [hkn] at *
                go_wp2_with fail
                refine (HHG.out _).mono ?_
                rw [hgt]
                rintro e w6 ⟨rfl, rfl⟩
                go_wp2_with (first | (refine wpList_load_row rfl 42 _ rfl (w.heap.size + 1) rfl 42 _ (0, 0) _ HT5.out.tok Tryd.underlying42 rfl infoTok5 ?_) | (refine st_rowTo rfl 42 _ _ rfl rfl w.heap.size #[.int .i64 1, .string x, .int .i64 0, .int .i64 ll, .int .i64 cc] rfl rfl 42 _ HT5.out.res infoTok5 rfl (by simp [Value.oneCell']) ?_; intro w9 hr9 hk9))
                refine bodyPost_ret (v := .tuple #[.agg #[.int .i64 1, .string x, .int .i64 0, .int .i64 ll, .int .i64 cc], .int .i64 j, .int .i64 0]) (by simp [results, Tryd.results70, asAddr, run_loadVar_row _ _ _ _ _ _ _ hr9 Tryd.underlying42 rfl infoTok5]) rfl ⟨1, 0, j, x, by rw [HLL.out, HCC.out, HER.out], HT5.out.below.trans (hk9.below (fun b hb => by omega) HT5.out.below.size), fun he => ?_⟩
                exact ⟨HKD.out.symm, by rw [HONE.out], HXE.out, by rw [HONE.out]⟩
            · have HER : Hid ((Tk.one s N i).err = 1) := Lib.hid (by rw [HONE.out]; unfold Tk.nameE; simp [hkn, hgt])
              rw [hkn] at *
              go_wp2_with fail
              refine (HHG.out _).mono ?_
              rw [hgt]
              rintro e w6 ⟨rfl, rfl⟩
              go_wp2_with (first | (refine wpList_load_row rfl 42 _ rfl (w.heap.size + 1) rfl 42 _ (0, 0) _ HT5.out.tok Tryd.underlying42 rfl infoTok5 ?_) | (refine st_rowTo rfl 42 _ _ rfl rfl w.heap.size #[.int .i64 1, .string x, .int .i64 0, .int .i64 ll, .int .i64 cc] rfl rfl 42 _ HT5.out.res infoTok5 rfl (by simp [Value.oneCell']) ?_; intro w9 hr9 hk9))
              refine bodyPost_ret (v := .tuple #[.agg #[.int .i64 1, .string x, .int .i64 0, .int .i64 ll, .int .i64 cc], .int .i64 j, .int .i64 1]) (by simp [results, Tryd.results70, asAddr, run_loadVar_row _ _ _ _ _ _ _ hr9 Tryd.underlying42 rfl infoTok5]) rfl ⟨1, 0, j, x, by rw [HLL.out, HCC.out, HER.out], HT5.out.below.trans (hk9.below (fun b hb => by omega) HT5.out.below.size), fun he => ?_⟩
              rw [HER.out] at he
              exact absurd he (by decide)
          · have HER : Hid ((Tk.one s N i).err = 0) := Lib.hid (by rw [HONE.out]; unfold Tk.nameE; simp [hkn])
            have HKD : Hid ((Tk.one s N i).kind = 2) := Lib.hid (by rw [HONE.out]; unfold Tk.nameE; simp [hkn])
            rw [hkn] at *
            have HT6 : Hid (RTk w (w5.setCell ⟨w.heap.size + 1, 0, none⟩ (.int .i64 2)) #[.int .i64 2, .string x, .int .i64 0, .int .i64 ll, .int .i64 cc]) := Lib.hid (HT5.out.set 0 (.int .i64 2))
            go_wp2_with (first | (refine wpList_load_row rfl 42 _ rfl (w.heap.size + 1) rfl 42 _ (0, 0) _ HT6.out.tok Tryd.underlying42 rfl infoTok5 ?_) | (refine st_rowTo rfl 42 _ _ rfl rfl w.heap.size #[.int .i64 2, .string x, .int .i64 0, .int .i64 ll, .int .i64 cc] rfl rfl 42 _ HT6.out.res infoTok5 rfl (by simp [Value.oneCell']) ?_; intro w9 hr9 hk9))
            refine bodyPost_ret (v := .tuple #[.agg #[.int .i64 2, .string x, .int .i64 0, .int .i64 ll, .int .i64 cc], .int .i64 j, .int .i64 0]) (by simp [results, Tryd.results70, asAddr, run_loadVar_row _ _ _ _ _ _ _ hr9 Tryd.underlying42 rfl infoTok5]) rfl ⟨2, 0, j, x, by rw [HLL.out, HCC.out, HER.out], HT6.out.below.trans (hk9.below (fun b hb => by omega) HT6.out.below.size), fun he => ?_⟩
            exact ⟨HKD.out.symm, by rw [HONE.out], HXE.out, by rw [HONE.out]⟩
    · have hl : (Tk.sm (Tk.rn s N i) || Tk.gr (Tk.rn s N i)) = true := by rw [c1]; rfl
      rw [c1] at HSM
      clear c1
      have HONE : Hid (Tk.one s N i = ⟨(Tk.nameE (Tk.txt s i (Tk.wh N (Tk.rn s N) Tk.row i)).data.toList).1, Tk.wh N (Tk.rn s N) Tk.row i, 0, (Tk.nameE (Tk.txt s i (Tk.wh N (Tk.rn s N) Tk.row i)).data.toList).2⟩) := Lib.hid (by unfold Tk.one; simp only [hl, if_true])
      have HXE : Hid (Tk.txt s i (Tk.wh N (Tk.rn s N) Tk.row i) = Tk.txt s i (Tk.one s N i).fin) := Lib.hid (by rw [HONE.out])
      have hwt := Tk.word_txt (HRF.out w1 HT1.out.below).ends hi hl
      have hge : i + 1 ≤ Tk.wh N (Tk.rn s N) Tk.row i := by
        have hr : Tk.row (Tk.rn s N i) = true := by unfold Tk.row; rw [hl]; rfl
        rw [Tk.wh_go hi hr]
        exact Tk.wh_ge N (Tk.rn s N) Tk.row (i + 1)
      have hle := Tk.wh_le N (Tk.rn s N) Tk.row i (by omega)
      have HWD1 := Lib.hid (HWD.out w1 HT1.out.below)
      clear hl HWD
      have HTX : Hid (∀ m, m + 1 = Tk.wh N (Tk.rn s N) Tk.row i → s.extract (Rn.st s i).p (Rn.st s (m + 1)).p = Tk.txt s i (Tk.wh N (Tk.rn s N) Tk.row i)) := Lib.hid fun m hm => by rw [hm]; rfl
      have hxs := hwt.1
      clear hwt
      generalize Tk.txt s i (Tk.wh N (Tk.rn s N) Tk.row i) = x at *
      have HKN : Hid (∀ W, Calls Tryd.prog 29 #[.string x] W fun e w' => e = .returned (.bool (Tk.known x.data.toList)) ∧ Below W.heap.size W w') := Lib.hid fun W => rknown_any x W
      have HHG : Hid (∀ W, Calls Tryd.prog 128 #[.string x] W fun e w' => e = .returned (.bool (x.data.toList.any fun b => Tk.gr (b.toNat : Int))) ∧ w' = W) := Lib.hid fun W => rhasGreat_any x W (by omega)
      generalize Tk.wh N (Tk.rn s N) Tk.row i = j at *
      generalize Tk.rn s N i = r at *
      have b0a := cell_of_row w1 (w.heap.size + 1) 0 _ _ _ HT1.out.tok
      have f0a := frozen_of_row w1 (w.heap.size + 1) 0 _ _ HT1.out.tok
      have hza : w.heap.size + 1 < w1.heap.size := obj_lt HT1.out.tok
      simp at b0a
      go_wp2_with fail
      refine (HSM.out _).mono ?_
      rintro e w2 ⟨rfl, rfl⟩
      go_wp2_with fail
      refine HWD1.out.mono ?_
      rintro e w2 ⟨rfl, rfl⟩
      go_wp2_with fail
      obtain ⟨m, hm⟩ : ∃ m, m + 1 = j := ⟨j - 1, by omega⟩
      have HT2 : Hid (RTk w (w2.setCell ⟨w.heap.size + 1, 0, none⟩ (.int .i64 1)) #[.int .i64 1, .string { data := #[] }, .int .i64 0, .int .i64 ll, .int .i64 cc]) := Lib.hid (HT1.out.set 0 (.int .i64 1))
      generalize w2.setCell ⟨w.heap.size + 1, 0, none⟩ (.int .i64 1) = w3 at *
      have q1 := (HRF.out w3 HT2.out.below).r1 hi
      have q2 := (HRF.out w3 HT2.out.below).r2 (j := m) (by omega)
      have hp1 := st_mono s i (m + 1) (by omega)
      have hp2 := st_in (HRF.out w3 HT2.out.below).ends (m + 1) (by omega)
      have hp3 := (HRF.out w3 HT2.out.below).size
      have HTX1 := Lib.hid (HTX.out m hm)
      have b1t := cell_of_row w3 (w.heap.size + 1) 1 _ _ _ HT2.out.tok
      have f1t := frozen_of_row w3 (w.heap.size + 1) 1 _ _ HT2.out.tok
      have hzt : w.heap.size + 1 < w3.heap.size := obj_lt HT2.out.tok
      simp at b1t
      generalize (Rn.st s (m + 1)).p = pj at *
      generalize (Rn.st s i).p = pi at *
      have hjm : (j : Int) = (m : Int) + 1 := by omega
      clear HT1 r0 f0a hza b0a hm HTX
      go_region
      all_goals
        have HT4 : Hid (RTk w ((w3.setCell ⟨w.heap.size + 1, 1, none⟩ (.string (s.extract pi pj))).drew) #[.int .i64 1, .string x, .int .i64 0, .int .i64 ll, .int .i64 cc]) := Lib.hid (by rw [HTX1.out]; exact (HT2.out.set 1 (.string x)).dn 1)
        generalize (w3.setCell ⟨w.heap.size + 1, 1, none⟩ (.string (s.extract pi pj))).drew = w4 at *
        clear HT2 q1 q2 hp1 hp2 hp3 hjm HTX1 b1t f1t hzt
        have b0d := cell_of_row w4 (w.heap.size + 1) 0 _ _ _ HT4.out.tok
        have f0d := frozen_of_row w4 (w.heap.size + 1) 0 _ _ HT4.out.tok
        have b1d := cell_of_row w4 (w.heap.size + 1) 1 _ _ _ HT4.out.tok
        have f1d := frozen_of_row w4 (w.heap.size + 1) 1 _ _ HT4.out.tok
        have hzd : w.heap.size + 1 < w4.heap.size := obj_lt HT4.out.tok
        simp at b0d b1d
        go_wp2_with fail
        refine (HKN.out _).mono ?_
        rintro e w5 ⟨rfl, hb5⟩
        have HT5 := Lib.hid (HT4.out.grow hb5)
        clear b0d f0d b1d f1d hzd
        clear hb5 HT4
        have b0e := cell_of_row w5 (w.heap.size + 1) 0 _ _ _ HT5.out.tok
        have f0e := frozen_of_row w5 (w.heap.size + 1) 0 _ _ HT5.out.tok
        have b1e := cell_of_row w5 (w.heap.size + 1) 1 _ _ _ HT5.out.tok
        have f1e := frozen_of_row w5 (w.heap.size + 1) 1 _ _ HT5.out.tok
        have hze : w.heap.size + 1 < w5.heap.size := obj_lt HT5.out.tok
        simp at b0e b1e
        cases hkn : Tk.known x.data.toList
        · cases hgt : (x.data.toList.any fun b => Tk.gr (b.toNat : Int))
          · by_cases hlen : 16 < x.size
            · have HER : Hid ((Tk.one s N i).err = 3) := Lib.hid (by rw [HONE.out]; unfold Tk.nameE; simp [hkn, hgt, hlen])
              have hlen1 : (16 : Int) < (x.size : Int) := by omega
              rw [hkn] at *
              go_wp2_with fail
              refine (HHG.out _).mono ?_
              rw [hgt]
              rintro e w6 ⟨rfl, rfl⟩
              go_wp2_with (first | (refine wpList_load_row rfl 42 _ rfl (w.heap.size + 1) rfl 42 _ (0, 0) _ HT5.out.tok Tryd.underlying42 rfl infoTok5 ?_) | (refine st_rowTo rfl 42 _ _ rfl rfl w.heap.size #[.int .i64 1, .string x, .int .i64 0, .int .i64 ll, .int .i64 cc] rfl rfl 42 _ HT5.out.res infoTok5 rfl (by simp [Value.oneCell']) ?_; intro w9 hr9 hk9))
              refine bodyPost_ret (v := .tuple #[.agg #[.int .i64 1, .string x, .int .i64 0, .int .i64 ll, .int .i64 cc], .int .i64 j, .int .i64 3]) (by simp [results, Tryd.results70, asAddr, run_loadVar_row _ _ _ _ _ _ _ hr9 Tryd.underlying42 rfl infoTok5]) rfl ⟨1, 0, j, x, by rw [HLL.out, HCC.out, HER.out], HT5.out.below.trans (hk9.below (fun b hb => by omega) HT5.out.below.size), fun he => ?_⟩
              rw [HER.out] at he
              exact absurd he (by decide)
            · have HER : Hid ((Tk.one s N i).err = 0) := Lib.hid (by rw [HONE.out]; unfold Tk.nameE; simp [hkn, hgt, hlen])
              have HKD : Hid ((Tk.one s N i).kind = 1) := Lib.hid (by rw [HONE.out]; unfold Tk.nameE; simp [hkn, hgt, hlen])
              have hlen1 : ¬ (16 : Int) < (x.size : Int) := by omega
              rw [hkn] at *
              go_wp2_with fail
              refine (HHG.out _).mono ?_
              rw [hgt]
              rintro e w6 ⟨rfl, rfl⟩
              go_wp2_with (first | (refine wpList_load_row rfl 42 _ rfl (w.heap.size + 1) rfl 42 _ (0, 0) _ HT5.out.tok Tryd.underlying42 rfl infoTok5 ?_) | (refine st_rowTo rfl 42 _ _ rfl rfl w.heap.size #[.int .i64 1, .string x, .int .i64 0, .int .i64 ll, .int .i64 cc] rfl rfl 42 _ HT5.out.res infoTok5 rfl (by simp [Value.oneCell']) ?_; intro w9 hr9 hk9))
              refine bodyPost_ret (v := .tuple #[.agg #[.int .i64 1, .string x, .int .i64 0, .int .i64 ll, .int .i64 cc], .int .i64 j, .int .i64 0]) (by simp [results, Tryd.results70, asAddr, run_loadVar_row _ _ _ _ _ _ _ hr9 Tryd.underlying42 rfl infoTok5]) rfl ⟨1, 0, j, x, by rw [HLL.out, HCC.out, HER.out], HT5.out.below.trans (hk9.below (fun b hb => by omega) HT5.out.below.size), fun he => ?_⟩
              exact ⟨HKD.out.symm, by rw [HONE.out], HXE.out, by rw [HONE.out]⟩
          · have HER : Hid ((Tk.one s N i).err = 1) := Lib.hid (by rw [HONE.out]; unfold Tk.nameE; simp [hkn, hgt])
            rw [hkn] at *
            go_wp2_with fail
            refine (HHG.out _).mono ?_
            rw [hgt]
            rintro e w6 ⟨rfl, rfl⟩
            go_wp2_with (first | (refine wpList_load_row rfl 42 _ rfl (w.heap.size + 1) rfl 42 _ (0, 0) _ HT5.out.tok Tryd.underlying42 rfl infoTok5 ?_) | (refine st_rowTo rfl 42 _ _ rfl rfl w.heap.size #[.int .i64 1, .string x, .int .i64 0, .int .i64 ll, .int .i64 cc] rfl rfl 42 _ HT5.out.res infoTok5 rfl (by simp [Value.oneCell']) ?_; intro w9 hr9 hk9))
            refine bodyPost_ret (v := .tuple #[.agg #[.int .i64 1, .string x, .int .i64 0, .int .i64 ll, .int .i64 cc], .int .i64 j, .int .i64 1]) (by simp [results, Tryd.results70, asAddr, run_loadVar_row _ _ _ _ _ _ _ hr9 Tryd.underlying42 rfl infoTok5]) rfl ⟨1, 0, j, x, by rw [HLL.out, HCC.out, HER.out], HT5.out.below.trans (hk9.below (fun b hb => by omega) HT5.out.below.size), fun he => ?_⟩
            rw [HER.out] at he
            exact absurd he (by decide)
        · have HER : Hid ((Tk.one s N i).err = 0) := Lib.hid (by rw [HONE.out]; unfold Tk.nameE; simp [hkn])
          have HKD : Hid ((Tk.one s N i).kind = 2) := Lib.hid (by rw [HONE.out]; unfold Tk.nameE; simp [hkn])
          rw [hkn] at *
          have HT6 : Hid (RTk w (w5.setCell ⟨w.heap.size + 1, 0, none⟩ (.int .i64 2)) #[.int .i64 2, .string x, .int .i64 0, .int .i64 ll, .int .i64 cc]) := Lib.hid (HT5.out.set 0 (.int .i64 2))
          go_wp2_with (first | (refine wpList_load_row rfl 42 _ rfl (w.heap.size + 1) rfl 42 _ (0, 0) _ HT6.out.tok Tryd.underlying42 rfl infoTok5 ?_) | (refine st_rowTo rfl 42 _ _ rfl rfl w.heap.size #[.int .i64 2, .string x, .int .i64 0, .int .i64 ll, .int .i64 cc] rfl rfl 42 _ HT6.out.res infoTok5 rfl (by simp [Value.oneCell']) ?_; intro w9 hr9 hk9))
          refine bodyPost_ret (v := .tuple #[.agg #[.int .i64 2, .string x, .int .i64 0, .int .i64 ll, .int .i64 cc], .int .i64 j, .int .i64 0]) (by simp [results, Tryd.results70, asAddr, run_loadVar_row _ _ _ _ _ _ _ hr9 Tryd.underlying42 rfl infoTok5]) rfl ⟨2, 0, j, x, by rw [HLL.out, HCC.out, HER.out], HT6.out.below.trans (hk9.below (fun b hb => by omega) HT6.out.below.size), fun he => ?_⟩
          exact ⟨HKD.out.symm, by rw [HONE.out], HXE.out, by rw [HONE.out]⟩
end Go.Proofs.YtbplkphjjfgkmaaDoor
