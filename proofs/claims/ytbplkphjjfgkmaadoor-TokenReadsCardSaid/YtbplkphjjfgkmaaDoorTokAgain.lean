/-
  The law on the texts of tokens.
-/
import Derived.Test.YtbplkphjjfgkmaaDoorTokBack
namespace Go.Proofs.YtbplkphjjfgkmaaDoor
open Go.RowKit
set_option linter.unusedVariables false
set_option linter.unusedSimpArgs false

theorem tok_cells {w w' : World} {B : Nat} {v : Value} {l : List Tk.Tok} (hown : w.ownsRow B 42 5 v l.length (Rec.flat Tk.Tok.cells l)) (hb : Below w.heap.size w w') (h0 : 0 < l.length) :
    ∃ g c, v = .slice (some ⟨g, 0, none⟩) l.length c ∧ g < w.heap.size ∧ ∀ j t (hj : j < l.length) (ht : t < 5), w'.cell? ⟨g, j * 5 + t, none⟩ = (l[j].cells)[t]? := by
  obtain ⟨ra, rc, hx⟩ := own_len hown
  subst hx
  obtain ⟨g, rfl⟩ : ∃ g, ra = some ⟨g, 0, none⟩ := by
    rcases hown.2 with ⟨e, h0⟩ | ⟨g, cap, cur, e, _⟩
    · omega
    · injection e with e _ _; exact ⟨g, e⟩
  have hv : ∀ (t : Tk.Tok) k, k < 5 → ∃ v, (t.cells)[k]? = some v := fun t k hk => ⟨_, List.getElem?_eq_getElem (by show k < 5; exact hk)⟩
  refine ⟨g, rc, rfl, ?_, fun j t hj ht => ?_⟩
  · obtain ⟨v, hv⟩ := hv (l[0]) 0 (by omega)
    have h1 := tok_cell hown 0 h0 0 (by omega)
    rw [hv] at h1
    exact lt_of_cell h1
  · have h1 := tok_cell hown j hj t ht
    obtain ⟨v, hv⟩ := hv (l[j]) t ht
    rw [hv] at h1 ⊢
    exact (hb.cell (p := ⟨g, j * 5 + t, none⟩) (lt_of_cell h1)).trans h1
set_option maxRecDepth 1000000 in
set_option maxHeartbeats 4000000 in
theorem tokenAgain_walk (s : ByteArray) (hl : s.size ≤ 9223372036854775807) (w : World) (hn : NumIs w) : Calls Tryd.prog 6 #[.string s] w fun e w' => e = .returned (.bool true) ∧ Below w.heap.size w w' := by
  have HAW : Hid (∀ w', Below w.heap.size w w' → Calls Tryd.prog 24 #[] w' fun e w2 => e = .returned (.bool true) ∧ Below w.heap.size w w2) := Lib.hid fun w' hb => (awake2_any w' (hn.below hb)).mono fun e w2 h => ⟨h.1, hb.trans (h.2.mono hb.size)⟩
  by_cases hbig : 3000 < s.size
  · have h1 : (3000 : Int) < (s.size : Int) := by omega
    clear hn
    go_enter Tryd.func6, Tryd.ntmps6
    go_wp2_with fail
    refine (HAW.out w (Below.refl _ _)).mono ?_
    rintro e w3 ⟨rfl, hb3⟩
    go_wp2_with fail
    go_ret
    exact ⟨rfl, hb3⟩
  · have h1 : ¬ (3000 : Int) < (s.size : Int) := by omega
    have HT := Lib.hid (tokens_any s w (by omega) hn)
    have HN : Hid (∀ w', Below w.heap.size w w' → NumIs w') := Lib.hid fun w' hb => hn.below hb
    clear hn
    go_enter Tryd.func6, Tryd.ntmps6
    go_wp2_with fail
    refine HT.out.mono ?_
    clear HT
    rintro e w1 (⟨N, l, v, B, hE, hN, hsc, hll, rfl, hown, hB, hb⟩ | ⟨N, er, li, co, hE, hN, hsc, her, rfl, hb⟩ | ⟨hall, rfl, hb⟩)
    · have hlp := (Tk.rises hE hsc).1
      have HSUM := Lib.hid (Tk.sum_le hE hsc)
      have HBK : Hid (∀ s2 : ByteArray, s2.data.toList = Tk.plainL l → Ends s2 s2.size ∧ s2.size ≤ 16384 ∧ ∃ l2, Tk.scan s2 s2.size 0 false [] = .toks l2 ∧ l2.length = l.length ∧ ∀ m (a : m < l2.length) (b : m < l.length), Tk.eqv l2[m] l[m]) := Lib.hid fun s2 h2 => Tk.tokens_back (by omega) hE hsc hll h2
      have HB := Lib.hid (hb.alloc hb.size (.cells #[.int .i64 0, .int .i64 0, .int .i64 0] 35))
      obtain ⟨g, rc, rfl, hg, hcell⟩ := tok_cells hown ((Below.refl w1.heap.size w1).alloc (Nat.le_refl _) (.cells #[.int .i64 0, .int .i64 0, .int .i64 0] 35)) hlp
      have HC := Lib.hid hcell
      have HG : Hid (g < (w1.alloc (.cells #[.int .i64 0, .int .i64 0, .int .i64 0] 35)).heap.size) := Lib.hid (by simp; omega)
      have q0 : (w1.alloc (.cells #[.int .i64 0, .int .i64 0, .int .i64 0] 35)).cell? ⟨w1.heap.size, 0, none⟩ = some (.int .i64 0) := cell_of_row _ _ 0 _ _ _ (heap_alloc_new _ _)
      clear hE hsc hown hb hB hg hcell
      have HP := Lib.hid (plain_any g rc l (w1.alloc (.cells #[.int .i64 0, .int .i64 0, .int .i64 0] 35)) hll (by have := HSUM.out; omega) (fun j hj => HC.out j 1 hj (by omega)))
      clear HSUM
      go_wp2_with fail
      generalize w1.alloc (.cells #[.int .i64 0, .int .i64 0, .int .i64 0] 35) = w2 at *
      refine HP.out.mono ?_
      clear HP
      rintro e w3 ⟨S, rfl, hS, rfl⟩
      obtain ⟨hE2, hN2, l2, hsc2, hlen, heqv⟩ := HBK.out S hS
      have HT2 := Lib.hid (tokens_at S w2 (by omega) (HN.out _ HB.out) hE2 hN2 hsc2)
      have HEQ := Lib.hid heqv
      clear hE2 hN2 hsc2 heqv HBK hS
      go_wp2_with fail
      refine HT2.out.mono ?_
      clear HT2
      rintro e w4 ⟨v2, B2, rfl, hown2, hB2, hb2⟩
      have HB4 := Lib.hid ((HB.out.trans (hb2.mono HB.out.size)).alloc (Nat.le_trans HB.out.size hb2.size) (.cells #[.int .i64 0, .int .i64 0, .int .i64 0] 35))
      obtain ⟨g2, rc2, rfl, hg2, hcell2⟩ := tok_cells hown2 ((Below.refl w4.heap.size w4).alloc (Nat.le_refl _) (.cells #[.int .i64 0, .int .i64 0, .int .i64 0] 35)) (by omega)
      have HC4 : Hid (∀ j t (hj : j < l.length) (ht : t < 5), (w4.alloc (.cells #[.int .i64 0, .int .i64 0, .int .i64 0] 35)).cell? ⟨g, j * 5 + t, none⟩ = (l[j].cells)[t]?) := Lib.hid fun j t hj ht =>
        ((hb2.alloc hb2.size (.cells #[.int .i64 0, .int .i64 0, .int .i64 0] 35)).cell (p := ⟨g, j * 5 + t, none⟩) HG.out).trans (HC.out j t hj ht)
      have HD4 := Lib.hid hcell2
      have q4 : (w4.alloc (.cells #[.int .i64 0, .int .i64 0, .int .i64 0] 35)).cell? ⟨w4.heap.size, 0, none⟩ = some (.int .i64 0) := cell_of_row _ _ 0 _ _ _ (heap_alloc_new _ _)
      have HLEN := Lib.hid hlen
      rw [hlen]
      clear hlen
      have hne : ((l.length : Int) != (l.length : Int)) = false := by simp
      clear hown2 hb2 hg2 hcell2 HG HC hB2 q0
      go_wp2_with fail
      generalize w4.alloc (.cells #[.int .i64 0, .int .i64 0, .int .i64 0] 35) = w5 at *
      go_loopw [7] (fun v7 wr => ∃ j : Nat, j ≤ l.length ∧ v7 = .int .i64 j ∧ ∃ n, wr = w5.drewN n) (fun v7 _ => l.length - (intOf v7).toNat)
      case atStart => exact ⟨0, by omega, rfl, 0, rfl⟩
      case round =>
        obtain ⟨j, hj, rfl, n, rfl⟩ := hrel
        by_cases hlt : j < l.length
        · have hlt1 : (j : Int) < (l.length : Int) := by omega
          have hlt2 : j < l2.length := by rw [HLEN.out]; exact hlt
          have c0 := HC4.out j 0 hlt (by omega)
          have c1 := HC4.out j 1 hlt (by omega)
          have c2 := HC4.out j 2 hlt (by omega)
          have d0 := HD4.out j 0 hlt2 (by omega)
          have d1 := HD4.out j 1 hlt2 (by omega)
          have d2 := HD4.out j 2 hlt2 (by omega)
          obtain ⟨e0, e1, e2⟩ := HEQ.out j hlt2 hlt
          simp only [Tk.Tok.cells, List.getElem?_cons_zero, List.getElem?_cons_succ, Nat.add_zero] at c0 c1 c2 d0 d1 d2
          rw [e0] at d0
          rw [e1] at d1
          rw [e2] at d2
          clear e0 e1 e2
          generalize l[j].kind = kk at *
          generalize l[j].text = xx at *
          generalize l[j].num = nn at *
          have t0 : (kk != kk) = false := by simp
          have t1 : (xx.toList != xx.toList) = false := by simp
          have t2 : (nn != nn) = false := by simp
          go_wp2_with fail
          go_quiet (fail)
          go_wp2_with fail
          go_roundw
          case rel => exact ⟨j + 1, by omega, by go_num, by first | exact ⟨_, rfl⟩ | (simp only [World.drewN_drewN]; exact ⟨_, rfl⟩)⟩
          case measure => simp [intOf]; omega
        · go_wp2_with fail
          refine (HAW.out (w5.drewN n) (HB4.out.trans ⟨rfl, rfl, rfl, Nat.le_refl _, fun _ _ => rfl⟩)).mono ?_
          rintro e w6 ⟨rfl, hb6⟩
          go_wp2_with fail
          go_ret
          exact ⟨rfl, hb6⟩
    · have HB := Lib.hid (hb.alloc hb.size (.cells #[.int .i64 er, .int .i64 li, .int .i64 co] 35))
      have hne : (er != 0) = true := by simpa using her
      clear hb hE hsc
      go_wp2_with fail
      refine (HAW.out _ HB.out).mono ?_
      rintro e w3 ⟨rfl, hb3⟩
      go_wp2_with fail
      go_ret
      exact ⟨rfl, hb3⟩
    · have HB := Lib.hid (hb.alloc hb.size (.cells #[.int .i64 3, .int .i64 0, .int .i64 0] 35))
      clear hb hall
      go_wp2_with fail
      refine (HAW.out _ HB.out).mono ?_
      rintro e w3 ⟨rfl, hb3⟩
      go_wp2_with fail
      go_ret
      exact ⟨rfl, hb3⟩
end Go.Proofs.YtbplkphjjfgkmaaDoor
