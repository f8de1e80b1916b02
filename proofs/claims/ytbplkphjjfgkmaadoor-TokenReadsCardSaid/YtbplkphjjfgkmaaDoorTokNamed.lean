/-
  token.named, by a walk.
-/
import Derived.Test.YtbplkphjjfgkmaaDoorTokWhile
namespace Go.Proofs.YtbplkphjjfgkmaaDoor
open Go.RowKit
set_option linter.unusedVariables false
set_option linter.unusedSimpArgs false

/-- What named answers: the token with its kind, or an error. -/
def NamedR (w : World) (x : ByteArray) (n l c : Int) (e : Ending) (w' : World) : Prop :=
  ∃ k : Int, e = .returned (.tuple #[.agg #[.int .i64 k, .string x, .int .i64 n, .int .i64 l, .int .i64 c], .int .i64 (Tk.nameE x.data.toList).2]) ∧ ((Tk.nameE x.data.toList).2 = 0 → k = (Tk.nameE x.data.toList).1) ∧ Below w.heap.size w w'
set_option maxHeartbeats 4000000 in
theorem named_any (x : ByteArray) (n l c : Int) (w : World) (hx : ∀ k (h : k < x.size), (x[k]'h).toNat < 128) (hs : x.size ≤ 1000000) :
    Calls Tryd.prog 116 #[.agg #[.int .i64 0, .string x, .int .i64 n, .int .i64 l, .int .i64 c]] w (NamedR w x n l c) := by
  have HK := Lib.hid (fun w => known_any x w)
  have HX := Lib.hid hx
  clear hx
  cases hk : Tk.known x.data.toList with
  | true =>
    have HE : Hid (Tk.nameE x.data.toList = (2, 0)) := Lib.hid (by unfold Tk.nameE; rw [if_pos hk])
    rw [hk] at HK
    clear hk
    go_enter Tryd.func116, Tryd.ntmps116
    go_wp2_with fail
    refine (HK.out _).mono ?_
    rintro e w1 ⟨rfl, rfl⟩
    go_wp2_with fail
    refine bodyPost_ret (v := .tuple #[.agg #[.int .i64 2, .string x, .int .i64 n, .int .i64 l, .int .i64 c], .int .i64 0]) (by simp [results, Tryd.results116, go_sem]) rfl ⟨2, by rw [HE.out], fun _ => by rw [HE.out], ?_⟩
    exact ((Below.refl _ _).alloc (Nat.le_refl _) _).alloc (by simp) _
  | false =>
    have HBAD : Hid (∀ k (h : k < x.size), Tk.gr ((x[k]'h).toNat : Int) = true → Tk.nameE x.data.toList = (1, 1)) := Lib.hid fun k h hg => by
      unfold Tk.nameE
      rw [if_neg (by rw [hk]; decide), if_pos]
      rw [List.any_eq_true]
      exact ⟨x[k]'h, by have := getE x k h; exact List.mem_of_getElem? this, hg⟩
    have HGOOD : Hid ((∀ k (h : k < x.size), Tk.gr ((x[k]'h).toNat : Int) = false) → Tk.nameE x.data.toList = if 16 < x.size then (1, 3) else (1, 0)) := Lib.hid fun h => by
      unfold Tk.nameE
      rw [if_neg (by rw [hk]; decide), if_neg]
      · congr 1
      · rw [List.any_eq_true]
        rintro ⟨b, hb, hg⟩
        obtain ⟨k, hk2, rfl⟩ := List.mem_iff_getElem.1 hb
        have hk3 : k < x.size := by simpa using hk2
        have := h k hk3
        have e : x.data.toList[k]'hk2 = x[k]'hk3 := by
          have := getE x k hk3
          rw [List.getElem?_eq_getElem hk2] at this
          simpa using this
        rw [e] at hg
        rw [this] at hg
        cases hg
    rw [hk] at HK
    clear hk
    have HG := Lib.hid (fun r w => tgreat_any r w)
    have HB0 : Hid (∀ W : World, Below w.heap.size w W → True) := Lib.hid fun _ _ => trivial
    have HW2 : Hid (((((w.alloc (.cells #[.int .i64 0, .string x, .int .i64 n, .int .i64 l, .int .i64 c] 42)).alloc (.cells #[.int .i64 0, .string { data := #[] }, .int .i64 0, .int .i64 0, .int .i64 0] 42)).iter x 0).heap[w.heap.size + 1 + 1]? = some (.stringIter x 0)) ∧
      (((w.alloc (.cells #[.int .i64 0, .string x, .int .i64 n, .int .i64 l, .int .i64 c] 42)).alloc (.cells #[.int .i64 0, .string { data := #[] }, .int .i64 0, .int .i64 0, .int .i64 0] 42)).iter x 0).heap[w.heap.size]? = some (.cells #[.int .i64 0, .string x, .int .i64 n, .int .i64 l, .int .i64 c] 42 (0, 0)) ∧
      (((w.alloc (.cells #[.int .i64 0, .string x, .int .i64 n, .int .i64 l, .int .i64 c] 42)).alloc (.cells #[.int .i64 0, .string { data := #[] }, .int .i64 0, .int .i64 0, .int .i64 0] 42)).iter x 0).heap[w.heap.size + 1]? = some (.cells #[.int .i64 0, .string { data := #[] }, .int .i64 0, .int .i64 0, .int .i64 0] 42 (0, 0)) ∧
      Below w.heap.size w (((w.alloc (.cells #[.int .i64 0, .string x, .int .i64 n, .int .i64 l, .int .i64 c] 42)).alloc (.cells #[.int .i64 0, .string { data := #[] }, .int .i64 0, .int .i64 0, .int .i64 0] 42)).iter x 0)) := Lib.hid (by
      refine ⟨?_, ?_, ?_, ?_⟩
      · have h := heap_alloc_new ((w.alloc (.cells #[.int .i64 0, .string x, .int .i64 n, .int .i64 l, .int .i64 c] 42)).alloc (.cells #[.int .i64 0, .string { data := #[] }, .int .i64 0, .int .i64 0, .int .i64 0] 42)) (.stringIter x 0)
        simpa [World.iter] using h
      · refine (Below.heap_alloc _ _ _ (by simp; omega)).trans ((Below.heap_alloc _ _ _ (by simp)).trans (heap_alloc_new _ _))
      · refine (Below.heap_alloc _ _ _ (by simp)).trans ?_
        have h := heap_alloc_new (w.alloc (.cells #[.int .i64 0, .string x, .int .i64 n, .int .i64 l, .int .i64 c] 42)) (.cells #[.int .i64 0, .string { data := #[] }, .int .i64 0, .int .i64 0, .int .i64 0] 42)
        simpa using h
      · exact (((Below.refl _ _).alloc (Nat.le_refl _) _).alloc (by simp) _).alloc (by simp; omega) _)
    go_enter Tryd.func116, Tryd.ntmps116
    go_wp2_with fail
    refine (HK.out _).mono ?_
    rintro e w1 ⟨rfl, rfl⟩
    go_wp2_with fail
    generalize (((w.alloc (.cells #[.int .i64 0, .string x, .int .i64 n, .int .i64 l, .int .i64 c] 42)).alloc (.cells #[.int .i64 0, .string { data := #[] }, .int .i64 0, .int .i64 0, .int .i64 0] 42)).iter x 0) = w2 at *
    go_loopw [5] (fun v5 wr => ∃ k : Nat, Hid (∀ j (h : j < x.size), j < k → Tk.gr ((x[j]'h).toNat : Int) = false) ∧ Hid (wr.heap[w.heap.size + 1 + 1]? = some (.stringIter x k) ∧ wr.heap[w.heap.size]? = some (.cells #[.int .i64 0, .string x, .int .i64 n, .int .i64 l, .int .i64 c] 42 (0, 0)) ∧ wr.heap[w.heap.size + 1]? = some (.cells #[.int .i64 0, .string { data := #[] }, .int .i64 0, .int .i64 0, .int .i64 0] 42 (0, 0)) ∧ Below w.heap.size w wr)) (fun _ wr => x.size - wr.iterPos (w.heap.size + 1 + 1))
    case atStart => exact ⟨0, Lib.hid fun j h hj => by omega, HW2⟩
    case round =>
      obtain ⟨k, HPRE, HR⟩ := hrel
      have hit := HR.out.1
      have HPOS : Hid (wr.iterPos (w.heap.size + 1 + 1) = k) := Lib.hid (by unfold World.iterPos; rw [hit])
      by_cases hlt : k < x.size
      · have hnext := fun ty => Lib.run_next_ascii_at (P := Tryd.prog) wr (w.heap.size + 1 + 1) x k ty hit hlt (HX.out k hlt)
        have HR2 : Hid ((wr.iterAt (w.heap.size + 1 + 1) x (k + 1)).heap[w.heap.size + 1 + 1]? = some (.stringIter x (k + 1)) ∧ (wr.iterAt (w.heap.size + 1 + 1) x (k + 1)).heap[w.heap.size]? = some (.cells #[.int .i64 0, .string x, .int .i64 n, .int .i64 l, .int .i64 c] 42 (0, 0)) ∧ (wr.iterAt (w.heap.size + 1 + 1) x (k + 1)).heap[w.heap.size + 1]? = some (.cells #[.int .i64 0, .string { data := #[] }, .int .i64 0, .int .i64 0, .int .i64 0] 42 (0, 0)) ∧ Below w.heap.size w (wr.iterAt (w.heap.size + 1 + 1) x (k + 1))) := Lib.hid
          ⟨Lib.iterAt_heap _ _ _ _ _ HR.out.1, (Lib.iterAt_other _ _ _ _ _ (by omega)).trans HR.out.2.1, (Lib.iterAt_other _ _ _ _ _ (by omega)).trans HR.out.2.2.1, Lib.below_iterAt HR.out.2.2.2 (by omega) _ _⟩
        have hgr := HG.out ((x[k]'hlt).toNat : Int) (wr.iterAt (w.heap.size + 1 + 1) x (k + 1))
        cases hg : Tk.gr ((x[k]'hlt).toNat : Int) with
        | true =>
          have HE := Lib.hid (HBAD.out k hlt hg)
          rw [hg] at hgr
          have HGR := Lib.hid hgr
          clear hg hgr
          generalize (x[k]'hlt).toNat = b at *
          go_wp2_with fail
          refine HGR.out.mono ?_
          rintro e w3 ⟨rfl, rfl⟩
          generalize wr.iterAt (w.heap.size + 1 + 1) x (k + 1) = w4 at *
          have b0 := cell_of_row w4 w.heap.size 0 _ _ _ HR2.out.2.1
          have g0 := frozen_of_row w4 w.heap.size 0 _ _ HR2.out.2.1
          have c0 := cell_of_row w4 (w.heap.size + 1) 0 _ _ _ HR2.out.2.2.1
          have f0 := frozen_of_row w4 (w.heap.size + 1) 0 _ _ HR2.out.2.2.1
          have b1 := cell_of_row w4 w.heap.size 1 _ _ _ HR2.out.2.1
          have g1 := frozen_of_row w4 w.heap.size 1 _ _ HR2.out.2.1
          have c1 := cell_of_row w4 (w.heap.size + 1) 1 _ _ _ HR2.out.2.2.1
          have f1 := frozen_of_row w4 (w.heap.size + 1) 1 _ _ HR2.out.2.2.1
          have b2 := cell_of_row w4 w.heap.size 2 _ _ _ HR2.out.2.1
          have g2 := frozen_of_row w4 w.heap.size 2 _ _ HR2.out.2.1
          have c2 := cell_of_row w4 (w.heap.size + 1) 2 _ _ _ HR2.out.2.2.1
          have f2 := frozen_of_row w4 (w.heap.size + 1) 2 _ _ HR2.out.2.2.1
          have b3 := cell_of_row w4 w.heap.size 3 _ _ _ HR2.out.2.1
          have g3 := frozen_of_row w4 w.heap.size 3 _ _ HR2.out.2.1
          have c3 := cell_of_row w4 (w.heap.size + 1) 3 _ _ _ HR2.out.2.2.1
          have f3 := frozen_of_row w4 (w.heap.size + 1) 3 _ _ HR2.out.2.2.1
          have b4 := cell_of_row w4 w.heap.size 4 _ _ _ HR2.out.2.1
          have g4 := frozen_of_row w4 w.heap.size 4 _ _ HR2.out.2.1
          have c4 := cell_of_row w4 (w.heap.size + 1) 4 _ _ _ HR2.out.2.2.1
          have f4 := frozen_of_row w4 (w.heap.size + 1) 4 _ _ HR2.out.2.2.1
          simp at b0 b1 b2 b3 b4 c0 c1 c2 c3 c4
          have hz : w.heap.size + 1 < w4.heap.size := (Array.getElem?_eq_some_iff.1 HR2.out.2.2.1).1
          have HBL : Hid (Below w.heap.size w w4) := Lib.hid HR2.out.2.2.2
          clear HR HR2 hit hnext HPOS HPRE HGOOD HBAD HK HG HGR HW2 HX
          go_wp2_with fail
          refine bodyPost_ret (v := .tuple #[.agg #[.int .i64 0, .string x, .int .i64 n, .int .i64 l, .int .i64 c], .int .i64 1]) (by simp [results, Tryd.results116, go_sem, c0, c1, c2, c3, c4, hz, World.cell?_setCell_other]) rfl ⟨0, by rw [HE.out], fun h => by rw [HE.out] at h ⊢ <;> first | rfl | (exact absurd h (by decide)), ?_⟩
          repeat (first | exact HBL.out | refine Below.setCell ?_ (by simp) _)
        | false =>
          have HPRE2 : Hid (∀ j (h : j < x.size), j < k + 1 → Tk.gr ((x[j]'h).toNat : Int) = false) := Lib.hid fun j h hj => by
            by_cases e : j = k
            · subst e; exact hg
            · exact HPRE.out j h (by omega)
          rw [hg] at hgr
          have HGR := Lib.hid hgr
          clear hg hgr
          generalize (x[k]'hlt).toNat = b at *
          go_wp2_with fail
          refine HGR.out.mono ?_
          rintro e w3 ⟨rfl, rfl⟩
          go_wp2_with fail
          go_roundw
          case rel => exact ⟨k + 1, HPRE2, HR2⟩
          case measure =>
            have h1 : (wr.iterAt (w.heap.size + 1 + 1) x (k + 1)).iterPos (w.heap.size + 1 + 1) = k + 1 := by unfold World.iterPos; rw [HR2.out.1]
            rw [h1, HPOS.out]
            omega
      · have hnext := fun ty => Lib.run_next_end_at (P := Tryd.prog) wr (w.heap.size + 1 + 1) x k ty hit hlt
        have HN := HGOOD.out (fun j h => HPRE.out j h (by omega))
        by_cases hb : 16 < x.size
        · have HE : Hid (Tk.nameE x.data.toList = (1, 3)) := Lib.hid (by rw [HN, if_pos hb])
          have hb2 : (16 : Int) < (x.size : Int) := by omega
          have b0 := cell_of_row wr w.heap.size 0 _ _ _ HR.out.2.1
          have g0 := frozen_of_row wr w.heap.size 0 _ _ HR.out.2.1
          have c0 := cell_of_row wr (w.heap.size + 1) 0 _ _ _ HR.out.2.2.1
          have f0 := frozen_of_row wr (w.heap.size + 1) 0 _ _ HR.out.2.2.1
          have b1 := cell_of_row wr w.heap.size 1 _ _ _ HR.out.2.1
          have g1 := frozen_of_row wr w.heap.size 1 _ _ HR.out.2.1
          have c1 := cell_of_row wr (w.heap.size + 1) 1 _ _ _ HR.out.2.2.1
          have f1 := frozen_of_row wr (w.heap.size + 1) 1 _ _ HR.out.2.2.1
          have b2 := cell_of_row wr w.heap.size 2 _ _ _ HR.out.2.1
          have g2 := frozen_of_row wr w.heap.size 2 _ _ HR.out.2.1
          have c2 := cell_of_row wr (w.heap.size + 1) 2 _ _ _ HR.out.2.2.1
          have f2 := frozen_of_row wr (w.heap.size + 1) 2 _ _ HR.out.2.2.1
          have b3 := cell_of_row wr w.heap.size 3 _ _ _ HR.out.2.1
          have g3 := frozen_of_row wr w.heap.size 3 _ _ HR.out.2.1
          have c3 := cell_of_row wr (w.heap.size + 1) 3 _ _ _ HR.out.2.2.1
          have f3 := frozen_of_row wr (w.heap.size + 1) 3 _ _ HR.out.2.2.1
          have b4 := cell_of_row wr w.heap.size 4 _ _ _ HR.out.2.1
          have g4 := frozen_of_row wr w.heap.size 4 _ _ HR.out.2.1
          have c4 := cell_of_row wr (w.heap.size + 1) 4 _ _ _ HR.out.2.2.1
          have f4 := frozen_of_row wr (w.heap.size + 1) 4 _ _ HR.out.2.2.1
          simp at b0 b1 b2 b3 b4 c0 c1 c2 c3 c4
          have hz : w.heap.size + 1 < wr.heap.size := (Array.getElem?_eq_some_iff.1 HR.out.2.2.1).1
          have HBL : Hid (Below w.heap.size w wr) := Lib.hid HR.out.2.2.2
          clear HR hit HPOS HPRE HGOOD HBAD HK HG HW2 HX HN
          go_wp2_with fail
          refine bodyPost_ret (v := .tuple #[.agg #[.int .i64 0, .string x, .int .i64 n, .int .i64 l, .int .i64 c], .int .i64 3]) (by simp [results, Tryd.results116, go_sem, c0, c1, c2, c3, c4, hz, World.cell?_setCell_other]) rfl ⟨0, by rw [HE.out], fun h => by rw [HE.out] at h ⊢ <;> first | rfl | (exact absurd h (by decide)), ?_⟩
          repeat (first | exact HBL.out | refine Below.setCell ?_ (by simp) _)
        · have HE : Hid (Tk.nameE x.data.toList = (1, 0)) := Lib.hid (by rw [HN, if_neg hb])
          have hb2 : ¬ (16 : Int) < (x.size : Int) := by omega
          have b0 := cell_of_row wr w.heap.size 0 _ _ _ HR.out.2.1
          have g0 := frozen_of_row wr w.heap.size 0 _ _ HR.out.2.1
          have c0 := cell_of_row wr (w.heap.size + 1) 0 _ _ _ HR.out.2.2.1
          have f0 := frozen_of_row wr (w.heap.size + 1) 0 _ _ HR.out.2.2.1
          have b1 := cell_of_row wr w.heap.size 1 _ _ _ HR.out.2.1
          have g1 := frozen_of_row wr w.heap.size 1 _ _ HR.out.2.1
          have c1 := cell_of_row wr (w.heap.size + 1) 1 _ _ _ HR.out.2.2.1
          have f1 := frozen_of_row wr (w.heap.size + 1) 1 _ _ HR.out.2.2.1
          have b2 := cell_of_row wr w.heap.size 2 _ _ _ HR.out.2.1
          have g2 := frozen_of_row wr w.heap.size 2 _ _ HR.out.2.1
          have c2 := cell_of_row wr (w.heap.size + 1) 2 _ _ _ HR.out.2.2.1
          have f2 := frozen_of_row wr (w.heap.size + 1) 2 _ _ HR.out.2.2.1
          have b3 := cell_of_row wr w.heap.size 3 _ _ _ HR.out.2.1
          have g3 := frozen_of_row wr w.heap.size 3 _ _ HR.out.2.1
          have c3 := cell_of_row wr (w.heap.size + 1) 3 _ _ _ HR.out.2.2.1
          have f3 := frozen_of_row wr (w.heap.size + 1) 3 _ _ HR.out.2.2.1
          have b4 := cell_of_row wr w.heap.size 4 _ _ _ HR.out.2.1
          have g4 := frozen_of_row wr w.heap.size 4 _ _ HR.out.2.1
          have c4 := cell_of_row wr (w.heap.size + 1) 4 _ _ _ HR.out.2.2.1
          have f4 := frozen_of_row wr (w.heap.size + 1) 4 _ _ HR.out.2.2.1
          simp at b0 b1 b2 b3 b4 c0 c1 c2 c3 c4
          have hz : w.heap.size + 1 < wr.heap.size := (Array.getElem?_eq_some_iff.1 HR.out.2.2.1).1
          have HBL : Hid (Below w.heap.size w wr) := Lib.hid HR.out.2.2.2
          clear HR hit HPOS HPRE HGOOD HBAD HK HG HW2 HX HN
          go_wp2_with fail
          refine bodyPost_ret (v := .tuple #[.agg #[.int .i64 1, .string x, .int .i64 n, .int .i64 l, .int .i64 c], .int .i64 0]) (by simp [results, Tryd.results116, go_sem, c0, c1, c2, c3, c4, hz, World.cell?_setCell_other]) rfl ⟨1, by rw [HE.out], fun h => by rw [HE.out] at h ⊢ <;> first | rfl | (exact absurd h (by decide)), ?_⟩
          repeat (first | exact HBL.out | refine Below.setCell ?_ (by simp) _)
end Go.Proofs.YtbplkphjjfgkmaaDoor
