/-
  text.At, warderref01.At, End: the place of a byte; the law on both.
-/
import Derived.Test.YtbplkphjjfgkmaaDoorTxSame
namespace Go.Proofs.YtbplkphjjfgkmaaDoor
open Go.RowKit
set_option linter.unusedVariables false

/-- k is the number of the first rune that does not begin ahead of a byte, or of all runes. -/
def AtK (s : ByteArray) (off : Int) (k : Nat) : Prop := (∀ j, j < k → (Rn.st s j).p < s.size ∧ ((Rn.st s j).p : Int) < off) ∧ (((Rn.st s k).p < s.size ∧ off ≤ ((Rn.st s k).p : Int)) ∨ s.size ≤ (Rn.st s k).p)
theorem atK_unique {s : ByteArray} {off : Int} {k k' : Nat} (h : AtK s off k) (h' : AtK s off k') : k = k' := by
  rcases Nat.lt_trichotomy k k' with h1 | h1 | h1
  · have := h'.1 k h1; have := h.2; omega
  · exact h1
  · have := h.1 k' h1; have := h'.2; omega
/-- What lies in memory while places are counted. -/
structure PS (w : World) (G1 G2 : Nat) (s : ByteArray) (l c p : Nat) (wr : World) : Prop where
  place : wr.heap[G1]? = some (.cells #[.int .i64 l, .int .i64 c] 33 (0, 0))
  iter : wr.heap[G2]? = some (.stringIter s p)
  ret : wr.heap[w.heap.size]? = some (.cells #[.int .i64 0, .int .i64 0] 33 (0, 0))
  below : Below w.heap.size w wr
  g0 : w.heap.size < G1
  g1 : G1 < G2
section
variable {w wr wn : World} {G1 G2 l c p : Nat} {s : ByteArray}
theorem PS.size (h : PS w G1 G2 s l c p wr) : G2 < wr.heap.size := (Array.getElem?_eq_some_iff.1 h.iter).1
theorem PS.move (h : PS w G1 G2 s l c p wr) (q : Nat) : PS w G1 G2 s l c q (wr.iterAt G2 s q) :=
  ⟨(Lib.iterAt_other _ _ _ _ _ (by have := h.g1; omega)).trans h.place, Lib.iterAt_heap _ _ _ _ _ h.iter, (Lib.iterAt_other _ _ _ _ _ (by have := h.g0; have := h.g1; omega)).trans h.ret, Lib.below_iterAt h.below (by have := h.g0; have := h.g1; omega) _ _, h.g0, h.g1⟩
theorem PS.keeps (h : PS w G1 G2 s l c p wr) (k : Keeps (fun _ => False) wr wn) : PS w G1 G2 s l c p wn :=
  ⟨by rw [k.block _ (by have := h.g1; have := h.size; omega) (fun hf => hf)]; exact h.place, by rw [k.block _ h.size (fun hf => hf)]; exact h.iter, by rw [k.block _ (by have := h.g0; have := h.g1; have := h.size; omega) (fun hf => hf)]; exact h.ret,
    h.below.trans (k.below (fun _ hf => hf.elim) h.below.size), h.g0, h.g1⟩
theorem PS.set (h : PS w G1 G2 s l c p wr) (l' c' : Int) {lc cc : Nat} (e1 : l' = (lc : Int)) (e2 : c' = (cc : Int)) : PS w G1 G2 s lc cc p ((wr.setCell ⟨G1, 0, none⟩ (.int .i64 l')).setCell ⟨G1, 1, none⟩ (.int .i64 c')) := by
  subst e1 e2
  have g0 := h.g0
  have g1 := h.g1
  have k : Keeps (fun j => j = G1) wr ((wr.setCell ⟨G1, 0, none⟩ (.int .i64 (lc : Int))).setCell ⟨G1, 1, none⟩ (.int .i64 (cc : Int))) := (Keeps.setCell (S := fun j => j = G1) wr ⟨G1, 0, none⟩ _ rfl).trans (Keeps.setCell (S := fun j => j = G1) _ ⟨G1, 1, none⟩ _ rfl)
  refine ⟨?_, by rw [k.block _ h.size (by omega)]; exact h.iter, by rw [k.block _ (by have := h.size; omega) (by omega)]; exact h.ret, h.below.trans (k.below (fun j hj => by omega) h.below.size), g0, g1⟩
  have a1 := heap_setCell_same wr G1 0 _ 33 (.int .i64 (lc : Int)) h.place
  exact heap_setCell_same _ G1 1 _ 33 (.int .i64 (cc : Int)) a1
theorem PS.done (h : PS w G1 G2 s l c p wr) (a b : Value) : Below w.heap.size w ((wr.setCell ⟨w.heap.size, 0, none⟩ a).setCell ⟨w.heap.size, 1, none⟩ b) := by
  have k : Keeps (fun j => j = w.heap.size) wr ((wr.setCell ⟨w.heap.size, 0, none⟩ a).setCell ⟨w.heap.size, 1, none⟩ b) := (Keeps.setCell (S := fun j => j = w.heap.size) wr ⟨w.heap.size, 0, none⟩ _ rfl).trans (Keeps.setCell (S := fun j => j = w.heap.size) _ ⟨w.heap.size, 1, none⟩ _ rfl)
  exact h.below.trans (k.below (fun j hj => by omega) h.below.size)
theorem PS.pos (h : PS w G1 G2 s l c p wr) : wr.iterPos G2 = p := by unfold World.iterPos; rw [h.iter]
theorem PS.cast (h : PS w G1 G2 s l c p wr) {l' c' p' : Nat} (e1 : l = l') (e2 : c = c') (e3 : p = p') : PS w G1 G2 s l' c' p' wr := by
  subst e1 e2 e3; exact h
theorem PS.cell0 (h : PS w G1 G2 s l c p wr) : wr.cell? ⟨w.heap.size, 0, none⟩ = some (.int .i64 0) ∧ wr.cell? ⟨w.heap.size, 1, none⟩ = some (.int .i64 0) ∧ wr.frozen? ⟨w.heap.size, 0, none⟩ = false ∧ wr.frozen? ⟨w.heap.size, 1, none⟩ = false ∧ w.heap.size < wr.heap.size :=
  ⟨cell_of_row wr _ 0 _ _ _ h.ret, cell_of_row wr _ 1 _ _ _ h.ret, frozen_of_row wr _ 0 _ _ h.ret, frozen_of_row wr _ 1 _ _ h.ret, (Array.getElem?_eq_some_iff.1 h.ret).1⟩
theorem PS.cells (h : PS w G1 G2 s l c p wr) : wr.cell? ⟨G1, 0, none⟩ = some (.int .i64 l) ∧ wr.cell? ⟨G1, 1, none⟩ = some (.int .i64 c) ∧ wr.frozen? ⟨G1, 0, none⟩ = false ∧ wr.frozen? ⟨G1, 1, none⟩ = false ∧ G1 < wr.heap.size :=
  ⟨cell_of_row wr G1 0 _ _ _ h.place, cell_of_row wr G1 1 _ _ _ h.place, frozen_of_row wr G1 0 _ _ h.place, frozen_of_row wr G1 1 _ _ h.place, (Array.getElem?_eq_some_iff.1 h.place).1⟩
end
def AtAns (s : ByteArray) (off : Int) (w : World) (e : Ending) (w' : World) : Prop :=
  ∃ k, AtK s off k ∧ e = .returned (.agg #[.int .i64 (Rn.st s k).l, .int .i64 (Rn.st s k).c]) ∧ Below w.heap.size w w'
set_option maxHeartbeats 2000000 in
set_option maxRecDepth 1000000 in
theorem at_any (s : ByteArray) (off : Int) (w : World) (hs : s.size ≤ 1000000000000) : Calls Tryd.prog 67 #[.string s, .int .i64 off] w (AtAns s off w) := by
  go_enter Tryd.func67, Tryd.ntmps67
  go_wp2_with fail
  refine (first0 _).mono ?_
  rintro e w1 ⟨rfl, k1⟩
  have g1 := k1.size
  have hret : w1.heap[w.heap.size]? = some (.cells #[.int .i64 0, .int .i64 0] 33 (0, 0)) := by
    rw [k1.block _ (by simp) (fun hf => hf)]; exact heap_alloc_new _ _
  simp only [World.size_alloc] at g1
  have ps0 : PS w w1.heap.size (w1.heap.size + 1) s 1 1 0 ((w1.alloc (.cells #[.int .i64 1, .int .i64 1] 33)).iter s 0) :=
    ⟨(Below.heap_alloc _ _ _ (by simp)).trans (heap_alloc_new _ _), by have := heap_alloc_new (w1.alloc (.cells #[.int .i64 1, .int .i64 1] 33)) (.stringIter s 0); simpa [World.iter] using this,
      (Below.heap_alloc _ _ _ (by simp; omega)).trans ((Below.heap_alloc _ _ _ (by omega)).trans hret),
      ((Below.refl _ _).alloc (Nat.le_refl _) _).trans ((k1.below (fun _ hf => hf.elim) (by simp)).trans (((Below.refl _ _).alloc (by omega) _).alloc (by simp; omega) _)), by omega, by omega⟩
  have PS0 := Lib.hid ps0
  clear ps0 k1 hret
  go_wp2
  generalize w1.heap.size + 1 = G2 at *
  generalize w1.heap.size = G1 at *
  generalize (w1.alloc (.cells #[.int .i64 1, .int .i64 1] 33)).iter s 0 = w2 at *
  have hR : w.heap.size < G1 := by omega
  go_loopw [] (fun wr => ∃ k : Nat, (∀ j, j < k → (Rn.st s j).p < s.size ∧ ((Rn.st s j).p : Int) < off) ∧ PS w G1 G2 s (Rn.st s k).l (Rn.st s k).c (Rn.st s k).p wr) (fun wr => s.size - wr.iterPos G2)
  case atStart => exact ⟨0, fun j hj => by omega, PS0.out⟩
  case round =>
    obtain ⟨k, hpre, hrs⟩ := hrel
    have HPRE := Lib.hid hpre
    clear hpre PS0
    have hb := Rn.st_bounds s k
    have hit := hrs.iter
    have HPOS := Lib.hid hrs.pos
    by_cases hlt : (Rn.st s k).p < s.size
    · have hnext := fun ty => Lib.run_next_any_at (P := Tryd.prog) wr G2 s (Rn.st s k).p ty hit hlt
      have hrs1 := hrs.move ((Rn.st s k).p + (Utf8.decode s (Rn.st s k).p).2)
      obtain ⟨c0, c1, f0, f1, hsz⟩ := hrs1.cells
      obtain ⟨d0, d1, e0, e1, hsr⟩ := hrs1.cell0
      have RS1 := Lib.hid hrs1
      clear hrs1
      have hl1 : (Rn.st s k).l ≤ 1000000000000 := by omega
      have hc1 : (Rn.st s k).c ≤ 1000000000000 := by omega
      by_cases hoff : off ≤ ((Rn.st s k).p : Int)
      · go_wp2
        refine bodyPost_ret (v := .agg #[.int .i64 (Rn.st s k).l, .int .i64 (Rn.st s k).c]) ?_ rfl ⟨k, ⟨HPRE.out, Or.inl ⟨hlt, hoff⟩⟩, rfl, ?_⟩
        · clear hrs hnext HPOS HPRE hit hb
          simp [results, Tryd.results67, go_sem, *]
        · exact (RS1.out).done _ _
      · have hrd := Rn.run_dec s (Rn.st s k).p
        have hwd := Rn.wid_dec s (Rn.st s k).p
        have hwp := Rn.wid_pos s (Rn.st s k).p
        have HRD := Lib.hid hrd
        have HWD := Lib.hid hwd
        clear hrd hwd
        by_cases h10 : (Utf8.decode s (Rn.st s k).p).1 = 10
        · have e10 : Rn.run s (Rn.st s k).p = 10 := HRD.out.2 h10
          have E10 := Lib.hid e10
          rw [h10] at hnext
          clear e10
          go_wp2_with fail
          refine (behind_nl _ _ _ hl1 hc1).mono ?_
          rintro e w6 ⟨rfl, k6⟩
          have rs6 := (RS1.out).keeps k6
          clear c0 c1 f0 f1 hsz d0 d1 e0 e1 hsr k6 RS1 h10
          obtain ⟨c0, c1, f0, f1, hsz⟩ := rs6.cells
          have rel8 := (rs6.set ((Rn.st s k).l + 1 : Int) 1 (lc := (Rn.st s k).l + 1) (cc := 1) (by omega) rfl).cast (l' := (Rn.st s (k + 1)).l) (c' := (Rn.st s (k + 1)).c) (p' := (Rn.st s (k + 1)).p) (by simp only [Rn.st, Rn.next, if_pos E10.out]) (by simp only [Rn.st, Rn.next, if_pos E10.out]) (by rw [← HWD.out]; rfl)
          clear rs6
          have REL8 := Lib.hid rel8
          clear rel8
          go_wp2_with fail
          go_roundw
          case rel => exact ⟨k + 1, fun j hj => by
            by_cases e : j = k
            · rw [e]; exact ⟨hlt, by omega⟩
            · exact HPRE.out j (by omega), REL8.out⟩
          case measure =>
            rw [(REL8.out).pos, HPOS.out]
            have hp8 : (Rn.st s (k + 1)).p = (Rn.st s k).p + Rn.wid s (Rn.st s k).p := rfl
            omega
        · have e10 : ¬ Rn.run s (Rn.st s k).p = 10 := fun h => h10 (HRD.out.1 h)
          have E10 := Lib.hid e10
          clear e10
          go_wp2_with fail
          refine (behind_no _ _ _ _ hl1 hc1 (by omega)).mono ?_
          rintro e w6 ⟨rfl, k6⟩
          have rs6 := (RS1.out).keeps k6
          clear c0 c1 f0 f1 hsz d0 d1 e0 e1 hsr k6 RS1 h10
          obtain ⟨c0, c1, f0, f1, hsz⟩ := rs6.cells
          have rel8 := (rs6.set ((Rn.st s k).l : Int) ((Rn.st s k).c + 1 : Int) (lc := (Rn.st s k).l) (cc := (Rn.st s k).c + 1) rfl (by omega)).cast (l' := (Rn.st s (k + 1)).l) (c' := (Rn.st s (k + 1)).c) (p' := (Rn.st s (k + 1)).p) (by simp only [Rn.st, Rn.next, if_neg E10.out]) (by simp only [Rn.st, Rn.next, if_neg E10.out]) (by rw [← HWD.out]; rfl)
          clear rs6
          have REL8 := Lib.hid rel8
          clear rel8
          go_wp2_with fail
          go_roundw
          case rel => exact ⟨k + 1, fun j hj => by
            by_cases e : j = k
            · rw [e]; exact ⟨hlt, by omega⟩
            · exact HPRE.out j (by omega), REL8.out⟩
          case measure =>
            rw [(REL8.out).pos, HPOS.out]
            have hp8 : (Rn.st s (k + 1)).p = (Rn.st s k).p + Rn.wid s (Rn.st s k).p := rfl
            omega
    · have hnext := fun ty => Lib.run_next_end_at (P := Tryd.prog) wr G2 s (Rn.st s k).p ty hit hlt
      obtain ⟨c0, c1, f0, f1, hsz⟩ := hrs.cells
      obtain ⟨d0, d1, e0, e1, hsr⟩ := hrs.cell0
      have HRS := Lib.hid hrs
      clear hrs hit
      go_wp2
      refine bodyPost_ret (v := .agg #[.int .i64 (Rn.st s k).l, .int .i64 (Rn.st s k).c]) ?_ rfl ⟨k, ⟨HPRE.out, Or.inr (by omega)⟩, rfl, ?_⟩
      · clear hnext HPOS HPRE hb
        simp [results, Tryd.results67, go_sem, *]
      · exact (HRS.out).done _ _
set_option maxHeartbeats 2000000 in
theorem end_any (s : ByteArray) (w : World) (hs : s.size ≤ 1000000) : Calls Tryd.prog 71 #[.string s] w fun e w' => ∃ k, Ends s k ∧ e = .returned (.agg #[.int .i64 (Rn.st s k).l, .int .i64 (Rn.st s k).c]) ∧ Below w.heap.size w w' := by
  go_enter Tryd.func71, Tryd.ntmps71
  go_wp2_with fail
  refine (all_any s _ hs).mono ?_
  rintro e w1 ⟨k, x, hk, rfl, hown, hb⟩
  simp only [World.size_alloc] at hown hb
  have hR : w1.heap[w.heap.size]? = some (.cells #[.int .i64 0, .int .i64 0] 33 (0, 0)) := by
    rw [hb.block _ (by omega)]; exact (Below.heap_alloc _ _ _ (by simp)).trans (heap_alloc_new _ _)
  have hP : w1.heap[w.heap.size + 1]? = some (.cells #[.int .i64 1, .int .i64 1] 33 (0, 0)) := by
    rw [hb.block _ (by omega)]; have := heap_alloc_new (w.alloc (.cells #[.int .i64 0, .int .i64 0] 33)) (.cells #[.int .i64 1, .int .i64 1] 33); simpa using this
  have c0 := cell_of_row w1 _ 0 _ _ _ hR
  have c1 := cell_of_row w1 _ 1 _ _ _ hR
  have c2 := frozen_of_row w1 _ 0 _ _ hR
  have c3 := frozen_of_row w1 _ 1 _ _ hR
  have d0 := cell_of_row w1 _ 0 _ _ _ hP
  have d1 := cell_of_row w1 _ 1 _ _ _ hP
  have d2 := frozen_of_row w1 _ 0 _ _ hP
  have d3 := frozen_of_row w1 _ 1 _ _ hP
  have hsz : w.heap.size + 2 ≤ w1.heap.size := by have := hb.size; simpa using this
  have hbel : ∀ w', Keeps (fun j => w.heap.size ≤ j) w1 w' → Below w.heap.size w w' := fun w' kk =>
    ((((Below.refl w.heap.size w).alloc (Nat.le_refl _) _).alloc (by simp) _).trans (hb.mono (by omega))).trans (kk.below (fun j hj => hj) (by omega))
  have HBEL := Lib.hid hbel
  have HK := Lib.hid hk
  have HP := Lib.hid hP
  clear hR hP hb hbel hk
  by_cases h0 : k = 0
  · subst h0
    obtain ⟨xa, xc, rfl⟩ := own_len hown
    clear hown
    go_wp2_with fail
    refine bodyPost_ret (v := .agg #[.int .i64 1, .int .i64 1]) ?_ rfl ⟨0, HK.out, rfl, ?_⟩
    · simp [results, Tryd.results71, go_sem, *]
    · exact HBEL.out _ ((Keeps.setCell (S := fun j => w.heap.size ≤ j) w1 ⟨w.heap.size, 0, none⟩ _ (Nat.le_refl _)).trans (Keeps.setCell (S := fun j => w.heap.size ≤ j) _ ⟨w.heap.size, 1, none⟩ _ (Nat.le_refl _)))
  · obtain ⟨j, rfl⟩ : ∃ j, k = j + 1 := ⟨k - 1, by omega⟩
    obtain ⟨g, c, rfl, hg⟩ := own_some hown (by omega)
    have hc := fun i (hi : i < 5) => (hown.cellAt (j * 5 + i) (by omega)).trans (rall_at s (j + 1) j i (by omega) hi)
    have a0 := hc 0 (by omega)
    have a3 := hc 3 (by omega)
    have a4 := hc 4 (by omega)
    simp only [Rn.rcells, List.getElem?_cons_zero, List.getElem?_cons_succ, Nat.add_zero] at a0 a3 a4
    have hbnd := Rn.st_bounds s j
    have hj : j < s.size := by have := (HK.out).1 j (by omega); omega
    have hg1 : w.heap.size + 2 ≤ g := by have := hg.1; simpa using this
    have hgs := hg.2.2.2
    have hcap := hg.2.1
    have hcm := hg.2.2.1
    have hr : Rn.run s (Rn.st s j).p = 10 ∨ (Rn.run s (Rn.st s j).p == 10) = false := by
      by_cases h : Rn.run s (Rn.st s j).p = 10
      · exact Or.inl h
      · right; simp [h]
    have hl8 : (Rn.st s (j + 1)).l = if Rn.run s (Rn.st s j).p = 10 then (Rn.st s j).l + 1 else (Rn.st s j).l := rfl
    have hc8 : (Rn.st s (j + 1)).c = if Rn.run s (Rn.st s j).p = 10 then 1 else (Rn.st s j).c + 1 := rfl
    clear hown hc hg
    generalize Rn.run s (Rn.st s j).p = r at *
    generalize (Rn.st s j).l = l at *
    generalize (Rn.st s j).c = cc at *
    generalize (Rn.st s j).p = p at *
    have r1 := heap_setCell_same w1 _ 0 _ 33 (.int .i64 l) HP.out
    have r2 := heap_setCell_same _ _ 1 _ 33 (.int .i64 cc) r1
    have r3 := heap_setCell_same _ _ 1 _ 33 (.int .i64 ((cc : Int) + 1)) r2
    have r4 := heap_setCell_same _ _ 0 _ 33 (.int .i64 ((l : Int) + 1)) r3
    have r5 := heap_setCell_same _ _ 1 _ 33 (.int .i64 1) r4
    have q30 := cell_of_row _ _ 0 _ _ _ r3
    have q31 := cell_of_row _ _ 1 _ _ _ r3
    have q41 := cell_of_row _ _ 1 _ _ _ r4
    have q50 := cell_of_row _ _ 0 _ _ _ r5
    have q51 := cell_of_row _ _ 1 _ _ _ r5
    clear r1 r2 r3 r4 r5
    have kk1 : ∀ x y z, Keeps (fun j => w.heap.size ≤ j) w1 (((w1.setCell ⟨w.heap.size + 1, 0, none⟩ x).setCell ⟨w.heap.size + 1, 1, none⟩ y).setCell ⟨w.heap.size + 1, 1, none⟩ z) := fun x y z =>
      ((Keeps.setCell _ ⟨w.heap.size + 1, 0, none⟩ _ (by simp)).trans (Keeps.setCell _ ⟨w.heap.size + 1, 1, none⟩ _ (by simp))).trans (Keeps.setCell _ ⟨w.heap.size + 1, 1, none⟩ _ (by simp))
    have kk2 : ∀ wr b x y, w.heap.size ≤ b → Keeps (fun j => w.heap.size ≤ j) wr ((wr.setCell ⟨b, 0, none⟩ x).setCell ⟨b, 1, none⟩ y) := fun wr b x y hb =>
      (Keeps.setCell _ ⟨b, 0, none⟩ _ hb).trans (Keeps.setCell _ ⟨b, 1, none⟩ _ hb)
    have KK1 := Lib.hid kk1
    have KK2 := Lib.hid kk2
    clear kk1 kk2
    rcases hr with rfl | hr
    · rw [if_pos rfl] at hl8 hc8
      have HL8 := Lib.hid hl8
      have HC8 := Lib.hid hc8
      clear hl8 hc8 
      go_wp2_with fail
      refine bodyPost_ret (v := .agg #[.int .i64 ((l : Int) + 1), .int .i64 1]) ?_ rfl ⟨j + 1, HK.out, by rw [HL8.out, HC8.out]; rfl, ?_⟩
      · simp [results, Tryd.results71, go_sem, *]
      · exact HBEL.out _ (((KK1.out _ _ _).trans (KK2.out _ _ _ _ (by omega))).trans (KK2.out _ _ _ _ (by omega)))
    · rw [if_neg (by simpa using hr)] at hl8 hc8
      have HL8 := Lib.hid hl8
      have HC8 := Lib.hid hc8
      clear hl8 hc8
      go_wp2_with fail
      refine bodyPost_ret (v := .agg #[.int .i64 (l : Int), .int .i64 ((cc : Int) + 1)]) ?_ rfl ⟨j + 1, HK.out, by rw [HL8.out, HC8.out]; rfl, ?_⟩
      · simp [results, Tryd.results71, go_sem, *]
      · exact HBEL.out _ ((KK1.out _ _ _).trans (KK2.out _ _ _ _ (by omega)))
end Go.Proofs.YtbplkphjjfgkmaaDoor
