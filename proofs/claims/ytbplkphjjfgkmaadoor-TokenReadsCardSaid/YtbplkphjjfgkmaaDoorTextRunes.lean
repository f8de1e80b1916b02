/-
  text.Runes: all runes of a text, by walks.
-/
import Derived.Test.YtbplkphjjfgkmaaDoorTextTold
namespace Go.Proofs.YtbplkphjjfgkmaaDoor
open Go.RowKit
set_option linter.unusedVariables false

namespace Rn
def run (s : ByteArray) (i : Nat) : Int := (firstR s i).1
def wid (s : ByteArray) (i : Nat) : Nat := (firstR s i).2
/-- Where one stands: the byte, the line, the column. -/
structure St where
  p : Nat
  l : Nat
  c : Nat
def next (s : ByteArray) (x : St) : St := ⟨x.p + wid s x.p, if run s x.p = 10 then x.l + 1 else x.l, if run s x.p = 10 then 1 else x.c + 1⟩
def st (s : ByteArray) : Nat → St
  | 0 => ⟨0, 1, 1⟩
  | k + 1 => next s (st s k)
def cells (s : ByteArray) (k : Nat) : List Value := [.int .i32 (run s (st s k).p), .int .i64 (st s k).p, .int .i64 ((st s k).p + wid s (st s k).p : Nat), .int .i64 (st s k).l, .int .i64 (st s k).c]
def all (s : ByteArray) (k : Nat) : List Value := (List.range k).flatMap (cells s)
theorem all_succ (s : ByteArray) (k : Nat) : all s (k + 1) = all s k ++ cells s k := by unfold all; rw [List.range_succ, List.flatMap_append]; simp
theorem decN_pos (c b1 b2 b3 : Nat) (t1 t2 t3 : Bool) : 1 ≤ (decN c b1 b2 b3 t1 t2 t3).2 ∧ (decN c b1 b2 b3 t1 t2 t3).2 ≤ 4 := by
  rcases decN_cases c b1 b2 b3 t1 t2 t3 with h | ⟨h, _⟩
  · rw [h]; simp
  · unfold RL at h; omega
theorem wid_dec (s : ByteArray) (i : Nat) : wid s i = (Utf8.decode s i).2 := by
  unfold wid
  rw [first_dec]
  unfold fixB
  split
  · rename_i h; rw [h.2]
  · rfl
theorem run_dec (s : ByteArray) (i : Nat) : run s i = 10 ↔ (Utf8.decode s i).1 = 10 := by
  unfold run
  rw [first_dec]
  unfold fixB
  split
  · rename_i h; rw [h.1]; simp
  · simp only; omega
theorem wid_pos (s : ByteArray) (i : Nat) : 1 ≤ wid s i ∧ wid s i ≤ 4 := by rw [wid_dec, decode_is]; exact decN_pos _ _ _ _ _ _ _
theorem st_bounds (s : ByteArray) (k : Nat) : k ≤ (st s k).p ∧ 1 ≤ (st s k).l ∧ (st s k).l ≤ k + 1 ∧ 1 ≤ (st s k).c ∧ (st s k).c ≤ k + 1 := by
  induction k with
  | zero => simp [st]
  | succ k ih =>
    have hw := wid_pos s (st s k).p
    simp only [st, next]
    refine ⟨by omega, ?_⟩
    split <;> omega
end Rn

/-- What lies in memory while runes are gathered: the list so far, the place, the iterator. -/
structure RS (w : World) (G1 G2 B : Nat) (s : ByteArray) (x : Value) (n : Nat) (xs : List Value) (l c p : Nat) (wr : World) : Prop where
  own : wr.ownsRow B 169 5 x n xs
  place : wr.heap[G1]? = some (.cells #[.int .i64 l, .int .i64 c] 33 (0, 0))
  iter : wr.heap[G2]? = some (.stringIter s p)
  below : Below w.heap.size w wr
  g0 : w.heap.size ≤ G1
  g1 : G1 < G2
  g2 : G2 < B
  size : B ≤ wr.heap.size
section
variable {w wr wn : World} {G1 G2 B n l c p : Nat} {s : ByteArray} {x : Value} {xs : List Value}
theorem RS.move (h : RS w G1 G2 B s x n xs l c p wr) (q : Nat) : RS w G1 G2 B s x n xs l c q (wr.iterAt G2 s q) :=
  ⟨ownsRow_iterAt h.own h.g2 _ _, (Lib.iterAt_other _ _ _ _ _ (by have := h.g1; omega)).trans h.place, Lib.iterAt_heap _ _ _ _ _ h.iter, Lib.below_iterAt h.below (by have := h.g0; have := h.g1; omega) _ _, h.g0, h.g1, h.g2, by rw [Lib.iterAt_size]; exact h.size⟩
theorem RS.keeps (h : RS w G1 G2 B s x n xs l c p wr) (k : Keeps (fun _ => False) wr wn) : RS w G1 G2 B s x n xs l c p wn :=
  ⟨k.own h.own (fun _ _ hf => hf), by rw [k.block _ (by have := h.g1; have := h.g2; have := h.size; omega) (fun hf => hf)]; exact h.place, by rw [k.block _ (by have := h.g2; have := h.size; omega) (fun hf => hf)]; exact h.iter,
    h.below.trans (k.below (fun _ hf => hf.elim) h.below.size), h.g0, h.g1, h.g2, Nat.le_trans h.size k.size⟩
theorem RS.append (h : RS w G1 G2 B s x n xs l c p wr) (k : Keeps (fun j => x.ownBlock = some j) wr wn) {y : Value} {ys : List Value} {m : Nat} (ho : wn.ownsRow B 169 5 y m ys) : RS w G1 G2 B s y m ys l c p wn := by
  have g0 := h.g0
  have g1 := h.g1
  have g2 := h.g2
  have hs := h.size
  exact ⟨ho, by rw [k.block _ (by omega) (fun hf => by have := (h.own.lt _ hf).1; omega)]; exact h.place, by rw [k.block _ (by omega) (fun hf => by have := (h.own.lt _ hf).1; omega)]; exact h.iter,
    h.below.trans (k.below (fun j hj => by have := (h.own.lt j hj).1; omega) h.below.size), g0, g1, g2, Nat.le_trans hs k.size⟩
theorem RS.set (h : RS w G1 G2 B s x n xs l c p wr) (l' c' : Int) {lc cc : Nat} (e1 : l' = (lc : Int)) (e2 : c' = (cc : Int)) : RS w G1 G2 B s x n xs lc cc p ((wr.setCell ⟨G1, 0, none⟩ (.int .i64 l')).setCell ⟨G1, 1, none⟩ (.int .i64 c')) := by
  subst e1 e2
  have g0 := h.g0
  have g1 := h.g1
  have g2 := h.g2
  have k : Keeps (fun j => j = G1) wr ((wr.setCell ⟨G1, 0, none⟩ (.int .i64 (lc : Int))).setCell ⟨G1, 1, none⟩ (.int .i64 (cc : Int))) := (Keeps.setCell (S := fun j => j = G1) wr ⟨G1, 0, none⟩ _ rfl).trans (Keeps.setCell (S := fun j => j = G1) _ ⟨G1, 1, none⟩ _ rfl)
  refine ⟨k.own h.own (fun j hj e => by have := (h.own.lt j hj).1; omega), ?_, by rw [k.block _ (by have := h.size; omega) (by omega)]; exact h.iter, h.below.trans (k.below (fun j hj => by omega) h.below.size), g0, g1, g2, Nat.le_trans h.size k.size⟩
  have a1 := heap_setCell_same wr G1 0 _ 33 (.int .i64 (lc : Int)) h.place
  exact heap_setCell_same _ G1 1 _ 33 (.int .i64 (cc : Int)) a1
theorem RS.pos (h : RS w G1 G2 B s x n xs l c p wr) : wr.iterPos G2 = p := by unfold World.iterPos; rw [h.iter]
theorem RS.cast (h : RS w G1 G2 B s x n xs l c p wr) {ys : List Value} {l' c' p' : Nat} (e1 : xs = ys) (e2 : l = l') (e3 : c = c') (e4 : p = p') : RS w G1 G2 B s x n ys l' c' p' wr := by
  subst e1 e2 e3 e4; exact h
theorem RS.cells (h : RS w G1 G2 B s x n xs l c p wr) : wr.cell? ⟨G1, 0, none⟩ = some (.int .i64 l) ∧ wr.cell? ⟨G1, 1, none⟩ = some (.int .i64 c) ∧ wr.frozen? ⟨G1, 0, none⟩ = false ∧ wr.frozen? ⟨G1, 1, none⟩ = false ∧ G1 < wr.heap.size :=
  ⟨cell_of_row wr G1 0 _ _ _ h.place, cell_of_row wr G1 1 _ _ _ h.place, frozen_of_row wr G1 0 _ _ h.place, frozen_of_row wr G1 1 _ _ h.place, (Array.getElem?_eq_some_iff.1 h.place).1⟩
end
theorem Tryd.infoRune : (Tryd.prog.info? 169).map (fun i => (i.zero, i.size, i.bytes)) = some (some (.agg #[.int .i32 0, .int .i64 0, .int .i64 0, .int .i64 0, .int .i64 0]), 5, 40) := by kernel_rfl

/-- What Runes answers: all runes, where there are k of them in all; or that they are too many. -/
def Ends (s : ByteArray) (k : Nat) : Prop := (∀ j, j < k → (Rn.st s j).p < s.size) ∧ s.size ≤ (Rn.st s k).p
def RunesAns (s : ByteArray) (w : World) (e : Ending) (w' : World) : Prop :=
  (∃ k x B, Ends s k ∧ k ≤ 16384 ∧ e = .returned (.tuple #[x, .int .i64 0]) ∧ w'.ownsRow B 169 5 x k (Rn.all s k) ∧ w.heap.size ≤ B ∧ Below w.heap.size w w') ∨
  ((∀ j, j ≤ 16384 → (Rn.st s j).p < s.size) ∧ e = .returned (.tuple #[.slice none 0 0, .int .i64 3]) ∧ Below w.heap.size w w')
set_option maxHeartbeats 2000000 in
set_option maxRecDepth 1000000 in
theorem runes_any (s : ByteArray) (w : World) (hs : s.size ≤ 1000000000000) : Calls Tryd.prog 65 #[.string s] w (RunesAns s w) := by
  go_enter Tryd.func65, Tryd.ntmps65
  go_wp2_with fail
  refine (first0 w).mono ?_
  rintro e w1 ⟨rfl, k1⟩
  go_wp2
  have rs0 : RS w w1.heap.size (w1.heap.size + 1) (w1.heap.size + 2) s (.slice none 0 0) 0 [] 1 1 0 ((w1.alloc (.cells #[.int .i64 1, .int .i64 1] 33)).iter s 0) :=
    ⟨World.ownsRow_nil _ _ _ _, (Below.heap_alloc _ _ _ (by simp)).trans (heap_alloc_new _ _), by have := heap_alloc_new (w1.alloc (.cells #[.int .i64 1, .int .i64 1] 33)) (.stringIter s 0); simpa [World.iter] using this,
      (k1.below (fun _ hf => hf.elim) (Nat.le_refl _)).trans (((Below.refl _ _).alloc k1.size _).alloc (by have := k1.size; simp; omega) _), k1.size, by omega, by omega, by simp [World.iter]⟩
  have hG := k1.size
  have RS0 := Lib.hid rs0
  clear rs0 k1
  generalize w1.heap.size + 1 = G2 at *
  generalize w1.heap.size + 2 = B at *
  generalize w1.heap.size = G1 at *
  generalize (w1.alloc (.cells #[.int .i64 1, .int .i64 1] 33)).iter s 0 = w2 at *
  go_loopw [4] (fun v4 wr => ∃ k : Nat, k ≤ 16384 ∧ (∀ j, j < k → (Rn.st s j).p < s.size) ∧ RS w G1 G2 B s v4 k (Rn.all s k) (Rn.st s k).l (Rn.st s k).c (Rn.st s k).p wr) (fun _ wr => s.size - wr.iterPos G2)
  case atStart => exact ⟨0, by omega, fun j hj => by omega, RS0.out⟩
  case round =>
    obtain ⟨k, hk, hpre, hrs⟩ := hrel
    obtain ⟨xa, xc, hx⟩ := own_len hrs.own
    subst hx
    have HPRE := Lib.hid hpre
    clear hpre RS0
    have hb := Rn.st_bounds s k
    have hit := hrs.iter
    have HPOS := Lib.hid hrs.pos
    by_cases hlt : (Rn.st s k).p < s.size
    · have hnext := fun ty => Lib.run_next_any_at (P := Tryd.prog) wr G2 s (Rn.st s k).p ty hit hlt
      have hrs1 := hrs.move ((Rn.st s k).p + (Utf8.decode s (Rn.st s k).p).2)
      have RS1 := Lib.hid hrs1
      clear hrs1
      by_cases hfull : k = 16384
      · have hall : ∀ j, j ≤ 16384 → (Rn.st s j).p < s.size := fun j hj => by
          by_cases e : j = k
          · rw [e]; exact hlt
          · exact HPRE.out j (by omega)
        have HALL := Lib.hid hall
        have hbel := (RS1.out).below
        clear hall RS1 hrs hb
        subst hfull
        go_wp2
        go_ret2
        exact Or.inr ⟨HALL.out, rfl, hbel⟩
      · have TOLD := Lib.hid (fun w => told_any s (Rn.st s k).p w hlt hs)
        have hrd := Rn.run_dec s (Rn.st s k).p
        have hwd := Rn.wid_dec s (Rn.st s k).p
        have hwp := Rn.wid_pos s (Rn.st s k).p
        have HRD := Lib.hid hrd
        have HWD := Lib.hid hwd
        have hne : (k : Int) ≠ 16384 := by omega
        have hne2 : ((k : Int) == 16384) = false := by simp; omega
        clear hrd hwd hne
        go_wp2_with fail
        refine (TOLD.out _).mono ?_
        rintro e w3 ⟨rfl, k3⟩
        have rs3 := (RS1.out).keeps k3
        have c3 := rs3.cells
        obtain ⟨c0, c1, f0, f1, hsz⟩ := c3
        have RS4 := Lib.hid (fun o => rs3.keeps (Keeps.alloc (fun _ => False) w3 o))
        clear rs3 k3 RS1
        go_wp2_with (at_builtin; refine append_at (v := .slice xa k xc) rfl _ _ 91 rfl 169 (.agg #[.int .i32 0, .int .i64 0, .int .i64 0, .int .i64 0, .int .i64 0]) 5 40 Tryd.underlying91 Tryd.infoRune rfl (by decide) rfl (RS4.out _).own (RS4.out _).size _ rfl (by simp [Value.oneCell']) rfl (by simp) (by decide) (by omega) ?_; intro g cap w5 own5 keep5 where5; have rs5 := (RS4.out _).append keep5 own5; clear own5 keep5 where5 c0 c1 f0 f1 hsz; obtain ⟨c0, c1, f0, f1, hsz⟩ := rs5.cells; have RS5 := Lib.hid rs5; clear rs5)
        have hl1 : (Rn.st s k).l ≤ 1000000000000 := by omega
        have hc1 : (Rn.st s k).c ≤ 1000000000000 := by omega
        by_cases h10 : (Utf8.decode s (Rn.st s k).p).1 = 10
        · have e10 : Rn.run s (Rn.st s k).p = 10 := HRD.out.2 h10
          have E10 := Lib.hid e10
          rw [h10]
          clear e10
          refine (behind_nl _ _ _ hl1 hc1).mono ?_
          rintro e w6 ⟨rfl, k6⟩
          have rs6 := (RS5.out).keeps k6
          clear c0 c1 f0 f1 hsz k6 RS5 h10
          obtain ⟨c0, c1, f0, f1, hsz⟩ := rs6.cells
          have rel8 := (rs6.set ((Rn.st s k).l + 1 : Int) 1 (lc := (Rn.st s k).l + 1) (cc := 1) (by omega) rfl).cast (ys := Rn.all s (k + 1)) (l' := (Rn.st s (k + 1)).l) (c' := (Rn.st s (k + 1)).c) (p' := (Rn.st s (k + 1)).p) (by rw [Rn.all_succ]; simp [Rn.cells, Rn.run, Rn.wid]) (by simp only [Rn.st, Rn.next, if_pos E10.out]) (by simp only [Rn.st, Rn.next, if_pos E10.out]) (by rw [← HWD.out]; rfl)
          clear rs6
          have REL8 := Lib.hid rel8
          clear rel8
          go_wp2_with fail
          go_roundw
          case rel => exact ⟨k + 1, by omega, fun j hj => by
            by_cases e : j = k
            · rw [e]; exact hlt
            · exact HPRE.out j (by omega), REL8.out⟩
          case measure =>
            rw [(REL8.out).pos, HPOS.out]
            have hp8 : (Rn.st s (k + 1)).p = (Rn.st s k).p + Rn.wid s (Rn.st s k).p := rfl
            omega
        · have e10 : ¬ Rn.run s (Rn.st s k).p = 10 := fun h => h10 (HRD.out.1 h)
          have E10 := Lib.hid e10
          clear e10
          refine (behind_no _ _ _ _ hl1 hc1 (by omega)).mono ?_
          rintro e w6 ⟨rfl, k6⟩
          have rs6 := (RS5.out).keeps k6
          clear c0 c1 f0 f1 hsz k6 RS5 h10
          obtain ⟨c0, c1, f0, f1, hsz⟩ := rs6.cells
          have rel8 := (rs6.set ((Rn.st s k).l : Int) ((Rn.st s k).c + 1 : Int) (lc := (Rn.st s k).l) (cc := (Rn.st s k).c + 1) rfl (by omega)).cast (ys := Rn.all s (k + 1)) (l' := (Rn.st s (k + 1)).l) (c' := (Rn.st s (k + 1)).c) (p' := (Rn.st s (k + 1)).p) (by rw [Rn.all_succ]; simp [Rn.cells, Rn.run, Rn.wid]) (by simp only [Rn.st, Rn.next, if_neg E10.out]) (by simp only [Rn.st, Rn.next, if_neg E10.out]) (by rw [← HWD.out]; rfl)
          clear rs6
          have REL8 := Lib.hid rel8
          clear rel8
          go_wp2_with fail
          go_roundw
          case rel => exact ⟨k + 1, by omega, fun j hj => by
            by_cases e : j = k
            · rw [e]; exact hlt
            · exact HPRE.out j (by omega), REL8.out⟩
          case measure =>
            rw [(REL8.out).pos, HPOS.out]
            have hp8 : (Rn.st s (k + 1)).p = (Rn.st s k).p + Rn.wid s (Rn.st s k).p := rfl
            omega
    · have hnext := fun ty => Lib.run_next_end_at (P := Tryd.prog) wr G2 s (Rn.st s k).p ty hit hlt
      have HRS := Lib.hid hrs
      have hbel := hrs.below
      have hle : w.heap.size ≤ B := by have := hrs.g0; have := hrs.g1; have := hrs.g2; omega
      clear hrs hit
      go_wp2
      go_ret2
      exact Or.inl ⟨k, _, B, ⟨HPRE.out, by omega⟩, hk, rfl, (HRS.out).own, hle, hbel⟩
end Go.Proofs.YtbplkphjjfgkmaaDoor
