/-
  Names: how one statement more with a name is put.
-/
import Derived.Test.YtpbgicfoopicbaaNamAdd
import Derived.Deep.RegionLaw
import Derived.Deep.Cut
import Derived.Deep.CutRange
namespace Go.Proofs.Ytpbgicfoopicbaa
open Go.RowKit Go.Maps
set_option linter.unusedVariables false
set_option linter.unusedSimpArgs false

theorem wp_gen {P : Program} {c : Code} {Q : Exit → Act → World → Prop} {a : Act} {F : Nat → World} {R : World → Prop} (hF : ∀ m, R (F m)) (h : ∀ W, R W → Code.wp P c Q a W) (m : Nat) : Code.wp P c Q a (F m) := h _ (hF m)
theorem put_any {W : World} {b n : Nat} {D : Dat} (hm : W.ownsMap Try.prog 9 (plainElem Try.prog 3) b n D) (hn : n ≤ 100) (s : ByteArray) (hs : s.size ≤ maxLen) (i : Nat) (hi : i ≤ 100) :
    ∃ f : Nat → World, ∀ d, (Instr.mapUpdate 95 (.map (some b)) (.string s) (.int .i64 (i : Nat))).run Try.prog (W.drewN d) = .ok () (f d) ∧ (f d).ownsMap Try.prog 9 (plainElem Try.prog 3) b (n + 1) (D.put (Nm.slit s) (i64D i)) ∧ (W.drewN d).grownBy (f d) (some b) := by
  have each : ∀ d, ∃ w', (Instr.mapUpdate 95 (.map (some b)) (.string s) (.int .i64 (i : Nat))).run Try.prog (W.drewN d) = .ok () w' ∧ w'.ownsMap Try.prog 9 (plainElem Try.prog 3) b (n + 1) (D.put (Nm.slit s) (i64D i)) ∧ (W.drewN d).grownBy w' (some b) := fun d =>
    (map_keep hm rfl : (W.drewN d).ownsMap Try.prog 9 (plainElem Try.prog 3) b n D).update lawS Try.underlying95 (by unfold maxLen; omega) (keyS s hs) (plainElem_int Try.underlying3 (wfI (by omega)))
  exact Classical.axiomOfChoice each
theorem put_anyP {W : World} {b n : Nat} {D : Dat} (hm : W.ownsMap Try.prog 127 (plainElem Try.prog 3) b n D) (hn : n ≤ 100) (k m : Nat) (hk : k ≤ 100) (hm' : m ≤ 100) (i : Nat) (hi : i ≤ 100) :
    ∃ f : Nat → World, ∀ d, (Instr.mapUpdate 96 (.map (some b)) (.agg #[.int .i64 (k : Nat), .int .i64 (m : Nat)]) (.int .i64 (i : Nat))).run Try.prog (W.drewN d) = .ok () (f d) ∧ (f d).ownsMap Try.prog 127 (plainElem Try.prog 3) b (n + 1) (D.put (Nm.klit k m) (i64D i)) ∧ (W.drewN d).grownBy (f d) (some b) := by
  have each : ∀ d, ∃ w', (Instr.mapUpdate 96 (.map (some b)) (.agg #[.int .i64 (k : Nat), .int .i64 (m : Nat)]) (.int .i64 (i : Nat))).run Try.prog (W.drewN d) = .ok () w' ∧ w'.ownsMap Try.prog 127 (plainElem Try.prog 3) b (n + 1) (D.put (Nm.klit k m) (i64D i)) ∧ (W.drewN d).grownBy w' (some b) := fun d =>
    (map_keep hm rfl : (W.drewN d).ownsMap Try.prog 127 (plainElem Try.prog 3) b n D).update lawP Try.underlying96 (by unfold maxLen; omega) (keyP k m (wfI (by omega)) (wfI (by omega))) (plainElem_int Try.underlying3 (wfI (by omega)))
  exact Classical.axiomOfChoice each
/-- The statement, boxed, and its place. -/
structure Side (W : World) (X Y : Nat) (xs : Array Value) (k m : Nat) : Prop where
  x : W.heap[X]? = some (.cells xs 94 (0, 0))
  y : W.heap[Y]? = some (.cells #[.int .i64 (k : Nat), .int .i64 (m : Nat)] 127 (0, 0))
section
variable {w0 W W' : World} {B p X Y k m : Nat} {xs : Array Value} {cs : Array Value} {vn vp : Value} {b1 b2 n1 n2 : Nat} {D1 D2 : Dat} {ns : List ByteArray} {ps : List (Int × Nat)}
theorem Side.x0 (s : Side W X Y xs k m) (j : Nat) : W.cell? ⟨X, j, none⟩ = xs[j]? := cell_of_row W X j _ _ _ s.x
theorem Side.y0 (s : Side W X Y xs k m) : W.cell? ⟨Y, 0, none⟩ = some (.int .i64 (k : Nat)) ∧ W.cell? ⟨Y, 1, none⟩ = some (.int .i64 (m : Nat)) := ⟨cell_of_row W Y 0 _ _ _ s.y, cell_of_row W Y 1 _ _ _ s.y⟩
theorem Side.lt (s : Side W X Y xs k m) : X < W.heap.size ∧ Y < W.heap.size := ⟨(Array.getElem?_eq_some_iff.1 s.x).1, (Array.getElem?_eq_some_iff.1 s.y).1⟩
theorem Side.off (s : Side W X Y xs k m) (h : Mid w0 B p W cs vn vp b1 b2 n1 n2 D1 D2 ns ps) : (X ≠ p ∧ X ≠ b1 ∧ X ≠ b2 ∧ vn.ownBlock ≠ some X ∧ vp.ownBlock ≠ some X) ∧ (Y ≠ p ∧ Y ≠ b1 ∧ Y ≠ b2 ∧ vn.ownBlock ≠ some Y) := by
  obtain ⟨e1, z1, h1⟩ := map_blk h.m1
  obtain ⟨e2, z2, h2⟩ := map_blk h.m2
  have hx := s.x
  have hy := s.y
  refine ⟨⟨fun e => ?_, fun e => ?_, fun e => ?_, fun e => ?_, fun e => ?_⟩, fun e => ?_, fun e => ?_, fun e => ?_, fun e => ?_⟩
  · subst e; rw [h.block] at hx; simp at hx
  · subst e; rw [h1] at hx; simp at hx
  · subst e; rw [h2] at hx; simp at hx
  · obtain ⟨c, f, hb⟩ := row_blk h.on e
    rw [hx] at hb; simp at hb
  · obtain ⟨c, f, hb⟩ := row_blk h.op e
    rw [hx] at hb; simp at hb
  · subst e; rw [h.block] at hy; simp at hy
  · subst e; rw [h1] at hy; simp at hy
  · subst e; rw [h2] at hy; simp at hy
  · obtain ⟨c, f, hb⟩ := row_blk h.on e
    rw [hy] at hb; simp at hb
theorem Side.keep (s : Side W X Y xs k m) (hx : W'.heap[X]? = W.heap[X]?) (hy : W'.heap[Y]? = W.heap[Y]?) : Side W' X Y xs k m := ⟨hx.trans s.x, hy.trans s.y⟩
end
/-- What the table's cells hold. -/
structure Cells (cs : Array Value) (vn vp : Value) (b1 b2 : Nat) (ct : Nat → Nat) : Prop where
  size : cs.size = 13
  c0 : cs[0]? = some vn
  c1 : cs[1]? = some vp
  c2 : cs[2]? = some (.map (some b1))
  c3 : cs[3]? = some (.map (some b2))
  cc : ∀ k : Nat, k ≤ 8 → cs[4 + k]? = some (.int .i64 (ct k : Nat))
section
variable {cs : Array Value} {vn vp : Value} {b1 b2 : Nat} {ct : Nat → Nat}
theorem Cells.set0 (h : Cells cs vn vp b1 b2 ct) (u : Value) : Cells (cs.setIfInBounds 0 u) u vp b1 b2 ct := by
  have hz := h.size
  refine ⟨by simp [hz], by simp [hz], ?_, ?_, ?_, fun k hk => ?_⟩
  · rw [Array.getElem?_setIfInBounds_ne (by omega)]; exact h.c1
  · rw [Array.getElem?_setIfInBounds_ne (by omega)]; exact h.c2
  · rw [Array.getElem?_setIfInBounds_ne (by omega)]; exact h.c3
  · rw [Array.getElem?_setIfInBounds_ne (by omega)]; exact h.cc k hk
theorem Cells.set1 (h : Cells cs vn vp b1 b2 ct) (u : Value) : Cells (cs.setIfInBounds 1 u) vn u b1 b2 ct := by
  have hz := h.size
  refine ⟨by simp [hz], ?_, by simp [hz], ?_, ?_, fun k hk => ?_⟩
  · rw [Array.getElem?_setIfInBounds_ne (by omega)]; exact h.c0
  · rw [Array.getElem?_setIfInBounds_ne (by omega)]; exact h.c2
  · rw [Array.getElem?_setIfInBounds_ne (by omega)]; exact h.c3
  · rw [Array.getElem?_setIfInBounds_ne (by omega)]; exact h.cc k hk
theorem Cells.setK (h : Cells cs vn vp b1 b2 ct) (k : Nat) (hk : k ≤ 8) (n : Nat) : Cells (cs.setIfInBounds (4 + k) (.int .i64 (n : Nat))) vn vp b1 b2 (fun j => if j = k then n else ct j) := by
  have hz := h.size
  refine ⟨by simp [hz], ?_, ?_, ?_, ?_, fun j hj => ?_⟩
  · rw [Array.getElem?_setIfInBounds_ne (by omega)]; exact h.c0
  · rw [Array.getElem?_setIfInBounds_ne (by omega)]; exact h.c1
  · rw [Array.getElem?_setIfInBounds_ne (by omega)]; exact h.c2
  · rw [Array.getElem?_setIfInBounds_ne (by omega)]; exact h.c3
  · by_cases e : j = k
    · subst e
      rw [if_pos rfl, Array.getElem?_setIfInBounds_self_of_lt (by omega)]
    · rw [if_neg e, Array.getElem?_setIfInBounds_ne (by omega)]; exact h.cc j hj
end
section
variable {w : World} {B p : Nat} {cs : Array Value} {vn vp : Value} {b1 b2 : Nat} {D1 D2 : Dat} {L : List St}
theorem IsN.cells (h : IsN w B p cs vn vp b1 b2 D1 D2 L) : Cells cs vn vp b1 b2 (fun k => Nm.cnt L k) := ⟨h.size, h.c0, h.c1, h.c2, h.c3, fun k hk => h.count k hk⟩
theorem isn_put {W : World} {k : Nat} {x : St} (hx : x.kind = k) (hk : k ≤ 8) (hnm : Nm.named x.kind = true) (hsx : x.name.size ≤ maxLen) (hg : Nm.Good L) (he : Nm.errOf L x = 0) (hsz : ∀ s ∈ Nm.names L, s.size ≤ maxLen) (h1 : Nm.MapN D1 (Nm.names L)) (h2 : Nm.MapP D2 (Nm.places L))
    (M : Mid w B p W cs vn vp b1 b2 ((Nm.names L).length + 1) ((Nm.names L).length + 1) (D1.put (Nm.slit x.name) (i64D (Nm.names L).length)) (D2.put (Nm.klit k (Nm.cnt L k : Nat)) (i64D (Nm.names L).length)) (Nm.names L ++ [x.name]) (Nm.places L ++ [((k : Int), Nm.cnt L k)]))
    (C : Cells cs vn vp b1 b2 (fun j => if j = k then Nm.cnt L k + 1 else Nm.cnt L j)) :
    IsN W B p cs vn vp b1 b2 (D1.put (Nm.slit x.name) (i64D (Nm.names L).length)) (D2.put (Nm.klit k (Nm.cnt L k : Nat)) (i64D (Nm.names L).length)) (L ++ [x]) := by
  have en : Nm.names (L ++ [x]) = Nm.names L ++ [x.name] := by rw [Nm.names_snoc, if_pos hnm]
  have ep : Nm.places (L ++ [x]) = Nm.places L ++ [((k : Int), Nm.cnt L k)] := by rw [Nm.places_snoc, if_pos hnm, hx]
  have hg2 : Nm.Good (L ++ [x]) := hg.snoc he
  have hc : ∀ j : Nat, Nm.cnt (L ++ [x]) (j : Int) = if j = k then Nm.cnt L k + 1 else Nm.cnt L j := fun j => by
    rw [Nm.cnt_snoc, hx]
    by_cases e : j = k
    · subst e; simp
    · rw [if_neg e, if_neg (by omega)]; rfl
  refine ⟨M.block, C.size, C.c0, C.c1, C.c2, C.c3, fun j _ hj => by rw [hc]; exact C.cc j hj, ?_, by rw [en]; exact M.on, by rw [ep]; exact M.op, ?_, ?_, ?_, ?_, M.base, M.base1, M.base2, M.apart, hg2, fun s hs => ?_⟩
  · have h0 := C.cc 0 (by omega)
    have h3 := hg2.cnt_le 0
    have h4 : Nm.most 0 = 0 := by decide
    have h5 := hc 0
    rw [← h5] at h0
    have h6 : Nm.cnt (L ++ [x]) ((0 : Nat) : Int) = 0 := by have : ((0 : Nat) : Int) = 0 := rfl; rw [this]; omega
    rw [h6] at h0
    exact h0
  · rw [en, List.length_append, List.length_singleton]; exact M.m1
  · rw [ep, List.length_append, List.length_singleton, ← Nm.len_np]; exact M.m2
  · rw [en]; exact h1.put x.name hsx (Nm.err_name he hnm)
  · rw [ep]
    have hb := hg.cnt_le k
    have hb2 := Nm.most_range k
    have hnp : (k, Nm.cnt L k) ∉ (Nm.places L).map (fun y => (y.1.toNat, y.2)) ∨ True := Or.inr trivial
    have := h2.put k (Nm.cnt L k) (fun y hy => ⟨(Nm.place_wf hg y hy).1, (Nm.place_wf hg y hy).2.1⟩) (wfI (by omega)) (wfI (by omega)) (fun hm => by have := (Nm.places_mem hm).1; omega)
    rw [← Nm.len_np] at this
    exact this
  · rw [en] at hs
    rcases List.mem_append.1 hs with h | h
    · exact hsz s h
    · rw [List.mem_singleton.1 h]; exact hsx
/-- A statement with a name has been put. -/
def AddNew (w : World) (B p b1 b2 : Nat) (L : List St) (x : St) (e : Ending) (w' : World) : Prop :=
  e = .returned (.int .i64 0) ∧ Below B w w' ∧ ∃ cs' vn' vp' D1' D2', IsN w' B p cs' vn' vp' b1 b2 D1' D2' (L ++ [x])
set_option maxHeartbeats 4000000 in
theorem add_named (h : IsN w B p cs vn vp b1 b2 D1 D2 L) (hb : B ≤ w.heap.size) (k : Nat) (name : ByteArray) (line col : Int) (c4 c5 c6 c7 c8 c9 c10 c11 : Value) (hk : 1 ≤ k ∧ k ≤ 8) (hc : (Nm.cnt L k : Int) ≠ Nm.most k) (h6 : k ≠ 6) (h8 : k ≠ 8) (hs : name.size ≤ maxLen) (hn : name ∉ Nm.names L) (he0 : Nm.errOf L ⟨k, name, line, col, c4, c5, c6, c7, c8, c9, c10, c11⟩ = 0) :
    Calls Try.prog 47 #[.pointer (some ⟨p, 0, none⟩), .agg #[.int .i64 k, .string name, .int .i64 line, .int .i64 col, c4, c5, c6, c7, c8, c9, c10, c11]] w (AddNew w B p b1 b2 L ⟨k, name, line, col, c4, c5, c6, c7, c8, c9, c10, c11⟩) := by
  have HFIN : Hid (∀ (W : World) (cs7 : Array Value) (vn vp : Value), Mid w B p W cs7 vn vp b1 b2 ((Nm.names L).length + 1) ((Nm.names L).length + 1) (D1.put (Nm.slit name) (i64D (Nm.names L).length)) (D2.put (Nm.klit k (Nm.cnt L k : Nat)) (i64D (Nm.names L).length)) (Nm.names L ++ [name]) (Nm.places L ++ [((k : Int), Nm.cnt L k)]) →
      Cells cs7 vn vp b1 b2 (fun j => if j = k then Nm.cnt L k + 1 else Nm.cnt L j) → AddNew w B p b1 b2 L ⟨k, name, line, col, c4, c5, c6, c7, c8, c9, c10, c11⟩ (.returned (.int .i64 0)) W) := Lib.hid fun W cs7 vn vp hM hC =>
    ⟨rfl, hM.below, cs7, vn, vp, _, _, isn_put (x := ⟨k, name, line, col, c4, c5, c6, c7, c8, c9, c10, c11⟩) rfl hk.2 (by simp [Nm.named]; omega) hs h.good he0 h.sizes h.n1 h.n2 hM hC⟩
  have hm2 : (Nm.most k == 0) = false := by
    rw [beq_eq_false_iff_ne]
    exact fun e => by have := Nm.most_zero.1 e; omega
  have hlen := h.len
  have hck2 : Nm.cnt L k ≤ 100 := by have := h.good.cnt_le k; have := Nm.most_range k; omega
  have m0 := (h.mid hb).alloc (.cells #[.int .i64 k, .string name, .int .i64 line, .int .i64 col, c4, c5, c6, c7, c8, c9, c10, c11] 94)
  have hx0 : (w.alloc (.cells #[.int .i64 k, .string name, .int .i64 line, .int .i64 col, c4, c5, c6, c7, c8, c9, c10, c11] 94)).heap[w.heap.size]? = some (.cells #[.int .i64 k, .string name, .int .i64 line, .int .i64 col, c4, c5, c6, c7, c8, c9, c10, c11] 94 (0, 0)) := heap_alloc_new w _
  obtain ⟨an, capn, rfl⟩ := own_len h.on
  obtain ⟨ap, capp, rfl⟩ := own_len h.op
  have HC := Lib.hid h.cells
  have e0 := h.c0
  have e2 := h.c2
  have e3 := h.c3
  have ek := h.cc k hk.1 hk.2
  have d0 := (m0.cell 0).trans h.c0
  have d := (m0.cell (4 + k)).trans ek
  have d2 := (m0.cell 2).trans h.c2
  have x0 := rdX w #[.int .i64 k, .string name, .int .i64 line, .int .i64 col, c4, c5, c6, c7, c8, c9, c10, c11] 0 _ rfl
  have x1 := rdX w #[.int .i64 k, .string name, .int .i64 line, .int .i64 col, c4, c5, c6, c7, c8, c9, c10, c11] 1 _ rfl
  have he : (((Nm.cnt L k : Nat) : Int) == Nm.most k) = false := beq_eq_false_iff_ne.2 hc
  have hk9 : (k : Int) < 9 := by omega
  have n6 : ((k : Int) != 6) = true := by simp; omega
  have n8 : ((k : Int) != 8) = true := by simp; omega
  have HM : ∀ w, Calls Try.prog 64 #[.int .i64 k] w fun e w' => e = .returned (.int .i64 (Nm.most k)) ∧ w = w' := fun w => most_any k w
  have hhas := h.n1.no name hn
  obtain ⟨c, hlk⟩ := look_any m0.m1 name hs
  rw [hhas] at hlk
  have hxl : w.heap.size < (w.alloc (.cells #[.int .i64 k, .string name, .int .i64 line, .int .i64 col, c4, c5, c6, c7, c8, c9, c10, c11] 94)).heap.size := by simp
  rw [← Nm.len_np] at m0 HC
  have M0 := Lib.hid m0
  have H := Lib.hid h
  have HX0 := Lib.hid hx0
  clear h m0 hc hn hhas hx0
  generalize Nm.most (k : Int) = mk at *
  generalize hck : Nm.cnt L k = ck at *
  generalize hnl : (Nm.names L).length = nl at *
  have hpl : (Nm.places L).length = nl := by rw [← Nm.len_np, hnl]
  have HM := Lib.hid HM
  have HCK := Lib.hid hck
  have HNL := Lib.hid hnl
  have HPL := Lib.hid hpl
  clear hck hnl hpl
  go_enter Try.func47, Try.ntmps47
  go_wp2_with (first | (go_at_call 64; refine (HM.out _).mono ?_; rintro e w1 ⟨rfl, rfl⟩))
  generalize w.alloc (.cells #[.int .i64 k, .string name, .int .i64 line, .int .i64 col, c4, c5, c6, c7, c8, c9, c10, c11] 94) = w1 at *
  generalize hX : w.heap.size = X at *
  go_quiet (fail)
  go_wp2_with fail
  go_quiet (fail)
  go_wp2_with fail
  have hpl := (M0.out).plt
  have x0a : ∀ (a : Nat) (o : Obj), ((w1.drewN a).alloc o).cell? ⟨X, 0, none⟩ = some (.int .i64 k) := fun a o => by rw [World.cell?_alloc_past _ _ _ (by simpa using hxl)]; exact x0
  have da : ∀ (a : Nat) (o : Obj), ((w1.drewN a).alloc o).cell? ⟨p, 4 + k, none⟩ = some (.int .i64 (ck : Nat)) := fun a o => by rw [World.cell?_alloc_past _ _ _ (by simpa using hpl)]; exact d
  have y0 : ∀ (a : Nat), ((w1.drewN a).alloc (.cells #[.int .i64 0, .int .i64 0] 127)).cell? ⟨w1.heap.size, 0, none⟩ = some (.int .i64 0) := fun a => (World.cell?_alloc_at (w := w1.drewN a) #[.int .i64 0, .int .i64 0] 127 w1.heap.size 0 rfl).trans rfl
  have y1 : ∀ (a : Nat), ((w1.drewN a).alloc (.cells #[.int .i64 0, .int .i64 0] 127)).cell? ⟨w1.heap.size, 1, none⟩ = some (.int .i64 0) := fun a => (World.cell?_alloc_at (w := w1.drewN a) #[.int .i64 0, .int .i64 0] 127 w1.heap.size 1 rfl).trans rfl
  have y2 : ∀ (a j : Nat), ((w1.drewN a).alloc (.cells #[.int .i64 0, .int .i64 0] 127)).frozen? ⟨w1.heap.size, j, none⟩ = false := fun a j => World.frozen?_alloc_at (w := w1.drewN a) #[.int .i64 0, .int .i64 0] 127 w1.heap.size j rfl
  have HR1 : Hid (∀ a, Mid w B p ((((w1.drewN a).alloc (.cells #[.int .i64 0, .int .i64 0] 127)).setCell ⟨w1.heap.size, 0, none⟩ (.int .i64 (k : Nat))).setCell ⟨w1.heap.size, 1, none⟩ (.int .i64 (ck : Nat))) cs (.slice an nl capn) (.slice ap nl capp) b1 b2 nl nl D1 D2 (Nm.names L) (Nm.places L) ∧
      Side ((((w1.drewN a).alloc (.cells #[.int .i64 0, .int .i64 0] 127)).setCell ⟨w1.heap.size, 0, none⟩ (.int .i64 (k : Nat))).setCell ⟨w1.heap.size, 1, none⟩ (.int .i64 (ck : Nat))) X w1.heap.size #[.int .i64 k, .string name, .int .i64 line, .int .i64 col, c4, c5, c6, c7, c8, c9, c10, c11] k ck) := Lib.hid fun a => by
    have hbe : Below w1.heap.size w1 ((((w1.drewN a).alloc (.cells #[.int .i64 0, .int .i64 0] 127)).setCell ⟨w1.heap.size, 0, none⟩ (.int .i64 (k : Nat))).setCell ⟨w1.heap.size, 1, none⟩ (.int .i64 (ck : Nat))) :=
      (((nbelow_dn (Below.refl _ _) a).alloc (by simp) _).setCell (p := ⟨w1.heap.size, 0, none⟩) (Nat.le_refl _) _).setCell (p := ⟨w1.heap.size, 1, none⟩) (Nat.le_refl _) _
    refine ⟨(M0.out).still hbe, (hbe.block X hxl).trans HX0.out, ?_⟩
    have h1 := heap_alloc_new (w1.drewN a) (.cells #[.int .i64 0, .int .i64 0] 127)
    have h2 := heap_setCell_same ((w1.drewN a).alloc (.cells #[.int .i64 0, .int .i64 0] 127)) w1.heap.size 0 _ _ (.int .i64 (k : Nat)) h1
    have h3 := heap_setCell_same _ w1.heap.size 1 _ _ (.int .i64 (ck : Nat)) h2
    exact h3
  clear hpl
  go_region
  go_wp2_with fail
  clear x0a da y0 y1 y2 x0 x1 d0 d d2 hlk hxl
  refine wp_gen (F := fun a => ((((w1.drewN a).alloc (.cells #[.int .i64 0, .int .i64 0] 127)).setCell ⟨w1.heap.size, 0, none⟩ (.int .i64 (k : Nat))).setCell ⟨w1.heap.size, 1, none⟩ (.int .i64 (ck : Nat)))) (R := fun W => Mid w B p W cs (.slice an nl capn) (.slice ap nl capp) b1 b2 nl nl D1 D2 (Nm.names L) (Nm.places L) ∧ Side W X w1.heap.size #[.int .i64 k, .string name, .int .i64 line, .int .i64 col, c4, c5, c6, c7, c8, c9, c10, c11] k ck) HR1.out ?_ _
  rintro W ⟨M1, S1⟩
  clear HR1 HX0
  generalize w1.heap.size = Y at *
  -- the name's place
  have q0 := (M1.cell 0).trans e0
  have q2 := (M1.cell 2).trans e2
  have q1 : W.cell? ⟨X, 1, none⟩ = some (.string name) := S1.x0 1
  obtain ⟨f, hf⟩ := put_any M1.m1 (by omega) name hs nl (by omega)
  have hrun := (hf 1).1
  change (Instr.mapUpdate 95 (.map (some b1)) (.string name) (.int .i64 (nl : Nat))).run Try.prog W.drew = _ at hrun
  have HF := Lib.hid hf
  have MS := Lib.hid (And.intro M1 S1)
  clear hf M1 S1
  go_region
  go_wp2_with fail
  have M2 := (((MS.out).1).drewN 1).map1 (HF.out 1).2.1 (HF.out 1).2.2
  have o1 := ((MS.out).2).off (MS.out).1
  have S2 : Side (f 1) X Y #[.int .i64 k, .string name, .int .i64 line, .int .i64 col, c4, c5, c6, c7, c8, c9, c10, c11] k ck := ((MS.out).2).keep ((HF.out 1).2.2.block X (MS.out).2.lt.1 (fun e => o1.1.2.1 (Option.some.inj e))) ((HF.out 1).2.2.block Y (MS.out).2.lt.2 (fun e => o1.2.2.1 (Option.some.inj e)))
  clear hrun q0 q1 q2 MS HF o1
  generalize f 1 = W2 at *
  -- the place's name
  have q0 := (M2.cell 0).trans e0
  have q3 := (M2.cell 3).trans e3
  have q1 := S2.y0.1
  have q2 := S2.y0.2
  obtain ⟨f2, hf⟩ := put_anyP M2.m2 (by omega) k ck (by omega) hck2 nl (by omega)
  have hrun := (hf 1).1
  change (Instr.mapUpdate 96 (.map (some b2)) (.agg #[.int .i64 (k : Nat), .int .i64 (ck : Nat)]) (.int .i64 (nl : Nat))).run Try.prog W2.drew = _ at hrun
  have HF := Lib.hid hf
  have MS := Lib.hid (And.intro M2 S2)
  clear hf M2 S2
  go_region
  go_wp2_with fail
  have M3 := (((MS.out).1).drewN 1).map2 (HF.out 1).2.1 (HF.out 1).2.2
  have o1 := ((MS.out).2).off (MS.out).1
  have S3 : Side (f2 1) X Y #[.int .i64 k, .string name, .int .i64 line, .int .i64 col, c4, c5, c6, c7, c8, c9, c10, c11] k ck := ((MS.out).2).keep ((HF.out 1).2.2.block X (MS.out).2.lt.1 (fun e => o1.1.2.2.1 (Option.some.inj e))) ((HF.out 1).2.2.block Y (MS.out).2.lt.2 (fun e => o1.2.2.2.1 (Option.some.inj e)))
  clear hrun q0 q1 q2 q3 MS HF o1
  generalize f2 1 = W3 at *
  -- the name behind the names
  have q0 := (M3.cell 0).trans e0
  have q1 : W3.cell? ⟨X, 1, none⟩ = some (.string name) := S3.x0 1
  have own3 := M3.on
  rw [HNL.out] at own3
  have hsz := M3.hsz
  have hp3 := M3.plt
  have hx3 := S3.lt.1
  have q0a : ∀ (o : Obj), (W3.alloc o).cell? ⟨p, 0, none⟩ = some (.slice an nl capn) := fun o => by rw [World.cell?_alloc_past _ _ _ hp3]; exact q0
  have q1a : ∀ (o : Obj), (W3.alloc o).cell? ⟨X, 1, none⟩ = some (.string name) := fun o => by rw [World.cell?_alloc_past _ _ _ hx3]; exact q1
  clear hp3 hx3
  have MS := Lib.hid (And.intro M3 S3)
  clear M3 S3
  have HREST : Hid (∀ (W4 : World) (g1 cap1 : Nat), Mid w B p W4 cs (.slice (some ⟨g1, 0, none⟩) (nl + 1) cap1) (.slice ap nl capp) b1 b2 (nl + 1) (nl + 1) (D1.put (Nm.slit name) (i64D (nl : Nat))) (D2.put (Nm.klit k ck) (i64D (nl : Nat))) (Nm.names L ++ [name]) (Nm.places L) → Keeps (fun k => (Value.slice an nl capn).ownBlock = some k) W3 W4 →
      Mid w B p (W4.setCell ⟨p, 0, none⟩ (.slice (some ⟨g1, 0, none⟩) (nl + 1) cap1)) (cs.setIfInBounds 0 (.slice (some ⟨g1, 0, none⟩) (nl + 1) cap1)) (.slice (some ⟨g1, 0, none⟩) (nl + 1) cap1) (.slice ap nl capp) b1 b2 (nl + 1) (nl + 1) (D1.put (Nm.slit name) (i64D (nl : Nat))) (D2.put (Nm.klit k ck) (i64D (nl : Nat))) (Nm.names L ++ [name]) (Nm.places L) ∧
      Side (W4.setCell ⟨p, 0, none⟩ (.slice (some ⟨g1, 0, none⟩) (nl + 1) cap1)) X Y #[.int .i64 k, .string name, .int .i64 line, .int .i64 col, c4, c5, c6, c7, c8, c9, c10, c11] k ck) := Lib.hid fun W4 g1 cap1 hM hK => by
    have o1 := ((MS.out).2).off (MS.out).1
    refine ⟨hM.set 0 _, ((MS.out).2).keep ?_ ?_⟩
    · rw [Below.heap_setCell _ _ _ _ o1.1.1]; exact hK.block X (MS.out).2.lt.1 o1.1.2.2.2.1
    · rw [Below.heap_setCell _ _ _ _ o1.2.1]; exact hK.block Y (MS.out).2.lt.2 o1.2.2.2.2
  go_cut [4] from 73 to 83 (fun s wx => s = .int .i64 0 ∧ ∃ g1 cap1, Mid w B p wx (cs.setIfInBounds 0 (.slice (some ⟨g1, 0, none⟩) (nl + 1) cap1)) (.slice (some ⟨g1, 0, none⟩) (nl + 1) cap1) (.slice ap nl capp) b1 b2 (nl + 1) (nl + 1) (D1.put (Nm.slit name) (i64D (nl : Nat))) (D2.put (Nm.klit k ck) (i64D (nl : Nat))) (Nm.names L ++ [name]) (Nm.places L) ∧ Side wx X Y #[.int .i64 k, .string name, .int .i64 line, .int .i64 col, c4, c5, c6, c7, c8, c9, c10, c11] k ck)
  case first =>
    go_region_law (refine step_at (v := .slice an nl capn) rfl _ _ 92 rfl 9 (.string ByteArray.empty) 1 16 Try.underlying92 infoN rfl (by decide) rfl own3 hsz [.string name] rfl (by simp [Value.oneCell']) rfl (by simp) (by decide) (by omega) ⟨1, rfl⟩ ?_; intro g1 cap1 W4 own4 keep4 where4; rw [← HNL.out] at own4; have M4 := (MS.out).1.names own4 keep4; rw [HNL.out] at M4; have r0 := (M4.cell 0).trans e0; have rf := M4.frz 0)
    all_goals go_wp2_with fail
    all_goals go_meet
    all_goals first
      | exact ⟨rfl, g1, cap1, (HREST.out _ _ _ M4 keep4).1, (HREST.out _ _ _ M4 keep4).2⟩
      | exact ⟨rfl, g1, cap1, (HREST.out _ _ _ M4 keep4).1.drewN 1, (HREST.out _ _ _ M4 keep4).2.keep rfl rfl⟩
      | exact ⟨rfl, g1, cap1, (HREST.out _ _ _ M4 keep4).1.drewN 2, (HREST.out _ _ _ M4 keep4).2.keep rfl rfl⟩
  case rest =>
    obtain ⟨rfl, g1, cap1, M5, S5⟩ := hcut
    clear q0 q1 own3 hsz q0a q1a MS HREST
    have C5 := (HC.out).set0 (.slice (some ⟨g1, 0, none⟩) (nl + 1) cap1)
    clear HC e0 e2 e3 ek
    generalize cs.setIfInBounds 0 (.slice (some ⟨g1, 0, none⟩) (nl + 1) cap1) = cs5 at *
    go_wp2_with fail
    have q0 := (M5.cell 1).trans C5.c1
    have q1 := S5.y0.1
    have q2 := S5.y0.2
    have own5 := M5.op
    rw [HPL.out] at own5
    have hsz := M5.hsz
    have hp3 := M5.plt
    have hx3 := S5.lt.2
    have q0a : ∀ (o : Obj), (wc.alloc o).cell? ⟨p, 1, none⟩ = some (.slice ap nl capp) := fun o => by rw [World.cell?_alloc_past _ _ _ hp3]; exact q0
    have q1a : ∀ (o : Obj), (wc.alloc o).cell? ⟨Y, 0, none⟩ = some (.int .i64 k) := fun o => by rw [World.cell?_alloc_past _ _ _ hx3]; exact q1
    have q2a : ∀ (o : Obj), (wc.alloc o).cell? ⟨Y, 1, none⟩ = some (.int .i64 (ck : Nat)) := fun o => by rw [World.cell?_alloc_past _ _ _ hx3]; exact q2
    clear hp3 hx3
    have MS := Lib.hid (And.intro M5 S5)
    clear M5 S5
    have HREST : Hid (∀ (W4 : World) (g2 cap2 : Nat), Mid w B p W4 cs5 (.slice (some ⟨g1, 0, none⟩) (nl + 1) cap1) (.slice (some ⟨g2, 0, none⟩) (nl + 1) cap2) b1 b2 (nl + 1) (nl + 1) (D1.put (Nm.slit name) (i64D (nl : Nat))) (D2.put (Nm.klit k ck) (i64D (nl : Nat))) (Nm.names L ++ [name]) (Nm.places L ++ [((k : Int), ck)]) → Keeps (fun k => (Value.slice ap nl capp).ownBlock = some k) wc W4 →
        Mid w B p (W4.setCell ⟨p, 1, none⟩ (.slice (some ⟨g2, 0, none⟩) (nl + 1) cap2)) (cs5.setIfInBounds 1 (.slice (some ⟨g2, 0, none⟩) (nl + 1) cap2)) (.slice (some ⟨g1, 0, none⟩) (nl + 1) cap1) (.slice (some ⟨g2, 0, none⟩) (nl + 1) cap2) b1 b2 (nl + 1) (nl + 1) (D1.put (Nm.slit name) (i64D (nl : Nat))) (D2.put (Nm.klit k ck) (i64D (nl : Nat))) (Nm.names L ++ [name]) (Nm.places L ++ [((k : Int), ck)]) ∧
        (W4.setCell ⟨p, 1, none⟩ (.slice (some ⟨g2, 0, none⟩) (nl + 1) cap2)).heap[X]? = some (.cells #[.int .i64 k, .string name, .int .i64 line, .int .i64 col, c4, c5, c6, c7, c8, c9, c10, c11] 94 (0, 0))) := Lib.hid fun W4 g2 cap2 hM hK => by
      have o1 := ((MS.out).2).off (MS.out).1
      refine ⟨hM.set 1 _, Eq.trans ?_ (MS.out).2.x⟩
      rw [Below.heap_setCell _ _ _ _ o1.1.1]; exact hK.block X (MS.out).2.lt.1 o1.1.2.2.2.2
    go_cut [4] from 84 to 93 (fun s wx => s = .int .i64 0 ∧ ∃ g2 cap2, Mid w B p wx (cs5.setIfInBounds 1 (.slice (some ⟨g2, 0, none⟩) (nl + 1) cap2)) (.slice (some ⟨g1, 0, none⟩) (nl + 1) cap1) (.slice (some ⟨g2, 0, none⟩) (nl + 1) cap2) b1 b2 (nl + 1) (nl + 1) (D1.put (Nm.slit name) (i64D (nl : Nat))) (D2.put (Nm.klit k ck) (i64D (nl : Nat))) (Nm.names L ++ [name]) (Nm.places L ++ [((k : Int), ck)]) ∧
      wx.heap[X]? = some (.cells #[.int .i64 k, .string name, .int .i64 line, .int .i64 col, c4, c5, c6, c7, c8, c9, c10, c11] 94 (0, 0)))
    case first =>
      go_region_law (refine step_at (v := .slice ap nl capp) rfl _ _ 97 rfl 127 (.agg #[.int .i64 0, .int .i64 0]) 2 16 Try.underlying97 infoP rfl (by decide) rfl own5 hsz [.int .i64 (k : Nat), .int .i64 (ck : Nat)] rfl (by simp [Value.oneCell']) rfl (by simp) (by decide) (by omega) ⟨1, rfl⟩ ?_; intro g2 cap2 W4 own4 keep4 where4; rw [← HPL.out] at own4; have M4 := (MS.out).1.places (x := ((k : Int), ck)) own4 keep4; rw [HPL.out] at M4; have r0 := (M4.cell 1).trans C5.c1; have rf := M4.frz 1)
      all_goals go_wp2_with fail
      all_goals go_meet
      all_goals first
        | exact ⟨rfl, g2, cap2, (HREST.out _ _ _ M4 keep4).1, (HREST.out _ _ _ M4 keep4).2⟩
        | exact ⟨rfl, g2, cap2, (HREST.out _ _ _ M4 keep4).1.drewN 1, (HREST.out _ _ _ M4 keep4).2⟩
        | exact ⟨rfl, g2, cap2, (HREST.out _ _ _ M4 keep4).1.drewN 2, (HREST.out _ _ _ M4 keep4).2⟩
    case rest =>
      obtain ⟨rfl, g2, cap2, M7, hx7⟩ := hcut
      clear q0 q1 q2 own5 hsz q0a q1a q2a MS HREST
      have C7 := C5.set1 (.slice (some ⟨g2, 0, none⟩) (nl + 1) cap2)
      clear C5
      generalize cs5.setIfInBounds 1 (.slice (some ⟨g2, 0, none⟩) (nl + 1) cap2) = cs7 at *
      go_wp2_with fail
      have q0 := cell_of_row wc X 0 _ _ _ hx7
      simp only [List.getElem?_toArray, List.getElem?_cons_zero] at q0
      have q1 := (M7.cell (4 + k)).trans (C7.cc k hk.2)
      have q2 := M7.frz (4 + k)
      rw [HCK.out] at q1
      have HF : Hid (∀ d, AddNew w B p b1 b2 L ⟨k, name, line, col, c4, c5, c6, c7, c8, c9, c10, c11⟩ (.returned (.int .i64 0)) ((wc.setCell ⟨p, 4 + k, none⟩ (.int .i64 ((ck : Int) + 1))).drewN d)) := Lib.hid fun d => HFIN.out _ _ _ _ ((M7.set (4 + k) _).drewN d) (by have := C7.setK k hk.2 (ck + 1); rw [show ((ck + 1 : Nat) : Int) = (ck : Int) + 1 from rfl] at this; exact this)
      clear M7 C7 hx7 HFIN
      go_region
      all_goals go_wp2_with fail
      all_goals go_ret
      all_goals first | exact HF.out 1 | exact HF.out 2 | exact HF.out 0 | exact HF.out 3
end
end Go.Proofs.Ytpbgicfoopicbaa
