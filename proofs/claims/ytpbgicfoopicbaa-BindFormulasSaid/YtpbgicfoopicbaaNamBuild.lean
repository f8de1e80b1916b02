/-
  Names: the table of any statements.
-/
import Derived.Test.YtpbgicfoopicbaaNamSkip
import Derived.Deep.MidRow
namespace Go.Proofs.Ytpbgicfoopicbaa
open Go.RowKit Go.Maps
set_option linter.unusedVariables false
set_option linter.unusedSimpArgs false

theorem bp_gen {P : Program} {fn : Func} {R : Ending → World → Prop} {e : Exit} {a : Act} {F : Nat → World} {C : World → Prop} (hF : ∀ m, C (F m)) (h : ∀ W, C W → bodyPost P fn R e a W) (m : Nat) : bodyPost P fn R e a (F m) := h _ (hF m)
theorem sizeStmt : (Try.prog.info? 94).map (·.size) = some 12 := by kernel_rfl
/-- Either all stand, and there is a table; or the first that does not is told. -/
def BuildAns (l : List St) (w : World) (e : Ending) (w' : World) : Prop :=
  (Nm.Good l ∧ ∃ p cs vn vp b1 b2 D1 D2, e = .returned (.tuple #[.pointer (some ⟨p, 0, none⟩), .agg #[.int .i64 0, .int .i64 0, .int .i64 0]]) ∧ IsN w' (w.heap.size + 1) p cs vn vp b1 b2 D1 D2 l ∧ Below w.heap.size w w') ∨
  (∃ (i : Nat) (hi : i < l.length), Nm.Good (l.take i) ∧ Nm.errOf (l.take i) l[i] ≠ 0 ∧ e = .returned (.tuple #[.pointer none, .agg #[.int .i64 (Nm.errOf (l.take i) l[i]), .int .i64 l[i].line, .int .i64 l[i].col]]) ∧ Below w.heap.size w w')
def zeroT (b1 b2 : Nat) : Array Value := #[.slice none 0 0, .slice none 0 0, .map (some b1), .map (some b2), .int .i64 0, .int .i64 0, .int .i64 0, .int .i64 0, .int .i64 0, .int .i64 0, .int .i64 0, .int .i64 0, .int .i64 0]
theorem isn_zero {W : World} {B p b1 b2 : Nat} (hb : W.heap[p]? = some (.cells (zeroT b1 b2) 100 (0, 0))) (h1 : W.ownsMap Try.prog 9 (plainElem Try.prog 3) b1 0 (.map [] : Dat)) (h2 : W.ownsMap Try.prog 127 (plainElem Try.prog 3) b2 0 (.map [] : Dat)) (hp : B ≤ p) (hb1 : B ≤ b1) (hb2 : B ≤ b2) (hne : b1 ≠ b2) :
    IsN W B p (zeroT b1 b2) (.slice none 0 0) (.slice none 0 0) b1 b2 (.map []) (.map []) [] := by
  refine ⟨hb, rfl, rfl, rfl, rfl, rfl, fun k h1 h8 => ?_, rfl, World.ownsRow_nil _ _ _ _, World.ownsRow_nil _ _ _ _, h1, h2, Nm.MapN.empty, Nm.MapP.empty, hp, hb1, hb2, hne, .nil, by simp [Nm.names, Nm.ents, Nm.entsA]⟩
  have : k = 1 ∨ k = 2 ∨ k = 3 ∨ k = 4 ∨ k = 5 ∨ k = 6 ∨ k = 7 ∨ k = 8 := by omega
  rcases this with e | e | e | e | e | e | e | e <;> subst e <;> rfl
theorem IsN.keeps {w w' : World} {B p : Nat} {cs : Array Value} {vn vp : Value} {b1 b2 : Nat} {D1 D2 : Dat} {L : List St} {S : Nat → Prop} (h : IsN w B p cs vn vp b1 b2 D1 D2 L) (hk : Keeps S w w') (hS : ∀ k, S k → k < B) : IsN w' B p cs vn vp b1 b2 D1 D2 L := by
  have hb := h.base
  have hb1 := h.base1
  have hb2 := h.base2
  refine ⟨(hk.block p (Array.getElem?_eq_some_iff.1 h.block).1 (fun e => ?_)).trans h.block, h.size, h.c0, h.c1, h.c2, h.c3, h.cc, h.z0, row_keep h.on (fun k e => hk.block k (h.on.lt k e).2 (fun e2 => ?_)), row_keep h.op (fun k e => hk.block k (h.op.lt k e).2 (fun e2 => ?_)),
    map_keep h.m1 (hk.block b1 h.m1.lt (fun e => ?_)), map_keep h.m2 (hk.block b2 h.m2.lt (fun e => ?_)), h.n1, h.n2, h.base, h.base1, h.base2, h.apart, h.good, h.sizes⟩
  · have := hS _ e; omega
  · have := hS _ e2; have := (h.on.lt k e).1; omega
  · have := hS _ e2; have := (h.op.lt k e).1; omega
  · have := hS _ e; omega
  · have := hS _ e; omega
/-- While it is built. -/
structure Bld (w : World) (l : List St) (p b1 b2 : Nat) (k : Nat) (wr : World) : Prop where
  fault : wr.heap[w.heap.size]? = some (.cells #[.int .i64 0, .int .i64 0, .int .i64 0] 48 (0, 0))
  table : ∃ cs vn vp D1 D2, IsN wr (w.heap.size + 1) p cs vn vp b1 b2 D1 D2 (l.take k)
  below : Below w.heap.size w wr
  size : w.heap.size + 1 ≤ wr.heap.size
theorem Bld.still {w wr w' : World} {l : List St} {p b1 b2 k : Nat} (h : Bld w l p b1 b2 k wr) (hb : Below wr.heap.size wr w') : Bld w l p b1 b2 k w' := by
  have hs := h.size
  obtain ⟨cs, vn, vp, D1, D2, ht⟩ := h.table
  exact ⟨(hb.block _ (by omega)).trans h.fault, ⟨cs, vn, vp, D1, D2, ht.still hs hb⟩, h.below.trans (hb.mono h.below.size), Nat.le_trans hs hb.size⟩
theorem Bld.put {w wr w' : World} {l : List St} {p b1 b2 k : Nat} (h : Bld w l p b1 b2 k wr) (hk : k < l.length) {e : Ending} (ha : AddNew wr (w.heap.size + 1) p b1 b2 (l.take k) l[k] e w') : e = .returned (.int .i64 0) ∧ Bld w l p b1 b2 (k + 1) w' := by
  have hs := h.size
  obtain ⟨he, hb, cs, vn, vp, D1, D2, hi⟩ := ha
  refine ⟨he, (hb.block _ (by omega)).trans h.fault, ⟨cs, vn, vp, D1, D2, ?_⟩, h.below.trans (hb.mono (by omega)), Nat.le_trans hs hb.size⟩
  rw [List.take_add_one, List.getElem?_eq_getElem hk]; exact hi
theorem Bld.good {w wr : World} {l : List St} {p b1 b2 k : Nat} (h : Bld w l p b1 b2 k wr) : Nm.Good (l.take k) := by
  obtain ⟨_, _, _, _, _, ht⟩ := h.table
  exact ht.good
theorem bel_alloc (w : World) (o : Obj) : Below w.heap.size w (w.alloc o) := (Below.refl _ _).alloc (Nat.le_refl _) o
theorem bld_start (w : World) (l : List St) : Bld w l (w.heap.size + 1 + 1 + 1) (w.heap.size + 1) (w.heap.size + 1 + 1) 0 ((((w.alloc (.cells #[.int .i64 0, .int .i64 0, .int .i64 0] 48)).alloc (.map #[] 0)).alloc (.map #[] 0)).alloc (.cells (zeroT (w.heap.size + 1) (w.heap.size + 1 + 1)) 100)) := by
  generalize hW1 : w.alloc (.cells #[.int .i64 0, .int .i64 0, .int .i64 0] 48) = W1
  have f1 : W1.heap[w.heap.size]? = some (.cells #[.int .i64 0, .int .i64 0, .int .i64 0] 48 (0, 0)) := by rw [← hW1]; exact heap_alloc_new w _
  have z1 : W1.heap.size = w.heap.size + 1 := by rw [← hW1]; simp
  have bl1 : Below w.heap.size w W1 := by rw [← hW1]; exact bel_alloc w _
  clear hW1
  have m2 := World.ownsMap_made W1 Try.prog 9 (plainElem (H := Unit) Try.prog 3)
  generalize hW2 : W1.alloc (.map #[] 0) = W2 at *
  have z2 : W2.heap.size = w.heap.size + 1 + 1 := by rw [← hW2]; simp [z1]
  have bl2 : Below W1.heap.size W1 W2 := by rw [← hW2]; exact bel_alloc W1 _
  clear hW2
  have m3 := World.ownsMap_made W2 Try.prog 127 (plainElem (H := Unit) Try.prog 3)
  generalize hW3 : W2.alloc (.map #[] 0) = W3 at *
  have z3 : W3.heap.size = w.heap.size + 1 + 1 + 1 := by rw [← hW3]; simp [z2]
  have bl3 : Below W2.heap.size W2 W3 := by rw [← hW3]; exact bel_alloc W2 _
  clear hW3
  have bl4 := bel_alloc W3 (.cells (zeroT (w.heap.size + 1) (w.heap.size + 1 + 1)) 100)
  have t4 := heap_alloc_new W3 (.cells (zeroT (w.heap.size + 1) (w.heap.size + 1 + 1)) 100)
  have z4 : (W3.alloc (.cells (zeroT (w.heap.size + 1) (w.heap.size + 1 + 1)) 100)).heap.size = w.heap.size + 1 + 1 + 1 + 1 := by simp [z3]
  generalize W3.alloc (.cells (zeroT (w.heap.size + 1) (w.heap.size + 1 + 1)) 100) = W4 at *
  rw [z1] at bl2 m2
  rw [z2] at bl3 m3
  rw [z3] at bl4 t4
  refine ⟨?_, ⟨_, _, _, _, _, isn_zero t4 (map_keep m2 ?_) (map_keep m3 ?_) (by omega) (by omega) (by omega) (by omega)⟩, ((bl1.trans (bl2.mono (by omega))).trans (bl3.mono (by omega))).trans (bl4.mono (by omega)), by omega⟩
  · rw [bl4.block _ (by omega), bl3.block _ (by omega), bl2.block _ (by omega)]; exact f1
  · rw [bl4.block _ (by omega), bl3.block _ (by omega)]
  · rw [bl4.block _ (by omega)]
/-- The answer's fault, stored. -/
theorem fault_set {w wr : World} {l : List St} {p b1 b2 k : Nat} (h : Bld w l p b1 b2 k wr) (x y z : Int) :
    (((wr.setCell ⟨w.heap.size, 0, none⟩ (.int .i64 x)).setCell ⟨w.heap.size, 1, none⟩ (.int .i64 y)).setCell ⟨w.heap.size, 2, none⟩ (.int .i64 z)).heap[w.heap.size]? = some (.cells #[.int .i64 x, .int .i64 y, .int .i64 z] 48 (0, 0)) ∧
    Keeps (fun j => j = w.heap.size) wr (((wr.setCell ⟨w.heap.size, 0, none⟩ (.int .i64 x)).setCell ⟨w.heap.size, 1, none⟩ (.int .i64 y)).setCell ⟨w.heap.size, 2, none⟩ (.int .i64 z)) := by
  refine ⟨?_, ((Keeps.setCell (S := fun j => j = w.heap.size) wr ⟨w.heap.size, 0, none⟩ (.int .i64 x) rfl).trans (Keeps.setCell (S := fun j => j = w.heap.size) _ ⟨w.heap.size, 1, none⟩ (.int .i64 y) rfl)).trans (Keeps.setCell (S := fun j => j = w.heap.size) _ ⟨w.heap.size, 2, none⟩ (.int .i64 z) rfl)⟩
  have h1 := heap_setCell_same wr w.heap.size 0 _ _ (.int .i64 x) h.fault
  have h2 := heap_setCell_same _ w.heap.size 1 _ _ (.int .i64 y) h1
  exact heap_setCell_same _ w.heap.size 2 _ _ (.int .i64 z) h2
theorem cells3 {W : World} {F : Nat} {t : TypeId} {x y z : Value} (h : W.heap[F]? = some (.cells #[x, y, z] t (0, 0))) : W.cell? ⟨F, 0, none⟩ = some x ∧ W.cell? ⟨F, 1, none⟩ = some y ∧ W.cell? ⟨F, 2, none⟩ = some z :=
  ⟨cell_of_row W F 0 _ _ _ h, cell_of_row W F 1 _ _ _ h, cell_of_row W F 2 _ _ _ h⟩
theorem Bld.done {w wr W : World} {l : List St} {p b1 b2 : Nat} (h : Bld w l p b1 b2 l.length wr) (hk : Keeps (fun j => j = w.heap.size) wr W) :
    BuildAns l w (.returned (.tuple #[.pointer (some ⟨p, 0, none⟩), .agg #[.int .i64 0, .int .i64 0, .int .i64 0]])) W := by
  obtain ⟨cs, vn, vp, D1, D2, ht⟩ := h.table
  rw [List.take_length] at ht
  exact Or.inl ⟨ht.good, p, cs, vn, vp, b1, b2, D1, D2, rfl, ht.keeps hk (fun k e => by omega), h.below.trans (hk.below (fun k e => by omega) h.below.size)⟩
set_option maxHeartbeats 400000 in
theorem build_any (a : Option Addr) (c : Nat) (l : List St) (w : World) (hl : RdS w a l) (hf : ∀ x ∈ l, x.fit) (hm : l.length ≤ 9223372036854775807) :
    Calls Try.prog 31 #[.slice a l.length c] w (BuildAns l w) := by
  have hmm := @run_makeMap Try.prog
  have HL := Lib.hid hl
  have HFIT := Lib.hid hf
  have HST := Lib.hid (bld_start w l)
  clear hl hf
  go_enter Try.func31, Try.ntmps31
  go_wp2_with fail
  generalize hW0 : (((w.alloc (.cells #[.int .i64 0, .int .i64 0, .int .i64 0] 48)).alloc (.map #[] 0)).alloc (.map #[] 0)).alloc (.cells #[.slice none 0 0, .slice none 0 0, .map (some (w.heap.size + 1)), .map (some (w.heap.size + 1 + 1)), .int .i64 0, .int .i64 0, .int .i64 0, .int .i64 0, .int .i64 0, .int .i64 0, .int .i64 0, .int .i64 0, .int .i64 0] 100) = W0
  have HB0 : Hid (Bld w l (w.heap.size + 1 + 1 + 1) (w.heap.size + 1) (w.heap.size + 1 + 1) 0 W0) := Lib.hid (by rw [← hW0]; exact HST.out)
  clear hW0 HST hmm
  go_loopw [14] (fun v14 wr => ∃ k : Nat, k ≤ l.length ∧ v14 = .int .i64 k ∧ Hid (Bld w l (w.heap.size + 1 + 1 + 1) (w.heap.size + 1) (w.heap.size + 1 + 1) k wr)) (fun v14 _ => l.length - (intOf v14).toNat)
  case atStart => exact ⟨0, by omega, rfl, HB0⟩
  case round =>
    obtain ⟨k, hk, rfl, HB⟩ := hrel
    clear HB0
    by_cases hlt : k < l.length
    · obtain ⟨b, off, ha, hrg⟩ := (HL.out.mono HB.out.below (Nat.le_refl _)).at (by omega)
      subst ha
      have hx := HFIT.out l[k] (List.getElem_mem hlt)
      have hrgk := hrg k hlt
      obtain ⟨cs, vn, vp, D1, D2, ht⟩ := HB.out.table
      obtain ⟨th, rd, bel⟩ := copy_at wr l[k]
      have hone : (#[Value.int .i64 l[k].kind, .string l[k].name, .int .i64 l[k].line, .int .i64 l[k].col, l[k].c4, l[k].c5, l[k].c6, l[k].c7, l[k].c8, l[k].c9, l[k].c10, l[k].c11] : Array Value).all (·.oneCell') = true := all_oneCell_toArray hx.one
      have HADD := Lib.hid (add_all (ht.still HB.out.size bel) (Nat.le_trans HB.out.size bel.size) l[k] hx)
      have HB2 := Lib.hid (HB.out.still bel)
      have HPUT : Hid (∀ e w', AddNew ((wr.alloc (.cells #[.int .i64 0, .string { data := #[] }, .int .i64 0, .int .i64 0, .int .i64 0, .slice none 0 0, .string { data := #[] }, .string { data := #[] }, .string { data := #[] }, .int .i64 0, .slice none 0 0, .bool false] 94)).setCells wr.heap.size 0 l[k].cells) (w.heap.size + 1) (w.heap.size + 1 + 1 + 1) (w.heap.size + 1) (w.heap.size + 1 + 1) (l.take k) l[k] e w' → e = .returned (.int .i64 0) ∧ Bld w l (w.heap.size + 1 + 1 + 1) (w.heap.size + 1) (w.heap.size + 1 + 1) (k + 1) w') := Lib.hid (fun e w' h => (HB.out.still bel).put hlt h)
      have HGOOD := Lib.hid HB.out.good
      clear hx ht bel
      unfold St.cells at rd hrgk HADD HB2 HPUT
      have HRD := Lib.hid rd
      have HBAD : Hid (∀ w', Nm.errOf (l.take k) l[k] ≠ 0 → Below w.heap.size w w' → BuildAns l w (.returned (.tuple #[.pointer none, .agg #[.int .i64 (Nm.errOf (l.take k) l[k]), .int .i64 l[k].line, .int .i64 l[k].col]])) w') := Lib.hid (fun w' he hb => Or.inr ⟨k, hlt, HGOOD.out, he, rfl, hb⟩)
      clear rd hrg HGOOD
      generalize l[k] = x at *
      go_wp2_with (first
        | (refine wpList_load_mid rfl 94 (.tmp 16) rfl b (off + k * 12) rfl [.int .i64 x.kind, .string x.name, .int .i64 x.line, .int .i64 x.col, x.c4, x.c5, x.c6, x.c7, x.c8, x.c9, x.c10, x.c11] _ ?_ Try.underlying94 rfl sizeStmt ?_; exact hrgk)
        | (refine wpList_store_mid rfl 94 (.tmp 6) (.tmp 17) rfl wr.heap.size 0 #[.int .i64 x.kind, .string x.name, .int .i64 x.line, .int .i64 x.col, x.c4, x.c5, x.c6, x.c7, x.c8, x.c9, x.c10, x.c11] rfl rfl ?_ sizeStmt hone ?_; exact th)
        | (refine wpList_load_mid rfl 94 (.tmp 6) rfl wr.heap.size 0 rfl [.int .i64 x.kind, .string x.name, .int .i64 x.line, .int .i64 x.col, x.c4, x.c5, x.c6, x.c7, x.c8, x.c9, x.c10, x.c11] _ ?_ Try.underlying94 rfl sizeStmt ?_; exact HRD.out))
      refine HADD.out.mono ?_
      rintro e w2 hadd
      rcases hadd with ⟨he, hnew⟩ | ⟨he, rfl, hbad⟩
      · obtain ⟨rfl, hb2⟩ := HPUT.out _ _ hnew
        have HB3 := Lib.hid hb2
        clear hnew hb2 he hrgk th hone
        go_wp2_with fail
        go_roundw
        case rel => exact ⟨k + 1, by omega, by go_num, HB3⟩
        case measure => simp [intOf] <;> omega
      · have hb3 := HB2.out.still hbad
        obtain ⟨f0, f1, f2⟩ := cells3 hb3.fault
        have hz : ∀ j, w2.frozen? ⟨w.heap.size, j, none⟩ = false := fun j => by unfold World.frozen?; rw [hb3.fault]; simp
        have r2 : w2.cell? ⟨wr.heap.size, 2, none⟩ = some (.int .i64 x.line) := by
          have h := HRD.out 2 (.int .i64 x.line) rfl
          rw [Nat.zero_add] at h
          rw [hbad.cell (p := ⟨wr.heap.size, 2, none⟩) (lt_of_cell h)]; exact h
        have r3 : w2.cell? ⟨wr.heap.size, 3, none⟩ = some (.int .i64 x.col) := by
          have h := HRD.out 3 (.int .i64 x.col) rfl
          rw [Nat.zero_add] at h
          rw [hbad.cell (p := ⟨wr.heap.size, 3, none⟩) (lt_of_cell h)]; exact h
        have HFS : Hid (∀ d, ((((w2.setCell ⟨w.heap.size, 0, none⟩ (.int .i64 (Nm.errOf (l.take k) x))).setCell ⟨w.heap.size, 1, none⟩ (.int .i64 x.line)).setCell ⟨w.heap.size, 2, none⟩ (.int .i64 x.col)).drewN d).heap[w.heap.size]? = some (.cells #[.int .i64 (Nm.errOf (l.take k) x), .int .i64 x.line, .int .i64 x.col] 48 (0, 0)) ∧
          BuildAns l w (.returned (.tuple #[.pointer none, .agg #[.int .i64 (Nm.errOf (l.take k) x), .int .i64 x.line, .int .i64 x.col]])) ((((w2.setCell ⟨w.heap.size, 0, none⟩ (.int .i64 (Nm.errOf (l.take k) x))).setCell ⟨w.heap.size, 1, none⟩ (.int .i64 x.line)).setCell ⟨w.heap.size, 2, none⟩ (.int .i64 x.col)).drewN d)) := Lib.hid (fun d => by
          obtain ⟨h5, k5⟩ := fault_set hb3 (Nm.errOf (l.take k) x) x.line x.col
          exact ⟨h5, HBAD.out _ he (nbelow_dn (hb3.below.trans (k5.below (fun j e => by omega) hb3.below.size)) d)⟩)
        have he2 : (Nm.errOf (l.take k) x != 0) = true := by simpa using he
        clear he hbad hb3 hrgk th hone HADD HB2 HPUT HBAD HRD
        generalize Nm.errOf (l.take k) x = er at *
        go_wp2_with fail
        go_region
        all_goals go_wp2_with fail
        all_goals first
          | refine bp_gen (F := fun d => ((((w2.setCell ⟨w.heap.size, 0, none⟩ (.int .i64 er)).setCell ⟨w.heap.size, 1, none⟩ (.int .i64 x.line)).setCell ⟨w.heap.size, 2, none⟩ (.int .i64 x.col)).drewN d)) (C := fun W => W.heap[w.heap.size]? = some (.cells #[.int .i64 er, .int .i64 x.line, .int .i64 x.col] 48 (0, 0)) ∧ BuildAns l w (.returned (.tuple #[.pointer none, .agg #[.int .i64 er, .int .i64 x.line, .int .i64 x.col]])) W) HFS.out ?_ 1
          | refine bp_gen (F := fun d => ((((w2.setCell ⟨w.heap.size, 0, none⟩ (.int .i64 er)).setCell ⟨w.heap.size, 1, none⟩ (.int .i64 x.line)).setCell ⟨w.heap.size, 2, none⟩ (.int .i64 x.col)).drewN d)) (C := fun W => W.heap[w.heap.size]? = some (.cells #[.int .i64 er, .int .i64 x.line, .int .i64 x.col] 48 (0, 0)) ∧ BuildAns l w (.returned (.tuple #[.pointer none, .agg #[.int .i64 er, .int .i64 x.line, .int .i64 x.col]])) W) HFS.out ?_ 0
          | refine bp_gen (F := fun d => ((((w2.setCell ⟨w.heap.size, 0, none⟩ (.int .i64 er)).setCell ⟨w.heap.size, 1, none⟩ (.int .i64 x.line)).setCell ⟨w.heap.size, 2, none⟩ (.int .i64 x.col)).drewN d)) (C := fun W => W.heap[w.heap.size]? = some (.cells #[.int .i64 er, .int .i64 x.line, .int .i64 x.col] 48 (0, 0)) ∧ BuildAns l w (.returned (.tuple #[.pointer none, .agg #[.int .i64 er, .int .i64 x.line, .int .i64 x.col]])) W) HFS.out ?_ 2
        all_goals rintro W ⟨h5, hans⟩
        all_goals obtain ⟨g0, g1, g2⟩ := cells3 h5
        all_goals refine bodyPost_ret (v := .tuple #[.pointer none, .agg #[.int .i64 er, .int .i64 x.line, .int .i64 x.col]]) (by simp [results, Try.results31, go_sem, g0, g1, g2]) rfl ?_
        all_goals exact hans
    · have hke : k = l.length := by omega
      subst hke
      have hfl := cells3 HB.out.fault
      obtain ⟨hfl0, hfl1, hfl2⟩ := hfl
      have hz : ∀ j, wr.frozen? ⟨w.heap.size, j, none⟩ = false := fun j => by unfold World.frozen?; rw [HB.out.fault]; simp
      obtain ⟨hb5, hk5⟩ := fault_set HB.out 0 0 0
      have HK5 := Lib.hid hk5
      clear hk5
      go_wp2_with fail
      generalize (((wr.setCell ⟨w.heap.size, 0, none⟩ (.int .i64 0)).setCell ⟨w.heap.size, 1, none⟩ (.int .i64 0)).setCell ⟨w.heap.size, 2, none⟩ (.int .i64 0)) = W5 at *
      obtain ⟨g0, g1, g2⟩ := cells3 hb5
      refine bodyPost_ret (v := .tuple #[.pointer (some ⟨w.heap.size + 1 + 1 + 1, 0, none⟩), .agg #[.int .i64 0, .int .i64 0, .int .i64 0]]) (by simp [results, Try.results31, go_sem, g0, g1, g2]) rfl ?_
      exact HB.out.done HK5.out
end Go.Proofs.Ytpbgicfoopicbaa
