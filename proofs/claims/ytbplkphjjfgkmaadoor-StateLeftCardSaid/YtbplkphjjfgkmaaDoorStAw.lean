/-
  state.Start, state.Check at chapter 15's example: by walks.
-/
import Derived.Test.YtbplkphjjfgkmaaDoorStMo
import Derived.Test.YtbplkphjjfgkmaaDoorStEq
import Derived.Deep.RegionHeld3
import Derived.Deep.RegionWith
namespace Go.Proofs.YtbplkphjjfgkmaaDoor
open Go.RowKit
set_option linter.unusedVariables false
set_option linter.unusedSimpArgs false

theorem reads_keep {S : Nat → Prop} {w w' : World} {a : Option Addr} {xs : List Value} (h : Reads w a xs) (k : Keeps S w w') (hs : ∀ b off j, a = some ⟨b, off, j⟩ → ¬ S b) : Reads w' a xs := by
  rcases h with h | ⟨b, off, rfl, hc⟩
  · exact Or.inl h
  · refine Or.inr ⟨b, off, rfl, fun j hj => ?_⟩
    have h1 := hc j hj
    rw [List.getElem?_eq_getElem hj] at h1
    rw [List.getElem?_eq_getElem hj]
    exact keeps_cell k h1 (hs b off none rfl)
theorem first0 (w : World) : Calls Tryd.prog 180 #[.int .i64 0] w fun e w' => e = .returned (.int .i64 0) ∧ w = w' := by
  go_enter Tryd.func180, Tryd.ntmps180
  go_wp2
  go_ret
  exact ⟨ret_int (by kernel_rfl), rfl⟩
theorem within00 (w : World) : Calls Tryd.prog 179 #[.int .i64 0, .int .i64 0] w fun e w' => e = .returned (.bool true) ∧ w = w' := by
  go_enter Tryd.func179, Tryd.ntmps179
  go_wp2
  go_ret
  exact ⟨rfl, rfl⟩
theorem isset00 (w : World) : Calls Tryd.prog 148 #[.int .i64 0, .int .i64 0] w fun e w' => e = .returned (.bool true) ∧ w = w' := by
  go_enter Tryd.func148, Tryd.ntmps148
  go_wp2_with (first | (go_at_call 180; refine (first0 _).mono ?_; rintro e w2 ⟨rfl, rfl⟩) | (go_at_call 179; refine (within00 _).mono ?_; rintro e w2 ⟨rfl, rfl⟩))
  go_ret
  exact ⟨rfl, rfl⟩
theorem clone_any (a : Option Addr) (c : Nat) (xs : List Int) (w : World) (ha : Reads w a (xs.map (Value.int .i64))) (hm : xs.length * 8 ≤ 140737488355328) (hp : 0 < xs.length) :
    Calls Tryd.prog 59 #[.slice a xs.length c] w fun e w' => ∃ v, e = .returned v ∧ w'.ownsRow w.heap.size 2 1 v xs.length (xs.map (Value.int .i64)) ∧ Below w.heap.size w w' := by
  obtain ⟨b, off, rfl, hc⟩ := ha.at (by simpa using hp)
  refine (Tryd.slices_Clone_int b off xs.length c xs w (Nat.le_refl _) hm (fun j hj => ?_)).mono ?_
  · rw [hc j (by simpa using hj)]
    simp [List.getElem?_eq_getElem hj]
  rintro e w' ⟨v, rfl, ho, hv, hb⟩
  rw [List.take_length] at ho
  exact ⟨v, rfl, ho, hb⟩
theorem own_reads1 {w : World} {B : Nat} {v : Value} {x : Int} (h : w.ownsRow B 2 1 v 1 [.int .i64 x]) : ∃ g cap, v = .slice (some ⟨g, 0, none⟩) 1 cap ∧ B ≤ g ∧ Reads w (some ⟨g, 0, none⟩) [.int .i64 x] := by
  obtain ⟨g, cap, rfl, hB, -, -, -⟩ := own_some h (by decide)
  refine ⟨g, cap, rfl, hB, Or.inr ⟨g, 0, rfl, fun j hj => ?_⟩⟩
  rw [Nat.zero_add]
  exact h.cellAt j hj
theorem make1_run (w : World) : (Instr.makeSlice 71 (.int .i64 1) (.int .i64 1)).run Tryd.prog w = .ok (.slice (some ⟨w.heap.size, 0, none⟩) 1 1) (w.alloc (.cells #[.int .i64 0] 3)) := by kernel_rfl
theorem set_keep {W : World} {p q : Addr} {u v : Value} (h : W.cell? p = some v) (hne : p.block ≠ q.block) : (W.setCell q u).cell? p = some v := by
  obtain ⟨b, j, pr⟩ := p
  cases pr with
  | none => exact keeps_cell (Keeps.setCell (S := fun k => k = q.block) W q u rfl) h hne
  | some x => rw [World.cell?_setCell_other _ _ _ _ (by intro e; apply hne; rw [e])]; exact h
theorem alloc_keep {W : World} {p : Addr} {o : Obj} {v : Value} (h : W.cell? p = some v) : (W.alloc o).cell? p = some v := mcell_mono h (mbel_new W o) (Nat.le_refl _)
theorem drew_keep {W : World} {p : Addr} {v : Value} (h : W.cell? p = some v) : W.drew.cell? p = some v := h
/-- A world that came of another by new blocks alone. -/
inductive Aft (V : World) : World → Prop
  | refl : Aft V V
  | alloc (W : World) (o : Obj) : Aft V W → Aft V (W.alloc o)
  | drew (W : World) : Aft V W → Aft V W.drew
  | drewN (W : World) (n : Nat) : Aft V W → Aft V (W.drewN n)
theorem Aft.bel {V W : World} (h : Aft V W) : Below V.heap.size V W := by
  induction h with
  | refl => exact Below.refl _ _
  | alloc W o _ ih => exact ih.trans ((mbel_new W o).mono ih.size)
  | drew W _ ih => exact ⟨ih.os, ih.tape, ih.output, ih.size, ih.block⟩
  | drewN W n _ ih => exact ⟨ih.os, ih.tape, ih.output, ih.size, ih.block⟩
/-- A state of one number and one event, in which nothing was yet. -/
structure One (w : World) (s : Sv) : Prop where
  rd : RdSv w s
  vals : s.vals = [5]
  op : s.op = 0
  dn : s.dn = 0
  did : s.did = [0]
  cnt : s.cnt = [0]
theorem five_cells {W : World} {p : Nat} {T : TypeId} {y0 y1 y2 y3 y4 x0 x1 x2 x3 x4 : Value} (h : W.heap[p]? = some (.cells #[y0, y1, y2, y3, y4] T (0, 0))) :
    ∀ j u, [x0, x1, x2, x3, x4][j]? = some u → (((((W.setCell ⟨p, 0, none⟩ x0).setCell ⟨p, 1, none⟩ x1).setCell ⟨p, 2, none⟩ x2).setCell ⟨p, 3, none⟩ x3).setCell ⟨p, 4, none⟩ x4).cell? ⟨p, j, none⟩ = some u := by
  intro j u hj
  have b0 := cell_of_row W p 0 _ _ _ h
  have b1 := cell_of_row W p 1 _ _ _ h
  have b2 := cell_of_row W p 2 _ _ _ h
  have b3 := cell_of_row W p 3 _ _ _ h
  have b4 := cell_of_row W p 4 _ _ _ h
  simp at b0 b1 b2 b3 b4
  match j, hj with
  | 0, hj => simp at hj; subst hj; simp [World.cell?_setCell_other, World.cell?_setCell_same, b0, b1, b2, b3, b4]
  | 1, hj => simp at hj; subst hj; simp [World.cell?_setCell_other, World.cell?_setCell_same, b0, b1, b2, b3, b4]
  | 2, hj => simp at hj; subst hj; simp [World.cell?_setCell_other, World.cell?_setCell_same, b0, b1, b2, b3, b4]
  | 3, hj => simp at hj; subst hj; simp [World.cell?_setCell_other, World.cell?_setCell_same, b0, b1, b2, b3, b4]
  | 4, hj => simp at hj; subst hj; simp [World.cell?_setCell_other, World.cell?_setCell_same, b0, b1, b2, b3, b4]
theorem ret_state {Q : Ending → World → Prop} {ds : Act} {F : World} {p : Nat} {x0 x1 x2 x3 x4 : Value} (hp : ds.tmps[2]?.getD undef = .pointer (some ⟨p, 0, none⟩)) (hd : ds.defers = []) (hc : ∀ j u, [x0, x1, x2, x3, x4][j]? = some u → F.cell? ⟨p, j, none⟩ = some u) (h : Q (.returned (.agg #[x0, x1, x2, x3, x4])) F) :
    bodyPost Tryd.prog Tryd.f88 Q Exit.ret ds F := by
  have c0 := hc 0 _ rfl
  have c1 := hc 1 _ rfl
  have c2 := hc 2 _ rfl
  have c3 := hc 3 _ rfl
  have c4 := hc 4 _ rfl
  exact bodyPost_ret (v := .agg #[x0, x1, x2, x3, x4]) (by simp [results, Tryd.results88, go_sem, hp, c0, c1, c2, c3, c4]) hd h
theorem new_cell {W : World} {p : Nat} {u : Value} {T : TypeId} (hp : W.heap.size = p) : (W.alloc (.cells #[u] T)).cell? ⟨p, 0, none⟩ = some u := by
  subst hp
  rw [World.cell?_alloc_at _ _ _ _ rfl]
  rfl
theorem size_alloc {W : World} {o : Obj} {n : Nat} (h : W.heap.size = n) : (W.alloc o).heap.size = n + 1 := by simp [h]
theorem size_set (W : World) (a : Addr) (v : Value) : (W.setCell a v).heap.size = W.heap.size := Nat.le_antisymm (by simp) (Keeps.setCell (S := fun k => k = a.block) W a v rfl).size
theorem size_sets {W : World} {p : Nat} {x0 x1 x2 x3 x4 : Value} : (((((W.setCell ⟨p, 0, none⟩ x0).setCell ⟨p, 1, none⟩ x1).setCell ⟨p, 2, none⟩ x2).setCell ⟨p, 3, none⟩ x3).setCell ⟨p, 4, none⟩ x4).heap.size = W.heap.size := by
  simp only [size_set]
theorem sets_keep {W : World} {p q : Nat} {x0 x1 x2 x3 x4 v : Value} (h : W.cell? ⟨q, 0, none⟩ = some v) (hne : q ≠ p) : (((((W.setCell ⟨p, 0, none⟩ x0).setCell ⟨p, 1, none⟩ x1).setCell ⟨p, 2, none⟩ x2).setCell ⟨p, 3, none⟩ x3).setCell ⟨p, 4, none⟩ x4).cell? ⟨q, 0, none⟩ = some v :=
  set_keep (set_keep (set_keep (set_keep (set_keep h hne) hne) hne) hne) hne
theorem bel_alloc {B : Nat} {w W : World} (h : Below B w W) (hw : B ≤ w.heap.size) (o : Obj) : Below B w (W.alloc o) := st_below_alloc h (Nat.le_trans hw h.size) o
theorem one_cell {W : World} {p : Nat} {x : Int} (h : W.cell? ⟨p, 0, none⟩ = some (.int .i64 x)) : Reads W (some ⟨p, 0, none⟩) ([x].map (Value.int .i64)) := Or.inr ⟨p, 0, rfl, fun j hj => by
  have : j = 0 := by simp at hj; exact hj
  subst this
  exact h⟩
theorem start_end {W : World} {g cc A C : Nat} (h1 : W.cell? ⟨g, 0, none⟩ = some (.int .i64 5)) (hA : W.cell? ⟨A, 0, none⟩ = some (.int .i64 0)) (hC : W.cell? ⟨C, 0, none⟩ = some (.int .i64 0)) :
    One W ⟨[5], 0, 0, [0], [0], some ⟨g, 0, none⟩, cc, some ⟨A, 0, none⟩, 1, some ⟨C, 0, none⟩, 1⟩ := by
  have f0 : fits 0 := ⟨by decide, by decide⟩
  have f5 : fits 5 := ⟨by decide, by decide⟩
  exact ⟨⟨one_cell h1, by simp [maxLen], fun x hx => by simp at hx; subst hx; exact f5, f0, f0, one_cell hA, by simp [maxLen], fun x hx => by simp at hx; subst hx; exact f0, one_cell hC, by simp [maxLen], fun x hx => by simp at hx; subst hx; exact f0⟩, rfl, rfl, rfl, rfl, rfl⟩
set_option maxHeartbeats 8000000 in
theorem start_one (M : Mo) (w : World) (hi : Reads w M.inits.a [.int .i64 5]) (hn : M.inits.n = 1) (he : M.events.length = 1) :
    Calls Tryd.prog 88 #[M.val] w fun e w' => ∃ s : Sv, e = .returned s.val ∧ One w' s ∧ Below w.heap.size w w' := by
  have hu : ∀ b : Bool, ¬ (some undef = some (Value.bool b)) := fun b h => by cases h
  have HN := Lib.hid hn
  have HE := Lib.hid he
  have HI := Lib.hid hi
  clear hn he hi
  have HMO0 := mo_new w M 70
  have hb1 := mbel_new w (.cells #[.slice M.attrs.a M.attrs.n M.attrs.c, .slice M.inits.a M.inits.n M.inits.c, .slice M.users.a M.users.n M.users.c, .slice M.rolesa M.roles.length M.rolesc, .slice M.stagesa M.stages.length M.stagesc, .slice M.eventsa M.events.length M.eventsc, .slice M.guardsa M.guards.length M.guardsc, .slice M.milesa M.miles.length M.milesc, .slice M.sodsa M.sods.length M.sodsc, .slice M.order.a M.order.n M.order.c] 70)
  have hz1 : (w.alloc (.cells #[.slice M.attrs.a M.attrs.n M.attrs.c, .slice M.inits.a M.inits.n M.inits.c, .slice M.users.a M.users.n M.users.c, .slice M.rolesa M.roles.length M.rolesc, .slice M.stagesa M.stages.length M.stagesc, .slice M.eventsa M.events.length M.eventsc, .slice M.guardsa M.guards.length M.guardsc, .slice M.milesa M.miles.length M.milesc, .slice M.sodsa M.sods.length M.sodsc, .slice M.order.a M.order.n M.order.c] 70)).heap.size = w.heap.size + 1 := by simp
  unfold Mo.val
  go_enter Tryd.func88, Tryd.ntmps88
  go_upto_region 1 with fail
  generalize (w.alloc (.cells #[.slice M.attrs.a M.attrs.n M.attrs.c, .slice M.inits.a M.inits.n M.inits.c, .slice M.users.a M.users.n M.users.c, .slice M.rolesa M.roles.length M.rolesc, .slice M.stagesa M.stages.length M.stagesc, .slice M.eventsa M.events.length M.eventsc, .slice M.guardsa M.guards.length M.guardsc, .slice M.milesa M.miles.length M.milesc, .slice M.sodsa M.sods.length M.sodsc, .slice M.order.a M.order.n M.order.c] 70)) = W1 at *
  have hb2 := mbel_new W1 (.cells #[.slice none 0 0, .int .i64 0, .int .i64 0, .slice none 0 0, .slice none 0 0] 78)
  have hz2 : (W1.alloc (.cells #[.slice none 0 0, .int .i64 0, .int .i64 0, .slice none 0 0, .slice none 0 0] 78)).heap.size = w.heap.size + 1 + 1 := by simp [hz1]
  have hc2 : (W1.alloc (.cells #[.slice none 0 0, .int .i64 0, .int .i64 0, .slice none 0 0, .slice none 0 0] 78)).heap[w.heap.size + 1]? = some (.cells #[.slice none 0 0, .int .i64 0, .int .i64 0, .slice none 0 0, .slice none 0 0] 78 (0, 0)) := by
    have h := heap_alloc_new W1 (.cells #[.slice none 0 0, .int .i64 0, .int .i64 0, .slice none 0 0, .slice none 0 0] 78)
    rw [hz1] at h
    exact h
  generalize (W1.alloc (.cells #[.slice none 0 0, .int .i64 0, .int .i64 0, .slice none 0 0, .slice none 0 0] 78)) = W2 at *
  have HMO := Lib.hid (HMO0.mono hb2 (Nat.le_refl _))
  have HB2 : Hid (Below w.heap.size w W2) := Lib.hid (hb1.trans (hb2.mono hb1.size))
  have m1 : W2.cell? ⟨w.heap.size, 1, none⟩ = some (.slice M.inits.a 1 M.inits.c) := by have := HMO.out.c1; rw [HN.out] at this; exact this
  have m5 : W2.cell? ⟨w.heap.size, 5, none⟩ = some (.slice M.eventsa 1 M.eventsc) := by have := HMO.out.c5; rw [HE.out] at this; exact this
  have HH2 : Hid (∀ W, Below W2.heap.size W2 W → W.cell? ⟨w.heap.size, 1, none⟩ = some (.slice M.inits.a 1 M.inits.c) ∧ W.cell? ⟨w.heap.size, 5, none⟩ = some (.slice M.eventsa 1 M.eventsc) ∧ W.heap[w.heap.size + 1]? = some (.cells #[.slice none 0 0, .int .i64 0, .int .i64 0, .slice none 0 0, .slice none 0 0] 78 (0, 0)) ∧ w.heap.size + 1 < W.heap.size) := Lib.hid fun W hW => ⟨mcell_mono m1 hW (Nat.le_refl _), mcell_mono m5 hW (Nat.le_refl _), by rw [hW.block _ (by omega)]; exact hc2, by have := hW.size; omega⟩
  have HCL : Hid (∀ W, Aft W2 W → Calls Tryd.prog 59 #[.slice M.inits.a 1 M.inits.c] W fun e w' => ∃ g c, e = .returned (.slice (some ⟨g, 0, none⟩) 1 c) ∧ Hid (Reads w' (some ⟨g, 0, none⟩) [.int .i64 5]) ∧ W2.heap.size ≤ g ∧ Below W2.heap.size W2 w' ∧ Hid (Below W.heap.size W w')) := Lib.hid fun W hW0 => by
    have hW := hW0.bel
    refine (clone_any M.inits.a M.inits.c [5] W ((HI.out.mono HB2.out (Nat.le_refl _)).mono hW (Nat.le_refl _)) (by decide) (by decide)).mono ?_
    rintro e w' ⟨v, rfl, ho, hb⟩
    obtain ⟨g, cap, rfl, hg, hr⟩ := own_reads1 ho
    exact ⟨g, cap, rfl, Lib.hid hr, Nat.le_trans hW.size hg, hW.trans (hb.mono hW.size), Lib.hid hb⟩
  have hc20 := cell_of_row W2 (w.heap.size + 1) 0 _ _ _ hc2
  have hc21 := cell_of_row W2 (w.heap.size + 1) 1 _ _ _ hc2
  have hc22 := cell_of_row W2 (w.heap.size + 1) 2 _ _ _ hc2
  have hc23 := cell_of_row W2 (w.heap.size + 1) 3 _ _ _ hc2
  have hc24 := cell_of_row W2 (w.heap.size + 1) 4 _ _ _ hc2
  clear HMO0 hb1 hz1 hb2
  have hmk := make1_run
  go_region_held3 (fun w' => w'.cell? ⟨w.heap.size, 1, none⟩ = some (.slice M.inits.a 1 M.inits.c) ∧ w'.cell? ⟨w.heap.size, 5, none⟩ = some (.slice M.eventsa 1 M.eventsc))
    (first | with_reducible exact ⟨m1, m5⟩ | with_reducible exact ⟨m1', m5'⟩ | (constructor <;> repeat (first | with_reducible assumption | with_reducible refine alloc_keep ?_ | with_reducible refine set_keep ?_ (by simp) | with_reducible refine drew_keep ?_)))
    (first | (go_at_call 59; (with_reducible refine (HCL.out _ (by repeat (first | exact Aft.refl | refine Aft.alloc _ _ ?_ | refine Aft.drew _ ?_ | refine Aft.drewN _ _ ?_))).mono ?_); rintro e w3 ⟨g, cc, rfl, hr, hg, hb, hb3⟩; obtain ⟨m1', m5', hc3, hz3⟩ := HH2.out _ hb; have b0 := cell_of_row w3 (w.heap.size + 1) 0 _ _ _ hc3; have b1 := cell_of_row w3 (w.heap.size + 1) 1 _ _ _ hc3; have b2 := cell_of_row w3 (w.heap.size + 1) 2 _ _ _ hc3; have b3 := cell_of_row w3 (w.heap.size + 1) 3 _ _ _ hc3; have b4 := cell_of_row w3 (w.heap.size + 1) 4 _ _ _ hc3; have g0 := frozen_of_row w3 (w.heap.size + 1) 0 _ _ hc3; have g1 := frozen_of_row w3 (w.heap.size + 1) 1 _ _ hc3; have g2 := frozen_of_row w3 (w.heap.size + 1) 2 _ _ hc3; have g3 := frozen_of_row w3 (w.heap.size + 1) 3 _ _ hc3; have g4 := frozen_of_row w3 (w.heap.size + 1) 4 _ _ hc3; simp at b0 b1 b2 b3 b4; have HB3 := Lib.hid hb; have m5a : ∀ o, (w3.alloc o).cell? ⟨w.heap.size, 5, none⟩ = some (.slice M.eventsa 1 M.eventsc) := fun o => mcell_mono m5' (mbel_new w3 o) (Nat.le_refl _); have m5b : ∀ o o2, ((w3.alloc o).alloc o2).cell? ⟨w.heap.size, 5, none⟩ = some (.slice M.eventsa 1 M.eventsc) := fun o o2 => mcell_mono (m5a o) (mbel_new _ o2) (Nat.le_refl _); have hz4 : w.heap.size < w3.heap.size := Nat.lt_of_succ_lt hz3; clear hb))
  all_goals
    have hg5 : w3.cell? ⟨g, 0, none⟩ = some (.int .i64 5) := by
      obtain ⟨b, off, e1, hc⟩ := hr.out.at (by simp)
      injection e1 with e1
      injection e1 with e1 e2 _
      subst e1 e2
      exact hc 0 (by simp)
    have hgn : g ≠ w.heap.size + 1 := by omega
    have hn1 : w.heap.size + 1 + 1 ≠ w.heap.size + 1 := by omega
    have hn2 : w.heap.size + 1 + 1 + 1 ≠ w.heap.size + 1 := by omega
    have hlt3 : w.heap.size + 1 < w3.heap.size := hz3
    go_wp2_with fail
    first
      | refine ret_state (p := w.heap.size + 1) (x0 := .slice (some ⟨g, 0, none⟩) 1 cc) (x1 := .int .i64 0) (x2 := .int .i64 0) rfl rfl (fun j u hj => by repeat (first | with_reducible exact five_cells hc3 j u hj | with_reducible refine alloc_keep ?_)) ⟨_, rfl, start_end (cc := cc) ?_ ?_ ?_, ?_⟩
      | skip
    · first
        | with_reducible exact sets_keep hg5 hgn
        | with_reducible exact alloc_keep (sets_keep hg5 hgn)
        | with_reducible exact alloc_keep (alloc_keep (sets_keep hg5 hgn))
    · first
        | with_reducible exact new_cell size_sets
        | with_reducible exact new_cell (size_alloc size_sets)
        | with_reducible exact alloc_keep (new_cell size_sets)
        | with_reducible exact alloc_keep (sets_keep (mcell_mono (drew_keep (new_cell hz2)) hb3.out (Nat.le_refl _)) hn1)
        | with_reducible exact sets_keep (mcell_mono (drew_keep (new_cell (size_alloc hz2))) hb3.out (Nat.le_refl _)) hn2
        | with_reducible exact sets_keep (mcell_mono (drew_keep (alloc_keep (new_cell hz2))) hb3.out (Nat.le_refl _)) hn1
    · first
        | with_reducible exact new_cell size_sets
        | with_reducible exact new_cell (size_alloc size_sets)
        | with_reducible exact alloc_keep (new_cell size_sets)
        | with_reducible exact alloc_keep (sets_keep (mcell_mono (drew_keep (new_cell hz2)) hb3.out (Nat.le_refl _)) hn1)
        | with_reducible exact sets_keep (mcell_mono (drew_keep (new_cell (size_alloc hz2))) hb3.out (Nat.le_refl _)) hn2
        | with_reducible exact sets_keep (mcell_mono (drew_keep (alloc_keep (new_cell hz2))) hb3.out (Nat.le_refl _)) hn1
    · have hw3 : Below w.heap.size w w3 := HB2.out.trans (HB3.out.mono HB2.out.size)
      have hs : ∀ x0 x1 x2 x3 x4, Below w.heap.size w (((((w3.setCell ⟨w.heap.size + 1, 0, none⟩ x0).setCell ⟨w.heap.size + 1, 1, none⟩ x1).setCell ⟨w.heap.size + 1, 2, none⟩ x2).setCell ⟨w.heap.size + 1, 3, none⟩ x3).setCell ⟨w.heap.size + 1, 4, none⟩ x4) := fun x0 x1 x2 x3 x4 => ((((hw3.setCell (p := ⟨w.heap.size + 1, 0, none⟩) (Nat.le_succ _) x0).setCell (p := ⟨w.heap.size + 1, 1, none⟩) (Nat.le_succ _) x1).setCell (p := ⟨w.heap.size + 1, 2, none⟩) (Nat.le_succ _) x2).setCell (p := ⟨w.heap.size + 1, 3, none⟩) (Nat.le_succ _) x3).setCell (p := ⟨w.heap.size + 1, 4, none⟩) (Nat.le_succ _) x4
      first
        | with_reducible exact hs _ _ _ _ _
        | with_reducible exact bel_alloc (hs _ _ _ _ _) (Nat.le_refl _) _
        | with_reducible exact bel_alloc (bel_alloc (hs _ _ _ _ _) (Nat.le_refl _) _) (Nat.le_refl _) _
end Go.Proofs.YtbplkphjjfgkmaaDoor
