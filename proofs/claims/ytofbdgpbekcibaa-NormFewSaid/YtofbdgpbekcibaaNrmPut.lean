/-
  Norm: a maker in memory; how a step is put.
-/
import Derived.Test.YtofbdgpbekcibaaNrmTab
import Derived.Deep.RegionLaw
import Derived.Deep.Cut
import Derived.Deep.CutRange
namespace Go.Proofs.Ytofbdgpbekcibaa
open Go.RowKit Go.Maps
set_option linter.unusedVariables false
set_option linter.unusedSimpArgs false

abbrev RDat := DataW Unit
def i64R (n : Int) : RDat := .lit (.int .i64 n)
theorem infoStep : (Try.prog.info? 73).map (fun i => (i.zero, i.size, i.bytes)) = some (some (.agg #[.int .i64 0, .int .i64 0, .int .i64 0, .int .i64 0, .int .i64 0, .int .i64 0, .int .i64 0, .int .i64 0, .int .i64 0, .int .i64 0]), 10, 80) := by kernel_rfl
structure MapS (D : RDat) (S : List Sp) : Prop where
  map : IsMap D
  yes : ∀ x, x ∈ S → Maps.has D x.key = true
  no : ∀ x, x.ok → x ∉ S → Maps.has D x.key = false
  at_ : ∀ (i : Nat) (x : Sp) (z : RDat), S[i]? = some x → D.atKey x.key z = i64R i
theorem MapS.empty : MapS (.map []) [] := ⟨isMap_empty, by simp, fun _ _ _ => rfl, by simp⟩
theorem MapS.put {D : RDat} {S : List Sp} (h : MapS D S) (hS : ∀ y ∈ S, y.ok) (x : Sp) (hx : x.ok) (hn : x ∉ S) : MapS (D.put x.key (i64R S.length)) (S ++ [x]) := by
  refine ⟨h.map.put _ _, fun y hy => ?_, fun y hyo hy => ?_, fun i y z hi => ?_⟩
  · by_cases e : y = x
    · subst e; exact has_put_same h.map (key_lit hx) _
    · have hyS : y ∈ S := by
        rcases List.mem_append.1 hy with h1 | h1
        · exact h1
        · exact absurd (List.mem_singleton.1 h1) e
      rw [has_put_other (fun e2 => e (key_inj (hS y hyS) hx e2))]
      exact h.yes y hyS
  · rw [List.mem_append, List.mem_singleton, not_or] at hy
    rw [has_put_other (fun e2 => hy.2 (key_inj hyo hx e2))]
    exact h.no y hyo hy.1
  · rw [List.getElem?_append] at hi
    split at hi
    · have hm : y ∈ S := List.mem_of_getElem? hi
      rw [atKey_put_other (fun e2 => by have h3 := key_inj (hS y hm) hx e2; subst h3; exact hn hm)]
      exact h.at_ i y z hi
    · rename_i h1
      have h2 : i - S.length = 0 := by
        have := (List.getElem?_eq_some_iff.1 hi).1
        simp at this; omega
      rw [h2] at hi
      simp at hi
      subst hi
      have h3 : i = S.length := by omega
      subst h3
      exact atKey_put_same h.map (key_lit hx) _ z
/-- At p lies a maker of the steps S. -/
structure IsK (w : World) (B p : Nat) (vs : Value) (b : Nat) (D : RDat) (S : List Sp) : Prop where
  block : w.heap[p]? = some (.cells #[vs, .map (some b)] 120 (0, 0))
  out : w.ownsRow B 73 10 vs S.length (Rec.flat Sp.cells S)
  map : w.ownsMap Try.prog 73 (plainElem Try.prog 3) b S.length D
  md : MapS D S
  base : B ≤ p
  base1 : B ≤ b
  oks : ∀ x ∈ S, x.ok
theorem rmap_blk {H : Type} {w : World} {P : Program} {k : TypeId} {R : Value → Option (DataW H × List MemPlace)} {b n : Nat} {D : DataW H} (h : w.ownsMap P k R b n D) : ∃ es c, w.heap[b]? = some (.map es c) := by
  obtain ⟨es, c, hb, _⟩ := h
  exact ⟨es, c, hb⟩
theorem rmap_keep {H : Type} {w w' : World} {P : Program} {k : TypeId} {R : Value → Option (DataW H × List MemPlace)} {b n : Nat} {D : DataW H} (h : w.ownsMap P k R b n D) (hb : w'.heap[b]? = w.heap[b]?) : w'.ownsMap P k R b n D := by
  obtain ⟨es, c, h1, h2⟩ := h
  exact ⟨es, c, hb.trans h1, h2⟩
theorem rrow_keep {w w' : World} {B n size : Nat} {e : TypeId} {v : Value} {xs : List Value} (h : w.ownsRow B e size v n xs) (hb : ∀ k, v.ownBlock = some k → w'.heap[k]? = w.heap[k]?) : w'.ownsRow B e size v n xs := by
  refine ⟨h.1, ?_⟩
  rcases h.2 with hn | ⟨g, cap, cur, rfl, hbg, hgg, rest⟩
  · exact .inl hn
  · exact .inr ⟨g, cap, cur, rfl, hbg, by rw [hb g rfl]; exact hgg, rest⟩
theorem rrow_blk {w : World} {B n size : Nat} {e : TypeId} {v : Value} {xs : List Value} (h : w.ownsRow B e size v n xs) {k : Nat} (hk : v.ownBlock = some k) : ∃ cs fz, w.heap[k]? = some (.cells cs e fz) := by
  rcases h.2 with ⟨rfl, _⟩ | ⟨g, cap, cur, rfl, _, hg, _⟩
  · cases hk
  · simp [Value.ownBlock] at hk
    subst hk
    exact ⟨_, _, hg⟩
theorem rbel_new (w : World) (o : Obj) : Below w.heap.size w (w.alloc o) := (Below.refl _ _).alloc (Nat.le_refl _) o
theorem rrbelow_dn {B : Nat} {a w : World} (h : Below B a w) (n : Nat) : Below B a (w.drewN n) := ⟨h.os, h.tape, h.output, h.size, h.block⟩
section
variable {w W2 : World} {B p b : Nat} {vs : Value} {D : RDat} {S : List Sp}
theorem IsK.still (h : IsK w B p vs b D S) (hb : Below w.heap.size w W2) : IsK W2 B p vs b D S :=
  ⟨(hb.block _ (Array.getElem?_eq_some_iff.1 h.block).1).trans h.block, rrow_keep h.out (fun k hk => hb.block k (h.out.lt k hk).2), rmap_keep h.map (hb.block b h.map.lt), h.md, h.base, h.base1, h.oks⟩
theorem IsK.sep (h : IsK w B p vs b D S) : p ≠ b ∧ (∀ k, vs.ownBlock = some k → k ≠ p ∧ k ≠ b) := by
  obtain ⟨es, c, hm⟩ := rmap_blk h.map
  refine ⟨fun e => ?_, fun k hk => ⟨fun e => ?_, fun e => ?_⟩⟩
  · subst e; have := h.block; rw [hm] at this; simp at this
  · obtain ⟨cs, fz, hb⟩ := rrow_blk h.out hk
    subst e; have := h.block; rw [hb] at this; simp at this
  · obtain ⟨cs, fz, hb⟩ := rrow_blk h.out hk
    subst e; rw [hm] at hb; simp at hb
end
/-- While a step is put. -/
structure Mk (w0 W : World) (v0 : Value) (B p X : Nat) (xs : Array Value) (v : Value) (b n : Nat) (D : RDat) (S : List Sp) : Prop where
  block : W.heap[p]? = some (.cells #[v, .map (some b)] 120 (0, 0))
  out : W.ownsRow B 73 10 v S.length (Rec.flat Sp.cells S)
  map : W.ownsMap Try.prog 73 (plainElem Try.prog 3) b n D
  box : W.heap[X]? = some (.cells xs 73 (0, 0))
  below : Below B w0 W
  base : B ≤ p
  base1 : B ≤ b
  hB : B ≤ w0.heap.size
  boxv : v.ownBlock ≠ some X
  frm : ∀ k, k < w0.heap.size → k ≠ p → k ≠ b → v0.ownBlock ≠ some k → W.heap[k]? = w0.heap[k]? ∧ v.ownBlock ≠ some k
section
variable {w0 W W2 : World} {B p X b n : Nat} {xs : Array Value} {v v0 : Value} {D : RDat} {S : List Sp}
theorem Mk.sep (h : Mk w0 W v0 B p X xs v b n D S) : p ≠ b ∧ X ≠ b ∧ X ≠ p ∧ (∀ k, v.ownBlock = some k → k ≠ p ∧ k ≠ b) := by
  obtain ⟨es, c, hm⟩ := rmap_blk h.map
  refine ⟨fun e => ?_, fun e => ?_, fun e => ?_, fun k hk => ⟨fun e => ?_, fun e => ?_⟩⟩
  · subst e; have := h.block; rw [hm] at this; simp at this
  · subst e; have := h.box; rw [hm] at this; simp at this
  · subst e; have h1 := h.block; have h2 := h.box; rw [h1] at h2; simp at h2
  · obtain ⟨cs, fz, hb⟩ := rrow_blk h.out hk
    subst e; have := h.block; rw [hb] at this; simp at this
  · obtain ⟨cs, fz, hb⟩ := rrow_blk h.out hk
    subst e; rw [hm] at hb; simp at hb
theorem Mk.hsz (h : Mk w0 W v0 B p X xs v b n D S) : B ≤ W.heap.size := Nat.le_trans h.hB h.below.size
theorem Mk.drewN (h : Mk w0 W v0 B p X xs v b n D S) (d : Nat) : Mk w0 (W.drewN d) v0 B p X xs v b n D S :=
  ⟨h.block, h.out, h.map, h.box, rrbelow_dn h.below d, h.base, h.base1, h.hB, h.boxv, h.frm⟩
theorem Mk.grow (h : Mk w0 W v0 B p X xs v b n D S) {g cap : Nat} {x : Sp} (ho : W2.ownsRow B 73 10 (.slice (some ⟨g, 0, none⟩) (S.length + 1) cap) (S.length + 1) (Rec.flat Sp.cells S ++ x.cells)) (hk : Keeps (fun k => v.ownBlock = some k) W W2) (hg : v.ownBlock = some g ∨ W.heap.size ≤ g) :
    Mk w0 (W2.setCell ⟨p, 0, none⟩ (.slice (some ⟨g, 0, none⟩) (S.length + 1) cap)) v0 B p X xs (.slice (some ⟨g, 0, none⟩) (S.length + 1) cap) b n D (S ++ [x]) ∧ W2.cell? ⟨p, 0, none⟩ = some v ∧ W2.frozen? ⟨p, 0, none⟩ = false := by
  have hs := h.sep
  have hp : W2.heap[p]? = some (.cells #[v, .map (some b)] 120 (0, 0)) := (hk.block _ (Array.getElem?_eq_some_iff.1 h.block).1 (fun e => (hs.2.2.2 _ e).1 rfl)).trans h.block
  have hX : W2.heap[X]? = _ := (hk.block _ (Array.getElem?_eq_some_iff.1 h.box).1 h.boxv).trans h.box
  have hm : W2.heap[b]? = W.heap[b]? := hk.block _ h.map.lt (fun e => (hs.2.2.2 _ e).2 rfl)
  have hgp : g ≠ p := fun e => by
    rcases hg with h1 | h1
    · exact (hs.2.2.2 g h1).1 e
    · have := (Array.getElem?_eq_some_iff.1 h.block).1; omega
  refine ⟨⟨heap_setCell_same W2 p 0 _ _ _ hp, ?_, rmap_keep h.map ((Below.heap_setCell _ _ _ _ (fun e => hs.1 e.symm)).trans hm), (Below.heap_setCell _ _ _ _ hs.2.2.1).trans hX, (h.below.trans (hk.below (fun k e => (h.out.lt k e).1) h.hsz)).setCell (p := ⟨p, 0, none⟩) h.base _, h.base, h.base1, h.hB, ?_, ?_⟩, cell_of_row W2 p 0 _ _ _ hp, ?_⟩
  · rw [List.length_append, List.length_singleton, Rec.flat_snoc]
    exact rrow_keep ho (fun k e => Below.heap_setCell _ _ _ _ (by simp [Value.ownBlock] at e; subst e; exact hgp))
  · intro e
    simp [Value.ownBlock] at e
    rcases hg with h1 | h1
    · rw [e] at h1; exact h.boxv h1
    · have := (Array.getElem?_eq_some_iff.1 h.box).1; omega
  · intro k hk0 h1 h2 h3
    have hf := h.frm k hk0 h1 h2 h3
    have hsz := h.below.size
    refine ⟨((Below.heap_setCell _ _ _ _ h1).trans (hk.block _ (by omega) hf.2)).trans hf.1, ?_⟩
    intro e
    simp [Value.ownBlock] at e
    subst e
    rcases hg with h4 | h4
    · exact hf.2 h4
    · omega
  · unfold World.frozen?; rw [hp]; simp
theorem Mk.store (h : Mk w0 W v0 B p X xs v b n D S) {D' : RDat} {n' : Nat} (hm : W2.ownsMap Try.prog 73 (plainElem Try.prog 3) b n' D') (hg : W.grownBy W2 (some b)) : Mk w0 W2 v0 B p X xs v b n' D' S := by
  have hs := h.sep
  exact ⟨(hg.block _ (Array.getElem?_eq_some_iff.1 h.block).1 (fun e => hs.1 (Option.some.inj e))).trans h.block, rrow_keep h.out (fun k e => hg.block k (h.out.lt k e).2 (fun e2 => (hs.2.2.2 k e).2 (Option.some.inj e2))), hm, (hg.block _ (Array.getElem?_eq_some_iff.1 h.box).1 (fun e => hs.2.1 (Option.some.inj e))).trans h.box,
    h.below.grown hg h.hsz (fun k e => by cases e; exact h.base1), h.base, h.base1, h.hB, h.boxv, fun k hk0 h1 h2 h3 => ⟨(hg.block k (Nat.lt_of_lt_of_le hk0 h.below.size) (fun e => h2 (Option.some.inj e))).trans (h.frm k hk0 h1 h2 h3).1, (h.frm k hk0 h1 h2 h3).2⟩⟩
end
theorem kwp_gen {P : Program} {c : Code} {Q : Exit → Act → World → Prop} {a : Act} {F : Nat → World} {R : World → Prop} (hF : ∀ m, R (F m)) (h : ∀ W, R W → Code.wp P c Q a W) (m : Nat) : Code.wp P c Q a (F m) := h _ (hF m)
theorem box_cells {W : World} {X : Nat} {x : Sp} (h : W.heap[X]? = some (.cells #[.int .i64 x.op, .int .i64 x.a, .int .i64 x.b, .int .i64 x.t0, .int .i64 x.t1, .int .i64 x.t2, .int .i64 x.t3, .int .i64 x.t4, .int .i64 x.t5, .int .i64 x.t6] 73 (0, 0))) :
    W.cell? ⟨X, 0, none⟩ = some (.int .i64 x.op) ∧ W.cell? ⟨X, 1, none⟩ = some (.int .i64 x.a) ∧ W.cell? ⟨X, 2, none⟩ = some (.int .i64 x.b) ∧ W.cell? ⟨X, 3, none⟩ = some (.int .i64 x.t0) ∧ W.cell? ⟨X, 4, none⟩ = some (.int .i64 x.t1) ∧ W.cell? ⟨X, 5, none⟩ = some (.int .i64 x.t2) ∧ W.cell? ⟨X, 6, none⟩ = some (.int .i64 x.t3) ∧ W.cell? ⟨X, 7, none⟩ = some (.int .i64 x.t4) ∧ W.cell? ⟨X, 8, none⟩ = some (.int .i64 x.t5) ∧ W.cell? ⟨X, 9, none⟩ = some (.int .i64 x.t6) :=
  ⟨cell_of_row W X 0 _ _ _ h, cell_of_row W X 1 _ _ _ h, cell_of_row W X 2 _ _ _ h, cell_of_row W X 3 _ _ _ h, cell_of_row W X 4 _ _ _ h, cell_of_row W X 5 _ _ _ h, cell_of_row W X 6 _ _ _ h, cell_of_row W X 7 _ _ _ h, cell_of_row W X 8 _ _ _ h, cell_of_row W X 9 _ _ _ h⟩
/-- The steps with one more, if it is none of them. -/
def addL (S : List Sp) (x : Sp) : List Sp := if x ∈ S then S else S ++ [x]
/-- What of old blocks stays. -/
def Frm (w : World) (p b : Nat) (vs : Value) (w' : World) (vs' : Value) : Prop := ∀ k, k < w.heap.size → k ≠ p → k ≠ b → vs.ownBlock ≠ some k → w'.heap[k]? = w.heap[k]? ∧ vs'.ownBlock ≠ some k
/-- What a maker's call answers: a number, among these steps. -/
def KR (w : World) (B p b : Nat) (vs : Value) (A : List Sp × Nat) (e : Ending) (w' : World) : Prop :=
  e = .returned (.int .i64 ((A.2 : Nat) : Int)) ∧ Below B w w' ∧ ∃ vs' D', IsK w' B p vs' b D' A.1 ∧ Frm w p b vs w' vs'
theorem Frm.still {w w2 w' : World} {p b : Nat} {vs vs' : Value} (h : Frm w p b vs w2 vs') (hb : Below w2.heap.size w2 w') (hs : w.heap.size ≤ w2.heap.size) : Frm w p b vs w' vs' := fun k hk h1 h2 h3 => ⟨(hb.block k (by omega)).trans (h k hk h1 h2 h3).1, (h k hk h1 h2 h3).2⟩
theorem Frm.refl (w : World) (p b : Nat) (vs : Value) : Frm w p b vs w vs := fun k hk h1 h2 h3 => ⟨rfl, h3⟩
theorem Frm.trans {w w2 w' : World} {p b : Nat} {vs v2 vs' : Value} (h : Frm w p b vs w2 v2) (h' : Frm w2 p b v2 w' vs') (hs : w.heap.size ≤ w2.heap.size) : Frm w p b vs w' vs' := fun k hk h1 h2 h3 =>
  have a := h k hk h1 h2 h3
  have c := h' k (by omega) h1 h2 a.2
  ⟨c.1.trans a.1, c.2⟩
/-- What putting answers: the step's number among the steps. -/
def PutR (w : World) (B p b : Nat) (vs : Value) (S : List Sp) (x : Sp) (e : Ending) (w' : World) : Prop :=
  KR w B p b vs (addL S x, (addL S x).idxOf x) e w'
theorem addL_old {S : List Sp} {x : Sp} (h : x ∈ S) : addL S x = S := by unfold addL; rw [if_pos h]
theorem addL_new {S : List Sp} {x : Sp} (h : x ∉ S) : addL S x = S ++ [x] := by unfold addL; rw [if_neg h]
theorem idx_new {S : List Sp} {x : Sp} (h : x ∉ S) : (S ++ [x]).idxOf x = S.length := by
  rw [List.idxOf_append, if_neg h]; simp
theorem look_step {W : World} {b n : Nat} {D : RDat} (hm : W.ownsMap Try.prog 73 (plainElem Try.prog 3) b n D) (x : Sp) (hx : x.ok) :
    ∃ c, (∀ d, (Instr.lookup 118 (.map (some b)) x.val true).run Try.prog (W.drewN d) = .ok (.tuple #[.int .i64 c, .bool (Maps.has D x.key)]) (W.drewN d)) ∧ D.atKey x.key (i64R 0) = i64R c := by
  have each : ∀ d, ∃ c, (Instr.lookup 118 (.map (some b)) x.val true).run Try.prog (W.drewN d) = .ok (.tuple #[.int .i64 c, .bool (Maps.has D x.key)]) (W.drewN d) ∧ D.atKey x.key (i64R 0) = i64R c := fun d => by
    have hm' : (W.drewN d).ownsMap Try.prog 73 (plainElem Try.prog 3) b n D := rmap_keep hm rfl
    obtain ⟨v, ps, hrun, hv⟩ := hm'.look_ok lawK Try.underlying118 (rzeroI _) (plainElem_int Try.underlying3 (by decide)) (keyStep x hx)
    obtain ⟨c, rfl, hc, _⟩ := plainElem_int_inv Try.underlying3 hv
    exact ⟨c, hrun, congrArg Prod.fst hc⟩
  obtain ⟨c, _, hc⟩ := each 0
  refine ⟨c, fun d => ?_, hc⟩
  obtain ⟨c', h1, h2⟩ := each d
  have : c' = c := by
    have := h2.symm.trans hc
    simpa [i64R] using this
  rw [← this]; exact h1
theorem put_step {W : World} {b n : Nat} {D : RDat} (hm : W.ownsMap Try.prog 73 (plainElem Try.prog 3) b n D) (hn : n ≤ 100000) (x : Sp) (hx : x.ok) (i : Nat) (hi : i ≤ 100000) :
    ∃ f : Nat → World, ∀ d, (Instr.mapUpdate 118 (.map (some b)) x.val (.int .i64 (i : Nat))).run Try.prog (W.drewN d) = .ok () (f d) ∧ (f d).ownsMap Try.prog 73 (plainElem Try.prog 3) b (n + 1) (D.put x.key (i64R i)) ∧ (W.drewN d).grownBy (f d) (some b) := by
  have each : ∀ d, ∃ w', (Instr.mapUpdate 118 (.map (some b)) x.val (.int .i64 (i : Nat))).run Try.prog (W.drewN d) = .ok () w' ∧ w'.ownsMap Try.prog 73 (plainElem Try.prog 3) b (n + 1) (D.put x.key (i64R i)) ∧ (W.drewN d).grownBy w' (some b) := fun d =>
    (rmap_keep hm rfl : (W.drewN d).ownsMap Try.prog 73 (plainElem Try.prog 3) b n D).update lawK Try.underlying118 (by unfold maxLen; omega) (keyStep x hx) (plainElem_int Try.underlying3 (by simp [Lit.wf, IntKind.min, IntKind.max, IntKind.signed, IntKind.bits]; omega))
  exact Classical.axiomOfChoice each
set_option maxRecDepth 100000 in
set_option maxHeartbeats 2000000 in
theorem kput_any {w : World} {B p b : Nat} {vs : Value} {D : RDat} {S : List Sp} (h : IsK w B p vs b D S) (hB : B ≤ w.heap.size) (hS : S.length ≤ 10000) (x : Sp) (hx : x.ok) :
    Calls Try.prog 74 #[.pointer (some ⟨p, 0, none⟩), x.val] w (PutR w B p b vs S x) := by
  have h1 := h.still (rbel_new w (.cells #[.int .i64 x.op, .int .i64 x.a, .int .i64 x.b, .int .i64 x.t0, .int .i64 x.t1, .int .i64 x.t2, .int .i64 x.t3, .int .i64 x.t4, .int .i64 x.t5, .int .i64 x.t6] 73))
  have hx1 : (w.alloc (.cells #[.int .i64 x.op, .int .i64 x.a, .int .i64 x.b, .int .i64 x.t0, .int .i64 x.t1, .int .i64 x.t2, .int .i64 x.t3, .int .i64 x.t4, .int .i64 x.t5, .int .i64 x.t6] 73)).heap[w.heap.size]? = some (.cells #[.int .i64 x.op, .int .i64 x.a, .int .i64 x.b, .int .i64 x.t0, .int .i64 x.t1, .int .i64 x.t2, .int .i64 x.t3, .int .i64 x.t4, .int .i64 x.t5, .int .i64 x.t6] 73 (0, 0)) := heap_alloc_new w _
  have d1 := cell_of_row (w.alloc (.cells #[.int .i64 x.op, .int .i64 x.a, .int .i64 x.b, .int .i64 x.t0, .int .i64 x.t1, .int .i64 x.t2, .int .i64 x.t3, .int .i64 x.t4, .int .i64 x.t5, .int .i64 x.t6] 73)) p 1 _ _ _ h1.block
  have d0 := cell_of_row (w.alloc (.cells #[.int .i64 x.op, .int .i64 x.a, .int .i64 x.b, .int .i64 x.t0, .int .i64 x.t1, .int .i64 x.t2, .int .i64 x.t3, .int .i64 x.t4, .int .i64 x.t5, .int .i64 x.t6] 73)) p 0 _ _ _ h1.block
  simp only [List.getElem?_toArray, List.getElem?_cons_zero, List.getElem?_cons_succ] at d0 d1
  have x0 : (w.alloc (.cells #[.int .i64 x.op, .int .i64 x.a, .int .i64 x.b, .int .i64 x.t0, .int .i64 x.t1, .int .i64 x.t2, .int .i64 x.t3, .int .i64 x.t4, .int .i64 x.t5, .int .i64 x.t6] 73)).cell? ⟨w.heap.size, 0, none⟩ = some (.int .i64 x.op) := cell_of_row (w.alloc (.cells #[.int .i64 x.op, .int .i64 x.a, .int .i64 x.b, .int .i64 x.t0, .int .i64 x.t1, .int .i64 x.t2, .int .i64 x.t3, .int .i64 x.t4, .int .i64 x.t5, .int .i64 x.t6] 73)) w.heap.size 0 _ _ _ hx1
  have x1 : (w.alloc (.cells #[.int .i64 x.op, .int .i64 x.a, .int .i64 x.b, .int .i64 x.t0, .int .i64 x.t1, .int .i64 x.t2, .int .i64 x.t3, .int .i64 x.t4, .int .i64 x.t5, .int .i64 x.t6] 73)).cell? ⟨w.heap.size, 1, none⟩ = some (.int .i64 x.a) := cell_of_row (w.alloc (.cells #[.int .i64 x.op, .int .i64 x.a, .int .i64 x.b, .int .i64 x.t0, .int .i64 x.t1, .int .i64 x.t2, .int .i64 x.t3, .int .i64 x.t4, .int .i64 x.t5, .int .i64 x.t6] 73)) w.heap.size 1 _ _ _ hx1
  have x2 : (w.alloc (.cells #[.int .i64 x.op, .int .i64 x.a, .int .i64 x.b, .int .i64 x.t0, .int .i64 x.t1, .int .i64 x.t2, .int .i64 x.t3, .int .i64 x.t4, .int .i64 x.t5, .int .i64 x.t6] 73)).cell? ⟨w.heap.size, 2, none⟩ = some (.int .i64 x.b) := cell_of_row (w.alloc (.cells #[.int .i64 x.op, .int .i64 x.a, .int .i64 x.b, .int .i64 x.t0, .int .i64 x.t1, .int .i64 x.t2, .int .i64 x.t3, .int .i64 x.t4, .int .i64 x.t5, .int .i64 x.t6] 73)) w.heap.size 2 _ _ _ hx1
  have x3 : (w.alloc (.cells #[.int .i64 x.op, .int .i64 x.a, .int .i64 x.b, .int .i64 x.t0, .int .i64 x.t1, .int .i64 x.t2, .int .i64 x.t3, .int .i64 x.t4, .int .i64 x.t5, .int .i64 x.t6] 73)).cell? ⟨w.heap.size, 3, none⟩ = some (.int .i64 x.t0) := cell_of_row (w.alloc (.cells #[.int .i64 x.op, .int .i64 x.a, .int .i64 x.b, .int .i64 x.t0, .int .i64 x.t1, .int .i64 x.t2, .int .i64 x.t3, .int .i64 x.t4, .int .i64 x.t5, .int .i64 x.t6] 73)) w.heap.size 3 _ _ _ hx1
  have x4 : (w.alloc (.cells #[.int .i64 x.op, .int .i64 x.a, .int .i64 x.b, .int .i64 x.t0, .int .i64 x.t1, .int .i64 x.t2, .int .i64 x.t3, .int .i64 x.t4, .int .i64 x.t5, .int .i64 x.t6] 73)).cell? ⟨w.heap.size, 4, none⟩ = some (.int .i64 x.t1) := cell_of_row (w.alloc (.cells #[.int .i64 x.op, .int .i64 x.a, .int .i64 x.b, .int .i64 x.t0, .int .i64 x.t1, .int .i64 x.t2, .int .i64 x.t3, .int .i64 x.t4, .int .i64 x.t5, .int .i64 x.t6] 73)) w.heap.size 4 _ _ _ hx1
  have x5 : (w.alloc (.cells #[.int .i64 x.op, .int .i64 x.a, .int .i64 x.b, .int .i64 x.t0, .int .i64 x.t1, .int .i64 x.t2, .int .i64 x.t3, .int .i64 x.t4, .int .i64 x.t5, .int .i64 x.t6] 73)).cell? ⟨w.heap.size, 5, none⟩ = some (.int .i64 x.t2) := cell_of_row (w.alloc (.cells #[.int .i64 x.op, .int .i64 x.a, .int .i64 x.b, .int .i64 x.t0, .int .i64 x.t1, .int .i64 x.t2, .int .i64 x.t3, .int .i64 x.t4, .int .i64 x.t5, .int .i64 x.t6] 73)) w.heap.size 5 _ _ _ hx1
  have x6 : (w.alloc (.cells #[.int .i64 x.op, .int .i64 x.a, .int .i64 x.b, .int .i64 x.t0, .int .i64 x.t1, .int .i64 x.t2, .int .i64 x.t3, .int .i64 x.t4, .int .i64 x.t5, .int .i64 x.t6] 73)).cell? ⟨w.heap.size, 6, none⟩ = some (.int .i64 x.t3) := cell_of_row (w.alloc (.cells #[.int .i64 x.op, .int .i64 x.a, .int .i64 x.b, .int .i64 x.t0, .int .i64 x.t1, .int .i64 x.t2, .int .i64 x.t3, .int .i64 x.t4, .int .i64 x.t5, .int .i64 x.t6] 73)) w.heap.size 6 _ _ _ hx1
  have x7 : (w.alloc (.cells #[.int .i64 x.op, .int .i64 x.a, .int .i64 x.b, .int .i64 x.t0, .int .i64 x.t1, .int .i64 x.t2, .int .i64 x.t3, .int .i64 x.t4, .int .i64 x.t5, .int .i64 x.t6] 73)).cell? ⟨w.heap.size, 7, none⟩ = some (.int .i64 x.t4) := cell_of_row (w.alloc (.cells #[.int .i64 x.op, .int .i64 x.a, .int .i64 x.b, .int .i64 x.t0, .int .i64 x.t1, .int .i64 x.t2, .int .i64 x.t3, .int .i64 x.t4, .int .i64 x.t5, .int .i64 x.t6] 73)) w.heap.size 7 _ _ _ hx1
  have x8 : (w.alloc (.cells #[.int .i64 x.op, .int .i64 x.a, .int .i64 x.b, .int .i64 x.t0, .int .i64 x.t1, .int .i64 x.t2, .int .i64 x.t3, .int .i64 x.t4, .int .i64 x.t5, .int .i64 x.t6] 73)).cell? ⟨w.heap.size, 8, none⟩ = some (.int .i64 x.t5) := cell_of_row (w.alloc (.cells #[.int .i64 x.op, .int .i64 x.a, .int .i64 x.b, .int .i64 x.t0, .int .i64 x.t1, .int .i64 x.t2, .int .i64 x.t3, .int .i64 x.t4, .int .i64 x.t5, .int .i64 x.t6] 73)) w.heap.size 8 _ _ _ hx1
  have x9 : (w.alloc (.cells #[.int .i64 x.op, .int .i64 x.a, .int .i64 x.b, .int .i64 x.t0, .int .i64 x.t1, .int .i64 x.t2, .int .i64 x.t3, .int .i64 x.t4, .int .i64 x.t5, .int .i64 x.t6] 73)).cell? ⟨w.heap.size, 9, none⟩ = some (.int .i64 x.t6) := cell_of_row (w.alloc (.cells #[.int .i64 x.op, .int .i64 x.a, .int .i64 x.b, .int .i64 x.t0, .int .i64 x.t1, .int .i64 x.t2, .int .i64 x.t3, .int .i64 x.t4, .int .i64 x.t5, .int .i64 x.t6] 73)) w.heap.size 9 _ _ _ hx1
  obtain ⟨c, hlk, hat⟩ := look_step h1.map x hx
  have HB1 := Lib.hid (rbel_new w (.cells #[.int .i64 x.op, .int .i64 x.a, .int .i64 x.b, .int .i64 x.t0, .int .i64 x.t1, .int .i64 x.t2, .int .i64 x.t3, .int .i64 x.t4, .int .i64 x.t5, .int .i64 x.t6] 73))
  by_cases hin : x ∈ S
  · have hhas := h.md.yes x hin
    have hj : S[S.idxOf x]? = some x := by
      have h1 := List.idxOf_lt_length_of_mem hin
      rw [List.getElem?_eq_getElem h1, List.getElem_idxOf]
    generalize hjj : S.idxOf x = j at hj
    have hc : c = (j : Int) := by
      have := hat.symm.trans (h.md.at_ j x (i64R 0) hj)
      simpa [i64R] using this
    subst hc
    rw [hhas] at hlk
    have HANS : Hid (∀ W, Below (w.alloc (.cells #[.int .i64 x.op, .int .i64 x.a, .int .i64 x.b, .int .i64 x.t0, .int .i64 x.t1, .int .i64 x.t2, .int .i64 x.t3, .int .i64 x.t4, .int .i64 x.t5, .int .i64 x.t6] 73)).heap.size (w.alloc (.cells #[.int .i64 x.op, .int .i64 x.a, .int .i64 x.b, .int .i64 x.t0, .int .i64 x.t1, .int .i64 x.t2, .int .i64 x.t3, .int .i64 x.t4, .int .i64 x.t5, .int .i64 x.t6] 73)) W → PutR w B p b vs S x (.returned (.int .i64 (j : Nat))) W) := Lib.hid fun W hb => by unfold PutR; rw [addL_old hin, hjj]; exact ⟨rfl, (HB1.out.mono hB).trans (hb.mono (by simp; omega)), vs, D, h1.still hb, fun k hk q1 q2 q3 => ⟨(hb.block k (by simp; omega)).trans (HB1.out.block k hk), q3⟩⟩
    have HBR := Lib.hid (Below.refl (w.alloc (.cells #[.int .i64 x.op, .int .i64 x.a, .int .i64 x.b, .int .i64 x.t0, .int .i64 x.t1, .int .i64 x.t2, .int .i64 x.t3, .int .i64 x.t4, .int .i64 x.t5, .int .i64 x.t6] 73)).heap.size (w.alloc (.cells #[.int .i64 x.op, .int .i64 x.a, .int .i64 x.b, .int .i64 x.t0, .int .i64 x.t1, .int .i64 x.t2, .int .i64 x.t3, .int .i64 x.t4, .int .i64 x.t5, .int .i64 x.t6] 73)))
    clear h h1 hx1 hin hhas hat hj hjj
    go_enter Try.func74, Try.ntmps74
    go_wp2_with fail
    go_quiet (fail)
    go_wp2_with fail
    go_ret
    exact HANS.out _ (by repeat (first | exact HBR.out | apply rrbelow_dn | apply Below.drew))
  · have hhas := h.md.no x hx hin
    rw [hhas] at hlk
    obtain ⟨av, cv, rfl⟩ := own_len h.out
    have hmd := h.md.put h.oks x hx hin
    have HFIN : Hid (∀ (W : World) (g cap : Nat), Mk w W (.slice av S.length cv) B p w.heap.size #[.int .i64 x.op, .int .i64 x.a, .int .i64 x.b, .int .i64 x.t0, .int .i64 x.t1, .int .i64 x.t2, .int .i64 x.t3, .int .i64 x.t4, .int .i64 x.t5, .int .i64 x.t6] (.slice (some ⟨g, 0, none⟩) (S.length + 1) cap) b (S.length + 1) (D.put x.key (i64R S.length)) (S ++ [x]) → PutR w B p b (.slice av S.length cv) S x (.returned (.int .i64 (S.length : Nat))) W) := Lib.hid fun W g cap m =>
      by
        unfold PutR; rw [addL_new hin, idx_new hin]
        exact ⟨rfl, m.below, _, _, ⟨m.block, m.out, by rw [List.length_append, List.length_singleton]; exact m.map, hmd, m.base, m.base1, fun y hy => by
          rcases List.mem_append.1 hy with hh | hh
          · exact h.oks y hh
          · rw [List.mem_singleton.1 hh]; exact hx⟩, m.frm⟩
    have HM : Hid (∀ d, Mk w ((w.alloc (.cells #[.int .i64 x.op, .int .i64 x.a, .int .i64 x.b, .int .i64 x.t0, .int .i64 x.t1, .int .i64 x.t2, .int .i64 x.t3, .int .i64 x.t4, .int .i64 x.t5, .int .i64 x.t6] 73)).drewN d) (.slice av S.length cv) B p w.heap.size #[.int .i64 x.op, .int .i64 x.a, .int .i64 x.b, .int .i64 x.t0, .int .i64 x.t1, .int .i64 x.t2, .int .i64 x.t3, .int .i64 x.t4, .int .i64 x.t5, .int .i64 x.t6] (.slice av S.length cv) b S.length D S) := Lib.hid fun d => (⟨h1.block, h1.out, h1.map, hx1, (rbel_new w _).mono hB, h1.base, h1.base1, hB, fun e => by have := (h.out.lt _ e).2; omega, fun k hk q1 q2 q3 => ⟨(rbel_new w _).block k hk, q3⟩⟩ : Mk w (w.alloc (.cells #[.int .i64 x.op, .int .i64 x.a, .int .i64 x.b, .int .i64 x.t0, .int .i64 x.t1, .int .i64 x.t2, .int .i64 x.t3, .int .i64 x.t4, .int .i64 x.t5, .int .i64 x.t6] 73)) (.slice av S.length cv) B p w.heap.size #[.int .i64 x.op, .int .i64 x.a, .int .i64 x.b, .int .i64 x.t0, .int .i64 x.t1, .int .i64 x.t2, .int .i64 x.t3, .int .i64 x.t4, .int .i64 x.t5, .int .i64 x.t6] (.slice av S.length cv) b S.length D S).drewN d
    clear hat hhas h hx1 h1 hmd hin
    go_enter Try.func74, Try.ntmps74
    go_wp2_with fail
    go_quiet (fail)
    go_wp2_with fail
    refine kwp_gen (F := fun d => (w.alloc (.cells #[.int .i64 x.op, .int .i64 x.a, .int .i64 x.b, .int .i64 x.t0, .int .i64 x.t1, .int .i64 x.t2, .int .i64 x.t3, .int .i64 x.t4, .int .i64 x.t5, .int .i64 x.t6] 73)).drewN d) (R := fun W => Mk w W (.slice av S.length cv) B p w.heap.size #[.int .i64 x.op, .int .i64 x.a, .int .i64 x.b, .int .i64 x.t0, .int .i64 x.t1, .int .i64 x.t2, .int .i64 x.t3, .int .i64 x.t4, .int .i64 x.t5, .int .i64 x.t6] (.slice av S.length cv) b S.length D S) HM.out ?_ _
    rintro W M1
    clear HM d0 d1 x0 x1 x2 x3 x4 x5 x6 x7 x8 x9 hlk HB1
    generalize hXX : w.heap.size = X at *
    have M1H := Lib.hid M1
    have q0 := cell_of_row W p 0 _ _ _ M1.block
    simp only [List.getElem?_toArray, List.getElem?_cons_zero] at q0
    obtain ⟨y0, y1, y2, y3, y4, y5, y6, y7, y8, y9⟩ := box_cells M1.box
    have own1 := M1.out
    have hsz := M1.hsz
    have hp1 := (Array.getElem?_eq_some_iff.1 M1.block).1
    have hx1 := (Array.getElem?_eq_some_iff.1 M1.box).1
    have q0a : ∀ (o : Obj), (W.alloc o).cell? ⟨p, 0, none⟩ = some (.slice av S.length cv) := fun o => by rw [World.cell?_alloc_past _ _ _ hp1]; exact q0
    clear M1 hp1 hx1
    go_cut [4] from 24 to 33 (fun s wx => s = .int .i64 0 ∧ ∃ g cap, Mk w wx (.slice av S.length cv) B p X #[.int .i64 x.op, .int .i64 x.a, .int .i64 x.b, .int .i64 x.t0, .int .i64 x.t1, .int .i64 x.t2, .int .i64 x.t3, .int .i64 x.t4, .int .i64 x.t5, .int .i64 x.t6] (.slice (some ⟨g, 0, none⟩) (S.length + 1) cap) b S.length D (S ++ [x]))
    case first =>
      go_region_law (refine step_at (v := .slice av S.length cv) rfl _ _ 66 rfl 73 _ 10 80 Try.underlying66 infoStep rfl (by decide) rfl own1 hsz [.int .i64 x.op, .int .i64 x.a, .int .i64 x.b, .int .i64 x.t0, .int .i64 x.t1, .int .i64 x.t2, .int .i64 x.t3, .int .i64 x.t4, .int .i64 x.t5, .int .i64 x.t6] rfl (by simp [Value.oneCell']) rfl (by simp) (by decide) (by omega) ⟨1, rfl⟩ ?_; intro g1 cap1 W4 own4 keep4 where4; obtain ⟨M4, r0, rf⟩ := M1H.out.grow (x := x) own4 keep4 where4)
      all_goals go_wp2_with fail
      all_goals go_meet
      all_goals first
        | exact ⟨rfl, g1, cap1, M4⟩
        | exact ⟨rfl, g1, cap1, M4.drewN 1⟩
        | exact ⟨rfl, g1, cap1, M4.drewN 2⟩
    case rest =>
      obtain ⟨rfl, g1, cap1, M5⟩ := hcut
      clear q0 y0 y1 y2 y3 y4 y5 y6 y7 y8 y9 own1 hsz q0a M1H
      have q1 := cell_of_row wc p 1 _ _ _ M5.block
      simp only [List.getElem?_toArray, List.getElem?_cons_zero, List.getElem?_cons_succ] at q1
      obtain ⟨y0, y1, y2, y3, y4, y5, y6, y7, y8, y9⟩ := box_cells M5.box
      obtain ⟨f, hf⟩ := put_step M5.map (by omega) x hx S.length (by omega)
      have hrun := (hf 1).1
      change (Instr.mapUpdate 118 (.map (some b)) x.val (.int .i64 (S.length : Nat))).run Try.prog wc.drew = _ at hrun
      have HF := Lib.hid hf
      have HM5 := Lib.hid M5
      clear hf M5
      go_wp2_with fail
      go_region
      go_wp2_with fail
      go_ret
      exact HFIN.out _ g1 cap1 ((HM5.out.drewN 1).store (HF.out 1).2.1 (HF.out 1).2.2)
end Go.Proofs.Ytofbdgpbekcibaa
