/-
  Names: a table while one statement more is put.
-/
import Derived.Test.YtpbgicfoopicbaaNamAsk
namespace Go.Proofs.Ytpbgicfoopicbaa
open Go.RowKit Go.Maps
set_option linter.unusedVariables false
set_option linter.unusedSimpArgs false

structure Mid (w0 : World) (B p : Nat) (W : World) (cs : Array Value) (vn vp : Value) (b1 b2 n1 n2 : Nat) (D1 D2 : Dat) (ns : List ByteArray) (ps : List (Int × Nat)) : Prop where
  below : Below B w0 W
  base0 : B ≤ w0.heap.size
  block : W.heap[p]? = some (.cells cs 100 (0, 0))
  on : W.ownsRow B 9 1 vn ns.length (ns.map Value.string)
  op : W.ownsRow B 127 2 vp ps.length (Rec.flat Nm.encP ps)
  m1 : W.ownsMap Try.prog 9 (plainElem Try.prog 3) b1 n1 D1
  m2 : W.ownsMap Try.prog 127 (plainElem Try.prog 3) b2 n2 D2
  base : B ≤ p
  base1 : B ≤ b1
  base2 : B ≤ b2
  apart : b1 ≠ b2
theorem map_blk {H : Type} {w : World} {P : Program} {k : TypeId} {R : Value → Option (DataW H × List MemPlace)} {b n : Nat} {D : DataW H} (h : w.ownsMap P k R b n D) : ∃ es c, w.heap[b]? = some (.map es c) := by
  obtain ⟨es, c, hb, _⟩ := h
  exact ⟨es, c, hb⟩
theorem map_keep {H : Type} {w w' : World} {P : Program} {k : TypeId} {R : Value → Option (DataW H × List MemPlace)} {b n : Nat} {D : DataW H} (h : w.ownsMap P k R b n D) (hb : w'.heap[b]? = w.heap[b]?) : w'.ownsMap P k R b n D := by
  obtain ⟨es, c, h1, h2⟩ := h
  exact ⟨es, c, hb.trans h1, h2⟩
theorem row_keep {w w' : World} {B n size : Nat} {e : TypeId} {v : Value} {xs : List Value} (h : w.ownsRow B e size v n xs) (hb : ∀ k, v.ownBlock = some k → w'.heap[k]? = w.heap[k]?) : w'.ownsRow B e size v n xs := by
  refine ⟨h.1, ?_⟩
  rcases h.2 with hn | ⟨g, cap, cur, rfl, hbg, hgg, rest⟩
  · exact .inl hn
  · exact .inr ⟨g, cap, cur, rfl, hbg, by rw [hb g rfl]; exact hgg, rest⟩
theorem row_blk {w : World} {B n size : Nat} {e : TypeId} {v : Value} {xs : List Value} (h : w.ownsRow B e size v n xs) {k : Nat} (hk : v.ownBlock = some k) : ∃ cs fz, w.heap[k]? = some (.cells cs e fz) := by
  rcases h.2 with ⟨rfl, _⟩ | ⟨g, cap, cur, rfl, _, hg, _⟩
  · cases hk
  · simp [Value.ownBlock] at hk
    subst hk
    exact ⟨_, _, hg⟩
section
variable {w0 W W' : World} {B p : Nat} {cs : Array Value} {vn vp : Value} {b1 b2 n1 n2 : Nat} {D1 D2 : Dat} {ns : List ByteArray} {ps : List (Int × Nat)}
theorem Mid.sepN (h : Mid w0 B p W cs vn vp b1 b2 n1 n2 D1 D2 ns ps) {k : Nat} (hk : vn.ownBlock = some k) : k ≠ p ∧ k ≠ b1 ∧ k ≠ b2 ∧ vp.ownBlock ≠ some k := by
  obtain ⟨c, f, hb⟩ := row_blk h.on hk
  obtain ⟨e1, x1, h1⟩ := map_blk h.m1
  obtain ⟨e2, x2, h2⟩ := map_blk h.m2
  refine ⟨fun e => ?_, fun e => ?_, fun e => ?_, fun e => ?_⟩
  · subst e; rw [h.block] at hb; simp at hb
  · subst e; rw [h1] at hb; simp at hb
  · subst e; rw [h2] at hb; simp at hb
  · obtain ⟨c', f', hb'⟩ := row_blk h.op e
    rw [hb] at hb'; simp at hb'
theorem Mid.sepP (h : Mid w0 B p W cs vn vp b1 b2 n1 n2 D1 D2 ns ps) {k : Nat} (hk : vp.ownBlock = some k) : k ≠ p ∧ k ≠ b1 ∧ k ≠ b2 ∧ vn.ownBlock ≠ some k := by
  obtain ⟨c, f, hb⟩ := row_blk h.op hk
  obtain ⟨e1, x1, h1⟩ := map_blk h.m1
  obtain ⟨e2, x2, h2⟩ := map_blk h.m2
  refine ⟨fun e => ?_, fun e => ?_, fun e => ?_, fun e => ?_⟩
  · subst e; rw [h.block] at hb; simp at hb
  · subst e; rw [h1] at hb; simp at hb
  · subst e; rw [h2] at hb; simp at hb
  · obtain ⟨c', f', hb'⟩ := row_blk h.on e
    rw [hb] at hb'; simp at hb'
theorem Mid.sepT (h : Mid w0 B p W cs vn vp b1 b2 n1 n2 D1 D2 ns ps) : p ≠ b1 ∧ p ≠ b2 := by
  obtain ⟨e1, x1, h1⟩ := map_blk h.m1
  obtain ⟨e2, x2, h2⟩ := map_blk h.m2
  refine ⟨fun e => ?_, fun e => ?_⟩
  · subst e; rw [h.block] at h1; simp at h1
  · subst e; rw [h.block] at h2; simp at h2
theorem Mid.plt (h : Mid w0 B p W cs vn vp b1 b2 n1 n2 D1 D2 ns ps) : p < W.heap.size := (Array.getElem?_eq_some_iff.1 h.block).1
theorem Mid.cell (h : Mid w0 B p W cs vn vp b1 b2 n1 n2 D1 D2 ns ps) (j : Nat) : W.cell? ⟨p, j, none⟩ = cs[j]? := cell_of_row W p j cs _ _ h.block
theorem Mid.frz (h : Mid w0 B p W cs vn vp b1 b2 n1 n2 D1 D2 ns ps) (j : Nat) : W.frozen? ⟨p, j, none⟩ = false := by
  unfold World.frozen?
  rw [h.block]
  simp
theorem Mid.hsz (h : Mid w0 B p W cs vn vp b1 b2 n1 n2 D1 D2 ns ps) : B ≤ W.heap.size := Nat.le_trans h.base0 h.below.size
/-- Nothing of it is written. -/
theorem Mid.still (h : Mid w0 B p W cs vn vp b1 b2 n1 n2 D1 D2 ns ps) (hb : Below W.heap.size W W') : Mid w0 B p W' cs vn vp b1 b2 n1 n2 D1 D2 ns ps :=
  ⟨h.below.trans (hb.mono h.hsz), h.base0, (hb.block p h.plt).trans h.block, row_keep h.on (fun k hk => hb.block k (h.on.lt k hk).2), row_keep h.op (fun k hk => hb.block k (h.op.lt k hk).2),
    map_keep h.m1 (hb.block b1 h.m1.lt), map_keep h.m2 (hb.block b2 h.m2.lt), h.base, h.base1, h.base2, h.apart⟩
theorem Mid.alloc (h : Mid w0 B p W cs vn vp b1 b2 n1 n2 D1 D2 ns ps) (o : Obj) : Mid w0 B p (W.alloc o) cs vn vp b1 b2 n1 n2 D1 D2 ns ps := h.still ((Below.refl _ _).alloc (Nat.le_refl _) o)
theorem Mid.drewN (h : Mid w0 B p W cs vn vp b1 b2 n1 n2 D1 D2 ns ps) (n : Nat) : Mid w0 B p (W.drewN n) cs vn vp b1 b2 n1 n2 D1 D2 ns ps := h.still ⟨rfl, rfl, rfl, Nat.le_refl _, fun _ _ => rfl⟩
theorem Mid.map1 (h : Mid w0 B p W cs vn vp b1 b2 n1 n2 D1 D2 ns ps) {D : Dat} (hm : W'.ownsMap Try.prog 9 (plainElem Try.prog 3) b1 (n1 + 1) D) (hg : W.grownBy W' (some b1)) : Mid w0 B p W' cs vn vp b1 b2 (n1 + 1) n2 D D2 ns ps :=
  ⟨h.below.grown hg h.hsz (fun k hk => by cases hk; exact h.base1), h.base0, (hg.block p h.plt (fun e => h.sepT.1 (Option.some.inj e))).trans h.block,
    row_keep h.on (fun k hk => hg.block k (h.on.lt k hk).2 (fun e => (h.sepN hk).2.1 (Option.some.inj e))), row_keep h.op (fun k hk => hg.block k (h.op.lt k hk).2 (fun e => (h.sepP hk).2.1 (Option.some.inj e))),
    hm, map_keep h.m2 (hg.block b2 h.m2.lt (fun e => h.apart (Option.some.inj e).symm)), h.base, h.base1, h.base2, h.apart⟩
theorem Mid.map2 (h : Mid w0 B p W cs vn vp b1 b2 n1 n2 D1 D2 ns ps) {D : Dat} (hm : W'.ownsMap Try.prog 127 (plainElem Try.prog 3) b2 (n2 + 1) D) (hg : W.grownBy W' (some b2)) : Mid w0 B p W' cs vn vp b1 b2 n1 (n2 + 1) D1 D ns ps :=
  ⟨h.below.grown hg h.hsz (fun k hk => by cases hk; exact h.base2), h.base0, (hg.block p h.plt (fun e => h.sepT.2 (Option.some.inj e))).trans h.block,
    row_keep h.on (fun k hk => hg.block k (h.on.lt k hk).2 (fun e => (h.sepN hk).2.2.1 (Option.some.inj e))), row_keep h.op (fun k hk => hg.block k (h.op.lt k hk).2 (fun e => (h.sepP hk).2.2.1 (Option.some.inj e))),
    map_keep h.m1 (hg.block b1 h.m1.lt (fun e => h.apart (Option.some.inj e))), hm, h.base, h.base1, h.base2, h.apart⟩
theorem Mid.names (h : Mid w0 B p W cs vn vp b1 b2 n1 n2 D1 D2 ns ps) {g cap : Nat} {s : ByteArray} (ho : W'.ownsRow B 9 1 (.slice (some ⟨g, 0, none⟩) (ns.length + 1) cap) (ns.length + 1) (ns.map Value.string ++ [.string s])) (hk : Keeps (fun k => vn.ownBlock = some k) W W') :
    Mid w0 B p W' cs (.slice (some ⟨g, 0, none⟩) (ns.length + 1) cap) vp b1 b2 n1 n2 D1 D2 (ns ++ [s]) ps :=
  ⟨h.below.trans (hk.below (fun k e => (h.on.lt k e).1) h.hsz), h.base0, (hk.block p h.plt (fun e => (h.sepN e).1 rfl)).trans h.block,
    by rw [List.length_append, List.map_append, List.length_singleton]; exact ho, row_keep h.op (fun k hk' => hk.block k (h.op.lt k hk').2 (fun e => (h.sepN e).2.2.2 hk')),
    map_keep h.m1 (hk.block b1 h.m1.lt (fun e => (h.sepN e).2.1 rfl)), map_keep h.m2 (hk.block b2 h.m2.lt (fun e => (h.sepN e).2.2.1 rfl)), h.base, h.base1, h.base2, h.apart⟩
theorem Mid.places (h : Mid w0 B p W cs vn vp b1 b2 n1 n2 D1 D2 ns ps) {g cap : Nat} {x : Int × Nat} (ho : W'.ownsRow B 127 2 (.slice (some ⟨g, 0, none⟩) (ps.length + 1) cap) (ps.length + 1) (Rec.flat Nm.encP ps ++ Nm.encP x)) (hk : Keeps (fun k => vp.ownBlock = some k) W W') :
    Mid w0 B p W' cs vn (.slice (some ⟨g, 0, none⟩) (ps.length + 1) cap) b1 b2 n1 n2 D1 D2 ns (ps ++ [x]) :=
  ⟨h.below.trans (hk.below (fun k e => (h.op.lt k e).1) h.hsz), h.base0, (hk.block p h.plt (fun e => (h.sepP e).1 rfl)).trans h.block,
    row_keep h.on (fun k hk' => hk.block k (h.on.lt k hk').2 (fun e => (h.sepP e).2.2.2 hk')), by rw [List.length_append, List.length_singleton, Rec.flat_snoc]; exact ho,
    map_keep h.m1 (hk.block b1 h.m1.lt (fun e => (h.sepP e).2.1 rfl)), map_keep h.m2 (hk.block b2 h.m2.lt (fun e => (h.sepP e).2.2.1 rfl)), h.base, h.base1, h.base2, h.apart⟩
theorem Mid.set (h : Mid w0 B p W cs vn vp b1 b2 n1 n2 D1 D2 ns ps) (j : Nat) (u : Value) : Mid w0 B p (W.setCell ⟨p, j, none⟩ u) (cs.setIfInBounds j u) vn vp b1 b2 n1 n2 D1 D2 ns ps := by
  have hk : Keeps (fun k => k = p) W (W.setCell ⟨p, j, none⟩ u) := Keeps.setCell W _ u rfl
  exact ⟨h.below.trans (hk.below (fun k e => by rw [e]; exact h.base) h.hsz), h.base0, heap_setCell_same W p j cs _ u h.block,
    row_keep h.on (fun k hk' => hk.block k (h.on.lt k hk').2 (h.sepN hk').1), row_keep h.op (fun k hk' => hk.block k (h.op.lt k hk').2 (h.sepP hk').1),
    map_keep h.m1 (hk.block b1 h.m1.lt (fun e => h.sepT.1 e.symm)), map_keep h.m2 (hk.block b2 h.m2.lt (fun e => h.sepT.2 e.symm)), h.base, h.base1, h.base2, h.apart⟩
end
section
variable {w w' : World} {B p : Nat} {cs : Array Value} {vn vp : Value} {b1 b2 : Nat} {D1 D2 : Dat} {L : List St}
theorem IsN.mid (h : IsN w B p cs vn vp b1 b2 D1 D2 L) (hb : B ≤ w.heap.size) : Mid w B p w cs vn vp b1 b2 (Nm.names L).length (Nm.places L).length D1 D2 (Nm.names L) (Nm.places L) :=
  ⟨Below.refl _ _, hb, h.block, h.on, h.op, h.m1, h.m2, h.base, h.base1, h.base2, h.apart⟩
theorem IsN.still (h : IsN w B p cs vn vp b1 b2 D1 D2 L) (hb0 : B ≤ w.heap.size) (hb : Below w.heap.size w w') : IsN w' B p cs vn vp b1 b2 D1 D2 L := by
  have m := (h.mid hb0).still hb
  exact ⟨m.block, h.size, h.c0, h.c1, h.c2, h.c3, h.cc, h.z0, m.on, m.op, m.m1, m.m2, h.n1, h.n2, h.base, h.base1, h.base2, h.apart, h.good, h.sizes⟩
end
end Go.Proofs.Ytpbgicfoopicbaa
