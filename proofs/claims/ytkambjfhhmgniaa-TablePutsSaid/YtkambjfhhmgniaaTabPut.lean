/-
  Tables: a text that is put, and is new.
-/
import Derived.Test.YtkambjfhhmgniaaTabWalks
import Derived.Deep.RegionLaw
import Derived.BigRegion
namespace Go.Proofs.Ytkambjfhhmgniaa
open Go.RowKit SumPlain
set_option linter.unusedVariables false

theorem blk_cells {w : World} {p : Nat} {a b c d : Value} {t : TypeId} (h : w.heap[p]? = some (.cells #[a, b, c, d] t (0, 0))) :
    w.cell? ⟨p, 0, none⟩ = some a ∧ w.cell? ⟨p, 1, none⟩ = some b ∧ w.cell? ⟨p, 2, none⟩ = some c ∧ w.cell? ⟨p, 3, none⟩ = some d ∧ w.frozen? ⟨p, 0, none⟩ = false ∧ w.frozen? ⟨p, 1, none⟩ = false ∧ w.frozen? ⟨p, 2, none⟩ = false :=
  ⟨cell_of_cells h 0, cell_of_cells h 1, cell_of_cells h 2, cell_of_cells h 3, frozen_of_row w p 0 _ t h, frozen_of_row w p 1 _ t h, frozen_of_row w p 2 _ t h⟩
theorem blk_set {w : World} {p : Nat} {cs : Array Value} {t : TypeId} (h : w.heap[p]? = some (.cells cs t (0, 0))) (j : Nat) (u : Value) : (w.setCell ⟨p, j, none⟩ u).heap[p]? = some (.cells (cs.setIfInBounds j u) t (0, 0)) :=
  heap_setCell_same w p j cs t u h

/-- A table in the midst of Put: what its blocks hold, whatever its struct's cells are just now. -/
structure Mid (w0 : World) (T : Nat → Prop) (B p : Nat) (w : World) (cs : Array Value) (vt vs va vl : Value) (nt ns na m : Nat) (xt xs xa xl : List Value) : Prop where
  keep : Keeps T w0 w
  tnew : ∀ k, w0.heap.size ≤ k → T k
  tp : T p
  tt : ∀ k, vt.ownBlock = some k → T k
  ts : ∀ k, vs.ownBlock = some k → T k
  ta : ∀ k, va.ownBlock = some k → T k
  tl : ∀ k, vl.ownBlock = some k → T k
  block : w.heap[p]? = some (.cells cs 67 (0, 0))
  base : B ≤ p
  ot : w.ownsRow B 9 1 vt nt xt
  os : w.ownsRow B 63 1 vs ns xs
  oa : w.ownsRow B 3 1 va na xa
  ol : w.ownsRow B 3 1 vl m xl
  apart : ∀ k, va.ownBlock = some k → vl.ownBlock ≠ some k
section
variable {w0 w w' : World} {T : Nat → Prop} {B p : Nat} {cs : Array Value} {vt vs va vl : Value} {nt ns na m : Nat} {xt xs xa xl : List Value}
theorem Mid.lt (h : Mid w0 T B p w cs vt vs va vl nt ns na m xt xs xa xl) : p < w.heap.size := (Array.getElem?_eq_some_iff.1 h.block).1
theorem Mid.size (h : Mid w0 T B p w cs vt vs va vl nt ns na m xt xs xa xl) : B ≤ w.heap.size := by have := h.lt; have := h.base; omega
theorem Mid.npt (h : Mid w0 T B p w cs vt vs va vl nt ns na m xt xs xa xl) : vt.ownBlock ≠ some p := own_ne h.ot h.block (by decide)
theorem Mid.nps (h : Mid w0 T B p w cs vt vs va vl nt ns na m xt xs xa xl) : vs.ownBlock ≠ some p := own_ne h.os h.block (by decide)
theorem Mid.npa (h : Mid w0 T B p w cs vt vs va vl nt ns na m xt xs xa xl) : va.ownBlock ≠ some p := own_ne h.oa h.block (by decide)
theorem Mid.npl (h : Mid w0 T B p w cs vt vs va vl nt ns na m xt xs xa xl) : vl.ownBlock ≠ some p := own_ne h.ol h.block (by decide)
/-- A store into the struct. -/
theorem Mid.store (h : Mid w0 T B p w cs vt vs va vl nt ns na m xt xs xa xl) (j : Nat) (u : Value) : Mid w0 T B p (w.setCell ⟨p, j, none⟩ u) (cs.setIfInBounds j u) vt vs va vl nt ns na m xt xs xa xl := by
  have hk : Keeps (fun k => k = p) w (w.setCell ⟨p, j, none⟩ u) := Keeps.setCell w _ u rfl
  exact ⟨h.keep.trans (Keeps.setCell w _ u h.tp), h.tnew, h.tp, h.tt, h.ts, h.ta, h.tl, blk_set h.block j u, h.base,
    hk.own h.ot (fun k e hp => h.npt (by rw [e, hp])), hk.own h.os (fun k e hp => h.nps (by rw [e, hp])), hk.own h.oa (fun k e hp => h.npa (by rw [e, hp])), hk.own h.ol (fun k e hp => h.npl (by rw [e, hp])), h.apart⟩
theorem Mid.drewN (h : Mid w0 T B p w cs vt vs va vl nt ns na m xt xs xa xl) (d : Nat) : Mid w0 T B p (w.drewN d) cs vt vs va vl nt ns na m xt xs xa xl :=
  ⟨h.keep.trans (Keeps.drewN _ _ _), h.tnew, h.tp, h.tt, h.ts, h.ta, h.tl, h.block, h.base, h.ot, h.os, h.oa, h.ol, h.apart⟩
theorem Mid.texts {g cap : Nat} {ys : List Value} (h : Mid w0 T B p w cs vt vs va vl nt ns na m xt xs xa xl) (hk : Keeps (fun k => vt.ownBlock = some k) w w') (ho : w'.ownsRow B 9 1 (.slice (some ⟨g, 0, none⟩) (nt + 1) cap) (nt + 1) ys) (hw : vt.ownBlock = some g ∨ w.heap.size ≤ g) :
    Mid w0 T B p w' cs (.slice (some ⟨g, 0, none⟩) (nt + 1) cap) vs va vl (nt + 1) ns na m ys xs xa xl :=
  ⟨h.keep.trans (hk.weaken (fun k _ e => h.tt k e)), h.tnew, h.tp, fun k e => by (simp [Value.ownBlock] at e; subst e; exact hw.elim (h.tt _) (fun h1 => h.tnew _ (Nat.le_trans h.keep.size h1))), h.ts, h.ta, h.tl,
    by rw [hk.block p h.lt h.npt]; exact h.block, h.base, ho, hk.own h.os (fun k e e2 => own_apart h.ot h.os (by decide) k e2 e), hk.own h.oa (fun k e e2 => own_apart h.ot h.oa (by decide) k e2 e), hk.own h.ol (fun k e e2 => own_apart h.ot h.ol (by decide) k e2 e), h.apart⟩
theorem Mid.sums {g cap : Nat} {ys : List Value} (h : Mid w0 T B p w cs vt vs va vl nt ns na m xt xs xa xl) (hk : Keeps (fun k => vs.ownBlock = some k) w w') (ho : w'.ownsRow B 63 1 (.slice (some ⟨g, 0, none⟩) (ns + 1) cap) (ns + 1) ys) (hw : vs.ownBlock = some g ∨ w.heap.size ≤ g) :
    Mid w0 T B p w' cs vt (.slice (some ⟨g, 0, none⟩) (ns + 1) cap) va vl nt (ns + 1) na m xt ys xa xl :=
  ⟨h.keep.trans (hk.weaken (fun k _ e => h.ts k e)), h.tnew, h.tp, h.tt, fun k e => by (simp [Value.ownBlock] at e; subst e; exact hw.elim (h.ts _) (fun h1 => h.tnew _ (Nat.le_trans h.keep.size h1))), h.ta, h.tl,
    by rw [hk.block p h.lt h.nps]; exact h.block, h.base, hk.own h.ot (fun k e e2 => own_apart h.os h.ot (by decide) k e2 e), ho, hk.own h.oa (fun k e e2 => own_apart h.os h.oa (by decide) k e2 e), hk.own h.ol (fun k e e2 => own_apart h.os h.ol (by decide) k e2 e), h.apart⟩
theorem Mid.ahead {g cap : Nat} {ys : List Value} (h : Mid w0 T B p w cs vt vs va vl nt ns na m xt xs xa xl) (hk : Keeps (fun k => va.ownBlock = some k) w w') (ho : w'.ownsRow B 3 1 (.slice (some ⟨g, 0, none⟩) (na + 1) cap) (na + 1) ys) (hw : va.ownBlock = some g ∨ w.heap.size ≤ g) :
    Mid w0 T B p w' cs vt vs (.slice (some ⟨g, 0, none⟩) (na + 1) cap) vl nt ns (na + 1) m xt xs ys xl :=
  ⟨h.keep.trans (hk.weaken (fun k _ e => h.ta k e)), h.tnew, h.tp, h.tt, h.ts, fun k e => by (simp [Value.ownBlock] at e; subst e; exact hw.elim (h.ta _) (fun h1 => h.tnew _ (Nat.le_trans h.keep.size h1))), h.tl,
    by rw [hk.block p h.lt h.npa]; exact h.block, h.base, hk.own h.ot (fun k e e2 => own_apart h.oa h.ot (by decide) k e2 e), hk.own h.os (fun k e e2 => own_apart h.oa h.os (by decide) k e2 e), ho, hk.own h.ol (fun k e e2 => h.apart k e2 e),
    fun k e e2 => by (simp [Value.ownBlock] at e; subst e; exact hw.elim (fun e3 => h.apart _ e3 e2) (fun h1 => absurd ((h.ol.lt _ e2).2) (by omega)))⟩
/-- A store into the rows' ends. -/
theorem Mid.last {gl cl : Nat} (h : Mid w0 T B p w cs vt vs va (.slice (some ⟨gl, 0, none⟩) m cl) nt ns na m xt xs xa xl) (j : Nat) (u : Value) :
    Mid w0 T B p (w.setCell ⟨gl, j, none⟩ u) cs vt vs va (.slice (some ⟨gl, 0, none⟩) m cl) nt ns na m xt xs xa (xl.set j u) := by
  have hk : Keeps (fun k => k = gl) w (w.setCell ⟨gl, j, none⟩ u) := Keeps.setCell w _ u rfl
  have e0 : (Value.slice (some ⟨gl, 0, none⟩) m cl).ownBlock = some gl := rfl
  have hgp : gl ≠ p := fun e => h.npl (by rw [e0, e])
  exact ⟨h.keep.trans (Keeps.setCell w _ u (h.tl _ e0)), h.tnew, h.tp, h.tt, h.ts, h.ta, h.tl, by rw [hk.block p h.lt (fun e => hgp e.symm)]; exact h.block, h.base,
    hk.own h.ot (fun k e e2 => own_apart h.ol h.ot (by decide) gl e0 (by rw [e, e2])), hk.own h.os (fun k e e2 => own_apart h.ol h.os (by decide) gl e0 (by rw [e, e2])), hk.own h.oa (fun k e e2 => h.apart k e (by rw [e0, e2])), (h.ol.stored j u).1, h.apart⟩
end

theorem tab_of_mid {w w' : World} {B p m q R : Nat} {texts : List ByteArray} {s : ByteArray} {vt vs va vl v1 v2 v3 : Value} {T : Nat → Prop}
    (mid : Mid w T B p w' #[v1, v2, v3, vl] v1 v2 v3 vl (texts.length + 1) (texts.length + 1) (texts.length + 1) m (Tab.strs texts ++ [.string s]) (Tab.sums texts ++ [.int .u32 (Tab.sm s : Nat)]) (Tab.aheads m texts ++ [.int .i64 q]) ((Tab.lasts m texts).set R (.int .i64 ((texts.length : Int) + 1))))
    (hR : Tab.sm s % m = R) (hq : Tab.prev m texts R texts.length = q) (hT : (fun k => Foot p vt vs va vl k ∨ w.heap.size ≤ k) = T) (hm : 0 < m) (hpow : ∃ r, r ≤ 16 ∧ m = 2 ^ r) (huniq : texts.Nodup) (hnew : s ∉ texts) :
    ∃ vt' vs' va', IsTab w' B p m (texts ++ [s]) vt' vs' va' vl ∧ Keeps (Foot p vt vs va vl) w w' ∧ (∀ k, Foot p vt' vs' va' vl k → Foot p vt vs va vl k ∨ w.heap.size ≤ k) := by
  subst hT hR hq
  refine ⟨v1, v2, v3, ⟨mid.block, mid.base, ?_, ?_, ?_, ?_, mid.apart, hpow, ?_⟩, mid.keep.weaken (fun k hk h => h.elim id (fun h2 => absurd hk (by omega))), ?_⟩
  · have := mid.ot; rw [List.length_append]; unfold Tab.strs at this ⊢; rw [List.map_append]; exact this
  · have := mid.os; rw [List.length_append]; unfold Tab.sums at this ⊢; rw [List.map_append]; exact this
  · have := mid.oa; rw [List.length_append, Tab.aheads_snoc]; exact this
  · have := mid.ol; rw [Tab.lasts_put _ _ _ hm]; exact this
  · rw [List.nodup_append]; exact ⟨huniq, by simp, fun a ha b hb => by simp at hb; subst hb; exact fun e => hnew (e ▸ ha)⟩
  · intro k hk
    rcases hk with rfl | hk | hk | hk | hk
    · exact mid.tp
    · exact mid.tt k hk
    · exact mid.ts k hk
    · exact mid.ta k hk
    · exact mid.tl k hk
def PutAns (n : Nat) (e : Ending) : Prop := e = .returned (.tuple #[.int .i64 (n : Nat), .bool true])
set_option maxHeartbeats 2000000 in
set_option maxRecDepth 1000000 in
theorem put_new (B p m : Nat) (texts : List ByteArray) (vt vs va vl : Value) (s : ByteArray) (w : World) (h : IsTab w B p m texts vt vs va vl) (hs : s.size ≤ 9223372036854775807) (hn : texts.length ≤ 1000000) (hnew : s ∉ texts) :
    Calls Try.prog 8 #[.pointer (some ⟨p, 0, none⟩), .string s] w fun e w' => PutAns texts.length e ∧ ∃ vt' vs' va', IsTab w' B p m (texts ++ [s]) vt' vs' va' vl ∧ Keeps (Foot p vt vs va vl) w w' ∧
      (∀ k, Foot p vt' vs' va' vl k → Foot p vt vs va vl k ∨ w.heap.size ≤ k) := by
  obtain ⟨gl, cl, hvl, hgl, hcl, hcm, hgls⟩ := own_some h.olast h.pos.1
  subst hvl
  have hpos := h.pos
  have hsl := Tab.sm_lt s
  have hfind := find_any B p m texts vt vs va _ s w h hs hn texts.length (fun ht => by omega) (fun k hk _ he => hnew (by rw [← he, List.getD_eq_getElem?_getD, List.getElem?_eq_getElem hk]; exact List.getElem_mem hk))
  have hfa : ∀ e, FindAns texts.length texts.length e → e = .returned (.tuple #[.int .i64 0, .bool false]) := fun e he => by unfold FindAns at he; rw [if_neg (by omega)] at he; simpa using he
  have HFIND := Lib.hid hfind
  have HFA := Lib.hid hfa
  have hsum : ∀ w, Calls Try.prog 21 #[.string s] w fun e w' => e = .returned (.int .u32 (Tab.sm s : Nat)) ∧ w = w' := fun w => sum32_any s w hs
  have HSUM := Lib.hid hsum
  have hrow := fun w (hc : w.cell? ⟨p, 3, none⟩ = some (.slice (some ⟨gl, 0, none⟩) m cl)) => row_any p _ m cl (Tab.sm s) w hc h.pow hsl
  have HROW := Lib.hid hrow
  have hc := blk_cells h.block
  have hmade := made_any p _ m cl w hc.2.2.2.1 hpos.1
  have HMADE := Lib.hid hmade
  clear hfind hfa hsum hrow hmade hc
  go_enter Try.func8, Try.ntmps8
  go_wp2_with fail
  refine (HMADE.out).mono ?_
  rintro e w1 ⟨rfl, rfl⟩
  go_wp2_with fail
  refine (HFIND.out).mono ?_
  rintro e w1 ⟨he, n0, rfl⟩
  have he2 := HFA.out e he
  subst he2
  clear he
  have mid0 : Mid w (fun k => Foot p vt vs va (.slice (some ⟨gl, 0, none⟩) m cl) k ∨ w.heap.size ≤ k) B p (w.drewN n0) #[vt, vs, va, .slice (some ⟨gl, 0, none⟩) m cl] vt vs va (.slice (some ⟨gl, 0, none⟩) m cl) texts.length texts.length texts.length m (Tab.strs texts) (Tab.sums texts) (Tab.aheads m texts) (Tab.lasts m texts) :=
    ⟨Keeps.drewN _ _ _, fun k hk => Or.inr hk, Or.inl (Or.inl rfl), fun k e => Or.inl (Or.inr (Or.inl e)), fun k e => Or.inl (Or.inr (Or.inr (Or.inl e))), fun k e => Or.inl (Or.inr (Or.inr (Or.inr (Or.inl e)))), fun k e => Or.inl (Or.inr (Or.inr (Or.inr (Or.inr e)))),
      h.block, h.base, h.otexts, h.osums, h.oahead, h.olast, h.apart⟩
  have hpow := h.pow
  have huniq := h.uniq
  have hmod := Nat.mod_lt (Tab.sm s) hpos.1
  have hll := h.olast.cellAt (Tab.sm s % m) (by omega)
  clear h
  generalize hR : Tab.sm s % m = R at *
  generalize hT : (fun k => Foot p vt vs va (.slice (some ⟨gl, 0, none⟩) m cl) k ∨ w.heap.size ≤ k) = T at *
  have HR := Lib.hid hR
  have HT := Lib.hid hT
  clear hR hT
  generalize w.drewN n0 = w0 at *
  go_wp2_with fail
  refine (HSUM.out _).mono ?_
  rintro e w1 ⟨rfl, rfl⟩
  go_wp2_with fail
  obtain ⟨c0, c1, c2, c3, f0, f1, f2⟩ := blk_cells mid0.block
  refine (HROW.out _ c3).mono ?_
  rintro e w1 ⟨rfl, rfl⟩
  have hsz := mid0.size
  -- the texts, then the sums
  go_wp2_with (first | (at_builtin; (refine append_at (v := vt) rfl _ _ 22 rfl 9 (.string ByteArray.empty) 1 16 Try.underlying22 Try.infoStr rfl (by decide) rfl mid0.ot hsz [.string s] rfl (by simp [Value.oneCell']) rfl (by simp) (by decide) (by omega) ?_); intro g1 cap1 w1 own1 keep1 where1; clear c0 c1 c2 c3 f0 f1 f2 hsz; have mid1 := mid0.texts keep1 own1 where1; clear mid0 own1 keep1 where1; obtain ⟨c0, c1, c2, c3, f0, f1, f2⟩ := blk_cells mid1.block; have mid1s := mid1.store 0 (.slice (some ⟨g1, 0, none⟩) (texts.length + 1) cap1); have hsz1 := mid1s.size) | (at_builtin; (refine append_at (v := vs) rfl _ _ 65 rfl 63 (.int .u32 0) 1 4 Try.underlying65 Try.infoU32 rfl (by decide) rfl mid1s.os hsz1 [.int .u32 (Tab.sm s : Nat)] rfl (by simp [Value.oneCell']) rfl (by simp) (by decide) (by omega) ?_); intro g2 cap2 w2 own2 keep2 where2; clear c0 c1 c2 c3 f0 f1 f2 hsz1; have mid2 := mid1s.sums keep2 own2 where2; clear mid1 mid1s own2 keep2 where2; obtain ⟨c0, c1, c2, c3, f0, f1, f2⟩ := blk_cells mid2.block; have mid2s := mid2.store 1 (.slice (some ⟨g2, 0, none⟩) (texts.length + 1) cap2); have hsz2 := mid2s.size))
  -- what stands ahead in the row
  have b3 : (w2.setCell ⟨p, 1, none⟩ (.slice (some ⟨g2, 0, none⟩) (texts.length + 1) cap2)).heap[p]? = some (.cells #[.slice (some ⟨g1, 0, none⟩) (texts.length + 1) cap1, .slice (some ⟨g2, 0, none⟩) (texts.length + 1) cap2, va, .slice (some ⟨gl, 0, none⟩) m cl] 67 (0, 0)) := mid2s.block
  clear mid2 c0 c1 c2 c3 f0 f1 f2
  generalize w2.setCell ⟨p, 1, none⟩ (.slice (some ⟨g2, 0, none⟩) (texts.length + 1) cap2) = w3 at *
  obtain ⟨c0, c1, c2, c3, f0, f1, f2⟩ := blk_cells b3
  have hlc := mid2s.ol.cellAt R (by omega)
  unfold Tab.lasts at hlc
  rw [List.getElem?_map, List.getElem?_range hmod, Option.map_some] at hlc
  have hpl := Tab.prev_le m texts R texts.length
  have hp3 := mid2s.lt
  have c2a : ∀ o, (w3.alloc o).cell? ⟨p, 2, none⟩ = some va := fun o => by rw [World.cell?_alloc_past _ _ _ hp3]; exact c2
  clear hll b3 hp3
  generalize hq : Tab.prev m texts R texts.length = q at *
  have HQ := Lib.hid hq
  clear hq
  go_region_law (refine step_at (v := va) rfl _ _ 43 rfl 3 (.int .i64 0) 1 8 Try.underlying43 Try.info3 rfl (by decide) rfl mid2s.oa hsz2 [.int .i64 q] rfl (by simp [Value.oneCell']) rfl (by simp) (by decide) (by omega) ⟨1, rfl⟩ ?_; intro g3 cap3 w4 own3 keep3 where3; have mid3 := mid2s.ahead keep3 own3 where3; have b4 : w4.heap[p]? = some (.cells #[.slice (some ⟨g1, 0, none⟩) (texts.length + 1) cap1, .slice (some ⟨g2, 0, none⟩) (texts.length + 1) cap2, va, .slice (some ⟨gl, 0, none⟩) m cl] 67 (0, 0)) := mid3.block; obtain ⟨c0', c1', c2', c3', f0', f1', f2'⟩ := blk_cells b4)
  all_goals
    have mid3s := mid3.store 2 (.slice (some ⟨g3, 0, none⟩) (texts.length + 1) cap3)
    have b5 : (w4.setCell ⟨p, 2, none⟩ (.slice (some ⟨g3, 0, none⟩) (texts.length + 1) cap3)).heap[p]? = some (.cells #[.slice (some ⟨g1, 0, none⟩) (texts.length + 1) cap1, .slice (some ⟨g2, 0, none⟩) (texts.length + 1) cap2, .slice (some ⟨g3, 0, none⟩) (texts.length + 1) cap3, .slice (some ⟨gl, 0, none⟩) m cl] 67 (0, 0)) := mid3s.block
    clear mid3 mid2s own3 keep3 where3 b4 c0 c1 c2 c3 f0 f1 f2 c2a c0' c1' c2' c3' f0' f1' f2' hlc
    generalize w4.setCell ⟨p, 2, none⟩ (.slice (some ⟨g3, 0, none⟩) (texts.length + 1) cap3) = w5 at *
    obtain ⟨c0, c1, c2, c3, f0, f1, f2⟩ := blk_cells b5
    have hlc := mid3s.ol.cellAt R (by omega)
    unfold Tab.lasts at hlc
    rw [List.getElem?_map, List.getElem?_range hmod, Option.map_some] at hlc
    have hlf := mid3s.ol.frozenAt R
    have hgp : gl ≠ p := fun e => mid3s.npl (by rw [← e]; rfl)
    have hgp' : p ≠ gl := fun e => hgp e.symm
    have mid4 := mid3s.last R (.int .i64 ((texts.length : Int) + 1))
    have MID4 := Lib.hid mid4
    clear b5 mid3s mid4
    go_wp2
    go_region
  all_goals (try go_wp2)
  all_goals go_ret2
  all_goals refine ⟨?_, ?_⟩
  all_goals first | (unfold PutAns; simp; done) | exact tab_of_mid (MID4.out.drewN 1) HR.out HQ.out HT.out hpos.1 hpow huniq hnew | exact tab_of_mid (MID4.out.drewN 2) HR.out HQ.out HT.out hpos.1 hpow huniq hnew | exact tab_of_mid MID4.out HR.out HQ.out HT.out hpos.1 hpow huniq hnew
end Go.Proofs.Ytkambjfhhmgniaa
