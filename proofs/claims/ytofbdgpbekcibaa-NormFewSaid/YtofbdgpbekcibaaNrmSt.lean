/-
  Norm: a maker and a row of numbers beside it, while a formula is gone through.
-/
import Derived.Test.YtofbdgpbekcibaaNrmTwo
import Derived.Test.YtofbdgpbekcibaaNrmRun
import Derived.Test.YtofbdgpbekcibaaNrmOpen
namespace Go.Proofs.Ytofbdgpbekcibaa
open Go.RowKit Go.Maps
set_option linter.unusedVariables false
set_option linter.unusedSimpArgs false

abbrev nV (n : Nat) : Value := .int .i64 ((n : Nat) : Int)
theorem nown_below {w w' : World} {B n size : Nat} {e : TypeId} {v : Value} {xs : List Value} (h : w.ownsRow B e size v n xs) (hb : Below w.heap.size w w') : w'.ownsRow B e size v n xs := by
  have k : Keeps (fun j => w.heap.size ≤ j) w w' := ⟨hb.os, hb.tape, hb.output, hb.size, fun j hj _ => hb.block j hj⟩
  exact k.own h (fun j hj e => by have := (h.lt j hj).2; omega)
theorem nrow_cut {w : World} {B g n cap size : Nat} {e : TypeId} {xs : List Value} (h : w.ownsRow B e size (.slice (some ⟨g, 0, none⟩) n cap) n xs) (m : Nat) (hm : m ≤ n) : w.ownsRow B e size (.slice (some ⟨g, 0, none⟩) m cap) m (xs.take (m * size)) := by
  obtain ⟨h1, h2⟩ := h
  have hle : m * size ≤ n * size := Nat.mul_le_mul_right _ hm
  refine ⟨by simp; omega, Or.inr ?_⟩
  rcases h2 with ⟨h3, _⟩ | ⟨g', cap', cur, h3, hb, hg, hn, hc, hs, ht⟩
  · simp at h3
  · simp only [Value.slice.injEq, Option.some.injEq, Addr.mk.injEq, and_true, true_and] at h3
    obtain ⟨rfl, rfl⟩ := h3
    refine ⟨g, cap, cur, rfl, hb, hg, by omega, hc, hs, ?_⟩
    rw [← ht, List.take_take]
    congr 1
    omega
theorem nown_cell1 {w : World} {B g n cap : Nat} {e : TypeId} {xs : List Value} (h : w.ownsRow B e 1 (.slice (some ⟨g, 0, none⟩) n cap) n xs) (i : Nat) (u : Value) (hu : xs[i]? = some u) : w.cell? ⟨g, i, none⟩ = some u := by
  have hl := h.1
  have hi := (List.getElem?_eq_some_iff.1 hu).1
  rw [h.cellAt i (by omega), hu]
theorem nsizeInst : (Try.prog.info? 70).map (·.size) = some 7 := by kernel_rfl
theorem ninfoInt : (Try.prog.info? 3).map (fun i => (i.zero, i.size, i.bytes)) = some (some (.int .i64 0), 1, 8) := by kernel_rfl
/-- The maker at p, its map at b, the row. -/
structure NSt (w W : World) (p b : Nat) (S : List Sp) (r : List Nat) (v6 v : Value) (D : RDat) : Prop where
  below : Below w.heap.size w W
  k : IsK W w.heap.size p v b D S
  row : W.ownsRow w.heap.size 3 1 v6 r.length (r.map nV)
  np : ∀ j, v6.ownBlock = some j → j ≠ p ∧ j ≠ b ∧ v.ownBlock ≠ some j
section
variable {w W W2 : World} {p b : Nat} {S : List Sp} {r r' : List Nat} {v6 v : Value} {D : RDat} {A : List Sp × Nat} {e : Ending}
theorem NSt.later (h : NSt w W p b S r v6 v D) (hb : Below W.heap.size W W2) : NSt w W2 p b S r v6 v D :=
  ⟨h.below.trans (hb.mono h.below.size), h.k.still hb, nown_below h.row hb, h.np⟩
theorem NSt.cut {g c : Nat} {ks : List Nat} (h : NSt w W p b S (r' ++ ks) (.slice (some ⟨g, 0, none⟩) (r' ++ ks).length c) v D) : NSt w W p b S r' (.slice (some ⟨g, 0, none⟩) r'.length c) v D := by
  refine ⟨h.below, h.k, ?_, h.np⟩
  have := nrow_cut h.row r'.length (by simp)
  rw [Nat.mul_one, List.map_append, List.take_left' (by simp)] at this
  exact this
theorem NSt.call (h : NSt w W p b S r v6 v D) (hk : KR W w.heap.size p b v A e W2) : ∃ v' D', NSt w W2 p b A.1 r v6 v' D' := by
  obtain ⟨he, hb, v', D', hk', hf⟩ := hk
  refine ⟨v', D', h.below.trans hb, hk', ?_, fun j hj => ?_⟩
  · exact rrow_keep h.row (fun j hj => (hf j (h.row.lt j hj).2 (h.np j hj).1 (h.np j hj).2.1 (h.np j hj).2.2).1)
  · exact ⟨(h.np j hj).1, (h.np j hj).2.1, (hf j (h.row.lt j hj).2 (h.np j hj).1 (h.np j hj).2.1 (h.np j hj).2.2).2⟩
theorem IsK.keeps {T : Nat → Prop} {B : Nat} (h : IsK W B p v b D S) (k : Keeps T W W2) (hp : ¬ T p) (hb : ¬ T b) (hv : ∀ j, v.ownBlock = some j → ¬ T j) : IsK W2 B p v b D S :=
  ⟨(k.block _ (Array.getElem?_eq_some_iff.1 h.block).1 hp).trans h.block, rrow_keep h.out (fun j hj => k.block j (h.out.lt j hj).2 (hv j hj)), rmap_keep h.map (k.block b h.map.lt hb), h.md, h.base, h.base1, h.oks⟩
theorem NSt.push {g cap m : Nat} (h : NSt w W p b S r v6 v D) (own6 : W2.ownsRow w.heap.size 3 1 (.slice (some ⟨g, 0, none⟩) (r.length + 1) cap) (r.length + 1) (r.map nV ++ [.int .i64 ((m : Nat) : Int)])) (keep6 : Keeps (fun k => v6.ownBlock = some k) W W2) (where6 : v6.ownBlock = some g ∨ W.heap.size ≤ g) :
    NSt w W2 p b S (r ++ [m]) (.slice (some ⟨g, 0, none⟩) (r.length + 1) cap) v D := by
  refine ⟨h.below.trans (keep6.below (fun j e => (h.row.lt j e).1) h.below.size), h.k.keeps keep6 (fun e => (h.np _ e).1 rfl) (fun e => (h.np _ e).2.1 rfl) (fun j hj e => (h.np _ e).2.2 hj), ?_, fun j hj => ?_⟩
  · rw [List.length_append, List.length_singleton, List.map_append]; exact own6
  · have hg : g = j := Option.some.inj hj
    subst hg
    rcases where6 with h1 | h1
    · exact h.np g h1
    · refine ⟨fun e => ?_, fun e => ?_, fun e => ?_⟩
      · have := (Array.getElem?_eq_some_iff.1 h.k.block).1; omega
      · have := h.k.map.lt; omega
      · have := (h.k.out.lt _ e).2; omega
end
theorem nst_start (w : World) : NSt w ((w.alloc (.map #[] 0)).alloc (.cells #[.slice none 0 0, .map (some w.heap.size)] 120)) (w.heap.size + 1) w.heap.size [] [] (.slice none 0 0) (.slice none 0 0) (.map []) := by
  have m1 := World.ownsMap_made w Try.prog 73 (plainElem (H := Unit) Try.prog 3)
  have b1 := rbel_new w (.map #[] 0)
  have z1 : (w.alloc (.map #[] 0)).heap.size = w.heap.size + 1 := by simp
  generalize w.alloc (.map #[] 0) = W1 at *
  have b2 := rbel_new W1 (.cells #[.slice none 0 0, .map (some w.heap.size)] 120)
  have h2 := heap_alloc_new W1 (.cells #[.slice none 0 0, .map (some w.heap.size)] 120)
  rw [z1] at h2
  refine ⟨b1.trans (b2.mono b1.size), ⟨h2, World.ownsRow_nil _ _ _ _, rmap_keep m1 (b2.block _ (by omega)), MapS.empty, by omega, Nat.le_refl _, by simp⟩, World.ownsRow_nil _ _ _ _, fun j e => by cases e⟩
/-- What Steps answers. -/
def StR (w : World) (l : List Inx) (e : Ending) (w' : World) : Prop :=
  Below w.heap.size w w' ∧
  ((∃ S n v, l.length ≤ 64 ∧ nall l = some (S, n) ∧ e = .returned (.tuple #[v, .int .i64 ((n : Nat) : Int), .int .i64 0]) ∧ w'.ownsRow w.heap.size 73 10 v S.length (Rec.flat Sp.cells S) ∧ (∀ x ∈ S, x.ok)) ∨
   ((64 < l.length ∨ nall l = none) ∧ e = .returned (.tuple #[.slice none 0 0, .int .i64 0, .int .i64 17])))
theorem nall_bad {l : List Inx} {i : Nat} (h : nrun l (i + 1) = none) (hi : i < l.length) : nall l = none := by
  unfold nall; rw [nrun_none h l.length (by omega)]
theorem nall_of {l : List Inx} {S : List Sp} {n : Nat} (h : nrun l l.length = some (S, [n])) : nall l = some (S, n) := by
  unfold nall; rw [h]
theorem nall_not {l : List Inx} {S : List Sp} {r : List Nat} (h : nrun l l.length = some (S, r)) (hr : r.length ≠ 1) : nall l = none := by
  unfold nall; rw [h]
  match r, hr with
  | [], _ => rfl
  | [n], h => exact absurd rfl h
  | _ :: _ :: _, _ => rfl
end Go.Proofs.Ytofbdgpbekcibaa
