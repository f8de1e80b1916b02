/-
  The row of truths; the closure that recovers: by walks.
-/
import Derived.Test.YtpbgicfoopicbaaEvalNum
namespace Go.Proofs.Ytpbgicfoopicbaa
open Go.RowKit
set_option linter.unusedVariables false
set_option linter.unusedSimpArgs false

/-- The row of truths, behind its pointer. -/
structure RowAt (w : World) (p : Nat) (r : List (Option Bool)) : Prop where
  fz : w.frozen? ⟨p, 0, none⟩ = false
  ex : ∃ v, w.cell? ⟨p, 0, none⟩ = some v ∧ w.ownsRow (p + 1) 20 1 v r.length (r.map tvV)
theorem RowAt.mono {w w' : World} {B p : Nat} {r : List (Option Bool)} (h : RowAt w p r) (hb : Below B w w') (hB : w.heap.size ≤ B) : RowAt w' p r := by
  obtain ⟨v, h1, h2⟩ := h.ex
  refine ⟨(hb.frozen (p := ⟨p, 0, none⟩) (Nat.lt_of_lt_of_le (lt_of_cell h1) hB)).trans h.fz, v, cell_mono h1 hb hB, ?_⟩
  exact (keeps_of (fun _ => False) hb hB).own h2 (fun j _ e => e)
theorem row_cut1 {w : World} {B g n cap : Nat} {e : TypeId} {xs : List Value} (h : w.ownsRow B e 1 (.slice (some ⟨g, 0, none⟩) n cap) n xs) (m : Nat) (hm : m ≤ n) : w.ownsRow B e 1 (.slice (some ⟨g, 0, none⟩) m cap) m (xs.take m) := by
  obtain ⟨h1, h2⟩ := h
  refine ⟨by simp; omega, Or.inr ?_⟩
  rcases h2 with ⟨h3, _⟩ | ⟨g', cap', cur, h3, hb, hg, hn, hc, hs, ht⟩
  · simp at h3
  · simp only [Value.slice.injEq, Option.some.injEq, Addr.mk.injEq, and_true, true_and] at h3
    obtain ⟨rfl, rfl⟩ := h3
    refine ⟨g, cap, cur, rfl, hb, hg, by omega, hc, hs, ?_⟩
    rw [← ht, List.take_take]
    congr 1
    omega
theorem own_cellA {w : World} {B g n cap : Nat} {e : TypeId} {xs : List Value} (h : w.ownsRow B e 1 (.slice (some ⟨g, 0, none⟩) n cap) n xs) (i : Nat) (u : Value) (hu : xs[i]? = some u) : w.cell? ⟨g, i, none⟩ = some u := by
  have hl := h.1
  have hi := (List.getElem?_eq_some_iff.1 hu).1
  rw [h.cellAt i (by omega), hu]
def Put2Ans (p : Nat) (r : List (Option Bool)) (w : World) (e : Ending) (w' : World) : Prop := e = .returned (.tuple #[]) ∧ RowAt w' p r ∧ Keeps (fun j => p ≤ j) w w'
theorem put_end {w w5 : World} {p a5 g5 cap5 n : Nat} {v : Value} {r : List (Option Bool)} {u : Option Bool} (hp : w.cell? ⟨p, 0, none⟩ = some v) (hz : w.frozen? ⟨p, 0, none⟩ = false) (hown : w.ownsRow (p + 1) 20 1 v r.length (r.map tvV))
    (own5 : w5.ownsRow (p + 1) 20 1 (.slice (some ⟨g5, 0, none⟩) (r.length + 1) cap5) (r.length + 1) (r.map tvV ++ [tvV u])) (keep5 : Keeps (fun k => v.ownBlock = some k) w w5) :
    w5.cell? ⟨p, 0, none⟩ = some v ∧ w5.frozen? ⟨p, 0, none⟩ = false ∧ Put2Ans p (r ++ [u]) w (.returned (.tuple #[])) (w5.setCell ⟨p, 0, none⟩ (.slice (some ⟨g5, 0, none⟩) (r.length + 1) cap5)) := by
  have hne : ¬ v.ownBlock = some p := fun e => by have := (hown.lt p e).1; omega
  have p5 := keeps_cell keep5 hp hne
  have z5 := (keeps_frozen (j := 0) keep5 (lt_of_cell hp) hne).trans hz
  have k6 : Keeps (fun j => j = p) w5 (w5.setCell ⟨p, 0, none⟩ (.slice (some ⟨g5, 0, none⟩) (r.length + 1) cap5)) := Keeps.setCell w5 ⟨p, 0, none⟩ _ rfl
  refine ⟨p5, z5, rfl, ⟨by simp [z5], _, by simp [World.cell?_setCell_same, p5]; rfl, ?_⟩, ?_⟩
  · rw [List.length_append, List.map_append, List.length_singleton]
    exact k6.own own5 (fun j hj e => by
      have h1 : g5 = j := Option.some.inj hj
      have h2 := (own5.lt g5 rfl).1
      omega)
  · refine Keeps.trans (b := w5) ⟨keep5.os, keep5.tape, keep5.output, keep5.size, fun j hj hs => keep5.block j hj (fun e => by have := (hown.lt j e).1; omega)⟩ ⟨k6.os, k6.tape, k6.output, k6.size, fun j hj hs => k6.block j hj (fun e => by omega)⟩
set_option maxHeartbeats 1000000 in
theorem put_any2 (p : Nat) (r : List (Option Bool)) (u : Option Bool) (w : World) (h : RowAt w p r) (hr : r.length ≤ 64) :
    Calls Try.prog 71 #[.pointer (some ⟨p, 0, none⟩), tvV u] w (Put2Ans p (r ++ [u]) w) := by
  obtain ⟨v, hp, hown⟩ := h.ex
  have hz := h.fz
  have hlt : p < w.heap.size := lt_of_cell hp
  obtain ⟨a, c, hv⟩ := own_len hown
  subst hv
  have HP := Lib.hid (And.intro hp (And.intro hz hown))
  clear h
  cases u with
  | none =>
    show Calls Try.prog 71 #[.pointer (some ⟨p, 0, none⟩), .nilIface] w _
    clear hown
    go_enter Try.func71, Try.ntmps71
    go_wp2_with (at_builtin; refine append_at (v := .slice a r.length c) rfl _ _ 136 rfl 20 .nilIface 1 16 Try.underlying136 infoAny rfl (by decide) rfl (HP.out).2.2 (by omega) [.nilIface] rfl (by simp [Value.oneCell']) rfl rfl (by decide) (by omega) ?_; intro g5 cap5 w5 own5 keep5 where5; obtain ⟨p5, z5, an5⟩ := put_end (a5 := 0) (n := 0) (u := none) (HP.out).1 (HP.out).2.1 (HP.out).2.2 own5 keep5; have HW := Lib.hid an5; clear own5 keep5 where5 an5)
    go_end0
    exact HW.out
  | some b =>
    show Calls Try.prog 71 #[.pointer (some ⟨p, 0, none⟩), .iface 4 (.bool b)] w _
    clear hown
    go_enter Try.func71, Try.ntmps71
    go_wp2_with (at_builtin; refine append_at (v := .slice a r.length c) rfl _ _ 136 rfl 20 .nilIface 1 16 Try.underlying136 infoAny rfl (by decide) rfl (HP.out).2.2 (by omega) [.iface 4 (.bool b)] rfl (by simp [Value.oneCell']) rfl rfl (by decide) (by omega) ?_; intro g5 cap5 w5 own5 keep5 where5; obtain ⟨p5, z5, an5⟩ := put_end (a5 := 0) (n := 0) (u := some b) (HP.out).1 (HP.out).2.1 (HP.out).2.2 own5 keep5; have HW := Lib.hid an5; clear own5 keep5 where5 an5)
    go_end0
    exact HW.out
/-- A panic that can be caught. -/
def Dies (p : Nat) (w : World) (e : Ending) (w' : World) : Prop := (∃ t pv, e = .panicked [{ v := .iface t pv, recovered := false }]) ∧ Keeps (fun j => p ≤ j) w w'
theorem take_nil (p : Nat) (w : World) (h : RowAt w p []) : Calls Try.prog 73 #[.pointer (some ⟨p, 0, none⟩)] w (Dies p w) := by
  obtain ⟨v, hp, hown⟩ := h.ex
  obtain ⟨a, c, hv⟩ := own_len hown
  subst hv
  simp only [List.length_nil] at hp
  clear h hown
  go_enter Try.func73, Try.ntmps73
  go_wp2
  simp [bodyPost]
  exact ⟨⟨_, _, rfl⟩, Keeps.refl _ _⟩
set_option maxHeartbeats 1000000 in
theorem take_some (p : Nat) (r : List (Option Bool)) (b : Bool) (w : World) (h : RowAt w p (r ++ [some b])) (hr : r.length ≤ 64) :
    Calls Try.prog 73 #[.pointer (some ⟨p, 0, none⟩)] w fun e w' => e = .returned (.bool b) ∧ RowAt w' p r ∧ Keeps (fun j => j = p) w w' := by
  have hu : ∀ b : Bool, ¬ (some undef = some (Value.bool b)) := fun b h => by cases h
  obtain ⟨v, hp, hown⟩ := h.ex
  have hz := h.fz
  rw [List.length_append, List.length_singleton, List.map_append, List.map_singleton] at hown
  obtain ⟨g, c, hv, hg1, hc, hcm, hgl⟩ := own_some hown (by omega)
  subst hv
  have hlast := own_cellA hown r.length (.iface 4 (.bool b)) (by rw [List.getElem?_append_right (by simp)]; simp [tvV])
  have hcut := row_cut1 hown r.length (by omega)
  rw [List.take_left' (by simp)] at hcut
  have ht := fun w => ta_bool b w
  have HR : Hid (∀ n, RowAt (((w.drewN n).setCell ⟨p, 0, none⟩ (.slice (some ⟨g, 0, none⟩) r.length c))) p r ∧ Keeps (fun j => j = p) w ((w.drewN n).setCell ⟨p, 0, none⟩ (.slice (some ⟨g, 0, none⟩) r.length c))) := Lib.hid (fun n => by
    have k6 : Keeps (fun j => j = p) w ((w.drewN n).setCell ⟨p, 0, none⟩ (.slice (some ⟨g, 0, none⟩) r.length c)) := (Keeps.drewN _ _ n).trans (Keeps.setCell _ ⟨p, 0, none⟩ _ rfl)
    refine ⟨⟨by simp [hz], _, by simp [World.cell?_setCell_same, hp]; rfl, ?_⟩, k6⟩
    exact k6.own hcut (fun j hj e => by
      have h1 : g = j := Option.some.inj hj
      omega))
  clear h hown hcut
  go_enter Try.func73, Try.ntmps73
  go_wp2
  go_quiet (fail)
  go_wp2
  go_region
  all_goals (try go_wp2)
  all_goals go_ret
  all_goals refine ⟨rfl, ?_⟩
  all_goals first | exact HR.out _ | exact HR.out (_ + 1) | exact HR.out 0 | exact HR.out 1
/-- What the runtime's own panic is made of. -/
noncomputable def badO : Obj := match (Instr.typeAssert .nilIface 20 4 false).run Try.prog (default : World) with
  | .halt _ w' => (w'.heap.toList.getLastD default)
  | .ok _ _ => default
theorem ta_nil : ∃ (T : TypeId), ∀ w, (Instr.typeAssert .nilIface 20 4 false).run Try.prog w = .halt (.panic (.iface T (.pointer (some ⟨w.heap.size, 0, none⟩)))) (w.alloc badO) :=
  ⟨Try.prog.rt.typeAssertionError, fun w => by kernel_rfl⟩
set_option maxHeartbeats 1000000 in
theorem take_bad (p : Nat) (r : List (Option Bool)) (w : World) (h : RowAt w p (r ++ [none])) (hr : r.length ≤ 64) :
    Calls Try.prog 73 #[.pointer (some ⟨p, 0, none⟩)] w (Dies p w) := by
  have hu : ∀ b : Bool, ¬ (some undef = some (Value.bool b)) := fun b h => by cases h
  obtain ⟨v, hp, hown⟩ := h.ex
  have hz := h.fz
  rw [List.length_append, List.length_singleton, List.map_append, List.map_singleton] at hown
  obtain ⟨g, c, hv, hg1, hc, hcm, hgl⟩ := own_some hown (by omega)
  subst hv
  have hlast := own_cellA hown r.length .nilIface (by rw [List.getElem?_append_right (by simp)]; simp [tvV])
  have hlt : p < w.heap.size := lt_of_cell hp
  clear h hown
  obtain ⟨T, ht⟩ := ta_nil
  go_enter Try.func73, Try.ntmps73
  go_wp2
  go_quiet (fail)
  go_wp2
  go_region
  all_goals (try go_wp2)
  all_goals
    refine ⟨rfl, ⟨_, _, rfl⟩, ?_⟩
    refine Keeps.trans ?_ (Keeps.alloc _ _ _)
    refine Keeps.trans ?_ (Keeps.setCell _ ⟨p, 0, none⟩ _ (Nat.le_refl p))
    first | exact Keeps.drewN _ _ _ | exact Keeps.refl _ _
end Go.Proofs.Ytpbgicfoopicbaa
