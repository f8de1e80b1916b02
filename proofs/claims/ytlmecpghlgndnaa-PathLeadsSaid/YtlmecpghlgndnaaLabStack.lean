/-
  label's stack: push, pop.
-/
import Derived.Test.YtlmecpghlgndnaaLabFroms
namespace Go.Proofs.Ytlmecpghlgndnaa
open Go.RowKit
set_option linter.unusedVariables false
set_option linter.unusedSimpArgs false

/-- A stack in a variable of its own. -/
structure Stk (w : World) (B b : Nat) (v : Value) (St : List Int) : Prop where
  box : Box w B b 46 v
  row : w.ownsRow B 3 1 v St.length (St.map (Value.int .i64))
theorem Stk.ne {w : World} {B b : Nat} {v : Value} {St : List Int} (h : Stk w B b v St) : v.ownBlock ≠ some b :=
  fun e => lie_apart h.row h.box (by decide) b e rfl
theorem Stk.keeps {S : Nat → Prop} {w w' : World} {B b : Nat} {v : Value} {St : List Int} (h : Stk w B b v St) (k : Keeps S w w') (hb : ¬ S b) (hv : ∀ j, v.ownBlock = some j → ¬ S j) : Stk w' B b v St :=
  ⟨h.box.keeps k hb, k.own h.row hv⟩
theorem row_cut {w : World} {B g n cap : Nat} {e : TypeId} {xs : List Value} (h : w.ownsRow B e 1 (.slice (some ⟨g, 0, none⟩) n cap) n xs) (m : Nat) (hm : m ≤ n) : w.ownsRow B e 1 (.slice (some ⟨g, 0, none⟩) m cap) m (xs.take m) := by
  obtain ⟨h1, h2⟩ := h
  refine ⟨by simp; omega, Or.inr ?_⟩
  rcases h2 with ⟨h3, _⟩ | ⟨g', cap', cur, h3, hb, hg, hn, hc, hs, ht⟩
  · simp at h3
  · simp only [Value.slice.injEq, Option.some.injEq, Addr.mk.injEq, and_true, true_and] at h3
    obtain ⟨rfl, rfl⟩ := h3
    refine ⟨g, cap, cur, rfl, hb, hg, by omega, hc, hs, ?_⟩
    rw [← ht, List.take_take]
    congr 1
    omega
def PushAns (B b : Nat) (v : Value) (St : List Int) (y : Int) (w : World) (e : Ending) (w' : World) : Prop :=
  (∃ r, e = .returned r) ∧ ∃ v', Stk w' B b v' (St ++ [y]) ∧ Keeps (fun j => j = b ∨ v.ownBlock = some j) w w' ∧ ∀ j, v'.ownBlock = some j → v.ownBlock = some j ∨ w.heap.size ≤ j
set_option maxHeartbeats 1000000 in
theorem push_any (B b : Nat) (v : Value) (St : List Int) (y : Int) (w : World) (h : Stk w B b v St) (hm : St.length ≤ 1000000) :
    Calls Try.prog 30 #[.pointer (some ⟨b, 0, none⟩), .int .i64 y] w (PushAns B b v St y w) := by
  have hne := h.ne
  have hbx := h.box
  have hrow := h.row
  have hlt := hbx.lt
  obtain ⟨xa, xc, hx⟩ := own_len hrow
  subst hx
  have hc := hbx.cell
  have hf := hbx.frozen
  have hsz : B ≤ w.heap.size := by omega
  have HB := Lib.hid hbx
  have HNE := Lib.hid hne
  clear hbx h hne
  go_enter Try.func30, Try.ntmps30
  go_wp2_with (at_builtin; refine append_at (v := .slice xa St.length xc) rfl _ _ 46 rfl 3 (.int .i64 0) 1 8 Try.underlying46 Try.info3 rfl (by decide) rfl hrow hsz _ rfl (by simp [Value.oneCell']) rfl rfl (by decide) (by omega) ?_; intro g5 cap5 w5 own5 keep5 where5; have box5 := (HB.out).keeps keep5 HNE.out; have c5 := box5.cell; have f5 := box5.frozen; have s5 := box5.lt)
  refine bodyPost_ret (results_none rfl _ _ _) rfl ?_
  have hg5 : g5 ≠ b := by
    rcases where5 with h1 | h1
    · intro e; subst e; exact HNE.out h1
    · omega
  have hk : Keeps (fun j => j = b) w5 (w5.setCell ⟨b, 0, none⟩ (.slice (some ⟨g5, 0, none⟩) (St.length + 1) cap5)) := Keeps.setCell _ _ _ rfl
  refine ⟨⟨_, rfl⟩, _, ⟨box5.set _, ?_⟩, (keep5.weaken (fun j _ e => Or.inr e)).trans (hk.weaken (fun j _ e => Or.inl e)), fun j hj => ?_⟩
  · rw [List.length_append, List.map_append]
    exact hk.own own5 (fun j hj e => by simp [Value.ownBlock] at hj; omega)
  · simp [Value.ownBlock] at hj
    subst hj
    exact where5
set_option maxHeartbeats 1000000 in
theorem pop_none (B b : Nat) (v : Value) (w : World) (h : Stk w B b v []) :
    Calls Try.prog 31 #[.pointer (some ⟨b, 0, none⟩)] w fun e w' => e = .returned (.tuple #[.int .i64 0, .bool false]) ∧ w = w' := by
  have hbx := h.box
  obtain ⟨xa, xc, hx⟩ := own_len h.row
  simp only [List.length_nil] at hx
  subst hx
  have hc := hbx.cell
  clear hbx h
  go_enter Try.func31, Try.ntmps31
  go_wp2_with fail
  go_ret2
  exact ⟨rfl, rfl⟩
set_option maxHeartbeats 1000000 in
theorem pop_some (B b : Nat) (v : Value) (St : List Int) (x : Int) (w : World) (h : Stk w B b v (St ++ [x])) (hm : St.length ≤ 1000000) :
    Calls Try.prog 31 #[.pointer (some ⟨b, 0, none⟩)] w fun e w' => e = .returned (.tuple #[.int .i64 x, .bool true]) ∧ ∃ v', Stk w' B b v' St ∧ Keeps (fun j => j = b) w w' ∧ v'.ownBlock = v.ownBlock := by
  have hne := h.ne
  have hbx := h.box
  have hst := h.row
  simp only [List.length_append, List.length_singleton, List.map_append] at hst
  obtain ⟨g9, c9, hv, hg9, hc9, hcm9, hgs9⟩ := own_some hst (by simp)
  subst hv
  have hcx := hst.cellAt St.length (by simp)
  rw [List.getElem?_append_right (by simp)] at hcx
  simp at hcx
  have hc := hbx.cell
  have hf := hbx.frozen
  have hlt := hbx.lt
  have HS := Lib.hid (And.intro hst hbx)
  have HNE := Lib.hid hne
  clear hbx h hne hst
  go_enter Try.func31, Try.ntmps31
  go_wp2_with fail
  go_ret2
  have hst := (HS.out).1
  have hk : Keeps (fun j => j = b) w (w.setCell ⟨b, 0, none⟩ (.slice (some ⟨g9, 0, none⟩) St.length c9)) := Keeps.setCell _ _ _ rfl
  have hgb : g9 ≠ b := fun e => HNE.out (by simp [Value.ownBlock, e])
  refine ⟨rfl, _, ⟨(HS.out).2.set _, ?_⟩, hk, rfl⟩
  have st2 := row_cut hst St.length (by simp)
  rw [List.take_left' (by simp)] at st2
  exact hk.own st2 (fun j hj e => by simp [Value.ownBlock] at hj; omega)
end Go.Proofs.Ytlmecpghlgndnaa
