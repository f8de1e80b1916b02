/-
  A model's box.
-/
import Derived.Test.YtbplkphjjfgkmaaDoorModOpen
namespace Go.Proofs.YtbplkphjjfgkmaaDoor
open Go.RowKit
set_option linter.unusedVariables false
set_option linter.unusedSimpArgs false

theorem mbel_new (w : World) (o : Obj) : Below w.heap.size w (w.alloc o) := (Below.refl _ _).alloc (Nat.le_refl _) o
theorem mbelow_dn {B : Nat} {a w : World} (h : Below B a w) (n : Nat) : Below B a (w.drewN n) := ⟨h.os, h.tape, h.output, h.size, h.block⟩
structure MoAt (w : World) (p : Nat) (M : Mo) : Prop where
  c0 : w.cell? ⟨p, 0, none⟩ = some (.slice M.attrs.a M.attrs.n M.attrs.c)
  c1 : w.cell? ⟨p, 1, none⟩ = some (.slice M.inits.a M.inits.n M.inits.c)
  c2 : w.cell? ⟨p, 2, none⟩ = some (.slice M.users.a M.users.n M.users.c)
  c3 : w.cell? ⟨p, 3, none⟩ = some (.slice M.rolesa M.roles.length M.rolesc)
  c4 : w.cell? ⟨p, 4, none⟩ = some (.slice M.stagesa M.stages.length M.stagesc)
  c5 : w.cell? ⟨p, 5, none⟩ = some (.slice M.eventsa M.events.length M.eventsc)
  c6 : w.cell? ⟨p, 6, none⟩ = some (.slice M.guardsa M.guards.length M.guardsc)
  c7 : w.cell? ⟨p, 7, none⟩ = some (.slice M.milesa M.miles.length M.milesc)
  c8 : w.cell? ⟨p, 8, none⟩ = some (.slice M.sodsa M.sods.length M.sodsc)
  c9 : w.cell? ⟨p, 9, none⟩ = some (.slice M.order.a M.order.n M.order.c)
theorem mo_new (w : World) (M : Mo) (t : TypeId) : MoAt (w.alloc (.cells #[.slice M.attrs.a M.attrs.n M.attrs.c, .slice M.inits.a M.inits.n M.inits.c, .slice M.users.a M.users.n M.users.c, .slice M.rolesa M.roles.length M.rolesc, .slice M.stagesa M.stages.length M.stagesc, .slice M.eventsa M.events.length M.eventsc, .slice M.guardsa M.guards.length M.guardsc, .slice M.milesa M.miles.length M.milesc, .slice M.sodsa M.sods.length M.sodsc, .slice M.order.a M.order.n M.order.c] t)) w.heap.size M := by
  constructor <;> (rw [World.cell?_alloc_at _ _ _ _ rfl]; rfl)
theorem mcell_mono {w w' : World} {p : Addr} {v : Value} {B : Nat} (h : w.cell? p = some v) (hb : Below B w w') (hB : w.heap.size ≤ B) : w'.cell? p = some v :=
  (hb.cell (Nat.lt_of_lt_of_le (lt_of_cell h) hB)).trans h
theorem MoAt.mono {w w' : World} {B p : Nat} {M : Mo} (h : MoAt w p M) (hb : Below B w w') (hB : w.heap.size ≤ B) : MoAt w' p M :=
  ⟨mcell_mono h.c0 hb hB, mcell_mono h.c1 hb hB, mcell_mono h.c2 hb hB, mcell_mono h.c3 hb hB, mcell_mono h.c4 hb hB, mcell_mono h.c5 hb hB, mcell_mono h.c6 hb hB, mcell_mono h.c7 hb hB, mcell_mono h.c8 hb hB, mcell_mono h.c9 hb hB⟩
theorem recs_at {α : Type} {cells : α → List Value} {k : Nat} (hk : ∀ x, (cells x).length = k) (h0 : 0 < k) {w : World} {a : Option Addr} {l : List α} (h : Reads w a (Rec.flat cells l)) (i : Nat) (hi : i < l.length) :
    ∃ b off, a = some ⟨b, off, none⟩ ∧ ∀ i (hi : i < l.length), w.rangeAt b (off + i * k) (cells l[i]) := by
  obtain ⟨b, off, rfl, hc⟩ := Reads.at h (by rw [Rec.flat_len hk]; exact Nat.mul_pos (by omega) h0)
  refine ⟨b, off, rfl, fun i hi j v hv => ?_⟩
  have hj : j < k := by rw [← hk l[i]]; exact (List.getElem?_eq_some_iff.1 hv).1
  have h2 : i * k + j < l.length * k := by
    have := Nat.mul_le_mul_right k (show i + 1 ≤ l.length from hi)
    rw [Nat.add_mul] at this; omega
  have := hc (i * k + j) (by rw [Rec.flat_len hk]; exact h2)
  rw [Rec.flat_at hk l i j hi hj] at this
  rw [Nat.add_assoc, this, hv]
end Go.Proofs.YtbplkphjjfgkmaaDoor
