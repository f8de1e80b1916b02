/-
  The closure that eval.Holds hands on; eval.truth of a comparison: by walks.
-/
import Derived.Test.YtpbgicfoopicbaaEvalCmp
namespace Go.Proofs.Ytpbgicfoopicbaa
open Go.RowKit
set_option linter.unusedVariables false
set_option linter.unusedSimpArgs false

/-- The example's instruction lies there. -/
structure InstAt (w : World) (p : Nat) : Prop where
  c0 : w.cell? ⟨p, 0, none⟩ = some (.int .i64 3)
  c1 : w.cell? ⟨p, 1, none⟩ = some (.int .i64 0)
  c2 : w.cell? ⟨p, 2, none⟩ = some (.int .i64 0)
  c3 : w.cell? ⟨p, 3, none⟩ = some (.int .i64 (-1))
  c4 : w.cell? ⟨p, 4, none⟩ = some (.int .i64 3)
  c5 : w.cell? ⟨p, 5, none⟩ = some (.int .i64 0)
  c6 : w.cell? ⟨p, 6, none⟩ = some (.int .i64 0)
theorem cell_mono {w w' : World} {B p j : Nat} {v : Value} (h : w.cell? ⟨p, j, none⟩ = some v) (hb : Below B w w') (hB : w.heap.size ≤ B) : w'.cell? ⟨p, j, none⟩ = some v :=
  (hb.cell (p := ⟨p, j, none⟩) (Nat.lt_of_lt_of_le (lt_of_cell h) hB)).trans h
theorem InstAt.mono {w w' : World} {B p : Nat} (h : InstAt w p) (hb : Below B w w') (hB : w.heap.size ≤ B) : InstAt w' p :=
  ⟨cell_mono h.c0 hb hB, cell_mono h.c1 hb hB, cell_mono h.c2 hb hB, cell_mono h.c3 hb hB, cell_mono h.c4 hb hB, cell_mono h.c5 hb hB, cell_mono h.c6 hb hB⟩
theorem inst_new (w : World) (t : TypeId) : InstAt (w.alloc (.cells #[.int .i64 3, .int .i64 0, .int .i64 0, .int .i64 (-1), .int .i64 3, .int .i64 0, .int .i64 0] t)) w.heap.size := by
  constructor <;> (rw [World.cell?_alloc_at _ _ _ _ rfl]; rfl)
/-- The example's state lies there; its number. -/
structure StAt (w : World) (h g : Nat) : Prop where
  c0 : w.cell? ⟨h, 0, none⟩ = some (.slice (some ⟨g, 0, none⟩) 1 1)
  c1 : w.cell? ⟨h, 1, none⟩ = some (.int .i64 0)
  c2 : w.cell? ⟨h, 2, none⟩ = some (.int .i64 0)
  c3 : w.cell? ⟨h, 3, none⟩ = some (.slice none 0 0)
  c4 : w.cell? ⟨h, 4, none⟩ = some (.slice none 0 0)
  val : w.cell? ⟨g, 0, none⟩ = some (.int .i64 2)
theorem StAt.mono {w w' : World} {B h g : Nat} (s : StAt w h g) (hb : Below B w w') (hB : w.heap.size ≤ B) : StAt w' h g :=
  ⟨cell_mono s.c0 hb hB, cell_mono s.c1 hb hB, cell_mono s.c2 hb hB, cell_mono s.c3 hb hB, cell_mono s.c4 hb hB, cell_mono s.val hb hB⟩
theorem st_new {w : World} {g : Nat} (hv : w.cell? ⟨g, 0, none⟩ = some (.int .i64 2)) (t : TypeId) : StAt (w.alloc (.cells #[.slice (some ⟨g, 0, none⟩) 1 1, .int .i64 0, .int .i64 0, .slice none 0 0, .slice none 0 0] t)) w.heap.size g := by
  constructor
  iterate 5 (rw [World.cell?_alloc_at _ _ _ _ rfl]; rfl)
  exact cell_mono hv (bel_new w _) (Nat.le_refl _)
set_option maxHeartbeats 1000000 in
theorem clo_any (g h : Nat) (w : World) (s : StAt w h g) :
    Calls Try.prog 57 #[.agg #[.int .i64 3, .int .i64 0, .int .i64 0, .int .i64 (-1), .int .i64 3, .int .i64 0, .int .i64 0], .pointer (some ⟨h, 0, none⟩)] w fun e w' => e = .returned (.iface 4 (.bool true)) ∧ Below w.heap.size w w' := by
  have hu : ∀ b : Bool, ¬ (some undef = some (Value.bool b)) := fun b h => by cases h
  have s1 := s.mono (bel_new w (.cells #[.int .i64 3, .int .i64 0, .int .i64 0, .int .i64 (-1), .int .i64 3, .int .i64 0, .int .i64 0] 70)) (Nat.le_refl _)
  have i1 := inst_new w 70
  have b1 := bel_new w (.cells #[.int .i64 3, .int .i64 0, .int .i64 0, .int .i64 (-1), .int .i64 3, .int .i64 0, .int .i64 0] 70)
  have N1 := Lib.hid (number_at g _ s1.val)
  have HI := Lib.hid (And.intro s1 (And.intro i1 b1))
  obtain ⟨s0, s1', s2, s3, s4, _⟩ := s1
  obtain ⟨i0, i1', i2, i3, i4, i5, i6⟩ := i1
  have hh : h < w.heap.size := lt_of_cell s.c0
  clear s b1
  go_enter Try.func57, Try.ntmps57
  go_wp2_with fail
  refine N1.out.mono ?_
  rintro e w2 ⟨rfl, b2⟩
  generalize w.alloc (.cells #[.int .i64 3, .int .i64 0, .int .i64 0, .int .i64 (-1), .int .i64 3, .int .i64 0, .int .i64 0] 70) = W1 at *
  have s2 := (HI.out).1.mono b2 (Nat.le_refl _)
  have i2 := (HI.out).2.1.mono b2 (Nat.le_refl _)
  have B2 := Lib.hid ((HI.out).2.2.trans (b2.mono (HI.out).2.2.size))
  have HI2 := Lib.hid (And.intro s2 i2)
  have N2 := Lib.hid (number_lit g w2)
  clear s0 s1' s2 s3 s4 i0 i1' i2 i3 i4 i5 i6 b2 N1 HI
  have s2 := (HI2.out).1
  have i2 := (HI2.out).2
  obtain ⟨s0, s1', s2, s3, s4, _⟩ := s2
  obtain ⟨i0, i1', i2, i3, i4, i5, i6⟩ := i2
  go_wp2_with fail
  refine N2.out.mono ?_
  rintro e w3 ⟨rfl, b3⟩
  have i3' := (HI2.out).2.mono b3 (Nat.le_refl _)
  have B3 := Lib.hid (B2.out.trans (b3.mono B2.out.size))
  have C3 := Lib.hid (cmp_any 3 2 3 w3)
  rw [show cmpB 3 2 3 = true by decide] at C3
  clear s0 s1' s2 s3 s4 i0 i1' i2 i3 i4 i5 i6 b3 N2 HI2
  obtain ⟨i0, i1', i2, i3, i4, i5, i6⟩ := i3'
  go_wp2_with (go_at_call 55; refine C3.out.mono ?_; rintro e w4 ⟨rfl, rfl⟩)
  go_ret
  exact ⟨rfl, B3.out⟩
end Go.Proofs.Ytpbgicfoopicbaa
