/-
  Chapter 4's example: by a walk.
-/
import Derived.Test.YtpbgicfoopicbaaTreeKids
namespace Go.Proofs.Ytpbgicfoopicbaa
open Go.RowKit
set_option linter.unusedVariables false
set_option linter.unusedSimpArgs false

theorem reads_new (w : World) (xs : List Value) (e : TypeId) : Reads (w.alloc (.cells xs.toArray e)) (some ⟨w.heap.size, 0, none⟩) xs :=
  Or.inr ⟨w.heap.size, 0, rfl, fun j hj => by
    rw [World.cell?_alloc_at _ _ _ _ rfl]
    simp⟩
def it0 (op : Int) : It := ⟨op, ⟨#[]⟩, 0, ⟨#[]⟩, 0, ⟨#[]⟩, ⟨#[]⟩, 0, 0⟩
def aw04 : List It := [it0 1, it0 2, it0 16]
theorem aw04_chk : chk aw04 = 0 := by decide +kernel
theorem aw04_deep : deepOf aw04 = 2 := by decide +kernel
theorem aw04_start : startOf aw04 2 = 0 := by decide +kernel
theorem aw04_kids : kidsOf aw04 2 = [0, 1] := by decide +kernel
set_option maxHeartbeats 1000000 in
theorem awake04_any (w : World) : Calls Try.prog 17 #[] w fun e w' => e = .returned (.bool true) ∧ Below w.heap.size w w' := by
  have hu : ∀ b : Bool, ¬ (some undef = some (Value.bool b)) := fun b h => by cases h
  have rd : RdI (w.alloc (.cells (Rec.flat It.cells aw04).toArray 42)) (some ⟨w.heap.size, 0, none⟩) aw04 := reads_new w _ _
  have bn := below_new w (.cells (Rec.flat It.cells aw04).toArray 42)
  have R := Lib.hid (And.intro rd bn)
  clear rd bn
  go_enter Try.func17, Try.ntmps17
  go_wp2_with fail
  change Calls Try.prog 23 _ (w.alloc (.cells (Rec.flat It.cells aw04).toArray 42)) _
  generalize w.alloc (.cells (Rec.flat It.cells aw04).toArray 42) = W at *
  have KC := tkids_any (some ⟨w.heap.size, 0, none⟩) 3 aw04 2 W (R.out).1 (by simp [aw04, maxLen])
  rw [aw04_kids] at KC
  refine KC.mono ?_
  rintro e w2 ⟨x, rfl, own2, b2⟩
  obtain ⟨g, cap, hv, _⟩ := own_some own2 (by simp)
  simp only [List.length_cons, List.length_nil] at hv own2
  subst hv
  have HO := Lib.hid own2
  have rd2 : RdI w2 (some ⟨w.heap.size, 0, none⟩) aw04 := (R.out).1.mono b2 (Nat.le_refl _)
  have B2 := Lib.hid ((R.out).2.trans (b2.mono (R.out).2.size))
  have CC := check_any (some ⟨w.heap.size, 0, none⟩) 3 aw04 w2 rd2 (by simp [aw04, maxLen])
  rw [aw04_chk] at CC
  have HC := Lib.hid CC
  have HRD := Lib.hid rd2
  clear KC own2 b2 R CC rd2
  go_wp2_with fail
  refine HC.out.mono ?_
  rintro e w3 ⟨rfl, b3⟩
  have rd3 : RdI w3 (some ⟨w.heap.size, 0, none⟩) aw04 := HRD.out.mono b3 (Nat.le_refl _)
  have own3 := own_below HO.out b3
  have B3 := Lib.hid (B2.out.trans (b3.mono B2.out.size))
  have DC := tdeep_any (some ⟨w.heap.size, 0, none⟩) 3 aw04 w3 rd3 (by simp [aw04, maxLen])
  rw [aw04_deep] at DC
  have HD := Lib.hid DC
  have HRD3 := Lib.hid rd3
  have HO3 := Lib.hid own3
  clear HC HRD HO b3 DC rd3 own3
  go_wp2_with fail
  refine HD.out.mono ?_
  rintro e w4 ⟨rfl, b4⟩
  have rd4 : RdI w4 (some ⟨w.heap.size, 0, none⟩) aw04 := HRD3.out.mono b4 (Nat.le_refl _)
  have own4 := own_below HO3.out b4
  have B4 := Lib.hid (B3.out.trans (b4.mono B3.out.size))
  have SC := tstart_any (some ⟨w.heap.size, 0, none⟩) 3 aw04 2 w4 rd4 (by simp [aw04, maxLen])
  rw [aw04_start] at SC
  have HS := Lib.hid SC
  have HO4 := Lib.hid own4
  clear HD HRD3 HO3 b4 SC rd4 own4
  go_wp2_with fail
  refine HS.out.mono ?_
  rintro e w5 ⟨rfl, b5⟩
  have own5 := own_below HO4.out b5
  have B5 := Lib.hid (B4.out.trans (b5.mono B4.out.size))
  have k0 := own_cell1 own5 0 (.int .i64 0) rfl
  have k1 := own_cell1 own5 1 (.int .i64 1) rfl
  clear HS HO4 b5 own5
  go_wp2_with fail
  go_ret
  exact ⟨rfl, B5.out⟩
theorem awake04_end (w0 w : World) (h : Below w0.heap.size w0 w) : Calls Try.prog 17 #[] w fun e w' => e = .returned (.bool true) ∧ Below w0.heap.size w0 w' :=
  (awake04_any w).mono (fun e w' hq => ⟨hq.1, h.trans (hq.2.mono h.size)⟩)
end Go.Proofs.Ytpbgicfoopicbaa
