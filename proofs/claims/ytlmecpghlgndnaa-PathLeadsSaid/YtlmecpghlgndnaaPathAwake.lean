/-
  Chapter 35's example: by a walk.
-/
import Derived.Test.YtlmecpghlgndnaaPathShort
import Derived.Test.YtlmecpghlgndnaaLabAwake
import Derived.Test.YtlmecpghlgndnaaSame
namespace Go.Proofs.Ytlmecpghlgndnaa
open Go.RowKit
set_option linter.unusedVariables false
set_option linter.unusedSimpArgs false

def aw35 : List (List Int) := [[1, 2], [2], [2]]
theorem aw35_way : Pa.shortest aw35 [true, true, true] [false, false, true] 0 = some [1] := by decide +kernel
theorem aw35_rows (i : Nat) : (Lb.row aw35 i).length ≤ 1000 := by
  match i with
  | 0 => decide
  | 1 => decide
  | 2 => decide
  | i + 3 => simp [Lb.row, aw35]
theorem aw35_rd (w : World) : RdG ((((w.alloc (.cells #[.int .i64 1, .int .i64 2] 3)).alloc (.cells #[.int .i64 2] 3)).alloc (.cells #[.int .i64 2] 3)).alloc (.cells #[.slice (some ⟨w.heap.size, 0, none⟩) 2 2, .slice (some ⟨w.heap.size + 1, 0, none⟩) 1 1, .slice (some ⟨w.heap.size + 1 + 1, 0, none⟩) 1 1] 34)) (some ⟨w.heap.size + 1 + 1 + 1, 0, none⟩) aw35 := by
  have r1 := reads_new w [.int .i64 1, .int .i64 2] 3
  have r2 := reads_new (w.alloc (.cells #[.int .i64 1, .int .i64 2] 3)) [.int .i64 2] 3
  have r3 := reads_new ((w.alloc (.cells #[.int .i64 1, .int .i64 2] 3)).alloc (.cells #[.int .i64 2] 3)) [.int .i64 2] 3
  have b2 := below_new (w.alloc (.cells #[.int .i64 1, .int .i64 2] 3)) (.cells #[.int .i64 2] 3)
  have b3 := below_new ((w.alloc (.cells #[.int .i64 1, .int .i64 2] 3)).alloc (.cells #[.int .i64 2] 3)) (.cells #[.int .i64 2] 3)
  have b4 := below_new (((w.alloc (.cells #[.int .i64 1, .int .i64 2] 3)).alloc (.cells #[.int .i64 2] 3)).alloc (.cells #[.int .i64 2] 3)) (.cells #[.slice (some ⟨w.heap.size, 0, none⟩) 2 2, .slice (some ⟨w.heap.size + 1, 0, none⟩) 1 1, .slice (some ⟨w.heap.size + 1 + 1, 0, none⟩) 1 1] 34)
  have r4 := reads_new (((w.alloc (.cells #[.int .i64 1, .int .i64 2] 3)).alloc (.cells #[.int .i64 2] 3)).alloc (.cells #[.int .i64 2] 3)) [.slice (some ⟨w.heap.size, 0, none⟩) 2 2, .slice (some ⟨w.heap.size + 1, 0, none⟩) 1 1, .slice (some ⟨w.heap.size + 1 + 1, 0, none⟩) 1 1] 34
  simp only [World.size_alloc] at r2 r3 r4
  refine ⟨[.slice (some ⟨w.heap.size, 0, none⟩) 2 2, .slice (some ⟨w.heap.size + 1, 0, none⟩) 1 1, .slice (some ⟨w.heap.size + 1 + 1, 0, none⟩) 1 1], r4, rfl, fun i x hx => ?_⟩
  match i with
  | 0 =>
    simp at hx; subst hx
    exact ⟨_, 2, rfl, ((r1.mono b2 (by simp)).mono b3 (by simp)).mono b4 (by simp)⟩
  | 1 =>
    simp at hx; subst hx
    exact ⟨_, 1, rfl, (r2.mono b3 (by simp)).mono b4 (by simp)⟩
  | 2 =>
    simp at hx; subst hx
    exact ⟨_, 1, rfl, r3.mono b4 (by simp)⟩
  | i + 3 => simp at hx
set_option maxHeartbeats 1000000 in
theorem awake35_any (w : World) : Calls Try.prog 21 #[] w fun e w' => e = .returned (.bool true) ∧ Below w.heap.size w w' := by
  have rd := aw35_rd w
  have bl : Below w.heap.size w ((((w.alloc (.cells #[.int .i64 1, .int .i64 2] 3)).alloc (.cells #[.int .i64 2] 3)).alloc (.cells #[.int .i64 2] 3)).alloc (.cells #[.slice (some ⟨w.heap.size, 0, none⟩) 2 2, .slice (some ⟨w.heap.size + 1, 0, none⟩) 1 1, .slice (some ⟨w.heap.size + 1 + 1, 0, none⟩) 1 1] 34)) :=
    ((Keeps.alloc (fun _ => False) _ _).trans ((Keeps.alloc _ _ _).trans ((Keeps.alloc _ _ _).trans (Keeps.alloc _ _ _)))).below (fun _ h => h.elim) (Nat.le_refl _)
  have R := Lib.hid (And.intro rd bl)
  clear rd bl
  go_enter Try.func21, Try.ntmps21
  go_wp2_with fail
  have hsz : ((((w.alloc (.cells #[.int .i64 1, .int .i64 2] 3)).alloc (.cells #[.int .i64 2] 3)).alloc (.cells #[.int .i64 2] 3)).alloc (.cells #[.slice (some ⟨w.heap.size, 0, none⟩) 2 2, .slice (some ⟨w.heap.size + 1, 0, none⟩) 1 1, .slice (some ⟨w.heap.size + 1 + 1, 0, none⟩) 1 1] 34)).heap.size = w.heap.size + 1 + 1 + 1 + 1 := by simp
  generalize ((((w.alloc (.cells #[.int .i64 1, .int .i64 2] 3)).alloc (.cells #[.int .i64 2] 3)).alloc (.cells #[.int .i64 2] 3)).alloc (.cells #[.slice (some ⟨w.heap.size, 0, none⟩) 2 2, .slice (some ⟨w.heap.size + 1, 0, none⟩) 1 1, .slice (some ⟨w.heap.size + 1 + 1, 0, none⟩) 1 1] 34)) = w4 at *
  have ra := bread_new w4 [true, true, true] 4
  have ba := below_new w4 (.cells #[.bool true, .bool true, .bool true] 4)
  have rb := bread_new (w4.alloc (.cells #[.bool true, .bool true, .bool true] 4)) [false, false, true] 4
  have bb := below_new (w4.alloc (.cells #[.bool true, .bool true, .bool true] 4)) (.cells #[.bool false, .bool false, .bool true] 4)
  rw [hsz] at ra
  rw [World.size_alloc, hsz] at rb
  have bab := ba.trans (bb.mono ba.size)
  refine (shortest_any (some ⟨w.heap.size + 1 + 1 + 1, 0, none⟩) (some ⟨w.heap.size + 1 + 1 + 1 + 1, 0, none⟩) (some ⟨w.heap.size + 1 + 1 + 1 + 1 + 1, 0, none⟩) 3 3 3 aw35 0 [true, true, true] [false, false, true] _ ((R.out).1.mono bab (Nat.le_refl _)) (ra.mono bb (Nat.le_refl _)) rb (by decide) aw35_rows).mono ?_
  intro e w5 hq
  rw [aw35_way] at hq
  obtain ⟨x, rfl, own5, b5⟩ := hq
  have b6 := ((R.out).2.trans (bab.mono (R.out).2.size)).trans (b5.mono ((R.out).2.trans (bab.mono (R.out).2.size)).size)
  obtain ⟨xa, xc, hxe, hrx⟩ := Reads.of_ints own5
  subst hxe
  have H6 := Lib.hid (And.intro hrx b6)
  clear own5 b5 b6 hrx ra ba rb bb bab R
  go_wp2_with fail
  have bb5 := below_new w5 (.cells #[.int .i64 1] 3)
  have rb5 := reads_new w5 [.int .i64 1] 3
  refine (same_self xa (some ⟨w5.heap.size, 0, none⟩) xc 1 [1] _ ((H6.out).1.mono bb5 (Nat.le_refl _)) rb5 (by decide)).mono ?_
  rintro e w6 ⟨rfl, n, rfl⟩
  have b7 := below_drewN ((H6.out).2.trans (bb5.mono (H6.out).2.size)) n
  clear H6 bb5 rb5
  go_wp2_with fail
  go_ret
  exact ⟨rfl, b7⟩
theorem awake35_end (w0 w : World) (h : Below w0.heap.size w0 w) : Calls Try.prog 21 #[] w fun e w' => e = .returned (.bool true) ∧ Below w0.heap.size w0 w' :=
  (awake35_any w).mono (fun e w' hq => ⟨hq.1, h.trans (hq.2.mono h.size)⟩)
theorem awake35_hid : Hid (∀ w', Calls Try.prog 21 #[] w' fun e w2 => e = .returned (.bool true) ∧ Below w'.heap.size w' w2) := Lib.hid awake35_any
end Go.Proofs.Ytlmecpghlgndnaa
