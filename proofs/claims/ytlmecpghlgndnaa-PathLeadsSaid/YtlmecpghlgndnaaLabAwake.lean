/-
  The chapter's example of layer 32.
-/
import Derived.Test.YtlmecpghlgndnaaLabRef
namespace Go.Proofs.Ytlmecpghlgndnaa
open Go.RowKit
set_option linter.unusedVariables false
set_option linter.unusedSimpArgs false

def aw32 : List (List Int) := [[1], [2], [2]]
theorem aw32_set : Lb.IsSet aw32.length (Lb.EG aw32 [false, true, true]) [false, true, true] := by
  refine ⟨rfl, fun i hi => ?_⟩
  have h3 : i = 0 ∨ i = 1 ∨ i = 2 := by have : aw32.length = 3 := rfl; omega
  have hS : ∀ j, (j = 1 ∨ j = 2) → j < aw32.length ∧ Lb.inB [false, true, true] j = true ∧ ∃ t, (t = 1 ∨ t = 2) ∧ Lb.E aw32 j t := by
    rintro j (rfl | rfl)
    · exact ⟨by decide, rfl, 2, Or.inr rfl, by decide, by decide⟩
    · exact ⟨by decide, rfl, 2, Or.inr rfl, by decide, by decide⟩
  rcases h3 with rfl | rfl | rfl
  · exact ⟨fun h => absurd h (by decide), fun h => absurd h.out.2.1 (by decide)⟩
  · exact ⟨fun _ => ⟨fun j => j = 1 ∨ j = 2, Or.inl rfl, hS⟩, fun _ => rfl⟩
  · exact ⟨fun _ => ⟨fun j => j = 1 ∨ j = 2, Or.inr rfl, hS⟩, fun _ => rfl⟩
theorem bread_new (w : World) (xs : List Bool) (e : TypeId) : Reads (w.alloc (.cells (xs.map Value.bool).toArray e)) (some ⟨w.heap.size, 0, none⟩) (xs.map Value.bool) := reads_new w _ e
theorem aw32_rd (w : World) : RdG ((((w.alloc (.cells #[.int .i64 1] 3)).alloc (.cells #[.int .i64 2] 3)).alloc (.cells #[.int .i64 2] 3)).alloc (.cells #[.slice (some ⟨w.heap.size, 0, none⟩) 1 1, .slice (some ⟨w.heap.size + 1, 0, none⟩) 1 1, .slice (some ⟨w.heap.size + 1 + 1, 0, none⟩) 1 1] 34)) (some ⟨w.heap.size + 1 + 1 + 1, 0, none⟩) aw32 := by
  have r1 := reads_new w [.int .i64 1] 3
  have r2 := reads_new (w.alloc (.cells #[.int .i64 1] 3)) [.int .i64 2] 3
  have r3 := reads_new ((w.alloc (.cells #[.int .i64 1] 3)).alloc (.cells #[.int .i64 2] 3)) [.int .i64 2] 3
  have b2 := below_new (w.alloc (.cells #[.int .i64 1] 3)) (.cells #[.int .i64 2] 3)
  have b3 := below_new ((w.alloc (.cells #[.int .i64 1] 3)).alloc (.cells #[.int .i64 2] 3)) (.cells #[.int .i64 2] 3)
  have b4 := below_new (((w.alloc (.cells #[.int .i64 1] 3)).alloc (.cells #[.int .i64 2] 3)).alloc (.cells #[.int .i64 2] 3)) (.cells #[.slice (some ⟨w.heap.size, 0, none⟩) 1 1, .slice (some ⟨w.heap.size + 1, 0, none⟩) 1 1, .slice (some ⟨w.heap.size + 1 + 1, 0, none⟩) 1 1] 34)
  have r4 := reads_new (((w.alloc (.cells #[.int .i64 1] 3)).alloc (.cells #[.int .i64 2] 3)).alloc (.cells #[.int .i64 2] 3)) [.slice (some ⟨w.heap.size, 0, none⟩) 1 1, .slice (some ⟨w.heap.size + 1, 0, none⟩) 1 1, .slice (some ⟨w.heap.size + 1 + 1, 0, none⟩) 1 1] 34
  simp only [World.size_alloc] at r2 r3 r4
  refine ⟨[.slice (some ⟨w.heap.size, 0, none⟩) 1 1, .slice (some ⟨w.heap.size + 1, 0, none⟩) 1 1, .slice (some ⟨w.heap.size + 1 + 1, 0, none⟩) 1 1], r4, rfl, fun i x hx => ?_⟩
  match i with
  | 0 =>
    simp at hx; subst hx
    exact ⟨_, 1, rfl, ((r1.mono b2 (by simp)).mono b3 (by simp)).mono b4 (by simp)⟩
  | 1 =>
    simp at hx; subst hx
    exact ⟨_, 1, rfl, (r2.mono b3 (by simp)).mono b4 (by simp)⟩
  | 2 =>
    simp at hx; subst hx
    exact ⟨_, 1, rfl, r3.mono b4 (by simp)⟩
  | i + 3 => simp at hx
theorem aw32_rows (i : Nat) : (Lb.row aw32 i).length ≤ 1000 := by
  match i with
  | 0 => decide
  | 1 => decide
  | 2 => decide
  | i + 3 => simp [Lb.row, aw32]
set_option maxHeartbeats 1000000 in
theorem awake32_any (w : World) : Calls Try.prog 11 #[] w fun e w' => e = .returned (.bool true) ∧ Below w.heap.size w w' := by
  have rd := aw32_rd w
  have bl : Below w.heap.size w ((((w.alloc (.cells #[.int .i64 1] 3)).alloc (.cells #[.int .i64 2] 3)).alloc (.cells #[.int .i64 2] 3)).alloc (.cells #[.slice (some ⟨w.heap.size, 0, none⟩) 1 1, .slice (some ⟨w.heap.size + 1, 0, none⟩) 1 1, .slice (some ⟨w.heap.size + 1 + 1, 0, none⟩) 1 1] 34)) :=
    ((Keeps.alloc (fun _ => False) _ _).trans ((Keeps.alloc _ _ _).trans ((Keeps.alloc _ _ _).trans (Keeps.alloc _ _ _)))).below (fun _ h => h.elim) (Nat.le_refl _)
  have R := Lib.hid (And.intro rd bl)
  clear rd bl
  go_enter Try.func11, Try.ntmps11
  go_wp2_with fail
  have hsz : ((((w.alloc (.cells #[.int .i64 1] 3)).alloc (.cells #[.int .i64 2] 3)).alloc (.cells #[.int .i64 2] 3)).alloc (.cells #[.slice (some ⟨w.heap.size, 0, none⟩) 1 1, .slice (some ⟨w.heap.size + 1, 0, none⟩) 1 1, .slice (some ⟨w.heap.size + 1 + 1, 0, none⟩) 1 1] 34)).heap.size = w.heap.size + 1 + 1 + 1 + 1 := by simp
  generalize ((((w.alloc (.cells #[.int .i64 1] 3)).alloc (.cells #[.int .i64 2] 3)).alloc (.cells #[.int .i64 2] 3)).alloc (.cells #[.slice (some ⟨w.heap.size, 0, none⟩) 1 1, .slice (some ⟨w.heap.size + 1, 0, none⟩) 1 1, .slice (some ⟨w.heap.size + 1 + 1, 0, none⟩) 1 1] 34)) = w4 at *
  have rb := bread_new w4 [false, true, true] 4
  have bb := below_new w4 (.cells #[.bool false, .bool true, .bool true] 4)
  rw [hsz] at rb
  refine (eg_any (some ⟨w.heap.size + 1 + 1 + 1, 0, none⟩) (some ⟨w.heap.size + 1 + 1 + 1 + 1, 0, none⟩) 3 3 aw32 [false, true, true] _ ((R.out).1.mono bb (Nat.le_refl _)) rb (by decide) aw32_rows).mono ?_
  rintro e w5 ⟨x, F, rfl, hF, hO, hB⟩
  have hFe := Lb.isSet_one hF aw32_set
  subst hFe
  have b5 := ((R.out).2.trans (bb.mono (R.out).2.size)).trans (hB.mono (((R.out).2.trans (bb.mono (R.out).2.size)).size))
  have HO := Lib.hid (And.intro hO b5)
  clear hO hB b5 rb hF R
  go_wp2_with fail
  have bb5 := below_new w5 (.cells #[.bool false, .bool true, .bool true] 4)
  have rb5 := bread_new w5 [false, true, true] 4
  obtain ⟨xa, xc, hxe, hrx⟩ := Reads.of_own (HO.out).1
  subst hxe
  refine (rsame_any xa (some ⟨w5.heap.size, 0, none⟩) xc 3 [false, true, true] _ (hrx.mono bb5 (Nat.le_refl _)) rb5 (by decide)).mono ?_
  rintro e w6 ⟨rfl, n, rfl⟩
  have b6 := below_drewN ((HO.out).2.trans (bb5.mono (HO.out).2.size)) n
  clear HO bb5 rb5 hrx
  go_wp2_with fail
  go_ret
  exact ⟨rfl, b6⟩
theorem awake32_end (w0 w : World) (h : Below w0.heap.size w0 w) : Calls Try.prog 11 #[] w fun e w' => e = .returned (.bool true) ∧ Below w0.heap.size w0 w' :=
  (awake32_any w).mono (fun e w' hq => ⟨hq.1, h.trans (hq.2.mono h.size)⟩)
end Go.Proofs.Ytlmecpghlgndnaa
