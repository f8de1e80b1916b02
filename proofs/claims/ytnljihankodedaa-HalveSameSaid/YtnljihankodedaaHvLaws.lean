/-
  The laws on gaps, by walks.
-/
import Derived.Test.YtnljihankodedaaHvSame
namespace Go.Proofs.Ytnljihankodedaa
open Go.RowKit
set_option linter.unusedVariables false
set_option linter.unusedSimpArgs false

theorem pnew (w : World) (o : Obj) : Below w.heap.size w (w.alloc o) := (Keeps.alloc (fun _ => False) w o).below (fun _ h => h.elim) (Nat.le_refl _)
set_option maxHeartbeats 1000000 in
theorem awake21_any (w : World) : Calls Try.prog 37 #[] w fun e w' => e = .returned (.bool true) ∧ Below w.heap.size w w' := by
  go_enter Try.func37, Try.ntmps37
  go_wp2_with fail
  refine (cap_any 3 w).mono ?_
  rintro e w1 ⟨rfl, rfl⟩
  rw [show ((Hv.cap 3 : Nat) : Int) = 7 by decide]
  go_wp2_with fail
  refine (splits_any 2 2 w (by omega) (by omega)).mono ?_
  rintro e w1 ⟨x, rfl, hO, hB⟩
  rw [show (Hv.splits 2 2).map Hv.zi = [(0, 1), (1, 0)] by decide] at hO
  have P1 := Lib.hid (And.intro (PR.of hO) hB)
  obtain ⟨xa, xc, hx⟩ := own_len hO
  subst hx
  clear hO hB
  go_wp2_with fail
  have b2 := pnew w1 (.cells #[.int .i64 0, .int .i64 1, .int .i64 1, .int .i64 0] 39)
  have p2 : PR (w1.alloc (.cells #[.int .i64 0, .int .i64 1, .int .i64 1, .int .i64 0] 39)) (.slice (some ⟨w1.heap.size, 0, none⟩) 2 2) [(0, 1), (1, 0)] := PR.lit w1 [(0, 1), (1, 0)] 39 2
  generalize (w1.alloc (.cells #[.int .i64 0, .int .i64 1, .int .i64 1, .int .i64 0] 39)) = w2 at *
  refine (psame_any (L := [(0, 1), (1, 0)]) ((P1.out).1.mono b2) p2 (by decide)).mono ?_
  rintro e w3 ⟨rfl, n, rfl⟩
  have b3 := below_drewN ((P1.out).2.trans (b2.mono (P1.out).2.size)) n
  generalize w2.drewN n = w3 at *
  have B3 := Lib.hid b3
  clear P1 b2 p2 b3
  go_wp2_with fail
  refine (splits_any 3 2 w3 (by omega) (by omega)).mono ?_
  rintro e w4 ⟨x, rfl, hO, hB⟩
  rw [show (Hv.splits 3 2).map Hv.zi = [(0, 1), (1, 0), (1, 1)] by decide] at hO
  have P4 := Lib.hid (And.intro (PR.of hO) ((B3.out).trans (hB.mono (B3.out).size)))
  obtain ⟨ya, yc, hy⟩ := own_len hO
  subst hy
  clear hO hB B3
  go_wp2_with fail
  have b5 := pnew w4 (.cells #[.int .i64 0, .int .i64 1, .int .i64 1, .int .i64 0, .int .i64 1, .int .i64 1] 39)
  have p5 : PR (w4.alloc (.cells #[.int .i64 0, .int .i64 1, .int .i64 1, .int .i64 0, .int .i64 1, .int .i64 1] 39)) (.slice (some ⟨w4.heap.size, 0, none⟩) 3 3) [(0, 1), (1, 0), (1, 1)] := PR.lit w4 [(0, 1), (1, 0), (1, 1)] 39 3
  generalize (w4.alloc (.cells #[.int .i64 0, .int .i64 1, .int .i64 1, .int .i64 0, .int .i64 1, .int .i64 1] 39)) = w5 at *
  refine (psame_any (L := [(0, 1), (1, 0), (1, 1)]) ((P4.out).1.mono b5) p5 (by decide)).mono ?_
  rintro e w6 ⟨rfl, n2, rfl⟩
  have b6 := below_drewN ((P4.out).2.trans (b5.mono (P4.out).2.size)) n2
  generalize w5.drewN n2 = w6 at *
  clear P4 b5 p5
  go_wp2_with fail
  go_ret
  exact ⟨rfl, b6⟩
theorem awake21_end (w0 w : World) (h : Below w0.heap.size w0 w) : Calls Try.prog 37 #[] w fun e w' => e = .returned (.bool true) ∧ Below w0.heap.size w0 w' :=
  (awake21_any w).mono (fun e w' hq => ⟨hq.1, h.trans (hq.2.mono h.size)⟩)
set_option maxHeartbeats 1000000 in
theorem halveCaps_walk (a b r : Int) (w : World) (ha : -9223372036854775808 ≤ a ∧ a ≤ 9223372036854775807) (hb : -9223372036854775808 ≤ b ∧ b ≤ 9223372036854775807) :
    Calls Try.prog 7 #[.int .i64 a, .int .i64 b, .int .i64 r] w fun e w' => e = .returned (.bool true) ∧ Below w.heap.size w w' := by
  have h1 := Hv.clip_le a r
  have h2 := Hv.clip_le b r
  have C := Lib.hid (fun w => cap_any r w)
  have RC := Lib.hid (fun w => rcap_any r w)
  have CA := Lib.hid (fun w => clip_any a r w ha)
  have RA := Lib.hid (fun w => rclip_any a r w ha)
  have RB := Lib.hid (fun w => rclip_any b r w hb)
  have M := Lib.hid (fun w => merge_any a b r w ha hb)
  have RM := Lib.hid (fun w => rclip_any ((Hv.clip a r : Nat) + (Hv.clip b r : Nat) + 1) r w (by omega))
  have he : ((Hv.clip a r : Nat) : Int) + 1 + (Hv.clip b r : Nat) = (Hv.clip a r : Nat) + (Hv.clip b r : Nat) + 1 := by omega
  rw [he] at M
  clear he
  generalize Hv.clip ((Hv.clip a r : Nat) + (Hv.clip b r : Nat) + 1) r = z at *
  generalize Hv.clip a r = p at *
  generalize Hv.clip b r = q at *
  generalize Hv.cap r = k at *
  go_enter Try.func7, Try.ntmps7
  go_wp2_with fail
  refine (C.out _).mono ?_
  rintro e w1 ⟨rfl, rfl⟩
  go_wp2_with fail
  refine (RC.out _).mono ?_
  rintro e w1 ⟨rfl, rfl⟩
  go_wp2_with fail
  refine (CA.out _).mono ?_
  rintro e w1 ⟨rfl, rfl⟩
  go_wp2_with fail
  refine (RA.out _).mono ?_
  rintro e w1 ⟨rfl, rfl⟩
  go_wp2_with fail
  refine (M.out _).mono ?_
  rintro e w1 ⟨rfl, rfl⟩
  go_wp2_with fail
  refine (RA.out _).mono ?_
  rintro e w1 ⟨rfl, rfl⟩
  go_wp2_with fail
  refine (RB.out _).mono ?_
  rintro e w1 ⟨rfl, rfl⟩
  go_wp2_with fail
  refine (RM.out _).mono ?_
  rintro e w1 ⟨rfl, rfl⟩
  go_wp2_with fail
  refine (awake21_any w).mono ?_
  rintro e w3 ⟨rfl, hb3⟩
  go_wp2_with fail
  go_ret
  exact ⟨rfl, hb3⟩
end Go.Proofs.Ytnljihankodedaa
