/-
  The chapter's example of layer 1; and the law on the kinds of runes.
-/
import Derived.Test.YtgjbchkplpdeiaaTextRunes
namespace Go.Proofs.Ytgjbchkplpdeiaa
open Go.RowKit
set_option linter.unusedVariables false

def aw : ByteArray := ⟨#[97, 10, 255]⟩
theorem aw_st : (Rn.st aw 0).p = 0 ∧ (Rn.st aw 1).p = 1 ∧ (Rn.st aw 2).p = 2 ∧ (Rn.st aw 3).p = 3 := by decide +kernel
theorem aw_ends (k : Nat) (h : Ends aw k) : k = 3 := by
  obtain ⟨h1, h2⟩ := h
  have hz : aw.size = 3 := rfl
  rw [hz] at h1 h2
  obtain ⟨s0, s1, s2, s3⟩ := aw_st
  rcases Nat.lt_or_ge 3 k with h3 | h3
  · have := h1 3 h3
    omega
  · have : k = 0 ∨ k = 1 ∨ k = 2 ∨ k = 3 := by omega
    rcases this with rfl | rfl | rfl | rfl <;> omega
theorem aw_all : Rn.all aw 3 = [.int .i32 97, .int .i64 0, .int .i64 1, .int .i64 1, .int .i64 1, .int .i32 10, .int .i64 1, .int .i64 2, .int .i64 1, .int .i64 2, .int .i32 (-1), .int .i64 2, .int .i64 3, .int .i64 2, .int .i64 1] := by kernel_rfl
theorem aw_few : ¬ (∀ j, j ≤ 16384 → (Rn.st aw j).p < aw.size) := fun h => by
  have := h 3 (by omega)
  rw [aw_st.2.2.2] at this
  exact absurd this (by decide)
set_option maxHeartbeats 1000000 in
theorem awake1_any (w : World) : Calls Try.prog 15 #[] w fun e w' => e = .returned (.bool true) ∧ Below w.heap.size w w' := by
  go_enter Try.func15, Try.ntmps15
  go_wp2_with fail
  refine (runes_any aw w (by decide)).mono ?_
  rintro e w1 h
  rcases h with ⟨k, x, B, hk, _, rfl, hown, hB, hb⟩ | ⟨h, _⟩
  · have hk3 := aw_ends k hk
    subst hk3
    rw [aw_all] at hown
    obtain ⟨g, cap, hx, _, hcap, hcm, _⟩ := own_some hown (by omega)
    subst hx
    have c0 := hown.cellAt 0 (by omega)
    have c8 := hown.cellAt 8 (by omega)
    have c9 := hown.cellAt 9 (by omega)
    have c10 := hown.cellAt 10 (by omega)
    have c13 := hown.cellAt 13 (by omega)
    have c14 := hown.cellAt 14 (by omega)
    simp only [List.getElem?_cons_zero, List.getElem?_cons_succ] at c0 c8 c9 c10 c13 c14
    clear hown hk hB
    go_wp2
    go_ret
    exact ⟨rfl, hb⟩
  · exact absurd h aw_few
set_option maxHeartbeats 2000000 in
theorem textClass_walk (r : Int) (hr : -2147483648 ≤ r ∧ r ≤ 2147483647) (w : World) :
    Calls Try.prog 6 #[.int .i32 r] w fun e w' => e = .returned (.bool true) ∧ Below w.heap.size w w' := by
  have hd : r < 9 ∨ r = 9 ∨ r = 10 ∨ (10 < r ∧ r < 13) ∨ r = 13 ∨ (13 < r ∧ r < 32) ∨ r = 32 ∨ (32 < r ∧ r < 48) ∨ (48 ≤ r ∧ r ≤ 57) ∨ (57 < r ∧ r < 65) ∨ (65 ≤ r ∧ r ≤ 90) ∨ (90 < r ∧ r < 97) ∨ (97 ≤ r ∧ r ≤ 122) ∨ 122 < r := by omega
  rcases hd with h | rfl | rfl | h | rfl | h | rfl | h | h | h | h | h | h | h
  all_goals
    go_enter Try.func6, Try.ntmps6
    go_wp2_with (first | (go_at_call 15; refine (awake1_any _).mono ?_; rintro e w3 ⟨rfl, hb3⟩) | go_in)
    go_ret
    exact ⟨rfl, hb3⟩
end Go.Proofs.Ytgjbchkplpdeiaa
