/-
  NumPrints: the law's body, by a walk.
-/
import Derived.Test.YtlmecpghlgndnaaDoorNumPrint
namespace Go.Proofs.YtlmecpghlgndnaaDoor
open Go.RowKit
set_option linter.unusedVariables false
set_option linter.unusedSimpArgs false

theorem ext_list {a b : ByteArray} (h : a.data.toList = b.data.toList) : a = b := by
  apply ByteArray.ext
  exact Array.toList_inj.1 h
set_option maxHeartbeats 1000000 in
theorem rprint_any (n : Int) (w : World) (h : -9223372036854775808 ≤ n ∧ n ≤ 9223372036854775807) :
    Calls Tryd.prog 12 #[.int .i64 n] w fun e w' => e = .returned (.string ⟨(Lib.itoa n).toArray⟩) ∧ Below w.heap.size w w' := by
  rcases Int.lt_trichotomy n 0 with hn | hn | hn
  · obtain ⟨T, hT⟩ : ∃ T : Nat, n = -(T : Int) := ⟨n.natAbs, by omega⟩
    subst hT
    refine (rprint_neg T w (by omega) (by omega)).mono ?_
    rintro e w' ⟨⟨S, rfl, hS⟩, hb⟩
    refine ⟨?_, hb⟩
    rw [show S = ⟨(Lib.itoa (-(T : Int))).toArray⟩ from ext_list (by rw [hS, Lib.itoa_neg T (by omega)])]
  · subst hn
    have hz : (⟨(Lib.itoa 0).toArray⟩ : ByteArray) = ⟨#[48]⟩ := by decide +kernel
    rw [hz]
    clear hz
    go_enter Tryd.func12, Tryd.ntmps12
    go_wp2
    go_ret
    exact ⟨rfl, Below.refl _ _⟩
  · obtain ⟨T, hT⟩ : ∃ T : Nat, n = (T : Int) := ⟨n.toNat, by omega⟩
    subst hT
    refine (rprint_pos T w (by omega) (by omega)).mono ?_
    rintro e w' ⟨⟨S, rfl, hS⟩, hb⟩
    refine ⟨?_, hb⟩
    rw [show S = ⟨(Lib.itoa (T : Int)).toArray⟩ from ext_list (by rw [hS, Lib.itoa_nonneg])]

set_option maxHeartbeats 1000000 in
theorem prints_any (n : Int) (w : World) (h : -9223372036854775808 ≤ n ∧ n ≤ 9223372036854775807) (hn : NumIs w) :
    Calls Tryd.prog 4 #[.int .i64 n] w fun e w' => e = .returned (.bool true) ∧ Below w.heap.size w w' := by
  have hu : ∀ b : Bool, ¬ (some undef = some (Value.bool b)) := fun b h => by cases h
  have HP := Lib.hid (print_any n w h hn)
  have hlen := Lib.itoa_length_le n h.1 h.2
  have HR : Hid (∀ w', Below w.heap.size w w' → Calls Tryd.prog 8 #[.string ⟨(Lib.itoa n).toArray⟩] w' fun e w2 => e = .returned (.tuple #[.int .i64 n, .int .i64 0]) ∧ Below w.heap.size w w2) := Lib.hid (fun w' hb => by
    have hr := read_is ⟨(Lib.itoa n).toArray⟩ w' (by rw [Lib.size_eq]; show (Lib.itoa n).length ≤ _; omega) (hn.below hb)
    rw [show (⟨(Lib.itoa n).toArray⟩ : ByteArray).data.toList = Lib.itoa n from rfl, Nm.told_itoa n h] at hr
    refine hr.mono ?_
    rintro e w2 ⟨rfl, hb2⟩
    exact ⟨rfl, hb.trans (hb2.mono hb.size)⟩)
  have HF : Hid (∀ w', Below w.heap.size w w' → Calls Tryd.prog 12 #[.int .i64 n] w' fun e w2 => e = .returned (.string ⟨(Lib.itoa n).toArray⟩) ∧ Below w.heap.size w w2) := Lib.hid (fun w' hb => by
    refine (rprint_any n w' h).mono ?_
    rintro e w2 ⟨rfl, hb2⟩
    exact ⟨rfl, hb.trans (hb2.mono hb.size)⟩)
  have HW : Hid (∀ w', Below w.heap.size w w' → Calls Tryd.prog 10 #[] w' fun e w2 => e = .returned (.bool true) ∧ Below w.heap.size w w2) := Lib.hid (fun w' hb => by
    refine (awake_any w' (hn.below hb)).mono ?_
    rintro e w2 ⟨rfl, hb2⟩
    exact ⟨rfl, hb.trans (hb2.mono hb.size)⟩)
  clear hn hlen
  generalize (⟨(Lib.itoa n).toArray⟩ : ByteArray) = q at *
  have hqq : (q.toList == q.toList) = true := beq_self_eq_true _
  go_enter Tryd.func4, Tryd.ntmps4
  go_wp2_with (first | (go_at_call 11; refine HP.out.mono ?_; rintro e w2 ⟨rfl, hb2⟩) | (go_at_call 8; refine (HR.out _ hb2).mono ?_; rintro e w3 ⟨rfl, hb3⟩) | (go_at_call 12; refine (HF.out _ hb3).mono ?_; rintro e w4 ⟨rfl, hb4⟩) | (go_at_call 10; refine (HW.out _ hb4).mono ?_; rintro e w5 ⟨rfl, hb5⟩))
  all_goals go_ret
  all_goals exact ⟨rfl, hb5⟩
end Go.Proofs.YtlmecpghlgndnaaDoor
