/-
  NumPrints: the law's body, by a walk.
-/
import Derived.Test.YtbplkphjjfgkmaaDoorNmPrint
namespace Go.Proofs.YtbplkphjjfgkmaaDoor
open Go.RowKit
set_option linter.unusedVariables false
set_option linter.unusedSimpArgs false

theorem ext_list {a b : ByteArray} (h : a.data.toList = b.data.toList) : a = b := by
  apply ByteArray.ext
  exact Array.toList_inj.1 h
set_option maxHeartbeats 1000000 in
theorem rprint_any (n : Int) (w : World) (h : -9223372036854775808 ≤ n ∧ n ≤ 9223372036854775807) :
    Calls Tryd.prog 93 #[.int .i64 n] w fun e w' => e = .returned (.string ⟨(Lib.itoa n).toArray⟩) ∧ Below w.heap.size w w' := by
  rcases Int.lt_trichotomy n 0 with hn | hn | hn
  · obtain ⟨T, hT⟩ : ∃ T : Nat, n = -(T : Int) := ⟨n.natAbs, by omega⟩
    subst hT
    refine (rprint_neg T w (by omega) (by omega)).mono ?_
    rintro e w' ⟨⟨S, rfl, hS⟩, hb⟩
    refine ⟨?_, hb⟩
    rw [show S = ⟨(Lib.itoa (-(T : Int))).toArray⟩ from ext_list (by rw [hS, Lib.itoa_neg T (by omega)])]
  · subst hn
    have hz : (⟨(Lib.itoa 0).toArray⟩ : ByteArray) = ⟨#[48]⟩ := by decide +kernel
    rw [hz]
    clear hz
    go_enter Tryd.func93, Tryd.ntmps93
    go_wp2
    go_ret
    exact ⟨rfl, Below.refl _ _⟩
  · obtain ⟨T, hT⟩ : ∃ T : Nat, n = (T : Int) := ⟨n.toNat, by omega⟩
    subst hT
    refine (rprint_pos T w (by omega) (by omega)).mono ?_
    rintro e w' ⟨⟨S, rfl, hS⟩, hb⟩
    refine ⟨?_, hb⟩
    rw [show S = ⟨(Lib.itoa (T : Int)).toArray⟩ from ext_list (by rw [hS, Lib.itoa_nonneg])]

end Go.Proofs.YtbplkphjjfgkmaaDoor
