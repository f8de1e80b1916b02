/-
  The law of what is the same: by a walk.
-/
import Derived.Test.YtpbgicfoopicbaaTreeSame
namespace Go.Proofs.Ytpbgicfoopicbaa
open Go.RowKit
set_option linter.unusedVariables false
set_option linter.unusedSimpArgs false

theorem sameL_self (l : List It) : sameL l l = true := by
  unfold sameL sameTo
  rw [decide_eq_true rfl, Bool.true_and, List.all_eq_true]
  intro i hi
  have := List.mem_range.1 hi
  simp [List.getElem?_eq_getElem this, sameB]
set_option maxHeartbeats 1000000 in
theorem treeSame_walk (a a2 : Option Addr) (c c2 : Nat) (l m : List It) (w : World) (hl : RdI w a l) (hll : l.length ≤ maxLen) (hm : RdI w a2 m) (hml : m.length ≤ maxLen) :
    Calls Try.prog 7 #[.slice a l.length c, .slice a2 m.length c2] w fun e w' => e = .returned (.bool true) ∧ Below w.heap.size w w' := by
  have hu : ∀ b : Bool, ¬ (some undef = some (Value.bool b)) := fun b h => by cases h
  have S1 := Lib.hid (same_any a a2 c c2 l m w hl hm hll hml)
  have S2 : Hid (∀ w', Below w.heap.size w w' → Calls Try.prog 29 #[.slice a l.length c, .slice a2 m.length c2] w' fun e w2 => e = .returned (.bool (sameL l m)) ∧ Below w'.heap.size w' w2) := Lib.hid (fun w' hb => rsame_any a a2 c c2 l m w' (hl.mono hb (Nat.le_refl _)) (hm.mono hb (Nat.le_refl _)) hll hml)
  have S3 : Hid (∀ w', Below w.heap.size w w' → Calls Try.prog 28 #[.slice a l.length c, .slice a l.length c] w' fun e w2 => e = .returned (.bool true) ∧ Below w'.heap.size w' w2) := Lib.hid (fun w' hb => by
    have h := same_any a a c c l l w' (hl.mono hb (Nat.le_refl _)) (hl.mono hb (Nat.le_refl _)) hll hll
    rw [sameL_self] at h
    exact h)
  have h1 : (sameL l m == sameL l m) = true := by simp
  clear hl hm hll hml
  generalize sameL l m = s at *
  go_enter Try.func7, Try.ntmps7
  go_wp2_with fail
  refine S1.out.mono ?_
  rintro e w2 ⟨rfl, hb2⟩
  have B2 := Lib.hid hb2
  clear hb2 S1
  go_wp2_with fail
  refine (S2.out w2 B2.out).mono ?_
  rintro e w3 ⟨rfl, hb3⟩
  have B3 := Lib.hid (B2.out.trans (hb3.mono B2.out.size))
  clear hb3 S2
  go_wp2_with fail
  refine (S3.out w3 B3.out).mono ?_
  rintro e w4 ⟨rfl, hb4⟩
  have B4 := Lib.hid (B3.out.trans (hb4.mono B3.out.size))
  clear hb4 S3
  go_wp2_with fail
  refine (awake04_end w w4 B4.out).mono ?_
  rintro e w5 ⟨rfl, hb5⟩
  go_wp2_with fail
  go_ret
  exact ⟨rfl, hb5⟩
end Go.Proofs.Ytpbgicfoopicbaa
