/-
  Closed facts of the program, one by one.
-/
import Derived.Test.YtbplkphjjfgkmaaDoorChecked
import Derived.JoinedOf
import Derived.ProofKit
namespace Go.Proofs.YtbplkphjjfgkmaaDoor
open Go.RowKit
theorem and_mk {a b : Bool} (h : a = true) (k : b = true) : (a && b) = true := by rw [h, k]; rfl
theorem jf_laidOut : laidOutB Tryd.checked.prog = true := by kernel_rfl
theorem jf_mapsRowed : mapsRowed Tryd.checked.prog = true := by kernel_rfl
theorem jf_stops : (Tryd.checked.prog.stops == []) = true := by kernel_rfl
theorem jf_stopKnobs : (Tryd.checked.prog.stopKnobs == []) = true := by kernel_rfl
theorem jf_plainKeys : (true == Tryd.checked.prog.plainKeys) = true := by kernel_rfl
theorem jf_stopsHeard : Tryd.checked.prog.stopsHeard = true := by kernel_rfl
theorem jf_mayEnter : Tryd.checked.prog.mayEnter = true := by kernel_rfl
theorem jf_lifted : (false == Tryd.checked.prog.liftsFinal) = true := by kernel_rfl
theorem jf_make : (Tryd.checked.prog.make == some .cut) = true := by kernel_rfl
end Go.Proofs.YtbplkphjjfgkmaaDoor
