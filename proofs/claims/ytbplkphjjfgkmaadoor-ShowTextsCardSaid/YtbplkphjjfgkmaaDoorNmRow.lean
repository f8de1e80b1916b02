/-
  What the rows' listed variables give the walks, and a start that meets them.
-/
import Derived.Test.YtbplkphjjfgkmaaDoorNmAwake
import Derived.Test.YtbplkphjjfgkmaaDoorTie
import Derived.Test.YtbplkphjjfgkmaaDoorRows
import Derived.LaidMore
import Derived.OpenShut
import Derived.ProofKit
import Derived.Stop.Joined
import Derived.Stop.LaidErr
import Derived.Lib.LaidTab
namespace Go.Proofs.YtbplkphjjfgkmaaDoor
open Go.RowKit
set_option linter.unusedVariables false

/-- The list of all rows of five. -/
abbrev laid5 : List (String × DataW Unit) := Rows.numSortsRow.laid
/-- The list of all rows of three. -/
abbrev laid3 : List (String × DataW Unit) := Rows.stateApartRow.laid

theorem door_met (os : Os) (args : Array Value) : laidMetH Tryd.prog laid5 ((World.doorLaid Tryd.prog 400 os).forCall (fun _ _ => 0) ⟨#[], args, []⟩).memory :=
  laidMetH_of_parts3 (fuel := 8) (laidMet_of_run' 8 (by kernel_rfl) (by kernel_rfl)) (by kernel_rfl) (by kernel_rfl)
theorem door_met3 (os : Os) (args : Array Value) : laidMetH Tryd.prog laid3 ((World.doorLaid Tryd.prog 400 os).forCall (fun _ _ => 0) ⟨#[], args, []⟩).memory :=
  laidMetH_of_parts3 (fuel := 8) (laidMet_of_run' 8 (by kernel_rfl) (by kernel_rfl)) (by kernel_rfl) (by kernel_rfl)

theorem gER : Tryd.prog.globalNamed "strconv.ErrRange" = some 1 := by kernel_rfl
theorem gERType : (Tryd.prog.globals[1]?).map (·.type) = some 145 := by kernel_rfl
theorem gP10 : Tryd.prog.globalNamed "internal/strconv.uint64pow10" = some 2 := by kernel_rfl
theorem gP10Type : (Tryd.prog.globals[2]?).map (·.type) = some 263 := by kernel_rfl
theorem cells85 : Tryd.prog.cellsOf 263 = 20 := by kernel_rfl
theorem cells48 : Tryd.prog.cellsOf 162 = 1 := by kernel_rfl
theorem cells96 : Tryd.prog.cellsOf 272 = 1 := by kernel_rfl
theorem cells9s : Tryd.prog.cellsOf 9 = 1 := by kernel_rfl
theorem star : "*" ++ "errors.errorString" = "*errors.errorString" := by decide
theorem row94 (u : TypeId) (h : Tryd.prog.typeName? 3 u = some "*errors.errorString") : u = 270 :=
  typeName_ptr_named (nm := "errors.errorString") (by rw [star]; kernel_rfl) (by kernel_rfl) (by decide) u (by rw [star]; exact h)

theorem of_laid {W : World} (h : laidMetH Tryd.prog laid5 W) : NumIs W := by
  rw [MakeChecks.laidMetH_plain _ _ _ (by kernel_rfl)] at h
  have hP : laidMet Tryd.prog (("internal/strconv.uint64pow10", Lib.tabData .u64 Lib.pow10Tab) :: ("strconv.ErrRange", Rows.laid_strconv_ErrRange) :: ("strconv.ErrSyntax", Rows.laid_strconv_ErrSyntax) :: []) W := h.tail.tail
  refine ⟨?_, Lib.tabIs_of_head gP10 gP10Type Tryd.underlying263 Tryd.underlying162 cells48 cells85 hP⟩
  have hE := hP.tail
  unfold Rows.laid_strconv_ErrRange at hE
  obtain ⟨a1, s1, hv1, -, -, -⟩ := laid_sentinel hE gER gERType Tryd.underlying145 row94 Tryd.underlying270 Tryd.underlying272 rfl rfl Tryd.underlying9 cells96 cells9s
  exact ⟨_, _, hv1⟩
theorem of_laid3 {W : World} (h : laidMetH Tryd.prog laid3 W) : Tab10 W := by
  rw [MakeChecks.laidMetH_plain _ _ _ (by kernel_rfl)] at h
  have hP : laidMet Tryd.prog (("internal/strconv.uint64pow10", Lib.tabData .u64 Lib.pow10Tab) :: []) W := h.tail.tail
  exact Lib.tabIs_of_head gP10 gP10Type Tryd.underlying263 Tryd.underlying162 cells48 cells85 hP
end Go.Proofs.YtbplkphjjfgkmaaDoor
