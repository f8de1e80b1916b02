/-
  The parts of formulas as they lie in memory; tree.start, tree.deep: by walks.
-/
import Derived.Test.YtbplkphjjfgkmaaDoorTreeAr
import Derived.WideLaws
namespace Go.Proofs.YtbplkphjjfgkmaaDoor
open Go.RowKit
set_option linter.unusedVariables false
set_option linter.unusedSimpArgs false

/-- A part as a value. -/
def encP : Tr.Pt → Value
  | .leaf a => .iface 222 (.agg #[.int .i64 (a : Int)])
  | .one k a => .iface 218 (.agg #[encP k, .int .i64 (a : Int)])
  | .two l r a => .iface 220 (.agg #[encP l, encP r, .int .i64 (a : Int)])
theorem ta_one (v : Value) (w : World) : (Instr.typeAssert (.iface 218 v) 187 218 true).run Tryd.prog w = .ok (.tuple #[v, .bool true]) w := by kernel_rfl
theorem ta_one_two (v : Value) (w : World) : (Instr.typeAssert (.iface 220 v) 187 218 true).run Tryd.prog w = .ok (.tuple #[.agg #[.nilIface, .int .i64 0], .bool false]) w := by kernel_rfl
theorem ta_one_leaf (v : Value) (w : World) : (Instr.typeAssert (.iface 222 v) 187 218 true).run Tryd.prog w = .ok (.tuple #[.agg #[.nilIface, .int .i64 0], .bool false]) w := by kernel_rfl
theorem ta_two (v : Value) (w : World) : (Instr.typeAssert (.iface 220 v) 187 220 true).run Tryd.prog w = .ok (.tuple #[v, .bool true]) w := by kernel_rfl
theorem ta_two_one (v : Value) (w : World) : (Instr.typeAssert (.iface 218 v) 187 220 true).run Tryd.prog w = .ok (.tuple #[.agg #[.nilIface, .nilIface, .int .i64 0], .bool false]) w := by kernel_rfl
theorem ta_two_leaf (v : Value) (w : World) : (Instr.typeAssert (.iface 222 v) 187 220 true).run Tryd.prog w = .ok (.tuple #[.agg #[.nilIface, .nilIface, .int .i64 0], .bool false]) w := by kernel_rfl
theorem below_new (w : World) (o : Obj) : Below w.heap.size w (w.alloc o) := (Keeps.alloc (fun _ => False) w o).below (fun _ h => h.elim) (Nat.le_refl _)
theorem encP_form (p : Tr.Pt) : ∃ t v, encP p = .iface t v := by cases p <;> exact ⟨_, _, rfl⟩
end Go.Proofs.YtbplkphjjfgkmaaDoor
