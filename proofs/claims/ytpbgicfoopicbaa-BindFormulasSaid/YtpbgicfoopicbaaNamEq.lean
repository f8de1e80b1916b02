/-
  When two faults are equal, as the program tells it.
-/
import Derived.Test.YtpbgicfoopicbaaRec
import Derived.WalkKit
import Derived.Laws.StructEq
namespace Go.Proofs.Ytpbgicfoopicbaa
open Go.RowKit
set_option linter.unusedVariables false
set_option linter.unusedSimpArgs false

theorem neqPos (d : Nat) (a b c e : Int) (w : World) : (Op.equalIn (d + 1 + 1) 40 (.agg #[.int .i64 a, .int .i64 b]) (.agg #[.int .i64 c, .int .i64 e])).run Try.prog w = .ok (a == c && b == e) w := by
  have u3 := Try.underlying3
  have a3 := Try.isAgg3
  have z3 := Try.sizeOf3
  rw [run_equalIn_struct w (d + 1) 40 _ _ (by rw [Program.fieldsOf, Try.underlying40]) (by kernel_rfl)]
  simp only [Program.fieldsOf, Try.underlying40, Op.eqFields]
  go_simp
  by_cases h1 : a = c <;> by_cases h2 : b = e <;> simp [h1, h2]
def sameF (a b c d e f : Int) : Bool := a == d && (b == e && c == f)
theorem neqFault (a b c d e f : Int) (w : World) : (Op.equalIn 10000 48 (.agg #[.int .i64 a, .int .i64 b, .int .i64 c]) (.agg #[.int .i64 d, .int .i64 e, .int .i64 f])).run Try.prog w = .ok (sameF a b c d e f) w := by
  have u24 := Try.underlying23
  have a24 := Try.isAgg23
  have z24 := Try.sizeOf23
  have a40 := Try.isAgg40
  have z40 := Try.sizeOf40
  have q40 := fun a b c e w => neqPos 9997 a b c e w
  rw [show (10000 : Nat) = 9999 + 1 from rfl, run_equalIn_struct w 9999 48 _ _ (by rw [Program.fieldsOf, Try.underlying48]) (by kernel_rfl)]
  simp only [Program.fieldsOf, Try.underlying48, Op.eqFields]
  unfold sameF
  go_simp
  by_cases h1 : a = d <;> by_cases h2 : b = e <;> by_cases h3 : c = f <;> simp [h1, h2, h3]
end Go.Proofs.Ytpbgicfoopicbaa
