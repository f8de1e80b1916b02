/-
  Norm: two steps that are unlike, as the program tells it.
-/
import Derived.Test.YtofbdgpbekcibaaNrmOps
import Derived.WalkKit
import Derived.Laws.StructEq
namespace Go.Proofs.Ytofbdgpbekcibaa
open Go.RowKit
set_option linter.unusedVariables false
set_option linter.unusedSimpArgs false

theorem nqVal (d : Nat) (a b c e : Int) (w : World) : (Op.equalIn (d + 1 + 1) 68 (.agg #[.int .i64 a, .int .i64 b]) (.agg #[.int .i64 c, .int .i64 e])).run Try.prog w = .ok (a == c && b == e) w := by
  have u3 := Try.underlying3
  have a3 := Try.isAgg3
  have z3 := Try.sizeOf3
  have u2 := Try.underlying2
  have a2 := Try.isAgg2
  have z2 := Try.sizeOf2
  rw [run_equalIn_struct w (d + 1) 68 _ _ (by rw [Program.fieldsOf, Try.underlying68]) (by kernel_rfl)]
  simp only [Program.fieldsOf, Try.underlying68, Op.eqFields]
  go_simp
  by_cases h1 : a = c <;> by_cases h2 : b = e <;> simp [h1, h2]
def sameX (a b c d e f g a' b' c' d' e' f' g' : Int) : Bool := a == a' && ((b == b' && c == c') && ((d == d' && e == e') && (f == f' && g == g')))
theorem nqInst (n : Nat) (a b c d e f g a' b' c' d' e' f' g' : Int) (w : World) : (Op.equalIn (n + 1 + 1 + 1) 70 (.agg #[.int .i64 a, .int .i64 b, .int .i64 c, .int .i64 d, .int .i64 e, .int .i64 f, .int .i64 g]) (.agg #[.int .i64 a', .int .i64 b', .int .i64 c', .int .i64 d', .int .i64 e', .int .i64 f', .int .i64 g'])).run Try.prog w = .ok (sameX a b c d e f g a' b' c' d' e' f' g') w := by
  have u3 := Try.underlying3
  have a3 := Try.isAgg3
  have z3 := Try.sizeOf3
  have a5 := Try.isAgg68
  have z5 := Try.sizeOf68
  have qv := fun a b c e w => nqVal n a b c e w
  rw [run_equalIn_struct w (n + 1 + 1) 70 _ _ (by rw [Program.fieldsOf, Try.underlying70]) (by kernel_rfl)]
  simp only [Program.fieldsOf, Try.underlying70, Op.eqFields]
  unfold sameX
  go_simp
  by_cases h1 : a = a' <;> by_cases h2 : b = b' <;> by_cases h3 : c = c' <;> by_cases h4 : d = d' <;> by_cases h5 : e = e' <;> by_cases h6 : f = f' <;> by_cases h7 : g = g' <;> simp [h1, h2, h3, h4, h5, h6, h7]
theorem nqStep (x y : Sp) (hne : x ≠ y) (w : World) : (Op.equalIn 10000 73 x.val y.val).run Try.prog w = .ok false w := by
  have u3 := Try.underlying3
  have a3 := Try.isAgg3
  have z3 := Try.sizeOf3
  have a5 := Try.isAgg70
  have z5 := Try.sizeOf70
  have qv := fun a b c d e f g a' b' c' d' e' f' g' w => nqInst 9996 a b c d e f g a' b' c' d' e' f' g' w
  obtain ⟨op, a, b, t0, t1, t2, t3, t4, t5, t6⟩ := x
  obtain ⟨op', a', b', t0', t1', t2', t3', t4', t5', t6'⟩ := y
  rw [show (10000 : Nat) = 9999 + 1 from rfl, run_equalIn_struct w 9999 73 _ _ (by rw [Program.fieldsOf, Try.underlying73]) (by kernel_rfl)]
  simp only [Program.fieldsOf, Try.underlying73, Op.eqFields]
  go_simp
  by_cases h1 : op = op' <;> by_cases h2 : a = a' <;> by_cases h3 : b = b' <;> simp [h1, h2, h3]
  have hs : sameX t0 t1 t2 t3 t4 t5 t6 t0' t1' t2' t3' t4' t5' t6' = false := by
    cases hh : sameX t0 t1 t2 t3 t4 t5 t6 t0' t1' t2' t3' t4' t5' t6' with
    | false => rfl
    | true =>
      simp [sameX] at hh
      exact absurd (by simp [h1, h2, h3, hh]) hne
  simp [hs]
end Go.Proofs.Ytofbdgpbekcibaa
