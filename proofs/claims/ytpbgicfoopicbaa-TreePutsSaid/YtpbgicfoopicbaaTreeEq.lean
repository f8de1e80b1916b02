/-
  When two items are equal, as the program tells it.
-/
import Derived.Test.YtpbgicfoopicbaaTreeUses
import Derived.Laws.StructEq
namespace Go.Proofs.Ytpbgicfoopicbaa
open Go.RowKit
set_option linter.unusedVariables false
set_option linter.unusedSimpArgs false

theorem eqPos (d : Nat) (a b c e : Int) (w : World) : (Op.equalIn (d + 1 + 1) 40 (.agg #[.int .i64 a, .int .i64 b]) (.agg #[.int .i64 c, .int .i64 e])).run Try.prog w = .ok (a == c && b == e) w := by
  have u3 := Try.underlying3
  have a3 := Try.isAgg3
  have z3 := Try.sizeOf3
  rw [run_equalIn_struct w (d + 1) 40 _ _ (by rw [Program.fieldsOf, Try.underlying40]) (by kernel_rfl)]
  simp only [Program.fieldsOf, Try.underlying40, Op.eqFields]
  go_simp
  by_cases h1 : a = c <;> by_cases h2 : b = e <;> simp [h1, h2]
theorem eqWord (d : Nat) (a c : ByteArray) (b e : Int) (w : World) : (Op.equalIn (d + 1 + 1) 38 (.agg #[.string a, .int .i64 b]) (.agg #[.string c, .int .i64 e])).run Try.prog w = .ok (a.toList == c.toList && b == e) w := by
  have u3 := Try.underlying2
  have a3 := Try.isAgg2
  have z3 := Try.sizeOf2
  have u9 := Try.underlying9
  have a9 := Try.isAgg9
  have z9 := Try.sizeOf9
  rw [run_equalIn_struct w (d + 1) 38 _ _ (by rw [Program.fieldsOf, Try.underlying38]) (by kernel_rfl)]
  simp only [Program.fieldsOf, Try.underlying38, Op.eqFields]
  go_simp
  by_cases h1 : a.toList = c.toList <;> by_cases h2 : b = e <;> simp [h1, h2]
/-- Two items, but for places. -/
def sameB (x y : It) : Bool := x.op == y.op && (x.ln.toList == y.ln.toList && x.lv == y.lv) && (x.rn.toList == y.rn.toList && x.rv == y.rv) && x.nm.toList == y.nm.toList && x.us.toList == y.us.toList
theorem eqItem (x y : It) (w : World) : (Op.equalIn 10000 42 (.agg #[.int .i64 x.op, .string x.ln, .int .i64 x.lv, .string x.rn, .int .i64 x.rv, .string x.nm, .string x.us, .int .i64 x.line, .int .i64 x.col]) (.agg #[.int .i64 y.op, .string y.ln, .int .i64 y.lv, .string y.rn, .int .i64 y.rv, .string y.nm, .string y.us, .int .i64 y.line, .int .i64 y.col])).run Try.prog w = .ok (sameB x y && (x.line == y.line && x.col == y.col)) w := by
  have u3 := Try.underlying3
  have a3 := Try.isAgg3
  have z3 := Try.sizeOf3
  have u9 := Try.underlying9
  have a9 := Try.isAgg9
  have z9 := Try.sizeOf9
  have a38 := Try.isAgg38
  have z38 := Try.sizeOf38
  have a40 := Try.isAgg40
  have z40 := Try.sizeOf40
  have q38 := fun a b c e w => eqWord 9997 a b c e w
  have q40 := fun a b c e w => eqPos 9997 a b c e w
  rw [show (10000 : Nat) = 9999 + 1 from rfl, run_equalIn_struct w 9999 42 _ _ (by rw [Program.fieldsOf, Try.underlying42]) (by kernel_rfl)]
  simp only [Program.fieldsOf, Try.underlying42, Op.eqFields]
  unfold sameB
  go_simp
  by_cases h0 : x.op = y.op
  · by_cases h1 : x.ln.toList = y.ln.toList
    · by_cases h2 : x.lv = y.lv
      · by_cases h3 : x.rn.toList = y.rn.toList
        · by_cases h4 : x.rv = y.rv
          · by_cases h5 : x.nm.toList = y.nm.toList
            · by_cases h6 : x.us.toList = y.us.toList
              · by_cases h7 : x.line = y.line
                · by_cases h8 : x.col = y.col
                  · simp [h0, h1, h2, h3, h4, h5, h6, h7, h8]
                  · simp [h0, h1, h2, h3, h4, h5, h6, h7, h8]
                · simp [h0, h1, h2, h3, h4, h5, h6, h7]
              · simp [h0, h1, h2, h3, h4, h5, h6]
            · simp [h0, h1, h2, h3, h4, h5]
          · simp [h0, h1, h2, h3, h4]
        · simp [h0, h1, h2, h3]
      · simp [h0, h1, h2]
    · simp [h0, h1]
  · simp [h0]
end Go.Proofs.Ytpbgicfoopicbaa
