/-
  The parts of formulas as they lie in memory; tree.start, tree.deep: by walks.
-/
import Derived.Test.YtpbgicfoopicbaaTreeAr
import Derived.WideLaws
namespace Go.Proofs.Ytpbgicfoopicbaa
open Go.RowKit
set_option linter.unusedVariables false
set_option linter.unusedSimpArgs false

/-- A part as a value. -/
def encP : Tr.Pt → Value
  | .leaf a => .iface 143 (.agg #[.int .i64 (a : Int)])
  | .one k a => .iface 86 (.agg #[encP k, .int .i64 (a : Int)])
  | .two l r a => .iface 90 (.agg #[encP l, encP r, .int .i64 (a : Int)])
theorem ta_one (v : Value) (w : World) : (Instr.typeAssert (.iface 86 v) 84 86 true).run Try.prog w = .ok (.tuple #[v, .bool true]) w := by kernel_rfl
theorem ta_one_two (v : Value) (w : World) : (Instr.typeAssert (.iface 90 v) 84 86 true).run Try.prog w = .ok (.tuple #[.agg #[.nilIface, .int .i64 0], .bool false]) w := by kernel_rfl
theorem ta_one_leaf (v : Value) (w : World) : (Instr.typeAssert (.iface 143 v) 84 86 true).run Try.prog w = .ok (.tuple #[.agg #[.nilIface, .int .i64 0], .bool false]) w := by kernel_rfl
theorem ta_two (v : Value) (w : World) : (Instr.typeAssert (.iface 90 v) 84 90 true).run Try.prog w = .ok (.tuple #[v, .bool true]) w := by kernel_rfl
theorem ta_two_one (v : Value) (w : World) : (Instr.typeAssert (.iface 86 v) 84 90 true).run Try.prog w = .ok (.tuple #[.agg #[.nilIface, .nilIface, .int .i64 0], .bool false]) w := by kernel_rfl
theorem ta_two_leaf (v : Value) (w : World) : (Instr.typeAssert (.iface 143 v) 84 90 true).run Try.prog w = .ok (.tuple #[.agg #[.nilIface, .nilIface, .int .i64 0], .bool false]) w := by kernel_rfl
theorem below_new (w : World) (o : Obj) : Below w.heap.size w (w.alloc o) := (Keeps.alloc (fun _ => False) w o).below (fun _ h => h.elim) (Nat.le_refl _)
theorem endleaf_any (a : Nat) (w : World) : Calls Try.prog 103 #[.agg #[.int .i64 (a : Int)]] w fun e w' => e = .returned (.int .i64 a) ∧ Below w.heap.size w w' := by
  go_enter Try.func103, Try.ntmps103
  go_wp2
  go_ret
  exact ⟨rfl, (Below.refl _ _).alloc (Nat.le_refl _) _⟩
theorem encP_form (p : Tr.Pt) : ∃ t v, encP p = .iface t v := by cases p <;> exact ⟨_, _, rfl⟩
theorem end_leaf (a : Nat) (w : World) : (method 262 143 (.agg #[.int .i64 (a : Int)]) "warder/tree.end").run Try.prog w = .ok (103, .agg #[.int .i64 (a : Int)]) w := by kernel_rfl
theorem end_one (k : Value) (a : Nat) (w : World) : (method 262 86 (.agg #[k, .int .i64 (a : Int)]) "warder/tree.end").run Try.prog w = .ok (101, .agg #[k, .int .i64 (a : Int)]) w := by kernel_rfl
theorem end_two (l r : Value) (a : Nat) (w : World) : (method 262 90 (.agg #[l, r, .int .i64 (a : Int)]) "warder/tree.end").run Try.prog w = .ok (102, .agg #[l, r, .int .i64 (a : Int)]) w := by kernel_rfl
theorem endone_any (t : TypeId) (v : Value) (a : Nat) (w : World) : Calls Try.prog 101 #[.agg #[.iface t v, .int .i64 (a : Int)]] w fun e w' => e = .returned (.int .i64 a) ∧ Below w.heap.size w w' := by
  go_enter Try.func101, Try.ntmps101
  go_wp2
  go_ret
  exact ⟨rfl, (Below.refl _ _).alloc (Nat.le_refl _) _⟩
theorem endtwo_any (t t' : TypeId) (v v' : Value) (a : Nat) (w : World) : Calls Try.prog 102 #[.agg #[.iface t v, .iface t' v', .int .i64 (a : Int)]] w fun e w' => e = .returned (.int .i64 a) ∧ Below w.heap.size w w' := by
  go_enter Try.func102, Try.ntmps102
  go_wp2
  go_ret
  exact ⟨rfl, (Below.refl _ _).alloc (Nat.le_refl _) _⟩
set_option maxRecDepth 100000 in
theorem start_any : ∀ (p : Tr.Pt) (w : World), Calls Try.prog 46 #[encP p] w fun e w' => e = .returned (.int .i64 p.start) ∧ Below w.heap.size w w'
  | .leaf a, w => by
    have h1 := ta_one_leaf (.agg #[.int .i64 (a : Int)])
    have h2 := ta_two_leaf (.agg #[.int .i64 (a : Int)])
    have h3 := end_leaf a
    show Calls Try.prog 46 #[.iface 143 (.agg #[.int .i64 (a : Int)])] w _
    go_enter Try.func46, Try.ntmps46
    go_wp2_with (go_at_call 103; refine (endleaf_any a _).mono ?_; rintro e w2 ⟨rfl, hb⟩)
    go_ret
    exact ⟨rfl, hb⟩
  | .one k a, w => by
    have h1 := ta_one (.agg #[encP k, .int .i64 (a : Int)])
    show Calls Try.prog 46 #[.iface 86 (.agg #[encP k, .int .i64 (a : Int)])] w _
    have IH := Lib.hid (start_any k)
    obtain ⟨t, v, hK⟩ := encP_form k
    rw [hK] at h1 IH ⊢
    clear hK
    go_enter Try.func46, Try.ntmps46
    go_wp2_with (go_at_call 46; refine (IH.out _).mono ?_; rintro e w2 ⟨rfl, hb⟩)
    go_ret
    have hn := below_new w (.cells #[.iface t v, .int .i64 (a : Int)] 86)
    exact ⟨rfl, hn.trans (hb.mono hn.size)⟩
  | .two l r a, w => by
    have h1 := ta_one_two (.agg #[encP l, encP r, .int .i64 (a : Int)])
    have h2 := ta_two (.agg #[encP l, encP r, .int .i64 (a : Int)])
    show Calls Try.prog 46 #[.iface 90 (.agg #[encP l, encP r, .int .i64 (a : Int)])] w _
    have IH := Lib.hid (start_any l)
    obtain ⟨t, v, hK⟩ := encP_form l
    obtain ⟨t', v', hK'⟩ := encP_form r
    rw [hK, hK'] at h1 h2
    rw [hK] at IH
    rw [hK, hK']
    clear hK hK'
    go_enter Try.func46, Try.ntmps46
    go_wp2_with (go_at_call 46; refine (IH.out _).mono ?_; rintro e w2 ⟨rfl, hb⟩)
    go_ret
    have hn := below_new w (.cells #[.iface t v, .iface t' v', .int .i64 (a : Int)] 90)
    exact ⟨rfl, hn.trans (hb.mono hn.size)⟩
end Go.Proofs.Ytpbgicfoopicbaa
