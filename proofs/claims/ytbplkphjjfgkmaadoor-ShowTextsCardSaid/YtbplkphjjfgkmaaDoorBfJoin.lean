/-
  tree.join: by a walk.
-/
import Derived.Test.YtbplkphjjfgkmaaDoorBfPart
import Derived.Deep.RegionHeld3
import Derived.IntWalk
namespace Go.Proofs.YtbplkphjjfgkmaaDoor
open Go.RowKit
set_option linter.unusedVariables false
set_option linter.unusedSimpArgs false

theorem join0_any (a : Option Addr) (c : Nat) (i : Nat) (w : World) : Calls Tryd.prog 140 #[.slice a 0 c, .int .i64 i] w fun e w' => e = .returned (encP (.leaf i)) ∧ w = w' := by
  have hm : ∀ w, (Instr.makeInterface 222 (.agg #[.int .i64 (i : Int)])).run Tryd.prog w = .ok (.iface 222 (.agg #[.int .i64 (i : Int)])) w := fun w => by kernel_rfl
  go_enter Tryd.func140, Tryd.ntmps140
  go_wp2
  go_ret
  exact ⟨rfl, rfl⟩
theorem join1_any (b o c : Nat) (t : TypeId) (v : Value) (k : Tr.Pt) (hk : encP k = .iface t v) (i : Nat) (w : World) (h0 : w.cell? ⟨b, o, none⟩ = some (.iface t v)) : Calls Tryd.prog 140 #[.slice (some ⟨b, o, none⟩) 1 c, .int .i64 i] w fun e w' => e = .returned (encP (.one k i)) ∧ w = w' := by
  have hm : ∀ w, (Instr.makeInterface 218 (.agg #[.iface t v, .int .i64 (i : Int)])).run Tryd.prog w = .ok (.iface 218 (.agg #[.iface t v, .int .i64 (i : Int)])) w := fun w => by kernel_rfl
  have HK := Lib.hid hk
  clear hk
  go_enter Tryd.func140, Tryd.ntmps140
  go_wp2
  go_ret
  exact ⟨by show _ = Ending.returned (.iface 218 (.agg #[encP k, .int .i64 (i : Int)])); rw [HK.out]; rfl, rfl⟩
theorem join2_any (b o c : Nat) (t t' : TypeId) (v v' : Value) (l r : Tr.Pt) (hl : encP l = .iface t v) (hr : encP r = .iface t' v') (i : Nat) (w : World) (h0 : w.cell? ⟨b, o, none⟩ = some (.iface t v)) (h1 : w.cell? ⟨b, o + 1, none⟩ = some (.iface t' v')) :
    Calls Tryd.prog 140 #[.slice (some ⟨b, o, none⟩) 2 c, .int .i64 i] w fun e w' => e = .returned (encP (.two l r i)) ∧ ∃ n, w' = w.drewN n := by
  have hm : ∀ w, (Instr.makeInterface 220 (.agg #[.iface t v, .iface t' v', .int .i64 (i : Int)])).run Tryd.prog w = .ok (.iface 220 (.agg #[.iface t v, .iface t' v', .int .i64 (i : Int)])) w := fun w => by kernel_rfl
  have HK := Lib.hid (And.intro hl hr)
  clear hl hr
  go_enter Tryd.func140, Tryd.ntmps140
  go_wp2
  go_quiet (fail)
  go_wp2
  go_ret
  exact ⟨by show _ = Ending.returned (.iface 220 (.agg #[encP l, encP r, .int .i64 (i : Int)])); rw [(HK.out).1, (HK.out).2]; rfl, _, rfl⟩
end Go.Proofs.YtbplkphjjfgkmaaDoor
