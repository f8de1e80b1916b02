/-
  The law of conditions that are put of others: by walks.
-/
import Derived.Test.YtpbgicfoopicbaaEvalTurn
import Derived.Deep.RegionWith
import Derived.Deep.RegionHeld3
namespace Go.Proofs.Ytpbgicfoopicbaa
open Go.RowKit
set_option linter.unusedVariables false
set_option linter.unusedSimpArgs false

theorem below_dn {B : Nat} {a w : World} (h : Below B a w) (n : Nat) : Below B a (w.drewN n) := ⟨h.os, h.tape, h.output, h.size, h.block⟩
def res : Option Bool → Value
  | none => .tuple #[.bool false, .int .i64 17]
  | some b => .tuple #[.bool b, .int .i64 0]
def PairT (W1 : World) (v1 v2 : Value) (op : Int) (n : Nat) (L : List Ins) : Prop :=
  ∀ w', Below W1.heap.size W1 w' → Calls Try.prog 38 #[v1, v2, .int .i64 op] w' fun e w2 => ∃ g cap, e = .returned (.slice (some ⟨g, 0, none⟩) n cap) ∧ RdL w2 (some ⟨g, 0, none⟩) L ∧ Below w'.heap.size w' w2
def PairH (W1 : World) (s : Sta) (n : Nat) (L : List Ins) (v : Value) : Prop :=
  ∀ w' g cap, Below W1.heap.size W1 w' → RdL w' (some ⟨g, 0, none⟩) L → Calls Try.prog 37 #[.slice (some ⟨g, 0, none⟩) n cap, .agg #[.slice s.a s.vals.length s.c, .int .i64 s.op, .int .i64 s.dn, s.did, s.cnt]] w' fun e w2 => e = .returned v ∧ Below w'.heap.size w' w2
theorem holds_res (a : Option Addr) (c : Nat) (l : List Ins) (s : Sta) (w : World) (hl : RdL w a l) (hm : l.length ≤ maxLen) (hv : RdV w s) :
    Calls Try.prog 37 #[.slice a l.length c, .agg #[.slice s.a s.vals.length s.c, .int .i64 s.op, .int .i64 s.dn, s.did, s.cnt]] w fun e w' => e = .returned (res (askE s l)) ∧ Below w.heap.size w w' := by
  refine (holds_of a c l s w hl hm hv).mono fun e w' h => ?_
  rcases h with ⟨h1, h2, h3⟩ | ⟨b, h1, h2, h3⟩
  · rw [h1]; exact ⟨h2, h3⟩
  · rw [h1]; exact ⟨h2, h3⟩
theorem turn_pair (a a2 : Option Addr) (c c2 : Nat) (l m : List Ins) (op : Int) (s : Sta) (W1 : World) (hl : RdL W1 a l) (hm : RdL W1 a2 m) (hv : RdV W1 s) (hlen : l.length + m.length ≤ 60) :
    ∃ n L, PairT W1 (.slice a l.length c) (.slice a2 m.length c2) op n L ∧ PairH W1 s n L (res (askE s (l ++ m ++ [ins0 op]))) := by
  refine ⟨(l ++ m ++ [ins0 op]).length, l ++ m ++ [ins0 op], fun w' hb => turn_of a a2 c c2 l m op w' (hl.mono hb (Nat.le_refl _)) (hm.mono hb (Nat.le_refl _)) hlen, fun w' g cap hb hL => ?_⟩
  exact holds_res _ cap _ s w' hL (by simp [maxLen]; omega) (hv.mono hb (Nat.le_refl _))
end Go.Proofs.Ytpbgicfoopicbaa
