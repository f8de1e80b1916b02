/-
  Rights: all events, each with all users: the iterator.
-/
import Derived.RangeFuncNested
import Derived.RangeFuncBound
import Derived.RangeFuncCalls
import Derived.RangeFuncLeaves
import Derived.RangeFuncFrom
import Derived.Shelf.Abstract
import Derived.Shelf.RegionOpen
import Derived.WalkKit
import Derived.OwnWalkIn
import Derived.TacticsInMore
import Derived.LoopNIn
import Derived.LoopIn
import Derived.Test.YtdpmkhmjihgckaaRtWho
namespace Go.Proofs.Ytdpmkhmjihgckaa
open Go.RowKit Go.Shelf
attribute [local go_sem] Oper.semAt_some
set_option linter.unusedVariables false
set_option linter.unusedSimpArgs false

/-- What has come: all of e events, and u users of the next one. -/
def pl (U e u : Nat) : List (Nat × Nat) := (List.range e).flatMap (fun i => (List.range U).map fun j => (i, j)) ++ (List.range u).map (fun j => (e, j))
theorem pl_zero (U : Nat) : pl U 0 0 = [] := rfl
theorem pl_succ (U e u : Nat) : pl U e (u + 1) = pl U e u ++ [(e, u)] := by unfold pl; rw [List.range_succ, List.map_append, List.append_assoc]; rfl
theorem pl_row (U e : Nat) : pl U e U = pl U (e + 1) 0 := by unfold pl; rw [List.range_succ, List.flatMap_append]; simp
theorem pl_mem {U e u : Nat} {x : Nat × Nat} : x ∈ pl U e u ↔ (x.1 < e ∧ x.2 < U) ∨ (x.1 = e ∧ x.2 < u) := by
  unfold pl
  obtain ⟨a, b⟩ := x
  simp only [List.mem_append, List.mem_flatMap, List.mem_map, List.mem_range, Prod.mk.injEq]
  constructor
  · rintro (⟨i, hi, j, hj, rfl, rfl⟩ | ⟨j, hj, rfl, rfl⟩)
    · exact Or.inl ⟨hi, hj⟩
    · exact Or.inr ⟨rfl, hj⟩
  · rintro (⟨h1, h2⟩ | ⟨rfl, h2⟩)
    · exact Or.inl ⟨a, h1, b, h2, rfl, rfl⟩
    · exact Or.inr ⟨b, h2, rfl, rfl⟩
theorem pl_len (U e u : Nat) : (pl U e u).length = e * U + u := by
  unfold pl
  rw [List.length_append, List.length_map, List.length_range]
  congr 1
  induction e with
  | zero => simp
  | succ e ih => rw [List.range_succ, List.flatMap_append, List.length_append, ih]; simp [Nat.add_mul]
theorem pl_lt {U E e u : Nat} (he : e < E) (hu : u < U) : (pl U e u).length < E * U := by
  rw [pl_len]
  have := Nat.mul_le_mul_right U (show e + 1 ≤ E from he)
  rw [Nat.add_mul] at this
  omega
/-- The block stays. -/
def KpB (Bm : Nat) (A B : World) : Prop := B.heap[Bm]? = A.heap[Bm]?
theorem kpB_t {Bm : Nat} {A B C : World} (h : KpB Bm A B) (k : KpB Bm B C) : KpB Bm A C := Eq.trans k h
theorem kpB_b {Bm : Nat} {w : World} (hB : Bm < w.heap.size) (W : World) (l : Nat) (o o' : Obj) (hl : w.heap.size ≤ l) (h : W.heap[l]? = some o) (_ : o.isCells = false) (_ : o.isWalk = false) : KpB Bm W (W.putObj l o') := World.putObj_heap_other (fun e => by omega)
abbrev pencs (x : Nat × Nat) : Array Value := #[.int .i64 (x.1 : Nat), .int .i64 (x.2 : Nat)]
set_option maxRecDepth 100000 in
set_option maxHeartbeats 4000000 in
theorem rt_pairs1 (F : Fence) (n : Nat) (hf : F.fn 95) (hro : F.round = none) (hn : 1 ≤ n) (l Bm : Nat) (M : Mo) (hE : M.events.length ≤ 100000) (hU : M.users.n ≤ 100000) (J Jx : List (Nat × Nat) → World → Prop)
    (hY : ∀ pre x W, J pre W → pre.length < M.events.length * M.users.n → YieldAt F (n - 1) Try.prog l #[.int .i64 ((x.1 : Nat) : Int), .int .i64 ((x.2 : Nat) : Int)] W fun e W' =>
      (e = .returned (.bool true) ∧ J (pre ++ [x]) W' ∧ KpB Bm W W') ∨ (e = .returned (.bool false) ∧ Jx (pre ++ [x]) W'))
    (W : World) (hc5 : W.cell? ⟨Bm, 5, none⟩ = some (.slice M.eventsa M.events.length M.eventsc)) (hc2 : W.cell? ⟨Bm, 2, none⟩ = some (.slice M.users.a M.users.n M.users.c)) (h0 : J [] W) :
    CallsIn F n Try.prog 95 #[.func (.yield l) #[] #[], .pointer (some ⟨Bm, 0, none⟩)] W fun e W' => (∃ v, e = .returned v) ∧
      ((∃ ys, ys = pl M.users.n M.events.length 0 ∧ J ys W') ∨ (∃ pre, (∀ x ∈ pre, x.1 < M.events.length ∧ x.2 < M.users.n) ∧ Jx pre W')) := by
  refine callsIn_of_wp Try.func95 rfl hf ?_ hro
  simp only [Try.ntmps95, List.size_toArray, List.length_cons, List.length_nil, Nat.reduceAdd, Nat.reduceSub, Array.replicate_succ, Array.replicate_zero, List.push_toArray, List.append_toArray, List.nil_append, List.cons_append]
  gi_wp2
  gi_loopw [8] (fun i wr => ∃ e : Nat, e ≤ M.events.length ∧ i = .int .i64 e ∧ J (pl M.users.n e 0) wr ∧ KpB Bm W wr)
    (fun i _ => M.events.length - (intOf i).toNat)
  case atStart => exact ⟨0, Nat.zero_le _, rfl, h0, rfl⟩
  case round =>
    obtain ⟨e, he, rfl, hJs, hnx⟩ := hrel
    by_cases hlt : e < M.events.length
    · have hc2' := (World.cell?_of_block (a := ⟨Bm, 2, none⟩) (w := W) (w' := wr) (show wr.heap[Bm]? = W.heap[Bm]? from hnx)).trans hc2
      have hw1 : IntKind.i64.wrap ((e : Int) + 1) = ((e + 1 : Nat) : Int) := by rw [IntWalk.i64_in _ (by omega)]; omega
      gi_wp2
      gi_loopw [14] (fun i wr => ∃ u : Nat, u ≤ M.users.n ∧ i = .int .i64 u ∧ J (pl M.users.n e u) wr ∧ KpB Bm W wr)
        (fun i _ => M.users.n - (intOf i).toNat)
      case atStart => exact ⟨0, Nat.zero_le _, rfl, hJs, hnx⟩
      case round =>
        clear hJs hnx hc2'
        obtain ⟨u, hu, rfl, hJs, hnx⟩ := hrel
        by_cases hlu : u < M.users.n
        · obtain ⟨fn, tmps, assign, body, hy, hR⟩ := hY _ (e, u) _ hJs (pl_lt hlt hlu)
          dsimp only at hy
          have hw2 : IntKind.i64.wrap ((u : Int) + 1) = ((u + 1 : Nat) : Int) := by rw [IntWalk.i64_in _ (by omega)]; omega
          gi_wp2
          refine hR.mono ?_
          rintro e' W3 (⟨rfl, hJ3, hk3⟩ | ⟨rfl, hJx3⟩)
          · gi_wp2
            go_roundw
            case rel => exact ⟨u + 1, by omega, by go_num, by rw [pl_succ]; exact hJ3, hk3.trans hnx⟩
            case measure => simp [intOf] <;> omega
          · gi_wp2
            refine bodyPost_ret (results_none rfl _ _ _) rfl ?_
            exact ⟨⟨_, rfl⟩, .inr ⟨_, fun x hx => by
              rw [← pl_succ, pl_mem] at hx
              omega, hJx3⟩⟩
        · obtain rfl : u = M.users.n := by omega
          gi_wp2
          go_roundw
          case rel => exact ⟨e + 1, by omega, by go_num, by rw [← pl_row]; exact hJs, hnx⟩
          case measure => simp [intOf] <;> omega
    · obtain rfl : e = M.events.length := by omega
      gi_wp2
      go_end0
      exact ⟨⟨_, rfl⟩, .inl ⟨_, rfl, hJs⟩⟩
set_option maxRecDepth 100000 in
theorem rt_pairs_stops (F : Fence) (n : Nat) (hf : F.fn 95) (hro : F.round = none) (hn : 1 ≤ n) (Bm : Nat) (M : Mo) (w : World) (hE : M.events.length ≤ 100000) (hU : M.users.n ≤ 100000) (hm : MoAt w Bm M) :
    SeqStopsK F n Try.prog 95 #[.pointer (some ⟨Bm, 0, none⟩)] pencs (KpB Bm) (fun ys => ys = pl M.users.n M.events.length 0) (fun pre => ∀ x ∈ pre, x.1 < M.events.length ∧ x.2 < M.users.n) (M.events.length * M.users.n) w := fun l J Jx W hW _ _ hY h0 =>
  rt_pairs1 F n hf hro hn l Bm M hE hU J Jx hY W (hm.mono hW (Nat.le_refl _)).c5 (hm.mono hW (Nat.le_refl _)).c2 h0
set_option maxRecDepth 100000 in
theorem rt_pairs (F : Fence) (n : Nat) (hf : F.fn 55) (hro : F.round = none) (M : Mo) (w : World) :
    CallsIn F n Try.prog 55 #[M.val] w fun e w' => e = .returned (.func (.func 95) #[] #[.pointer (some ⟨w.heap.size, 0, none⟩)]) ∧ w' = w.alloc (.cells #[.slice M.attrs.a M.attrs.n M.attrs.c, .slice M.inits.a M.inits.n M.inits.c, .slice M.users.a M.users.n M.users.c, .slice M.rolesa M.roles.length M.rolesc, .slice M.stagesa M.stages.length M.stagesc, .slice M.eventsa M.events.length M.eventsc, .slice M.guardsa M.guards.length M.guardsc, .slice M.milesa M.miles.length M.milesc, .slice M.sodsa M.sods.length M.sodsc, .slice M.order.a M.order.n M.order.c] 32) := by
  unfold Mo.val
  refine callsIn_of_wp Try.func55 rfl hf ?_ hro
  simp only [Try.ntmps55, List.size_toArray, List.length_cons, List.length_nil, Nat.reduceAdd, Nat.reduceSub, Array.replicate_succ, Array.replicate_zero, List.push_toArray, List.append_toArray, List.nil_append, List.cons_append]
  gi_wp2
  go_ret
  exact ⟨rfl, rfl⟩
end Go.Proofs.Ytdpmkhmjihgckaa
