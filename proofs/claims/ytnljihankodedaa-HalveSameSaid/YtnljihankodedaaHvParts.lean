/-
  halve.parts, Splits: a range over a function.
-/
import Derived.Test.YtnljihankodedaaHvWalks
import Derived.RangeFuncNested
import Derived.RangeFuncBound
import Derived.RangeFuncBox
import Derived.RangeFuncLeaves
import Derived.Shelf.Abstract
import Derived.WalkKit
import Derived.OwnWalkIn
import Derived.TacticsInMore
import Derived.LoopNIn
import Derived.LoopIn
import Derived.Maps.AppendAt
namespace Go.Proofs.Ytnljihankodedaa
open Go.RowKit Go.Shelf
set_option linter.unusedVariables false
set_option linter.unusedSimpArgs false
attribute [local go_sem] Oper.semAt_some

def PartsAns (g r : Int) (w : World) (e : Ending) (w' : World) : Prop :=
  e = .returned (.func (.func 76) #[] #[.pointer (some ⟨w.heap.size, 0, none⟩), .pointer (some ⟨w.heap.size + 1, 0, none⟩)]) ∧
  Boxed w' w.heap.size 3 (.int .i64 (Hv.cap (r - 1) : Nat)) ∧ Boxed w' (w.heap.size + 1) 3 (.int .i64 (Hv.oth g r : Nat)) ∧ Below w.heap.size w w' ∧ w.heap.size + 2 ≤ w'.heap.size
set_option maxHeartbeats 1000000 in
theorem parts_any (g r : Int) (w : World) (hg : 1 ≤ g ∧ g ≤ 9223372036854775807) (hr : 1 ≤ r ∧ r ≤ 6) : Calls Try.prog 66 #[.int .i64 g, .int .i64 r] w (PartsAns g r w) := by
  have hu : ∀ b : Bool, ¬ (some undef = some (Value.bool b)) := fun b h => by cases h
  have C1 := Lib.hid (fun w => cap_any (r - 1) w)
  have C2 := Lib.hid (fun w => clip_any g r w (by omega))
  have C3 := Lib.hid (fun w => cap_any r w)
  have h1 := Hv.cap_le (r - 1)
  have h2 := Hv.clip_le g r
  have h3 := Hv.cap_le r
  have hpos : 1 ≤ Hv.clip g r := by
    have := Hv.cap_step (r - 1) (by omega) (by omega)
    rw [show r - 1 + 1 = r by omega] at this
    unfold Hv.clip; omega
  have ho : Hv.oth g r = if Hv.clip g r = Hv.cap r then 2 * Hv.cap (r - 1) else Hv.clip g r - 1 := rfl
  have HO := Lib.hid ho
  clear ho
  unfold PartsAns
  generalize Hv.oth g r = o at *
  generalize Hv.cap (r - 1) = m at *
  generalize Hv.clip g r = z at *
  generalize Hv.cap r = q at *
  by_cases he : z = q
  · have hb : (((z : Int) - 1 + 1) == (q : Int)) = true := by simp; omega
    have hb2 : ((z : Int) == (q : Int)) = true := by simp [he]
    rw [if_pos he] at HO
    have HE := Lib.hid he
    clear he
    go_enter Try.func66, Try.ntmps66
    go_wp2_with fail
    refine (C1.out _).mono ?_
    rintro e w' ⟨rfl, rfl⟩
    go_wp2_with fail
    refine (C2.out _).mono ?_
    rintro e w' ⟨rfl, rfl⟩
    go_wp2_with fail
    go_quiet ((go_at_call 32; exact Calls.quiet_of_same ((C3.out _).mono (fun _ _ hq => ⟨hq.1, hq.2.symm⟩))))
    go_wp2_with fail
    go_ret
    have k1 : Keeps (fun j => j = w.heap.size + 1) w ((((w.alloc (.cells #[.int .i64 m] 3)).alloc (.cells #[.int .i64 ((z : Int) - 1)] 3)).drewN nq).setCell ⟨w.heap.size + 1, 0, none⟩ (.int .i64 (2 * (m : Int)))) :=
      (Keeps.alloc _ _ _).trans ((Keeps.alloc _ _ _).trans ((Keeps.drewN _ _ _).trans (Keeps.setCell _ _ _ rfl)))
    have bx1 : Boxed ((((w.alloc (.cells #[.int .i64 m] 3)).alloc (.cells #[.int .i64 ((z : Int) - 1)] 3))).drewN nq) w.heap.size 3 (.int .i64 m) := (Boxed.new w 3 (.int .i64 m)).alloc _
    have bx2 : Boxed ((((w.alloc (.cells #[.int .i64 m] 3)).alloc (.cells #[.int .i64 ((z : Int) - 1)] 3))).drewN nq) (w.heap.size + 1) 3 (.int .i64 ((z : Int) - 1)) := by
      have := Boxed.new (w.alloc (.cells #[.int .i64 m] 3)) 3 (.int .i64 ((z : Int) - 1))
      rw [World.size_alloc] at this
      exact this
    refine ⟨rfl, bx1.other (by omega) _, ?_, k1.below (fun j e => by omega) (Nat.le_refl _), by simp⟩
    have := bx2.set (.int .i64 (2 * (m : Int)))
    rw [HO.out]
    simpa using this
  · have hb : (((z : Int) - 1 + 1) == (q : Int)) = false := by simp; omega
    have hb2 : ((z : Int) == (q : Int)) = false := by simp; omega
    rw [if_neg he] at HO
    have HE := Lib.hid he
    clear he
    go_enter Try.func66, Try.ntmps66
    go_wp2_with fail
    refine (C1.out _).mono ?_
    rintro e w' ⟨rfl, rfl⟩
    go_wp2_with fail
    refine (C2.out _).mono ?_
    rintro e w' ⟨rfl, rfl⟩
    go_wp2_with fail
    go_quiet ((go_at_call 32; exact Calls.quiet_of_same ((C3.out _).mono (fun _ _ hq => ⟨hq.1, hq.2.symm⟩))))
    go_wp2_with fail
    go_ret
    have k1 : Keeps (fun j => j = w.heap.size + 1) w (((w.alloc (.cells #[.int .i64 m] 3)).alloc (.cells #[.int .i64 ((z : Int) - 1)] 3)).drewN nq) :=
      (Keeps.alloc _ _ _).trans ((Keeps.alloc _ _ _).trans (Keeps.drewN _ _ _))
    have bx1 : Boxed ((((w.alloc (.cells #[.int .i64 m] 3)).alloc (.cells #[.int .i64 ((z : Int) - 1)] 3))).drewN nq) w.heap.size 3 (.int .i64 m) := (Boxed.new w 3 (.int .i64 m)).alloc _
    have bx2 : Boxed ((((w.alloc (.cells #[.int .i64 m] 3)).alloc (.cells #[.int .i64 ((z : Int) - 1)] 3))).drewN nq) (w.heap.size + 1) 3 (.int .i64 ((z : Int) - 1)) := by
      have := Boxed.new (w.alloc (.cells #[.int .i64 m] 3)) 3 (.int .i64 ((z : Int) - 1))
      rw [World.size_alloc] at this
      exact this
    refine ⟨rfl, bx1, ?_, k1.below (fun j e => by omega) (Nat.le_refl _), by simp⟩
    rw [HO.out, show (((z - 1 : Nat)) : Int) = (z : Int) - 1 by omega]
    exact bx2

namespace Hv
/-- The same, of whole numbers. -/
def zi (p : Nat × Nat) : Int × Int := ((p.1 : Int), (p.2 : Int))
def enc (p : Int × Int) : List Value := [.int .i64 p.1, .int .i64 p.2]
def encs (l : List (Int × Int)) : List Value := l.flatMap enc
theorem encs_snoc (l : List (Int × Int)) (p : Int × Int) : encs (l ++ [p]) = encs l ++ [.int .i64 p.1, .int .i64 p.2] := by unfold encs; rw [List.flatMap_append]; rfl
/-- The first splits: those of less than counts of a part. -/
def p1 (m o k : Nat) : List (Int × Int) := (List.range k).map (fun a : Nat => ((a : Int), ((min (o - a) m : Nat) : Int)))
def p2 (m k : Nat) : List (Int × Int) := (List.range k).map (fun b : Nat => ((m : Int), (b : Int)))
theorem p1_succ (m o k : Nat) : p1 m o (k + 1) = p1 m o k ++ [((k : Int), ((min (o - k) m : Nat) : Int))] := by unfold p1; rw [List.range_succ, List.map_append]; rfl
theorem p2_succ (m k : Nat) : p2 m (k + 1) = p2 m k ++ [((m : Int), (k : Int))] := by unfold p2; rw [List.range_succ, List.map_append]; rfl
theorem sp_zi (m o : Nat) : (sp m o).map zi = p1 m o (min m (o + 1)) ++ p2 m (o + 1 - m) := by
  unfold sp p1 p2 zi
  rw [List.map_append, List.map_map, List.map_map]; rfl
end Hv
/-- What a round that goes on keeps: the two variables that the iterator reads. -/
def Two (b1 b2 : Nat) (W W' : World) : Prop := ∀ b v, (b = b1 ∨ b = b2) → Boxed W b 3 v → Boxed W' b 3 v
theorem Two.refl (b1 b2 : Nat) (W : World) : Two b1 b2 W W := fun _ _ _ h => h
theorem two_t {b1 b2 : Nat} {A B C : World} (h : Two b1 b2 A B) (k : Two b1 b2 B C) : Two b1 b2 A C := fun b v hb h1 => k b v hb (h b v hb h1)
theorem two_b {b1 b2 : Nat} (W : World) (l : Nat) (o o' : Obj) (ho : W.heap[l]? = some o) (hc : o.isCells = false) : Two b1 b2 W (W.putObj l o') := fun b v _ h =>
  h.kept (grownBy_putObj' W l o') (fun e => by
    cases e
    rw [show W.heap[l]? = _ from h] at ho
    cases ho; cases hc)
set_option maxRecDepth 100000 in
set_option maxHeartbeats 1000000 in
theorem parts1_in (F : Fence) (n : Nat) (h6 : F.fn 76) (hro : F.round = none) (hn : 1 ≤ n) (l b1 b2 m o : Nat) (hm : m ≤ 1000) (ho : o ≤ 3000) (J Jx : List (Int × Int) → World → Prop)
    (hY : ∀ pre x W, J pre W → pre.length < (Hv.sp m o).length → YieldAt F (n - 1) Try.prog l #[.int .i64 x.1, .int .i64 x.2] W fun e W' =>
      (e = .returned (.bool true) ∧ J (pre ++ [x]) W' ∧ Two b1 b2 W W') ∨ (e = .returned (.bool false) ∧ Jx (pre ++ [x]) W'))
    (W : World) (hb1 : Boxed W b1 3 (.int .i64 m)) (hb2 : Boxed W b2 3 (.int .i64 o)) (h0 : J [] W) :
    CallsIn F n Try.prog 76 #[.func (.yield l) #[] #[], .pointer (some ⟨b1, 0, none⟩), .pointer (some ⟨b2, 0, none⟩)] W fun e W' => (∃ v, e = .returned v) ∧
      ((∃ ys, ys = (Hv.sp m o).map Hv.zi ∧ J ys W') ∨ (∃ pre, True ∧ Jx pre W')) := by
  have hu : ∀ b : Bool, ¬ (some undef = some (Value.bool b)) := fun b h => by cases h
  have hsl : (Hv.sp m o).length = min m (o + 1) + (o + 1 - m) := by unfold Hv.sp; simp
  have HSZ := Lib.hid (Hv.sp_zi m o)
  refine callsIn_of_wp Try.func76 rfl h6 ?_ hro
  simp only [Try.ntmps76, List.size_toArray, List.length_cons, List.length_nil, Nat.reduceAdd, Nat.reduceSub, Array.replicate_succ, Array.replicate_zero, List.push_toArray, List.append_toArray, List.nil_append, List.cons_append]
  gi_wp2
  gi_loopw [4] (fun v4 wr => ∃ k : Nat, k ≤ min m (o + 1) ∧ v4 = .int .i64 k ∧ J (Hv.p1 m o k) wr ∧ Boxed wr b1 3 (.int .i64 m) ∧ Boxed wr b2 3 (.int .i64 o)) (fun v4 _ => min m (o + 1) - (intOf v4).toNat)
  case atStart => exact ⟨0, by omega, rfl, h0, hb1, hb2⟩
  case round =>
    obtain ⟨k, hk, rfl, hJ, hx1, hx2⟩ := hrel
    have hc1 := hx1.cell
    have hc2 := hx2.cell
    by_cases hlt : k < min m (o + 1)
    · have hsc := Hv.p1_succ m o k
      have hpl : (Hv.p1 m o k).length < (Hv.sp m o).length := by rw [hsl]; unfold Hv.p1; simp; omega
      have HX := Lib.hid (And.intro hx1 hx2)
      clear hx1 hx2
      by_cases hmo : (o : Int) - k ≤ (m : Int)
      · rw [show (((min (o - k) m : Nat)) : Int) = (o : Int) - k by omega] at hsc
        obtain ⟨fn, tmps, assign, body, hy, hR⟩ := hY (Hv.p1 m o k) ((k : Int), (o : Int) - (k : Int)) wr hJ hpl
        rw [← hsc] at hR
        dsimp only at hy
        have HR := Lib.hid hR
        clear hsc hpl hR hsl
        gi_wp2
        refine (HR.out).mono ?_
        rintro e W3 (⟨rfl, hJ3, hk3⟩ | ⟨rfl, hx3⟩)
        · have hx1 := hk3 b1 _ (Or.inl rfl) (HX.out).1
          have hx2 := hk3 b2 _ (Or.inr rfl) (HX.out).2
          have H3 := Lib.hid (And.intro hJ3 (And.intro hx1 hx2))
          clear hJ3 hk3 hx1 hx2
          gi_wp2
          go_roundw
          case rel => exact ⟨k + 1, by omega, by go_num, (H3.out).1, (H3.out).2.1, (H3.out).2.2⟩
          case measure => simp [intOf]; omega
        · gi_wp2
          refine bodyPost_ret (results_none rfl _ _ _) rfl ?_
          exact ⟨⟨_, rfl⟩, .inr ⟨_, trivial, hx3⟩⟩
      · rw [show (((min (o - k) m : Nat)) : Int) = (m : Int) by omega] at hsc
        obtain ⟨fn, tmps, assign, body, hy, hR⟩ := hY (Hv.p1 m o k) ((k : Int), (m : Int)) wr hJ hpl
        rw [← hsc] at hR
        dsimp only at hy
        have HR := Lib.hid hR
        clear hsc hpl hR hsl
        gi_wp2
        refine (HR.out).mono ?_
        rintro e W3 (⟨rfl, hJ3, hk3⟩ | ⟨rfl, hx3⟩)
        · have hx1 := hk3 b1 _ (Or.inl rfl) (HX.out).1
          have hx2 := hk3 b2 _ (Or.inr rfl) (HX.out).2
          have H3 := Lib.hid (And.intro hJ3 (And.intro hx1 hx2))
          clear hJ3 hk3 hx1 hx2
          gi_wp2
          go_roundw
          case rel => exact ⟨k + 1, by omega, by go_num, (H3.out).1, (H3.out).2.1, (H3.out).2.2⟩
          case measure => simp [intOf]; omega
        · gi_wp2
          refine bodyPost_ret (results_none rfl _ _ _) rfl ?_
          exact ⟨⟨_, rfl⟩, .inr ⟨_, trivial, hx3⟩⟩
    · have hke : k = min m (o + 1) := by omega
      rw [hke] at hJ
      have HJ := Lib.hid (And.intro hJ (And.intro hx1 hx2))
      have HSL := Lib.hid hsl
      clear hJ hx1 hx2 hsl
      by_cases hkm : k < m
      · have hko : ¬ (k : Int) ≤ (o : Int) := by omega
        · clear hke
          gi_wp2
          gi_loopw [5] (fun v5 wr => ∃ j : Nat, j ≤ o + 1 - m ∧ v5 = .int .i64 j ∧ J (Hv.p1 m o (min m (o + 1)) ++ Hv.p2 m j) wr ∧ Boxed wr b1 3 (.int .i64 m) ∧ Boxed wr b2 3 (.int .i64 o)) (fun v5 _ => o + 1 - m - (intOf v5).toNat)
          case atStart => exact ⟨0, by omega, rfl, by unfold Hv.p2; simp only [List.range_zero, List.map_nil, List.append_nil]; exact (HJ.out).1, (HJ.out).2.1, (HJ.out).2.2⟩
          case round =>
            obtain ⟨j, hj, rfl, hJ2, hx1, hx2⟩ := hrel
            have hc1 := hx1.cell
            have hc2 := hx2.cell
            by_cases hlt2 : j < o + 1 - m
            · have hsc := Hv.p2_succ m j
              have hpl : (Hv.p1 m o (min m (o + 1)) ++ Hv.p2 m j).length < (Hv.sp m o).length := by rw [HSL.out]; unfold Hv.p1 Hv.p2; simp; omega
              obtain ⟨fn, tmps, assign, body, hy, hR⟩ := hY (Hv.p1 m o (min m (o + 1)) ++ Hv.p2 m j) ((m : Int), (j : Int)) wr hJ2 hpl
              rw [List.append_assoc, ← hsc] at hR
              dsimp only at hy
              have HR := Lib.hid hR
              have HX := Lib.hid (And.intro hx1 hx2)
              have hjo : (j : Int) ≤ (o : Int) - (m : Int) := by omega
              clear hsc hpl hR hx1 hx2 hJ2
              gi_wp2
              refine (HR.out).mono ?_
              rintro e W3 (⟨rfl, hJ3, hk3⟩ | ⟨rfl, hx3⟩)
              · have hx1 := hk3 b1 _ (Or.inl rfl) (HX.out).1
                have hx2 := hk3 b2 _ (Or.inr rfl) (HX.out).2
                have H3 := Lib.hid (And.intro hJ3 (And.intro hx1 hx2))
                clear hJ3 hk3 hx1 hx2
                gi_wp2
                go_roundw
                case rel => exact ⟨j + 1, by omega, by go_num, (H3.out).1, (H3.out).2.1, (H3.out).2.2⟩
                case measure => simp [intOf]; omega
              · gi_wp2
                refine bodyPost_ret (results_none rfl _ _ _) rfl ?_
                exact ⟨⟨_, rfl⟩, .inr ⟨_, trivial, hx3⟩⟩
            · have hjo : ¬ (j : Int) ≤ (o : Int) - (m : Int) := by omega
              have hje : j = o + 1 - m := by omega
              rw [hje, ← HSZ.out] at hJ2
              have H3 := Lib.hid hJ2
              clear hJ2 hx1 hx2
              gi_wp2
              go_end0
              exact ⟨⟨_, rfl⟩, .inl (by first | exact H3.out | exact ⟨_, rfl, H3.out⟩)⟩
      · · clear hke
          gi_wp2
          gi_loopw [5] (fun v5 wr => ∃ j : Nat, j ≤ o + 1 - m ∧ v5 = .int .i64 j ∧ J (Hv.p1 m o (min m (o + 1)) ++ Hv.p2 m j) wr ∧ Boxed wr b1 3 (.int .i64 m) ∧ Boxed wr b2 3 (.int .i64 o)) (fun v5 _ => o + 1 - m - (intOf v5).toNat)
          case atStart => exact ⟨0, by omega, rfl, by unfold Hv.p2; simp only [List.range_zero, List.map_nil, List.append_nil]; exact (HJ.out).1, (HJ.out).2.1, (HJ.out).2.2⟩
          case round =>
            obtain ⟨j, hj, rfl, hJ2, hx1, hx2⟩ := hrel
            have hc1 := hx1.cell
            have hc2 := hx2.cell
            by_cases hlt2 : j < o + 1 - m
            · have hsc := Hv.p2_succ m j
              have hpl : (Hv.p1 m o (min m (o + 1)) ++ Hv.p2 m j).length < (Hv.sp m o).length := by rw [HSL.out]; unfold Hv.p1 Hv.p2; simp; omega
              obtain ⟨fn, tmps, assign, body, hy, hR⟩ := hY (Hv.p1 m o (min m (o + 1)) ++ Hv.p2 m j) ((m : Int), (j : Int)) wr hJ2 hpl
              rw [List.append_assoc, ← hsc] at hR
              dsimp only at hy
              have HR := Lib.hid hR
              have HX := Lib.hid (And.intro hx1 hx2)
              have hjo : (j : Int) ≤ (o : Int) - (m : Int) := by omega
              clear hsc hpl hR hx1 hx2 hJ2
              gi_wp2
              refine (HR.out).mono ?_
              rintro e W3 (⟨rfl, hJ3, hk3⟩ | ⟨rfl, hx3⟩)
              · have hx1 := hk3 b1 _ (Or.inl rfl) (HX.out).1
                have hx2 := hk3 b2 _ (Or.inr rfl) (HX.out).2
                have H3 := Lib.hid (And.intro hJ3 (And.intro hx1 hx2))
                clear hJ3 hk3 hx1 hx2
                gi_wp2
                go_roundw
                case rel => exact ⟨j + 1, by omega, by go_num, (H3.out).1, (H3.out).2.1, (H3.out).2.2⟩
                case measure => simp [intOf]; omega
              · gi_wp2
                refine bodyPost_ret (results_none rfl _ _ _) rfl ?_
                exact ⟨⟨_, rfl⟩, .inr ⟨_, trivial, hx3⟩⟩
            · have hjo : ¬ (j : Int) ≤ (o : Int) - (m : Int) := by omega
              have hje : j = o + 1 - m := by omega
              rw [hje, ← HSZ.out] at hJ2
              have H3 := Lib.hid hJ2
              clear hJ2 hx1 hx2
              gi_wp2
              go_end0
              exact ⟨⟨_, rfl⟩, .inl (by first | exact H3.out | exact ⟨_, rfl, H3.out⟩)⟩
theorem parts_stops (F : Fence) (n : Nat) (h6 : F.fn 76) (hro : F.round = none) (hn : 1 ≤ n) (b1 b2 m o : Nat) (hm : m ≤ 1000) (ho : o ≤ 3000) (w : World) (hb1 : Boxed w b1 3 (.int .i64 m)) (hb2 : Boxed w b2 3 (.int .i64 o)) :
    SeqStopsK F n Try.prog 76 #[.pointer (some ⟨b1, 0, none⟩), .pointer (some ⟨b2, 0, none⟩)] (fun x : Int × Int => #[Value.int .i64 x.1, Value.int .i64 x.2]) (Two b1 b2) (fun ys => ys = (Hv.sp m o).map Hv.zi) (fun _ => True) (Hv.sp m o).length w := fun l J Jx W hW _ _ hY h0 =>
  parts1_in F n h6 hro hn l b1 b2 m o hm ho J Jx hY W ((hW.block b1 hb1.lt).trans hb1) ((hW.block b2 hb2.lt).trans hb2) h0
theorem Try.infoP : (Try.prog.info? 39).map (fun i => (i.zero, i.size, i.bytes)) = some (some (.agg #[.int .i64 0, .int .i64 0]), 2, 16) := by kernel_rfl
theorem cell_two (w : World) (x y : Value) (t : TypeId) : ∀ j u, [x, y][j]? = some u → (w.alloc (.cells #[x, y] t)).cell? ((⟨w.heap.size, 0, none⟩ : Addr).add j) = some u := by
  intro j u hj
  match j, hj with
  | 0, hj => simp at hj; subst hj; simp [Addr.add]
  | 1, hj => simp at hj; subst hj; simp [Addr.add]
  | (j + 2), hj => simp at hj
/-- A list of pairs of the call's own that is handed back. -/
def PairsAns (L : List (Int × Int)) (w : World) (e : Ending) (w' : World) : Prop :=
  ∃ x, e = .returned x ∧ w'.ownsRow w.heap.size 39 2 x L.length (Hv.encs L) ∧ Below w.heap.size w w'
set_option maxRecDepth 100000 in
set_option maxHeartbeats 2000000 in
theorem splits_in (F : Fence) (n : Nat) (hf : ∀ k, F.fn k) (hd : F = Fence.wide) (hro : F.round = none) (hn : 3 ≤ n) (g r : Int) (w : World) (hg : 1 ≤ g ∧ g ≤ 9223372036854775807) (hr : 1 ≤ r ∧ r ≤ 6) :
    CallsIn F n Try.prog 39 #[.int .i64 g, .int .i64 r] w (PairsAns ((Hv.sp (Hv.cap (r - 1)) (Hv.oth g r)).map Hv.zi) w) := by
  have h1 : 1 ≤ n := by omega
  have hu : ∀ b : Bool, ¬ (some undef = some (Value.bool b)) := fun b h => by cases h
  have hm : Hv.cap (r - 1) ≤ 1000 := by
    rcases (show r = 1 ∨ r = 2 ∨ r = 3 ∨ r = 4 ∨ r = 5 ∨ r = 6 by omega) with rfl | rfl | rfl | rfl | rfl | rfl <;> decide
  have ho : Hv.oth g r ≤ 3000 := by
    have h2 := Hv.cap_step (r - 1) (by omega) (by omega)
    rw [show r - 1 + 1 = r by omega] at h2
    have h3 : Hv.clip g r ≤ Hv.cap r := by unfold Hv.clip; omega
    unfold Hv.oth
    split <;> omega
  have PA := Lib.hid (fun w => parts_any g r w hg hr)
  obtain ⟨i0, hi, hz0, hz1, hz2⟩ := info_parts Try.infoP
  refine callsIn_of_wp_marks Try.func39 rfl (hf _) ?_ hro
  simp only [Try.ntmps39, List.size_toArray, List.length_cons, List.length_nil, Nat.reduceAdd, Nat.reduceSub, Array.replicate_succ, Array.replicate_zero, List.push_toArray, List.append_toArray, List.nil_append, List.cons_append]
  subst hd
  gi_wp2_with (gi_at_call 66; refine (callsIn_wide.2 (PA.out _)).mono ?_; rintro e w' ⟨rfl, hx1, hx2, hb, hsz⟩)
  have hl := Hv.sp_len (Hv.cap (r - 1)) (Hv.oth g r)
  have hb0 : Below w.heap.size w (w.alloc (.cells #[.slice none 0 0] 36)) := (Below.refl _ w).alloc (Nat.le_refl _) _
  have bO := Boxed.new w 36 (.slice none 0 0)
  rw [World.size_alloc] at hx1 hx2 hb hsz
  have bO' : Boxed w' w.heap.size 36 (.slice none 0 0) := (hb.block w.heap.size (by omega)).trans bO
  have hB0 : Below w.heap.size w w' := hb0.trans (hb.mono (by omega))
  generalize Hv.cap (r - 1) = m at *
  generalize Hv.oth g r = o at *
  refine wpIn_rangeFunc_ownG hro h1 (gf := 76) (lb := #[.pointer (some ⟨w.heap.size + 1, 0, none⟩), .pointer (some ⟨w.heap.size + 1 + 1, 0, none⟩)]) rfl (hf _) (enters_of Try.func76 (by kernel_rfl) rfl)
    (parts_stops Fence.wide (n - 1) (hf _) hro (by omega) (w.heap.size + 1) (w.heap.size + 1 + 1) m o hm ho w' hx1 hx2) two_t (fun W l o o' _ h1 h2 _ => two_b W l o o' h1 h2) (Below.refl _ _) (fun _ => rfl)
    (fun pre W => (∃ v, Boxed W w.heap.size 36 v ∧ W.ownsRow w.heap.size 39 2 v pre.length (Hv.encs pre) ∧ True) ∧ ((Boxed W (w.heap.size + 1) 3 (.int .i64 m) ∧ Boxed W (w.heap.size + 1 + 1) 3 (.int .i64 o)) ∧ Below w.heap.size w W))
    (fun _ _ _ => False)
    (OwnFrom.and (Own.from (holdsRow_own w.heap.size w.heap.size 36 39 2 (fun pre : List (Int × Int) => pre.length) (fun pre => Hv.encs pre) (fun _ _ => True)) _) (OwnFrom.and (OwnFrom.and (Own.from (boxed_own (w.heap.size + 1) 3 (fun _ => .int .i64 m)) _) (Own.from (boxed_own (w.heap.size + 1 + 1) 3 (fun _ => .int .i64 o)) _)) (ownFrom_below (Nat.le_refl _) (by omega))))
    (fun _ _ _ _ _ hs _ _ => hs)
    ⟨⟨_, bO', World.ownsRow_nil _ _ _ _, trivial⟩, ⟨hx1, hx2⟩, hB0⟩
    (fun x => { tmps := #[.int .i64 g, .int .i64 r, undef, undef, .slice none 0 0, .pointer (some ⟨w.heap.size, 0, none⟩), .int .i64 x.1, .int .i64 x.2, .int .i64 r, .bool (decide (r < 1)), .bool (decide (r < 1)), .int .i64 g, .bool (decide (g < 1)), .bool (decide (r < 1) || decide (g < 1)), .int .i64 g, .int .i64 r, .func (.func 76) #[] #[.pointer (some ⟨w.heap.size + 1, 0, none⟩), .pointer (some ⟨w.heap.size + 1 + 1, 0, none⟩)], .int .i64 x.1, .int .i64 x.2, undef, undef, undef, undef, undef, undef, undef], defers := [] }) ?assign ?body ?done ?stop
  case assign =>
    intro l x W K hK
    gi_wp2
    exact hK
  case body =>
    rintro l pre x W ⟨⟨v, hv, hrow, _⟩, ⟨hy1, hy2⟩, hB⟩ hlt
    have hc := hv.cell
    have hlp : pre.length < 7000 := by omega
    gi_wp2_with (gi_at_builtin; refine wpListIn_append_own _ rfl _ _ 36 rfl w.heap.size 39 i0 (.agg #[.int .i64 0, .int .i64 0]) 2 16 Try.underlying36 hi hz0 hz1 hz2 rfl (by decide) _ _ _ rfl (hrow.alloc _) ⟨W.heap.size, 0, none⟩ 1 1 [.int .i64 x.1, .int .i64 x.2] rfl rfl (cell_two _ _ _ _) (by simp [Value.oneCell']) (by unfold maxLen; omega) (by omega) (by have := hB.size; simp; omega) ?_; intro v' w1 hown' hgrow _; obtain ⟨g', cap', rfl⟩ := ownsRow_succ hown'; obtain ⟨hv1, hv2, hr2, hk2, hb2⟩ := hv.appended (by decide) hrow hB.size (Nat.le_refl _) hown' hgrow; have hc1 := hv1.cell; have hf1 := hv1.frozen)
    have two : Two (w.heap.size + 1) (w.heap.size + 1 + 1) W (w1.setCell ⟨w.heap.size, 0, none⟩ (.slice (some ⟨g', 0, none⟩) (pre.length + 1) cap')) := fun b v0 hb h =>
      ((h.alloc _).kept hgrow (h.not_row (by decide) hrow)).other (by omega) _
    exact ⟨hk2.from _, two, ⟨_, hv2, by rw [Hv.encs_snoc, List.length_append]; exact hr2, trivial⟩, ⟨two _ _ (Or.inl rfl) hy1, two _ _ (Or.inr rfl) hy2⟩, hB.trans hb2⟩
  case done =>
    rintro D ys W hD rfl ⟨⟨v, hv, hrow, _⟩, _, hB⟩ hK
    have hc := hv.cell
    gi_wp2
    refine ⟨by simp, .inl ⟨_, _, rfl, run_takeDeferred hK, ?_⟩⟩
    exact ⟨_, results_tmp rfl _ _ _, v, rfl, ownsRow_putObj hrow _ hK rfl, hB.trans (belowK_b (w := w) (Nat.le_refl _) W D _ _ (by omega) hK rfl rfl)⟩
  case stop =>
    rintro D c pre W _ _ h _
    exact h.elim
theorem splits_go (g r : Int) (w : World) (hg : 1 ≤ g ∧ g ≤ 9223372036854775807) (hr : 1 ≤ r ∧ r ≤ 6) : Calls Try.prog 39 #[.int .i64 g, .int .i64 r] w (PairsAns ((Hv.splits g r).map Hv.zi) w) := by
  unfold Hv.splits
  rw [if_neg (by omega)]
  exact callsIn_wide.1 (splits_in Fence.wide 5 (fun _ => trivial) rfl rfl (by omega) g r w hg hr)
set_option maxHeartbeats 400000 in
theorem splits_no (g r : Int) (w : World) (h : r < 1 ∨ g < 1) : Calls Try.prog 39 #[.int .i64 g, .int .i64 r] w (PairsAns ((Hv.splits g r).map Hv.zi) w) := by
  unfold Hv.splits
  rw [if_pos h]
  by_cases hr : r < 1
  · go_enter Try.func39, Try.ntmps39
    go_wp2
    go_ret
    exact ⟨_, rfl, World.ownsRow_nil _ _ _ _, Below.refl _ _⟩
  · have hg : g < 1 := by omega
    go_enter Try.func39, Try.ntmps39
    go_wp2
    go_ret
    exact ⟨_, rfl, World.ownsRow_nil _ _ _ _, Below.refl _ _⟩
theorem splits_any (g r : Int) (w : World) (hg : -9223372036854775808 ≤ g ∧ g ≤ 9223372036854775807) (hr : r ≤ 6) : Calls Try.prog 39 #[.int .i64 g, .int .i64 r] w (PairsAns ((Hv.splits g r).map Hv.zi) w) := by
  by_cases h : r < 1 ∨ g < 1
  · exact splits_no g r w h
  · exact splits_go g r w (by omega) (by omega)
end Go.Proofs.Ytnljihankodedaa
