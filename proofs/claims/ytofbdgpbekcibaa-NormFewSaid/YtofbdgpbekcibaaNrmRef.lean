/-
  Norm: which steps may be: the document's.
-/
import Derived.Test.YtofbdgpbekcibaaNrmChk
import Derived.Deep.Cut
import Derived.Deep.CutRange
namespace Go.Proofs.Ytofbdgpbekcibaa
open Go.RowKit
set_option linter.unusedVariables false
set_option linter.unusedSimpArgs false
theorem nrbel_dn {B : Nat} {a w : World} (h : Below B a w) (n : Nat) : Below B a (w.drewN n) := ⟨h.os, h.tape, h.output, h.size, h.block⟩
theorem rsizeStep : (Try.prog.info? 72).map (·.size) = some 10 := by kernel_rfl
set_option maxRecDepth 100000 in
set_option maxHeartbeats 4000000 in
theorem rcheckS_any (a : Option Addr) (c : Nat) (l : List Sp) (w : World) (hl : RdP w a l) (hm : l.length ≤ maxLen) :
    Calls Try.prog 40 #[.slice a l.length c] w fun e w' => e = .returned (.bool (fitL l)) ∧ Below w.heap.size w w' := by
  have hu : ∀ b : Bool, ¬ (some undef = some (Value.bool b)) := fun b h => by cases h
  have hm2 : l.length ≤ 9223372036854775807 := by unfold maxLen at hm; omega
  have HY : Hid (∀ w', fitsTo l l.length → Below w.heap.size w w' → (Ending.returned (.bool true) = .returned (.bool (fitL l)) ∧ Below w.heap.size w w')) := Lib.hid fun w' h hb => ⟨by rw [fitL_yes h], hb⟩
  by_cases h0 : l.length = 0
  · have HA := HY.out w (fun i x hi => by omega) (Below.refl _ _)
    have HA := Lib.hid HA
    rw [h0]
    clear hl hm hm2 HY
    go_enter Try.func40, Try.ntmps40
    go_wp2_with fail
    go_loopw [3] (fun v9 wr => v9 = .int .i64 0 ∧ wr = w) (fun _ _ => 0)
    case atStart => exact ⟨rfl, rfl⟩
    case round =>
      obtain ⟨rfl, rfl⟩ := hrel
      go_wp2_with fail
      go_ret
      exact HA.out
  · have hpos : 0 < l.length := by omega
    obtain ⟨b, off, ha, hrg⟩ := hl.at hpos
    subst ha
    have HR := Lib.hid hrg
    clear hl hm h0 hrg
    go_enter Try.func40, Try.ntmps40
    go_wp2_with fail
    go_loopw [3] (fun v9 wr => ∃ i : Nat, v9 = .int .i64 i ∧ i ≤ l.length ∧ fitsTo l i ∧ Below w.heap.size w wr) (fun v9 _ => l.length - (intOf v9).toNat)
    case atStart => exact ⟨0, rfl, by omega, fun i x hi => by omega, Below.refl _ _⟩
    case round =>
      obtain ⟨i, rfl, hi, hfit, hbel⟩ := hrel
      by_cases hlt : i < l.length
      · have hrc := HR.out i hlt
        have hrw : wr.rangeAt b (off + i * 10) l[i].cells := fun j v hv => by
          have h1 := hrc j v hv
          exact (hbel.cell (p := ⟨b, off + i * 10 + j, none⟩) (lt_of_cell h1)).trans h1
        have HB2 : Hid (∀ o n, Below w.heap.size w ((wr.alloc o).drewN n)) := Lib.hid fun o n => by
          have h1 : Below wr.heap.size wr (wr.alloc o) := (Below.refl _ _).alloc (Nat.le_refl _) o
          have h2 := hbel.trans (h1.mono hbel.size)
          exact ⟨h2.os, h2.tape, h2.output, h2.size, h2.block⟩
        have HNO : Hid (fitB l[i] i = false → ∀ w', Below w.heap.size w w' → (Ending.returned (.bool false) = .returned (.bool (fitL l)) ∧ Below w.heap.size w w')) := Lib.hid fun h w' hb => ⟨by rw [fitL_no hlt h], hb⟩
        have HGO : Hid (fitB l[i] i = true → fitsTo l (i + 1)) := Lib.hid fun h => fits_step hfit hlt h
        clear hrc hfit
        generalize l[i] = x at *
        obtain ⟨op, xa, xb, t0, t1, t2, t3, t4, t5, t6⟩ := x
        have hrw : wr.rangeAt b (off + i * 10) [.int .i64 op, .int .i64 xa, .int .i64 xb, .int .i64 t0, .int .i64 t1, .int .i64 t2, .int .i64 t3, .int .i64 t4, .int .i64 t5, .int .i64 t6] := hrw
        clear hbel
        go_wp2_with (refine wpList_load_mid rfl 72 (.tmp 16) rfl b (off + i * 10) rfl _ _ hrw Try.underlying72 rfl rsizeStep ?_)
        have hxx : (wr.alloc (.cells #[.int .i64 op, .int .i64 xa, .int .i64 xb, .int .i64 t0, .int .i64 t1, .int .i64 t2, .int .i64 t3, .int .i64 t4, .int .i64 t5, .int .i64 t6] 72)).heap[wr.heap.size]? = some (.cells #[.int .i64 op, .int .i64 xa, .int .i64 xb, .int .i64 t0, .int .i64 t1, .int .i64 t2, .int .i64 t3, .int .i64 t4, .int .i64 t5, .int .i64 t6] 72 (0, 0)) := by
          rw [World.alloc]; simp
        generalize hX : wr.heap.size = X at hxx ⊢
        generalize hW1 : (wr.alloc (.cells #[.int .i64 op, .int .i64 xa, .int .i64 xb, .int .i64 t0, .int .i64 t1, .int .i64 t2, .int .i64 t3, .int .i64 t4, .int .i64 t5, .int .i64 t6] 72)) = W1 at hxx ⊢
        have HW1 : Hid (∀ n, Below w.heap.size w (W1.drewN n)) := Lib.hid fun n => hW1 ▸ HB2.out _ n
        have k0 := cell_of_row W1 X 0 _ _ _ hxx
        have k1 := cell_of_row W1 X 1 _ _ _ hxx
        have k2 := cell_of_row W1 X 2 _ _ _ hxx
        simp only [List.getElem?_toArray, List.getElem?_cons_zero, List.getElem?_cons_succ] at k0 k1 k2
        clear hxx hW1 HB2 hrw HR
        go_cut [5, 6] from 18 to 35 (fun s5 s6 wx => s5 = .bool (ahd xa i) ∧ s6 = .bool (ahd xb i) ∧ ∃ n, wx = W1.drewN n)
        case first =>
          have sg : ∀ n : Int, (¬ 0 ≤ n) ∨ (0 ≤ n ∧ n < (i : Int)) ∨ (0 ≤ n ∧ ¬ n < (i : Int)) := fun n => by omega
          have s1 := sg xa
          have s2 := sg xb
          clear sg
          have y1 : ahd xa i = decide (0 ≤ xa ∧ xa < (i : Int)) := by simp [ahd]
          have y2 : ahd xb i = decide (0 ≤ xb ∧ xb < (i : Int)) := by simp [ahd]
          have HY1 := Lib.hid y1
          have HY2 := Lib.hid y2
          clear y1 y2
          rcases s1 with s1 | ⟨s1, s1'⟩ | ⟨s1, s1'⟩
          all_goals rcases s2 with s2 | ⟨s2, s2'⟩ | ⟨s2, s2'⟩
          all_goals go_quiet (fail)
          all_goals go_wp2_with fail
          all_goals go_meet
          all_goals refine ⟨?_, ?_, ?_⟩
          all_goals first
            | exact ⟨0, rfl⟩
            | exact ⟨1, rfl⟩
            | exact ⟨_, rfl⟩
            | (rw [HY1.out]; congr 1; simp; omega)
            | (rw [HY2.out]; congr 1; simp; omega)
        case rest =>
          obtain ⟨rfl, rfl, n, rfl⟩ := hcut
          have k0 : (W1.drewN n).cell? ⟨X, 0, none⟩ = some (.int .i64 op) := k0
          have HW2 := Lib.hid (HW1.out n)
          clear HW1 k1 k2
          generalize W1.drewN n = W2 at *
          have hF : fitB ⟨op, xa, xb, t0, t1, t2, t3, t4, t5, t6⟩ i = (if op = 15 ∨ op = 20 ∨ op = 24 then ahd xa i else if op = 16 ∨ op = 26 then ahd xa i && ahd xb i else decide (1 ≤ op ∧ op ≤ 14)) := rfl
          generalize fitB ⟨op, xa, xb, t0, t1, t2, t3, t4, t5, t6⟩ i = FB at *
          generalize ahd xa i = A at *
          generalize ahd xb i = B at *
          have hops : op = 15 ∨ op = 20 ∨ op = 24 ∨ op = 16 ∨ op = 26 ∨ (1 ≤ op ∧ op ≤ 14) ∨ (¬ 1 ≤ op) ∨ (1 ≤ op ∧ ¬ op ≤ 14 ∧ op ≠ 15 ∧ op ≠ 20 ∧ op ≠ 24 ∧ op ≠ 16 ∧ op ≠ 26) := by omega
          rcases hops with rfl | rfl | rfl | rfl | rfl | ⟨n1, n2⟩ | n1 | ⟨n0, n1, n2, n3, n4, n5, n6⟩
          · obtain rfl : FB = A := by simpa using hF
            clear hF
            cases FB
            · skip
              go_wp2_with fail
              all_goals try go_quiet (fail)
              all_goals try go_wp2_with fail
              all_goals try go_quiet (fail)
              all_goals try go_wp2_with fail
              all_goals try go_quiet (fail)
              all_goals try go_wp2_with fail
              go_ret
              exact HNO.out (by first | rfl | trivial) _ (by first | exact HW2.out | (repeat (first | exact HW2.out | apply nrbel_dn | apply Below.drew)))
            · skip
              go_wp2_with fail
              all_goals try go_quiet (fail)
              all_goals try go_wp2_with fail
              all_goals try go_quiet (fail)
              all_goals try go_wp2_with fail
              all_goals try go_quiet (fail)
              all_goals try go_wp2_with fail
              go_roundw
              case rel => exact ⟨i + 1, by go_num, by omega, HGO.out (by first | rfl | trivial), (by first | exact HW2.out | (repeat (first | exact HW2.out | apply nrbel_dn | apply Below.drew)))⟩
              case measure => simp [intOf] <;> omega
          · obtain rfl : FB = A := by simpa using hF
            clear hF
            cases FB
            · skip
              go_wp2_with fail
              all_goals try go_quiet (fail)
              all_goals try go_wp2_with fail
              all_goals try go_quiet (fail)
              all_goals try go_wp2_with fail
              all_goals try go_quiet (fail)
              all_goals try go_wp2_with fail
              go_ret
              exact HNO.out (by first | rfl | trivial) _ (by first | exact HW2.out | (repeat (first | exact HW2.out | apply nrbel_dn | apply Below.drew)))
            · skip
              go_wp2_with fail
              all_goals try go_quiet (fail)
              all_goals try go_wp2_with fail
              all_goals try go_quiet (fail)
              all_goals try go_wp2_with fail
              all_goals try go_quiet (fail)
              all_goals try go_wp2_with fail
              go_roundw
              case rel => exact ⟨i + 1, by go_num, by omega, HGO.out (by first | rfl | trivial), (by first | exact HW2.out | (repeat (first | exact HW2.out | apply nrbel_dn | apply Below.drew)))⟩
              case measure => simp [intOf] <;> omega
          · obtain rfl : FB = A := by simpa using hF
            clear hF
            cases FB
            · skip
              go_wp2_with fail
              all_goals try go_quiet (fail)
              all_goals try go_wp2_with fail
              all_goals try go_quiet (fail)
              all_goals try go_wp2_with fail
              all_goals try go_quiet (fail)
              all_goals try go_wp2_with fail
              go_ret
              exact HNO.out (by first | rfl | trivial) _ (by first | exact HW2.out | (repeat (first | exact HW2.out | apply nrbel_dn | apply Below.drew)))
            · skip
              go_wp2_with fail
              all_goals try go_quiet (fail)
              all_goals try go_wp2_with fail
              all_goals try go_quiet (fail)
              all_goals try go_wp2_with fail
              all_goals try go_quiet (fail)
              all_goals try go_wp2_with fail
              go_roundw
              case rel => exact ⟨i + 1, by go_num, by omega, HGO.out (by first | rfl | trivial), (by first | exact HW2.out | (repeat (first | exact HW2.out | apply nrbel_dn | apply Below.drew)))⟩
              case measure => simp [intOf] <;> omega
          · have hF : FB = (A && B) := by simpa using hF
            cases A <;> cases B
            · obtain rfl : FB = false := hF
              clear hF
              go_wp2_with fail
              all_goals try go_quiet (fail)
              all_goals try go_wp2_with fail
              all_goals try go_quiet (fail)
              all_goals try go_wp2_with fail
              all_goals try go_quiet (fail)
              all_goals try go_wp2_with fail
              go_ret
              exact HNO.out (by first | rfl | trivial) _ (by first | exact HW2.out | (repeat (first | exact HW2.out | apply nrbel_dn | apply Below.drew)))
            · obtain rfl : FB = false := hF
              clear hF
              go_wp2_with fail
              all_goals try go_quiet (fail)
              all_goals try go_wp2_with fail
              all_goals try go_quiet (fail)
              all_goals try go_wp2_with fail
              all_goals try go_quiet (fail)
              all_goals try go_wp2_with fail
              go_ret
              exact HNO.out (by first | rfl | trivial) _ (by first | exact HW2.out | (repeat (first | exact HW2.out | apply nrbel_dn | apply Below.drew)))
            · obtain rfl : FB = false := hF
              clear hF
              go_wp2_with fail
              all_goals try go_quiet (fail)
              all_goals try go_wp2_with fail
              all_goals try go_quiet (fail)
              all_goals try go_wp2_with fail
              all_goals try go_quiet (fail)
              all_goals try go_wp2_with fail
              go_ret
              exact HNO.out (by first | rfl | trivial) _ (by first | exact HW2.out | (repeat (first | exact HW2.out | apply nrbel_dn | apply Below.drew)))
            · obtain rfl : FB = true := hF
              clear hF
              go_wp2_with fail
              all_goals try go_quiet (fail)
              all_goals try go_wp2_with fail
              all_goals try go_quiet (fail)
              all_goals try go_wp2_with fail
              all_goals try go_quiet (fail)
              all_goals try go_wp2_with fail
              go_roundw
              case rel => exact ⟨i + 1, by go_num, by omega, HGO.out (by first | rfl | trivial), (by first | exact HW2.out | (repeat (first | exact HW2.out | apply nrbel_dn | apply Below.drew)))⟩
              case measure => simp [intOf] <;> omega
          · have hF : FB = (A && B) := by simpa using hF
            cases A <;> cases B
            · obtain rfl : FB = false := hF
              clear hF
              go_wp2_with fail
              all_goals try go_quiet (fail)
              all_goals try go_wp2_with fail
              all_goals try go_quiet (fail)
              all_goals try go_wp2_with fail
              all_goals try go_quiet (fail)
              all_goals try go_wp2_with fail
              go_ret
              exact HNO.out (by first | rfl | trivial) _ (by first | exact HW2.out | (repeat (first | exact HW2.out | apply nrbel_dn | apply Below.drew)))
            · obtain rfl : FB = false := hF
              clear hF
              go_wp2_with fail
              all_goals try go_quiet (fail)
              all_goals try go_wp2_with fail
              all_goals try go_quiet (fail)
              all_goals try go_wp2_with fail
              all_goals try go_quiet (fail)
              all_goals try go_wp2_with fail
              go_ret
              exact HNO.out (by first | rfl | trivial) _ (by first | exact HW2.out | (repeat (first | exact HW2.out | apply nrbel_dn | apply Below.drew)))
            · obtain rfl : FB = false := hF
              clear hF
              go_wp2_with fail
              all_goals try go_quiet (fail)
              all_goals try go_wp2_with fail
              all_goals try go_quiet (fail)
              all_goals try go_wp2_with fail
              all_goals try go_quiet (fail)
              all_goals try go_wp2_with fail
              go_ret
              exact HNO.out (by first | rfl | trivial) _ (by first | exact HW2.out | (repeat (first | exact HW2.out | apply nrbel_dn | apply Below.drew)))
            · obtain rfl : FB = true := hF
              clear hF
              go_wp2_with fail
              all_goals try go_quiet (fail)
              all_goals try go_wp2_with fail
              all_goals try go_quiet (fail)
              all_goals try go_wp2_with fail
              all_goals try go_quiet (fail)
              all_goals try go_wp2_with fail
              go_roundw
              case rel => exact ⟨i + 1, by go_num, by omega, HGO.out (by first | rfl | trivial), (by first | exact HW2.out | (repeat (first | exact HW2.out | apply nrbel_dn | apply Below.drew)))⟩
              case measure => simp [intOf] <;> omega
          · have n3 : op ≠ 15 ∧ op ≠ 20 ∧ op ≠ 24 ∧ op ≠ 16 ∧ op ≠ 26 := by omega
            obtain rfl : FB = true := by rw [hF]; simp [n3, n1, n2]
            have q1 : (op == 15) = false := by simpa using n3.1
            have q2 : (op == 20) = false := by simpa using n3.2.1
            have q3 : (op == 24) = false := by simpa using n3.2.2.1
            have q4 : (op == 16) = false := by simpa using n3.2.2.2.1
            have q5 : (op == 26) = false := by simpa using n3.2.2.2.2
            clear hF n3
            go_wp2_with fail
            all_goals try go_quiet (fail)
            all_goals try go_wp2_with fail
            all_goals try go_quiet (fail)
            all_goals try go_wp2_with fail
            all_goals try go_quiet (fail)
            all_goals try go_wp2_with fail
            go_roundw
            case rel => exact ⟨i + 1, by go_num, by omega, HGO.out (by first | rfl | trivial), (by first | exact HW2.out | (repeat (first | exact HW2.out | apply nrbel_dn | apply Below.drew)))⟩
            case measure => simp [intOf] <;> omega
          · have n3 : op ≠ 15 ∧ op ≠ 20 ∧ op ≠ 24 ∧ op ≠ 16 ∧ op ≠ 26 := by omega
            obtain rfl : FB = false := by rw [hF]; simp [n3, n1]
            have q1 : (op == 15) = false := by simpa using n3.1
            have q2 : (op == 20) = false := by simpa using n3.2.1
            have q3 : (op == 24) = false := by simpa using n3.2.2.1
            have q4 : (op == 16) = false := by simpa using n3.2.2.2.1
            have q5 : (op == 26) = false := by simpa using n3.2.2.2.2
            clear hF n3
            go_wp2_with fail
            all_goals try go_quiet (fail)
            all_goals try go_wp2_with fail
            all_goals try go_quiet (fail)
            all_goals try go_wp2_with fail
            all_goals try go_quiet (fail)
            all_goals try go_wp2_with fail
            go_ret
            exact HNO.out (by first | rfl | trivial) _ (by first | exact HW2.out | (repeat (first | exact HW2.out | apply nrbel_dn | apply Below.drew)))
          · obtain rfl : FB = false := by rw [hF]; simp [n1, n2, n3, n4, n5, n6] <;> omega
            have q1 : (op == 15) = false := by simpa using n2
            have q2 : (op == 20) = false := by simpa using n3
            have q3 : (op == 24) = false := by simpa using n4
            have q4 : (op == 16) = false := by simpa using n5
            have q5 : (op == 26) = false := by simpa using n6
            clear hF n2 n3 n4 n5 n6
            go_wp2_with fail
            all_goals try go_quiet (fail)
            all_goals try go_wp2_with fail
            all_goals try go_quiet (fail)
            all_goals try go_wp2_with fail
            all_goals try go_quiet (fail)
            all_goals try go_wp2_with fail
            go_ret
            exact HNO.out (by first | rfl | trivial) _ (by first | exact HW2.out | (repeat (first | exact HW2.out | apply nrbel_dn | apply Below.drew)))
      · have hie : i = l.length := by omega
        subst hie
        go_wp2_with fail
        go_ret
        exact HY.out _ hfit hbel
end Go.Proofs.Ytofbdgpbekcibaa
