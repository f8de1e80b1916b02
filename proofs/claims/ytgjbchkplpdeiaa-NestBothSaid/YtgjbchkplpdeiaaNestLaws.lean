/-
  The laws on nestings, by walks.
-/
import Derived.Test.YtgjbchkplpdeiaaNestCircle
import Derived.Test.YtgjbchkplpdeiaaNestBelow
namespace Go.Proofs.Ytgjbchkplpdeiaa
open Go.RowKit
set_option linter.unusedVariables false
set_option linter.unusedSimpArgs false

theorem reads_new (w : World) (xs : List Value) (e : TypeId) : Reads (w.alloc (.cells xs.toArray e)) (some ⟨w.heap.size, 0, none⟩) xs :=
  Or.inr ⟨w.heap.size, 0, rfl, fun j hj => by
    rw [World.cell?_alloc_at _ _ _ _ rfl]
    simp⟩
theorem below_new (w : World) (o : Obj) : Below w.heap.size w (w.alloc o) := (Keeps.alloc (fun _ => False) w o).below (fun _ h => h.elim) (Nat.le_refl _)
/-- Two lists that were handed back are told the same. -/
theorem same_ans {w1 w2 : World} {x y : Value} {xs ys : List Int} {B C : Nat} (hx : w1.ownsRow B 3 1 x xs.length (xs.map (Value.int .i64))) (hy : w2.ownsRow C 3 1 y ys.length (ys.map (Value.int .i64))) (hb : Below w1.heap.size w1 w2) (hm : xs.length ≤ 1000000) (he : xs = ys) :
    Calls Try.prog 39 #[x, y] w2 fun e w' => e = .returned (.bool true) ∧ ∃ n, w' = w2.drewN n := by
  obtain ⟨a, c, rfl, hr⟩ := Reads.of_ints hx
  obtain ⟨b, d, rfl, hr2⟩ := Reads.of_ints hy
  have h := same_any a b c d xs ys w2 (hr.mono hb (Nat.le_refl _)) hr2 (by omega)
  rwa [decide_eq_true he] at h
theorem same_lit {w1 w2 : World} {x : Value} {xs ys : List Int} {B : Nat} {b : Option Addr} {d : Nat} (hx : w1.ownsRow B 3 1 x xs.length (xs.map (Value.int .i64))) (hy : Reads w2 b (ys.map (Value.int .i64))) (hb : Below w1.heap.size w1 w2) (hm : xs.length ≤ 1000000) (he : xs = ys) :
    Calls Try.prog 39 #[x, .slice b ys.length d] w2 fun e w' => e = .returned (.bool true) ∧ ∃ n, w' = w2.drewN n := by
  obtain ⟨a, c, rfl, hr⟩ := Reads.of_ints hx
  have h := same_any a b c d xs ys w2 (hr.mono hb (Nat.le_refl _)) hy (by omega)
  rwa [decide_eq_true he] at h
set_option maxHeartbeats 1000000 in
theorem awake10_any (w : World) : Calls Try.prog 37 #[] w fun e w' => e = .returned (.bool true) ∧ Below w.heap.size w w' := by
  have bel0 := below_new w (.cells #[.int .i64 (-1), .int .i64 0, .int .i64 1, .int .i64 0] 3)
  have rd0 : Reads (w.alloc (.cells #[.int .i64 (-1), .int .i64 0, .int .i64 1, .int .i64 0] 3)) (some ⟨w.heap.size, 0, none⟩) (([-1, 0, 1, 0] : List Int).map (Value.int .i64)) := reads_new w _ _
  have R0 := Lib.hid (And.intro bel0 rd0)
  clear bel0 rd0
  go_enter Try.func37, Try.ntmps37
  go_wp2_with fail
  generalize (w.alloc (.cells #[.int .i64 (-1), .int .i64 0, .int .i64 1, .int .i64 0] 3)) = w1 at *
  refine (above_any (some ⟨w.heap.size, 0, none⟩) 4 [-1, 0, 1, 0] 2 w1 (R0.out).2 (by decide)).mono ?_
  rintro e w2 ⟨x, rfl, ox, bx⟩
  rw [show Ns.aboveL [-1, 0, 1, 0] 2 = [1, 0] by decide] at ox
  have b2 := (R0.out).1.trans (bx.mono (R0.out).1.size)
  have OX := Lib.hid (And.intro ox (And.intro bx b2))
  clear ox bx b2
  go_wp2_with fail
  have bel3 := below_new w2 (.cells #[.int .i64 1, .int .i64 0] 3)
  have rd3 : Reads (w2.alloc (.cells #[.int .i64 1, .int .i64 0] 3)) (some ⟨w2.heap.size, 0, none⟩) (([1, 0] : List Int).map (Value.int .i64)) := reads_new w2 _ _
  generalize (w2.alloc (.cells #[.int .i64 1, .int .i64 0] 3)) = w3 at *
  refine (same_lit (ys := [1, 0]) (d := 2) (OX.out).1 rd3 bel3 (by decide) rfl).mono ?_
  rintro e w4 ⟨rfl, n, rfl⟩
  have b4 := below_drewN ((OX.out).2.2.trans (bel3.mono (OX.out).2.2.size)) n
  have r4 := (R0.out).2.mono (below_drewN ((OX.out).2.1.trans (bel3.mono (OX.out).2.1.size)) n) (Nat.le_refl _)
  generalize w3.drewN n = w4 at *
  have R4 := Lib.hid (And.intro b4 r4)
  clear OX bel3 rd3 b4 r4
  go_wp2_with fail
  refine (below_any (some ⟨w.heap.size, 0, none⟩) 4 [-1, 0, 1, 0] 0 w4 (R4.out).2 (by decide)).mono ?_
  rintro e w5 ⟨x, rfl, ox, bx⟩
  rw [show Ns.belowL [-1, 0, 1, 0] 0 = [1, 2, 3] by decide] at ox
  have b5 := (R4.out).1.trans (bx.mono (R4.out).1.size)
  have OX := Lib.hid (And.intro ox (And.intro bx b5))
  clear ox bx b5
  go_wp2_with fail
  have bel6 := below_new w5 (.cells #[.int .i64 1, .int .i64 2, .int .i64 3] 3)
  have rd6 : Reads (w5.alloc (.cells #[.int .i64 1, .int .i64 2, .int .i64 3] 3)) (some ⟨w5.heap.size, 0, none⟩) (([1, 2, 3] : List Int).map (Value.int .i64)) := reads_new w5 _ _
  generalize (w5.alloc (.cells #[.int .i64 1, .int .i64 2, .int .i64 3] 3)) = w6 at *
  refine (same_lit (ys := [1, 2, 3]) (d := 3) (OX.out).1 rd6 bel6 (by decide) rfl).mono ?_
  rintro e w7 ⟨rfl, n, rfl⟩
  have b7 := below_drewN ((OX.out).2.2.trans (bel6.mono (OX.out).2.2.size)) n
  have r7 := (R4.out).2.mono (below_drewN ((OX.out).2.1.trans (bel6.mono (OX.out).2.1.size)) n) (Nat.le_refl _)
  generalize w6.drewN n = w7 at *
  have R7 := Lib.hid (And.intro b7 r7)
  clear OX bel6 rd6 b7 r7
  go_wp2_with fail
  refine (circle_any (some ⟨w.heap.size, 0, none⟩) 4 [-1, 0, 1, 0] w7 (R7.out).2 (by decide)).mono ?_
  rintro e w8 ⟨rfl, b8⟩
  rw [show Ns.circ [-1, 0, 1, 0] = -1 by decide]
  have B8 := Lib.hid ((R7.out).1.trans (b8.mono (R7.out).1.size))
  clear b8
  go_wp2_with fail
  go_ret
  exact ⟨rfl, B8.out⟩
theorem awake10_end (w0 w : World) (h : Below w0.heap.size w0 w) : Calls Try.prog 37 #[] w fun e w' => e = .returned (.bool true) ∧ Below w0.heap.size w0 w' :=
  (awake10_any w).mono (fun e w' hq => ⟨hq.1, h.trans (hq.2.mono h.size)⟩)
set_option maxHeartbeats 2000000 in
theorem nestAbove_walk (a : Option Addr) (c : Nat) (l : List Int) (i : Int) (w : World) (hl : Reads w a (l.map (Value.int .i64))) (hm : l.length ≤ maxLen) :
    Calls Try.prog 11 #[.slice a l.length c, .int .i64 i] w fun e w' => e = .returned (.bool true) ∧ Below w.heap.size w w' := by
  have hm2 : l.length ≤ 9223372036854775807 := by unfold maxLen at hm; omega
  clear hm
  by_cases hgt : 20 < l.length
  · go_enter Try.func11, Try.ntmps11
    go_wp2_with fail
    refine (awake10_any w).mono ?_
    rintro e w3 ⟨rfl, hb3⟩
    go_wp2_with fail
    go_ret
    exact ⟨rfl, hb3⟩
  · have hm : l.length ≤ 1000000 := by omega
    have HL := Lib.hid hl
    clear hl
    go_enter Try.func11, Try.ntmps11
    go_wp2_with fail
    refine (above_any a c l i w HL.out hm).mono ?_
    rintro e w1 ⟨x, rfl, ox, b1⟩
    have O1 := Lib.hid (And.intro ox b1)
    have r1 := (HL.out).mono b1 (Nat.le_refl _)
    have HR1 := Lib.hid r1
    clear ox b1 r1
    go_wp2_with fail
    refine (rabove_any a c l i w1 HR1.out hm).mono ?_
    rintro e w2 ⟨y, rfl, oy, b2⟩
    have hal := Ns.above_len l i
    have SM := Lib.hid (same_ans (O1.out).1 oy b2 (by omega) rfl)
    have B2 := Lib.hid ((O1.out).2.trans (b2.mono (O1.out).2.size))
    clear oy b2
    go_wp2_with fail
    refine (SM.out).mono ?_
    rintro e w3 ⟨rfl, n, rfl⟩
    have b3 := below_drewN B2.out n
    generalize w2.drewN n = w3 at *
    have B3 := Lib.hid (And.intro b3 ((HL.out).mono b3 (Nat.le_refl _)))
    obtain ⟨xa, xc, hx⟩ := own_len (O1.out).1
    subst hx
    clear b3 SM B2
    go_wp2_with fail
    refine (deep_any a c l i w3 (B3.out).2 hm).mono ?_
    rintro e w4 ⟨rfl, b4⟩
    have b4' := (B3.out).1.trans (b4.mono (B3.out).1.size)
    have B4 := Lib.hid (And.intro b4' ((HL.out).mono b4' (Nat.le_refl _)))
    clear b4 b4' B3
    go_wp2_with fail
    refine (below_any a c l i w4 (B4.out).2 hm).mono ?_
    rintro e w5 ⟨x5, rfl, o5, b5⟩
    have b5' := (B4.out).1.trans (b5.mono (B4.out).1.size)
    have B5 := Lib.hid (And.intro o5 (And.intro b5' ((HL.out).mono b5' (Nat.le_refl _))))
    clear o5 b5 b5'
    go_wp2_with fail
    refine (rbelow_any a c l i w5 (B5.out).2.2 hm).mono ?_
    rintro e w6 ⟨y6, rfl, o6, b6⟩
    have hbl := Ns.below_len l i
    have SM := Lib.hid (same_ans (B5.out).1 o6 b6 (by omega) rfl)
    have B6 := Lib.hid ((B5.out).2.1.trans (b6.mono (B5.out).2.1.size))
    clear o6 b6
    go_wp2_with fail
    refine (SM.out).mono ?_
    rintro e w7 ⟨rfl, n, rfl⟩
    have b7 := below_drewN B6.out n
    generalize w6.drewN n = w7 at *
    clear SM
    go_wp2_with fail
    refine (awake10_end w w7 b7).mono ?_
    rintro e w8 ⟨rfl, hb8⟩
    go_wp2_with fail
    go_ret
    exact ⟨rfl, hb8⟩
set_option maxHeartbeats 2000000 in
theorem nestCircles_walk (a : Option Addr) (c : Nat) (l : List Int) (w : World) (hl : Reads w a (l.map (Value.int .i64))) (hm : l.length ≤ maxLen) :
    Calls Try.prog 12 #[.slice a l.length c] w fun e w' => e = .returned (.bool true) ∧ Below w.heap.size w w' := by
  have hm2 : l.length ≤ 9223372036854775807 := by unfold maxLen at hm; omega
  clear hm
  by_cases hgt : 20 < l.length
  · go_enter Try.func12, Try.ntmps12
    go_wp2_with fail
    refine (awake10_any w).mono ?_
    rintro e w3 ⟨rfl, hb3⟩
    go_wp2_with fail
    go_ret
    exact ⟨rfl, hb3⟩
  · have hm : l.length ≤ 1000000 := by omega
    have HL := Lib.hid hl
    clear hl
    go_enter Try.func12, Try.ntmps12
    go_wp2_with fail
    refine (circle_any a c l w HL.out hm).mono ?_
    rintro e w1 ⟨rfl, b1⟩
    have B1 := Lib.hid (And.intro b1 ((HL.out).mono b1 (Nat.le_refl _)))
    clear b1
    go_wp2_with fail
    refine (rcircle_any a c l w1 (B1.out).2 hm).mono ?_
    rintro e w2 ⟨rfl, rfl⟩
    go_wp2_with fail
    refine (roots_any a c l w1 (B1.out).2 hm).mono ?_
    rintro e w5 ⟨x5, rfl, o5, b5⟩
    have b5' := (B1.out).1.trans (b5.mono (B1.out).1.size)
    have B5 := Lib.hid (And.intro o5 (And.intro b5' ((HL.out).mono b5' (Nat.le_refl _))))
    clear o5 b5 b5'
    go_wp2_with fail
    refine (rroots_any a c l w5 (B5.out).2.2 hm).mono ?_
    rintro e w6 ⟨y6, rfl, o6, b6⟩
    have hbl := Ns.rootsTo_len l l.length
    have SM := Lib.hid (same_ans (B5.out).1 o6 b6 (by omega) rfl)
    have B6 := Lib.hid ((B5.out).2.1.trans (b6.mono (B5.out).2.1.size))
    clear o6 b6
    go_wp2_with fail
    refine (SM.out).mono ?_
    rintro e w7 ⟨rfl, n, rfl⟩
    have b7 := below_drewN B6.out n
    generalize w6.drewN n = w7 at *
    clear SM
    go_wp2_with fail
    refine (awake10_end w w7 b7).mono ?_
    rintro e w8 ⟨rfl, hb8⟩
    go_wp2_with fail
    go_ret
    exact ⟨rfl, hb8⟩
end Go.Proofs.Ytgjbchkplpdeiaa
