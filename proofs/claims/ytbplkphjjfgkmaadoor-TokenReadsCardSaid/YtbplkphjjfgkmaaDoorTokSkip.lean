/-
  token's scanner: skip, by a walk.
-/
import Derived.Test.YtbplkphjjfgkmaaDoorTokWhile
import Derived.StillTailTactics
namespace Go.Proofs.YtbplkphjjfgkmaaDoor
open Go.RowKit
set_option linter.unusedVariables false
set_option linter.unusedSimpArgs false

/-- A block of three cells of the call's own: a fault. -/
structure FltAt (w : World) (q : Nat) : Prop where
  obj : ∃ a b c, w.heap[q]? = some (.cells #[.int .i64 a, .int .i64 b, .int .i64 c] 35 (0, 0))
theorem FltAt.keeps {w w' : World} {q : Nat} {S : Nat → Prop} (h : FltAt w q) (k : Keeps S w w') (hs : ¬ S q) : FltAt w' q := by
  obtain ⟨a, b, c, h1⟩ := h.obj
  exact ⟨a, b, c, (k.block q (Array.getElem?_eq_some_iff.1 h1).1 hs).trans h1⟩
/-- Where skip ends. -/
def SkipR (w : World) (p : Nat) (ra : Option Addr) (rc g : Nat) (s : ByteArray) (N i : Nat) (e : Ending) (w' : World) : Prop :=
  ∃ j, i ≤ j ∧ Scn w' p ra rc g s N j ∧ Moves p w w' ∧
    ((e = .returned (.agg #[.int .i64 0, .int .i64 0, .int .i64 0]) ∧ (∀ out, Tk.scan s N i false out = Tk.scan s N j false out) ∧ (j < N → Tk.skipc (Tk.rn s N j) false = false)) ∨
     (e = .returned (.agg #[.int .i64 1, .int .i64 (Rn.st s j).l, .int .i64 (Rn.st s j).c]) ∧ ∀ out, Tk.scan s N i false out = .bad 1 (Rn.st s j).l (Rn.st s j).c))
/-- Three cells of the call's own are set: the scanner stays. -/
theorem flt_set {w w2 : World} {p rc g q N j : Nat} {ra : Option Addr} {s : ByteArray} (hs : Scn w2 p ra rc g s N j) (hm : Moves p w w2) (hq : q = w.heap.size) (hqp : q ≠ p) (hgq : 0 < N → g ≠ q) (a b c : Value) :
    Scn (((w2.setCell ⟨q, 0, none⟩ a).setCell ⟨q, 1, none⟩ b).setCell ⟨q, 2, none⟩ c) p ra rc g s N j ∧ Moves p w (((w2.setCell ⟨q, 0, none⟩ a).setCell ⟨q, 1, none⟩ b).setCell ⟨q, 2, none⟩ c) := by
  have k : Keeps (fun k => k = q) w2 (((w2.setCell ⟨q, 0, none⟩ a).setCell ⟨q, 1, none⟩ b).setCell ⟨q, 2, none⟩ c) :=
    ((Keeps.setCell (S := fun k => k = q) w2 ⟨q, 0, none⟩ a rfl).trans (Keeps.setCell (S := fun k => k = q) _ ⟨q, 1, none⟩ b rfl)).trans (Keeps.setCell (S := fun k => k = q) _ ⟨q, 2, none⟩ c rfl)
  refine ⟨hs.keeps k (fun e => hqp e.symm) (fun h e => hgq h e), ?_⟩
  refine ⟨k.os.trans hm.os, k.tape.trans hm.tape, k.output.trans hm.output, Nat.le_trans hm.size k.size, fun i hi hs => ?_⟩
  exact (k.block i (Nat.lt_of_lt_of_le hi hm.size) (by omega)).trans (hm.block i hi hs)
theorem twp_gen {P : Program} {c : Code} {Q : Exit → Act → World → Prop} {a : Act} {F : Nat → World} {R : World → Prop} (hF : ∀ m, R (F m)) (h : ∀ W, R W → Code.wp P c Q a W) (m : Nat) : Code.wp P c Q a (F m) := h _ (hF m)
theorem skipc_no {c : Int} (h1 : Tk.bl c = false) (h2 : (c != 35) = true) : Tk.skipc c false = false := by
  unfold Tk.skipc
  rw [h1]
  simpa using h2
set_option maxRecDepth 1000000 in
set_option maxHeartbeats 4000000 in
theorem skip_any {w : World} {p rc g N i : Nat} {ra : Option Addr} {s : ByteArray} (h : Scn w p ra rc g s N i) :
    Calls Tryd.prog 66 #[.pointer (some ⟨p, 0, none⟩)] w (SkipR w p ra rc g s N i) := by
  have HWB : Hid (∀ w i, Scn w p ra rc g s N i → Calls Tryd.prog 110 #[.pointer (some ⟨p, 0, none⟩), .func (.func 111) #[.pointer (some ⟨p, 0, none⟩)] #[]] w fun e w' => e = .returned (.string (Tk.txt s i (Tk.wh N (Tk.rn s N) Tk.bl i))) ∧ Scn w' p ra rc g s N (Tk.wh N (Tk.rn s N) Tk.bl i) ∧ Moves p w w') := Lib.hid fun w i h =>
    while_any h 111 Tk.bl rfl (enters_of Tryd.func111 (by kernel_rfl) rfl) fun w j h => inBlanks_any h
  have HWR : Hid (∀ w i, Scn w p ra rc g s N i → Calls Tryd.prog 110 #[.pointer (some ⟨p, 0, none⟩), .func (.func 113) #[.pointer (some ⟨p, 0, none⟩)] #[]] w fun e w' => e = .returned (.string (Tk.txt s i (Tk.wh N (Tk.rn s N) Tk.rem i))) ∧ Scn w' p ra rc g s N (Tk.wh N (Tk.rn s N) Tk.rem i) ∧ Moves p w w') := Lib.hid fun w i h =>
    while_any h 113 Tk.rem rfl (enters_of Tryd.func113 (by kernel_rfl) rfl) fun w j h => inRemark_any h
  have hlt := h.lt
  have HS0 : Hid (Scn (w.alloc (.cells #[.int .i64 0, .int .i64 0, .int .i64 0] 35)) p ra rc g s N i ∧ Moves p w (w.alloc (.cells #[.int .i64 0, .int .i64 0, .int .i64 0] 35)) ∧ FltAt (w.alloc (.cells #[.int .i64 0, .int .i64 0, .int .i64 0] 35)) w.heap.size) := Lib.hid
    ⟨h.below ((Below.refl _ _).alloc (Nat.le_refl _) _), Keeps.alloc _ _ _, ⟨0, 0, 0, heap_alloc_new _ _⟩⟩
  have hqp : w.heap.size ≠ p := by omega
  have HGQ : Hid (0 < N → g ≠ w.heap.size) := Lib.hid fun h0 e => by have := h.gl h0; omega
  clear h
  go_enter Tryd.func66, Tryd.ntmps66
  go_wp2
  go_loopg [6] N (fun kx v6 wr => ∃ (k : Nat) (b : Bool), N - k ≤ kx ∧ i ≤ k ∧ Hid (∀ out, Tk.scan s N i false out = Tk.scan s N (Tk.wh N (Tk.rn s N) Tk.bl k) false out) ∧ Hid (Scn wr p ra rc g s N k ∧ Moves p w wr ∧ FltAt wr w.heap.size))
  case atStart => exact ⟨i, false, by omega, Nat.le_refl _, Lib.hid fun out => Tk.scan_blanks s N i out, HS0⟩
  case round =>
    obtain ⟨k, b, hkx, hik, HSC, HK⟩ := hrel
    go_wp2_with fail
    refine (HWB.out wr k HK.out.1).mono ?_
    rintro e w1 ⟨rfl, hs1, hm1⟩
    have hkj := Tk.wh_ge N (Tk.rn s N) Tk.bl k
    have hend := Tk.wh_end N (Tk.rn s N) Tk.bl k
    have HEND := Lib.hid hend
    clear hend
    generalize Tk.wh N (Tk.rn s N) Tk.bl k = j at *
    have HJ : Hid (Scn w1 p ra rc g s N j ∧ Moves p w w1 ∧ FltAt w1 w.heap.size) := Lib.hid ⟨hs1, HK.out.2.1.trans hm1, HK.out.2.2.keeps (S := fun k => k = p) hm1 hqp⟩
    clear hs1 hm1 HK
    have HR := Lib.hid (rune0_any HJ.out.1)
    cases h35 : (Tk.rn s N j != 35) with
    | true =>
      have HNO : Hid (j < N → Tk.skipc (Tk.rn s N j) false = false) := Lib.hid fun hj => skipc_no (by
        cases hb : Tk.bl (Tk.rn s N j) with
        | false => rfl
        | true => exact absurd ⟨hj, hb⟩ HEND.out) h35
      obtain ⟨r, hr⟩ : ∃ r, Tk.rn s N j = r := ⟨_, rfl⟩
      rw [hr] at HR h35 HNO
      have hre := Lib.hid hr
      clear hr
      go_wp2_with fail
      refine HR.out.mono ?_
      rintro e w2 ⟨rfl, n, rfl⟩
      have HJ2 : Hid (Scn (w1.drewN n) p ra rc g s N j ∧ Moves p w (w1.drewN n) ∧ FltAt (w1.drewN n) w.heap.size) := Lib.hid ⟨HJ.out.1.drewN n, HJ.out.2.1.trans (Moves.drewN p _ _), HJ.out.2.2.keeps (S := fun k => k = p) (Keeps.drewN _ _ _) hqp⟩
      obtain ⟨x0, x1, x2, hobj⟩ := HJ2.out.2.2.obj
      generalize w1.drewN n = w2 at *
      have q0 := cell_of_row w2 w.heap.size 0 _ _ _ hobj
      have q1 := cell_of_row w2 w.heap.size 1 _ _ _ hobj
      have q2 := cell_of_row w2 w.heap.size 2 _ _ _ hobj
      have f0 := frozen_of_row w2 w.heap.size 0 _ _ hobj
      have f1 := frozen_of_row w2 w.heap.size 1 _ _ hobj
      have f2 := frozen_of_row w2 w.heap.size 2 _ _ hobj
      have hz : w.heap.size < w2.heap.size := (Array.getElem?_eq_some_iff.1 hobj).1
      simp at q0 q1 q2
      clear hobj
      go_wp2_with fail
      obtain ⟨hs3, hm3⟩ := flt_set HJ2.out.1 HJ2.out.2.1 rfl hqp HGQ.out (.int .i64 0) (.int .i64 0) (.int .i64 0)
      exact bodyPost_ret (v := .agg #[.int .i64 0, .int .i64 0, .int .i64 0]) (by simp [results, Tryd.results66, go_sem, q0, q1, q2, hz]) rfl ⟨j, by omega, hs3, hm3, Or.inl ⟨rfl, HSC.out, fun hj => by rw [hre.out]; exact HNO.out hj⟩⟩
    | false =>
      have hj35 : Tk.rn s N j = 35 := by simpa using h35
      have HREM : Hid (∀ out, Tk.scan s N i false out = Tk.scan s N (Tk.wh N (Tk.rn s N) Tk.rem j) true out) := Lib.hid fun out => (HSC.out out).trans (Tk.scan_remark s N j out hj35)
      have hjN : j < N := Tk.rn_lt (by rw [hj35]; decide)
      have hjk : Tk.wh N (Tk.rn s N) Tk.rem j = Tk.wh N (Tk.rn s N) Tk.rem (j + 1) := Tk.wh_go hjN (by rw [hj35]; rfl)
      have hge := Tk.wh_ge N (Tk.rn s N) Tk.rem (j + 1)
      have hle2 := Tk.wh_le N (Tk.rn s N) Tk.rem j (by omega)
      have HEND2 := Lib.hid (Tk.wh_end N (Tk.rn s N) Tk.rem j)
      rw [← hjk] at hge
      rw [hj35] at HR
      clear h35 hjk hj35
      go_wp2_with fail
      refine HR.out.mono ?_
      rintro e w2 ⟨rfl, n, rfl⟩
      have HJ2 : Hid (Scn (w1.drewN n) p ra rc g s N j ∧ Moves p w (w1.drewN n) ∧ FltAt (w1.drewN n) w.heap.size) := Lib.hid ⟨HJ.out.1.drewN n, HJ.out.2.1.trans (Moves.drewN p _ _), HJ.out.2.2.keeps (S := fun k => k = p) (Keeps.drewN _ _ _) hqp⟩
      clear HJ HR
      generalize w1.drewN n = w2 at *
      go_wp2_with fail
      refine (HWR.out w2 j HJ2.out.1).mono ?_
      rintro e w3 ⟨rfl, hs3, hm3⟩
      generalize Tk.wh N (Tk.rn s N) Tk.rem j = m at *
      have HJ3 : Hid (Scn w3 p ra rc g s N m ∧ Moves p w w3 ∧ FltAt w3 w.heap.size) := Lib.hid ⟨hs3, HJ2.out.2.1.trans hm3, HJ2.out.2.2.keeps (S := fun k => k = p) hm3 hqp⟩
      clear hs3 hm3 HJ2
      have c1 := HJ3.out.1.c1
      have c2 := HJ3.out.1.c2
      have hfew := HJ3.out.1.few
      by_cases hmN : m < N
      · have HR2 : Hid (∀ n, Calls Tryd.prog 112 #[.pointer (some ⟨p, 0, none⟩), .int .i64 0] (w3.drewN n) fun e w' => e = .returned (.int .i32 (Tk.rn s N m)) ∧ ∃ k, w' = (w3.drewN n).drewN k) := Lib.hid fun n => rune0_any (HJ3.out.1.drewN n)
        have hd : decide ((m : Int) < (N : Int)) = true := decide_eq_true (by omega)
        have hd2 : decide (m < N) = true := decide_eq_true hmN
        have hr3 := HJ3.out.1.r3 hmN
        have hr4 : w3.cell? ⟨g, m * 5 + 3 + 1, none⟩ = some (.int .i64 ((Rn.st s m).c : Nat)) := HJ3.out.1.r4 hmN
        have HBAD : Hid (Tk.rn s N m = -1 → ∀ out, Tk.scan s N i false out = .bad 1 (Rn.st s m).l (Rn.st s m).c) := Lib.hid fun e out => (HREM.out out).trans (Tk.scan_remBad s N m out hmN e)
        have HON : Hid ((Tk.rn s N m == -1) = false → ∀ out, Tk.scan s N i false out = Tk.scan s N (Tk.wh N (Tk.rn s N) Tk.bl m) false out) := Lib.hid fun e out => (HREM.out out).trans (Tk.scan_newline s N m out (Or.inl (by
          have h1 := HEND2.out
          have h2 : Tk.rem (Tk.rn s N m) = false := by
            cases hh : Tk.rem (Tk.rn s N m) with
            | false => rfl
            | true => exact absurd ⟨hmN, hh⟩ h1
          unfold Tk.rem at h2
          have h3 : (Tk.rn s N m != -1) = true := by simpa using e
          rw [h3, Bool.and_true] at h2
          simpa using h2)))
        rcases HJ3.out.1.at_ with h0 | h0
        · omega
        · subst h0
          cases hb : (Tk.rn s N m == -1) with
          | false =>
            have HON2 := Lib.hid (HON.out hb)
            clear HON HBAD
            generalize Tk.rn s N m = r at HR2 hb
            go_wp2
            go_quiet ((go_at_call 112; exact Calls.quiet_of (HR2.out _)))
            go_wp2
            go_roundg (N - m)
            case measure => omega
            case rel => exact ⟨m, true, Nat.le_refl _, by omega, HON2, Lib.hid ⟨HJ3.out.1.drewN _, HJ3.out.2.1.trans (Moves.drewN p _ _), HJ3.out.2.2.keeps (S := fun k => k = p) (Keeps.drewN _ _ _) hqp⟩⟩
          | true =>
            have HBAD2 := Lib.hid (HBAD.out (by simpa using hb))
            clear HON HBAD
            generalize Tk.rn s N m = r at HR2 hb
            go_wp2
            go_quiet ((go_at_call 112; exact Calls.quiet_of (HR2.out _)))
            go_wp2
            refine twp_gen (F := fun d => w3.drewN d) (R := fun W => Scn W p (some ⟨g, 0, none⟩) rc g s N m ∧ Moves p w W ∧ FltAt W w.heap.size) (fun d => ⟨HJ3.out.1.drewN d, HJ3.out.2.1.trans (Moves.drewN p _ _), HJ3.out.2.2.keeps (S := fun k => k = p) (Keeps.drewN _ _ _) hqp⟩) ?_ _
            clear hr3 hr4 c1 c2
            rintro w4 ⟨hs4, hm4, hf4⟩
            have HJ4 : Hid (Scn w4 p (some ⟨g, 0, none⟩) rc g s N m ∧ Moves p w w4) := Lib.hid ⟨hs4, hm4⟩
            have c1 := hs4.c1
            have c2 := hs4.c2
            have hr3 := hs4.r3 hmN
            have hr4 : w4.cell? ⟨g, m * 5 + 3 + 1, none⟩ = some (.int .i64 ((Rn.st s m).c : Nat)) := hs4.r4 hmN
            obtain ⟨x0, x1, x2, hobj⟩ := hf4.obj
            have q0 := cell_of_row w4 w.heap.size 0 _ _ _ hobj
            have q1 := cell_of_row w4 w.heap.size 1 _ _ _ hobj
            have q2 := cell_of_row w4 w.heap.size 2 _ _ _ hobj
            have f0 := frozen_of_row w4 w.heap.size 0 _ _ hobj
            have f1 := frozen_of_row w4 w.heap.size 1 _ _ hobj
            have f2 := frozen_of_row w4 w.heap.size 2 _ _ hobj
            have hz : w.heap.size < w4.heap.size := (Array.getElem?_eq_some_iff.1 hobj).1
            simp at q0 q1 q2
            clear hobj hf4 hs4 hm4 HR2 HJ3
            obtain ⟨ll, hll⟩ : ∃ ll, (Rn.st s m).l = ll := ⟨_, rfl⟩
            obtain ⟨cc, hcc⟩ : ∃ cc, (Rn.st s m).c = cc := ⟨_, rfl⟩
            rw [hll] at hr3
            rw [hcc] at hr4
            have HLL := Lib.hid hll
            have HCC := Lib.hid hcc
            clear hll hcc
            go_region
            all_goals
              go_wp2
              obtain ⟨hs5, hm5⟩ := flt_set HJ4.out.1 HJ4.out.2 rfl hqp HGQ.out (.int .i64 1) (.int .i64 ll) (.int .i64 cc)
              exact bodyPost_ret (v := .agg #[.int .i64 1, .int .i64 ll, .int .i64 cc]) (by simp [results, Tryd.results66, go_sem, q0, q1, q2, hz]) rfl ⟨m, by omega, hs5.drewN 1, hm5.trans (Keeps.drew _ _), Or.inr ⟨by rw [HLL.out, HCC.out], HBAD2.out⟩⟩
      · have hd : decide ((m : Int) < (N : Int)) = false := decide_eq_false (by omega)
        have hd2 : decide (m < N) = false := decide_eq_false hmN
        have HON2 : Hid (∀ out, Tk.scan s N i false out = Tk.scan s N (Tk.wh N (Tk.rn s N) Tk.bl m) false out) := Lib.hid fun out => (HREM.out out).trans (Tk.scan_newline s N m out (Or.inr hmN))
        go_wp2
        go_quiet (fail)
        go_wp2
        go_roundg (N - m)
        case measure => omega
        case rel => exact ⟨m, true, Nat.le_refl _, by omega, HON2, Lib.hid ⟨HJ3.out.1.drewN _, HJ3.out.2.1.trans (Moves.drewN p _ _), HJ3.out.2.2.keeps (S := fun k => k = p) (Keeps.drewN _ _ _) hqp⟩⟩
end Go.Proofs.YtbplkphjjfgkmaaDoor
