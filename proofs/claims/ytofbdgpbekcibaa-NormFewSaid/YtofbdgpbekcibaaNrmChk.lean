/-
  Norm: which steps may be: the program's, the document's.
-/
import Derived.Test.YtofbdgpbekcibaaNrmTab
import Derived.Test.YtofbdgpbekcibaaTreeAr
namespace Go.Proofs.Ytofbdgpbekcibaa
open Go.RowKit
set_option linter.unusedVariables false
set_option linter.unusedSimpArgs false

/-- Steps lie from there on. -/
def RdP (w : World) (a : Option Addr) (l : List Sp) : Prop := Reads w a (Rec.flat Sp.cells l)
theorem RdP.mono {w w' : World} {B : Nat} {a : Option Addr} {l : List Sp} (h : RdP w a l) (hb : Below B w w') (hB : w.heap.size ≤ B) : RdP w' a l := Reads.mono h hb hB
theorem RdP.at {w : World} {a : Option Addr} {l : List Sp} (h : RdP w a l) (hp : 0 < l.length) :
    ∃ b off, a = some ⟨b, off, none⟩ ∧ ∀ i (hi : i < l.length), w.rangeAt b (off + i * 10) l[i].cells := by
  obtain ⟨b, off, rfl, hc⟩ := Reads.at h (by rw [Rec.flat_len Sp.cells_len]; omega)
  refine ⟨b, off, rfl, fun i hi j v hv => ?_⟩
  have hj : j < 10 := by rw [← Sp.cells_len l[i]]; exact (List.getElem?_eq_some_iff.1 hv).1
  have := hc (i * 10 + j) (by rw [Rec.flat_len Sp.cells_len]; omega)
  rw [Rec.flat_at Sp.cells_len l i j hi hj] at this
  rw [Nat.add_assoc, this, hv]
def ahd (n : Int) (i : Nat) : Bool := decide (0 ≤ n) && decide (n < (i : Int))
/-- A step may stand at i. -/
def fitB (x : Sp) (i : Nat) : Bool :=
  if x.op = 15 ∨ x.op = 20 ∨ x.op = 24 then ahd x.a i else if x.op = 16 ∨ x.op = 26 then ahd x.a i && ahd x.b i else decide (1 ≤ x.op ∧ x.op ≤ 14)
def fitsTo (l : List Sp) (k : Nat) : Prop := ∀ (i : Nat) (x : Sp), i < k → l[i]? = some x → fitB x i = true
noncomputable def fitL (l : List Sp) : Bool := @decide (fitsTo l l.length) (Classical.propDecidable _)
theorem fitL_yes {l : List Sp} (h : fitsTo l l.length) : fitL l = true := by unfold fitL; exact @decide_eq_true _ (_) h
theorem fitL_no {l : List Sp} {i : Nat} (hi : i < l.length) (h : fitB l[i] i = false) : fitL l = false := by
  unfold fitL
  refine @decide_eq_false _ (_) (fun hf => ?_)
  have := hf i l[i] hi (List.getElem?_eq_getElem hi)
  rw [h] at this; cases this
theorem fits_step {l : List Sp} {i : Nat} (h : fitsTo l i) (hi : i < l.length) (hx : fitB l[i] i = true) : fitsTo l (i + 1) := fun j y hj hy => by
  by_cases e : j = i
  · subst e
    rw [List.getElem?_eq_getElem hi] at hy
    cases hy; exact hx
  · exact h j y (by omega) hy
theorem ahead_any (n : Int) (X i : Nat) (w : World) (hX : w.cell? ⟨X, 0, none⟩ = some (.int .i64 (i : Nat))) :
    Calls Try.prog 59 #[.int .i64 n, .pointer (some ⟨X, 0, none⟩)] w fun e w' => e = .returned (.bool (ahd n i)) ∧ w = w' := by
  have hu : ∀ b : Bool, ¬ (some undef = some (Value.bool b)) := fun b h => by cases h
  by_cases h0 : 0 ≤ n
  · by_cases h1 : n < (i : Int)
    · have HA : ahd n i = true := by simp [ahd, h0, h1]
      rw [HA]
      go_enter Try.func59, Try.ntmps59
      go_wp2_with fail
      go_ret
      exact ⟨by rfl, rfl⟩
    · have HA : ahd n i = false := by simp [ahd, h0]; omega
      rw [HA]
      go_enter Try.func59, Try.ntmps59
      go_wp2_with fail
      go_ret
      exact ⟨by rfl, rfl⟩
  · have HA : ahd n i = false := by simp [ahd, h0]
    rw [HA]
    go_enter Try.func59, Try.ntmps59
    go_wp2_with fail
    go_ret
    exact ⟨by rfl, rfl⟩
theorem sizeStep : (Try.prog.info? 73).map (·.size) = some 10 := by kernel_rfl
theorem nbel2 (wr : World) (o o' : Obj) : Below wr.heap.size wr ((wr.alloc o).alloc o') := ((Below.refl _ _).alloc (Nat.le_refl _) o).alloc (by simp) o'
theorem box_at (wr : World) (n : Int) (t : TypeId) (o : Obj) : ((wr.alloc (.cells #[.int .i64 n] t)).alloc o).cell? ⟨wr.heap.size, 0, none⟩ = some (.int .i64 n) := by
  rw [World.cell?_alloc_past _ _ _ (by simp), World.cell?_alloc_at _ _ _ _ rfl]; rfl
set_option maxHeartbeats 2000000 in
theorem ncheck_any (a : Option Addr) (c : Nat) (l : List Sp) (w : World) (hl : RdP w a l) (hm : l.length ≤ maxLen) :
    Calls Try.prog 39 #[.slice a l.length c] w fun e w' => e = .returned (.bool (fitL l)) ∧ Below w.heap.size w w' := by
  have hu : ∀ b : Bool, ¬ (some undef = some (Value.bool b)) := fun b h => by cases h
  have hm2 : l.length ≤ 9223372036854775807 := by unfold maxLen at hm; omega
  have HY : Hid (∀ w', fitsTo l l.length → Below w.heap.size w w' → (Ending.returned (.bool true) = .returned (.bool (fitL l)) ∧ Below w.heap.size w w')) := Lib.hid fun w' h hb => ⟨by rw [fitL_yes h], hb⟩
  by_cases h0 : l.length = 0
  · have HA := HY.out w (fun i x hi => by omega) (Below.refl _ _)
    have HA := Lib.hid HA
    rw [h0]
    clear hl hm hm2 HY
    go_enter Try.func39, Try.ntmps39
    go_wp2_with fail
    go_loopw [9] (fun v9 wr => v9 = .int .i64 0 ∧ wr = w) (fun _ _ => 0)
    case atStart => exact ⟨rfl, rfl⟩
    case round =>
      obtain ⟨rfl, rfl⟩ := hrel
      go_wp2_with fail
      go_ret
      exact HA.out
  · have hpos : 0 < l.length := by omega
    obtain ⟨b, off, ha, hrg⟩ := hl.at hpos
    subst ha
    have HR := Lib.hid hrg
    clear hl hm h0 hrg
    go_enter Try.func39, Try.ntmps39
    go_wp2_with fail
    go_loopw [9] (fun v9 wr => ∃ i : Nat, v9 = .int .i64 i ∧ i ≤ l.length ∧ fitsTo l i ∧ Below w.heap.size w wr) (fun v9 _ => l.length - (intOf v9).toNat)
    case atStart => exact ⟨0, rfl, by omega, fun i x hi => by omega, Below.refl _ _⟩
    case round =>
      obtain ⟨i, rfl, hi, hfit, hbel⟩ := hrel
      by_cases hlt : i < l.length
      · have hrc := HR.out i hlt
        have hrw : wr.rangeAt b (off + i * 10) l[i].cells := fun j v hv => by
          have h1 := hrc j v hv
          exact (hbel.cell (p := ⟨b, off + i * 10 + j, none⟩) (lt_of_cell h1)).trans h1
        have HB2 : Hid (∀ o o', Below w.heap.size w ((wr.alloc o).alloc o')) := Lib.hid fun o o' => hbel.trans ((nbel2 wr o o').mono hbel.size)
        have HNO : Hid (fitB l[i] i = false → ∀ w', Below w.heap.size w w' → (Ending.returned (.bool false) = .returned (.bool (fitL l)) ∧ Below w.heap.size w w')) := Lib.hid fun h w' hb => ⟨by rw [fitL_no hlt h], hb⟩
        have HGO : Hid (fitB l[i] i = true → fitsTo l (i + 1)) := Lib.hid fun h => fits_step hfit hlt h
        clear hrc hfit
        generalize l[i] = x at *
        obtain ⟨op, xa, xb, t0, t1, t2, t3, t4, t5, t6⟩ := x
        have hrw : wr.rangeAt b (off + i * 10) [.int .i64 op, .int .i64 xa, .int .i64 xb, .int .i64 t0, .int .i64 t1, .int .i64 t2, .int .i64 t3, .int .i64 t4, .int .i64 t5, .int .i64 t6] := hrw
        have HCA : Hid (Calls Try.prog 59 #[.int .i64 xa, .pointer (some ⟨wr.heap.size, 0, none⟩)] ((wr.alloc (.cells #[.int .i64 (i : Nat)] 3)).alloc (.cells #[.int .i64 op, .int .i64 xa, .int .i64 xb, .int .i64 t0, .int .i64 t1, .int .i64 t2, .int .i64 t3, .int .i64 t4, .int .i64 t5, .int .i64 t6] 73)) fun e w' => e = .returned (.bool (ahd xa i)) ∧ ((wr.alloc (.cells #[.int .i64 (i : Nat)] 3)).alloc (.cells #[.int .i64 op, .int .i64 xa, .int .i64 xb, .int .i64 t0, .int .i64 t1, .int .i64 t2, .int .i64 t3, .int .i64 t4, .int .i64 t5, .int .i64 t6] 73)) = w') := Lib.hid (ahead_any xa _ i _ (box_at wr i _ _))
        have HCB : Hid (Calls Try.prog 59 #[.int .i64 xb, .pointer (some ⟨wr.heap.size, 0, none⟩)] ((wr.alloc (.cells #[.int .i64 (i : Nat)] 3)).alloc (.cells #[.int .i64 op, .int .i64 xa, .int .i64 xb, .int .i64 t0, .int .i64 t1, .int .i64 t2, .int .i64 t3, .int .i64 t4, .int .i64 t5, .int .i64 t6] 73)) fun e w' => e = .returned (.bool (ahd xb i)) ∧ ((wr.alloc (.cells #[.int .i64 (i : Nat)] 3)).alloc (.cells #[.int .i64 op, .int .i64 xa, .int .i64 xb, .int .i64 t0, .int .i64 t1, .int .i64 t2, .int .i64 t3, .int .i64 t4, .int .i64 t5, .int .i64 t6] 73)) = w') := Lib.hid (ahead_any xb _ i _ (box_at wr i _ _))
        have HAR0 : Hid (∀ n, Tr.ar op = n → ∀ W, Calls Try.prog 18 #[.int .i64 op] W fun e w' => e = .returned (.int .i64 n) ∧ W = w') := Lib.hid fun n hn W => hn ▸ arity_any op W
        have hops : op = 15 ∨ op = 20 ∨ op = 24 ∨ op = 16 ∨ op = 26 ∨ (op ≠ 15 ∧ op ≠ 20 ∧ op ≠ 24 ∧ op ≠ 16 ∧ op ≠ 26) := by omega
        clear hbel
        rcases hops with rfl | rfl | rfl | rfl | rfl | ⟨n1, n2, n3, n4, n5⟩
        · have HAR := Lib.hid (HAR0.out 1 (by decide))
          clear HAR0 HCB
          by_cases e1 : ahd xa i = true
          · have HF : Hid (fitB ⟨15, xa, xb, t0, t1, t2, t3, t4, t5, t6⟩ i = true) := Lib.hid (by simp [fitB, e1])
            rw [e1] at HCA
            clear e1
            go_wp2_with (first | (refine wpList_load_mid rfl 73 (.tmp 12) rfl b (off + i * 10) rfl _ _ hrw Try.underlying73 rfl sizeStep ?_) | (go_at_call 18; with_reducible refine (HAR.out _).mono ?_; rintro e w2 ⟨rfl, rfl⟩) | (go_at_call 59; with_reducible refine HCA.out.mono ?_; rintro e w2 ⟨rfl, rfl⟩))
            go_roundw
            case rel => exact ⟨i + 1, by go_num, by omega, HGO.out (HF.out), HB2.out _ _⟩
            case measure => simp [intOf] <;> omega
          · have e1 : ahd xa i = false := by simpa using e1
            have HF : Hid (fitB ⟨15, xa, xb, t0, t1, t2, t3, t4, t5, t6⟩ i = false) := Lib.hid (by simp [fitB, e1])
            rw [e1] at HCA
            clear e1
            go_wp2_with (first | (refine wpList_load_mid rfl 73 (.tmp 12) rfl b (off + i * 10) rfl _ _ hrw Try.underlying73 rfl sizeStep ?_) | (go_at_call 18; with_reducible refine (HAR.out _).mono ?_; rintro e w2 ⟨rfl, rfl⟩) | (go_at_call 59; with_reducible refine HCA.out.mono ?_; rintro e w2 ⟨rfl, rfl⟩))
            go_ret
            exact HNO.out (HF.out) _ (HB2.out _ _)
        · have HAR := Lib.hid (HAR0.out 1 (by decide))
          clear HAR0 HCB
          by_cases e1 : ahd xa i = true
          · have HF : Hid (fitB ⟨20, xa, xb, t0, t1, t2, t3, t4, t5, t6⟩ i = true) := Lib.hid (by simp [fitB, e1])
            rw [e1] at HCA
            clear e1
            go_wp2_with (first | (refine wpList_load_mid rfl 73 (.tmp 12) rfl b (off + i * 10) rfl _ _ hrw Try.underlying73 rfl sizeStep ?_) | (go_at_call 18; with_reducible refine (HAR.out _).mono ?_; rintro e w2 ⟨rfl, rfl⟩) | (go_at_call 59; with_reducible refine HCA.out.mono ?_; rintro e w2 ⟨rfl, rfl⟩))
            go_roundw
            case rel => exact ⟨i + 1, by go_num, by omega, HGO.out (HF.out), HB2.out _ _⟩
            case measure => simp [intOf] <;> omega
          · have e1 : ahd xa i = false := by simpa using e1
            have HF : Hid (fitB ⟨20, xa, xb, t0, t1, t2, t3, t4, t5, t6⟩ i = false) := Lib.hid (by simp [fitB, e1])
            rw [e1] at HCA
            clear e1
            go_wp2_with (first | (refine wpList_load_mid rfl 73 (.tmp 12) rfl b (off + i * 10) rfl _ _ hrw Try.underlying73 rfl sizeStep ?_) | (go_at_call 18; with_reducible refine (HAR.out _).mono ?_; rintro e w2 ⟨rfl, rfl⟩) | (go_at_call 59; with_reducible refine HCA.out.mono ?_; rintro e w2 ⟨rfl, rfl⟩))
            go_ret
            exact HNO.out (HF.out) _ (HB2.out _ _)
        · have HAR := Lib.hid (HAR0.out 1 (by decide))
          clear HAR0 HCB
          by_cases e1 : ahd xa i = true
          · have HF : Hid (fitB ⟨24, xa, xb, t0, t1, t2, t3, t4, t5, t6⟩ i = true) := Lib.hid (by simp [fitB, e1])
            rw [e1] at HCA
            clear e1
            go_wp2_with (first | (refine wpList_load_mid rfl 73 (.tmp 12) rfl b (off + i * 10) rfl _ _ hrw Try.underlying73 rfl sizeStep ?_) | (go_at_call 18; with_reducible refine (HAR.out _).mono ?_; rintro e w2 ⟨rfl, rfl⟩) | (go_at_call 59; with_reducible refine HCA.out.mono ?_; rintro e w2 ⟨rfl, rfl⟩))
            go_roundw
            case rel => exact ⟨i + 1, by go_num, by omega, HGO.out (HF.out), HB2.out _ _⟩
            case measure => simp [intOf] <;> omega
          · have e1 : ahd xa i = false := by simpa using e1
            have HF : Hid (fitB ⟨24, xa, xb, t0, t1, t2, t3, t4, t5, t6⟩ i = false) := Lib.hid (by simp [fitB, e1])
            rw [e1] at HCA
            clear e1
            go_wp2_with (first | (refine wpList_load_mid rfl 73 (.tmp 12) rfl b (off + i * 10) rfl _ _ hrw Try.underlying73 rfl sizeStep ?_) | (go_at_call 18; with_reducible refine (HAR.out _).mono ?_; rintro e w2 ⟨rfl, rfl⟩) | (go_at_call 59; with_reducible refine HCA.out.mono ?_; rintro e w2 ⟨rfl, rfl⟩))
            go_ret
            exact HNO.out (HF.out) _ (HB2.out _ _)
        · have HAR := Lib.hid (HAR0.out 2 (by decide))
          clear HAR0
          by_cases e1 : ahd xa i = true
          · rw [e1] at HCA
            by_cases e2 : ahd xb i = true
            · have HF : Hid (fitB ⟨16, xa, xb, t0, t1, t2, t3, t4, t5, t6⟩ i = true) := Lib.hid (by simp [fitB, e1, e2])
              rw [e2] at HCB
              clear e1 e2
              go_wp2_with (first | (refine wpList_load_mid rfl 73 (.tmp 12) rfl b (off + i * 10) rfl _ _ hrw Try.underlying73 rfl sizeStep ?_) | (go_at_call 18; with_reducible refine (HAR.out _).mono ?_; rintro e w2 ⟨rfl, rfl⟩) | (go_at_call 59; with_reducible refine HCA.out.mono ?_; rintro e w2 ⟨rfl, rfl⟩) | (go_at_call 59; with_reducible refine HCB.out.mono ?_; rintro e w2 ⟨rfl, rfl⟩))
              go_roundw
              case rel => exact ⟨i + 1, by go_num, by omega, HGO.out (HF.out), HB2.out _ _⟩
              case measure => simp [intOf] <;> omega
            · have e2 : ahd xb i = false := by simpa using e2
              have HF : Hid (fitB ⟨16, xa, xb, t0, t1, t2, t3, t4, t5, t6⟩ i = false) := Lib.hid (by simp [fitB, e1, e2])
              rw [e2] at HCB
              clear e1 e2
              go_wp2_with (first | (refine wpList_load_mid rfl 73 (.tmp 12) rfl b (off + i * 10) rfl _ _ hrw Try.underlying73 rfl sizeStep ?_) | (go_at_call 18; with_reducible refine (HAR.out _).mono ?_; rintro e w2 ⟨rfl, rfl⟩) | (go_at_call 59; with_reducible refine HCA.out.mono ?_; rintro e w2 ⟨rfl, rfl⟩) | (go_at_call 59; with_reducible refine HCB.out.mono ?_; rintro e w2 ⟨rfl, rfl⟩))
              go_ret
              exact HNO.out (HF.out) _ (HB2.out _ _)
          · have e1 : ahd xa i = false := by simpa using e1
            have HF : Hid (fitB ⟨16, xa, xb, t0, t1, t2, t3, t4, t5, t6⟩ i = false) := Lib.hid (by simp [fitB, e1])
            rw [e1] at HCA
            clear e1
            go_wp2_with (first | (refine wpList_load_mid rfl 73 (.tmp 12) rfl b (off + i * 10) rfl _ _ hrw Try.underlying73 rfl sizeStep ?_) | (go_at_call 18; with_reducible refine (HAR.out _).mono ?_; rintro e w2 ⟨rfl, rfl⟩) | (go_at_call 59; with_reducible refine HCA.out.mono ?_; rintro e w2 ⟨rfl, rfl⟩) | (go_at_call 59; with_reducible refine HCB.out.mono ?_; rintro e w2 ⟨rfl, rfl⟩))
            go_ret
            exact HNO.out (HF.out) _ (HB2.out _ _)
        · have HAR := Lib.hid (HAR0.out 2 (by decide))
          clear HAR0
          by_cases e1 : ahd xa i = true
          · rw [e1] at HCA
            by_cases e2 : ahd xb i = true
            · have HF : Hid (fitB ⟨26, xa, xb, t0, t1, t2, t3, t4, t5, t6⟩ i = true) := Lib.hid (by simp [fitB, e1, e2])
              rw [e2] at HCB
              clear e1 e2
              go_wp2_with (first | (refine wpList_load_mid rfl 73 (.tmp 12) rfl b (off + i * 10) rfl _ _ hrw Try.underlying73 rfl sizeStep ?_) | (go_at_call 18; with_reducible refine (HAR.out _).mono ?_; rintro e w2 ⟨rfl, rfl⟩) | (go_at_call 59; with_reducible refine HCA.out.mono ?_; rintro e w2 ⟨rfl, rfl⟩) | (go_at_call 59; with_reducible refine HCB.out.mono ?_; rintro e w2 ⟨rfl, rfl⟩))
              go_roundw
              case rel => exact ⟨i + 1, by go_num, by omega, HGO.out (HF.out), HB2.out _ _⟩
              case measure => simp [intOf] <;> omega
            · have e2 : ahd xb i = false := by simpa using e2
              have HF : Hid (fitB ⟨26, xa, xb, t0, t1, t2, t3, t4, t5, t6⟩ i = false) := Lib.hid (by simp [fitB, e1, e2])
              rw [e2] at HCB
              clear e1 e2
              go_wp2_with (first | (refine wpList_load_mid rfl 73 (.tmp 12) rfl b (off + i * 10) rfl _ _ hrw Try.underlying73 rfl sizeStep ?_) | (go_at_call 18; with_reducible refine (HAR.out _).mono ?_; rintro e w2 ⟨rfl, rfl⟩) | (go_at_call 59; with_reducible refine HCA.out.mono ?_; rintro e w2 ⟨rfl, rfl⟩) | (go_at_call 59; with_reducible refine HCB.out.mono ?_; rintro e w2 ⟨rfl, rfl⟩))
              go_ret
              exact HNO.out (HF.out) _ (HB2.out _ _)
          · have e1 : ahd xa i = false := by simpa using e1
            have HF : Hid (fitB ⟨26, xa, xb, t0, t1, t2, t3, t4, t5, t6⟩ i = false) := Lib.hid (by simp [fitB, e1])
            rw [e1] at HCA
            clear e1
            go_wp2_with (first | (refine wpList_load_mid rfl 73 (.tmp 12) rfl b (off + i * 10) rfl _ _ hrw Try.underlying73 rfl sizeStep ?_) | (go_at_call 18; with_reducible refine (HAR.out _).mono ?_; rintro e w2 ⟨rfl, rfl⟩) | (go_at_call 59; with_reducible refine HCA.out.mono ?_; rintro e w2 ⟨rfl, rfl⟩) | (go_at_call 59; with_reducible refine HCB.out.mono ?_; rintro e w2 ⟨rfl, rfl⟩))
            go_ret
            exact HNO.out (HF.out) _ (HB2.out _ _)
        · have q1 : (op == 15) = false := by simpa using n1
          have q2 : (op == 20) = false := by simpa using n2
          have q3 : (op == 24) = false := by simpa using n3
          have q4 : (op == 16) = false := by simpa using n4
          have q5 : (op == 26) = false := by simpa using n5
          by_cases hz : 1 ≤ op ∧ op ≤ 14
          · have HAR := Lib.hid (HAR0.out 0 (ar_leaf hz))
            have HF : Hid (fitB ⟨op, xa, xb, t0, t1, t2, t3, t4, t5, t6⟩ i = true) := Lib.hid (by simp [fitB, n1, n2, n3, n4, n5, hz])
            clear HAR0 HCA HCB hz n1 n2 n3 n4 n5
            go_wp2_with (first | (refine wpList_load_mid rfl 73 (.tmp 12) rfl b (off + i * 10) rfl _ _ hrw Try.underlying73 rfl sizeStep ?_) | (go_at_call 18; with_reducible refine (HAR.out _).mono ?_; rintro e w2 ⟨rfl, rfl⟩))
            go_roundw
            case rel => exact ⟨i + 1, by go_num, by omega, HGO.out (HF.out), HB2.out _ _⟩
            case measure => simp [intOf] <;> omega
          · obtain ⟨n, hn⟩ : ∃ n, Tr.ar op = n := ⟨_, rfl⟩
            have q6 : (n == 0) = false := by
              have : n ≠ 0 := fun e => hz (by
                rw [e] at hn
                unfold Tr.ar at hn
                split at hn
                · assumption
                · split at hn <;> (try split at hn) <;> omega)
              simpa using this
            have HAR := Lib.hid (HAR0.out n hn)
            have HF : Hid (fitB ⟨op, xa, xb, t0, t1, t2, t3, t4, t5, t6⟩ i = false) := Lib.hid (by simp [fitB, n1, n2, n3, n4, n5]; omega)
            clear HAR0 HCA HCB hz n1 n2 n3 n4 n5 hn
            go_wp2_with (first | (refine wpList_load_mid rfl 73 (.tmp 12) rfl b (off + i * 10) rfl _ _ hrw Try.underlying73 rfl sizeStep ?_) | (go_at_call 18; with_reducible refine (HAR.out _).mono ?_; rintro e w2 ⟨rfl, rfl⟩))
            go_ret
            exact HNO.out (HF.out) _ (HB2.out _ _)
      · have hie : i = l.length := by omega
        subst hie
        go_wp2_with fail
        go_ret
        exact HY.out _ hfit hbel
end Go.Proofs.Ytofbdgpbekcibaa
