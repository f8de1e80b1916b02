/-
  Names: how one statement more is put: the ways that end with an error, and a statement without a name.
-/
import Derived.Test.YtpbgicfoopicbaaNamMid
namespace Go.Proofs.Ytpbgicfoopicbaa
open Go.RowKit Go.Maps
set_option linter.unusedVariables false
set_option linter.unusedSimpArgs false

theorem nbelow_dn {B : Nat} {a w : World} (h : Below B a w) (n : Nat) : Below B a (w.drewN n) := ⟨h.os, h.tape, h.output, h.size, h.block⟩
theorem rdX (w : World) (cs : Array Value) (j : Nat) (v : Value) (h : cs[j]? = some v) : (w.alloc (.cells cs 94)).cell? ⟨w.heap.size, j, none⟩ = some v := by
  rw [World.cell?_alloc_at _ _ _ _ rfl]; simpa using h
theorem look_any {W : World} {b n : Nat} {D : Dat} (hm : W.ownsMap Try.prog 9 (plainElem Try.prog 3) b n D) (s : ByteArray) (hs : s.size ≤ maxLen) :
    ∃ c, ∀ d, (Instr.lookup 95 (.map (some b)) (.string s) true).run Try.prog (W.drewN d) = .ok (.tuple #[.int .i64 c, .bool (Maps.has D (Nm.slit s))]) (W.drewN d) := by
  have each : ∀ d, ∃ c, (Instr.lookup 95 (.map (some b)) (.string s) true).run Try.prog (W.drewN d) = .ok (.tuple #[.int .i64 c, .bool (Maps.has D (Nm.slit s))]) (W.drewN d) ∧ D.atKey (Nm.slit s) (i64D 0) = i64D c := fun d => by
    have hm' : (W.drewN d).ownsMap Try.prog 9 (plainElem Try.prog 3) b n D := map_keep hm rfl
    obtain ⟨v, ps, hrun, hv⟩ := hm'.look_ok lawS Try.underlying95 (zeroI _) (plainElem_int Try.underlying3 (by decide)) (keyS s hs)
    obtain ⟨c, rfl, hc, _⟩ := plainElem_int_inv Try.underlying3 hv
    exact ⟨c, hrun, congrArg Prod.fst hc⟩
  obtain ⟨c, _, hc⟩ := each 0
  refine ⟨c, fun d => ?_⟩
  obtain ⟨c', h1, h2⟩ := each d
  have : c' = c := by
    have := h2.symm.trans hc
    simpa [i64D] using this
  rw [← this]; exact h1
section
variable {w : World} {B p : Nat} {cs : Array Value} {vn vp : Value} {b1 b2 : Nat} {D1 D2 : Dat} {L : List St}
def AddBad (B : Nat) (w : World) (r : Int) (e : Ending) (w' : World) : Prop := e = .returned (.int .i64 r) ∧ Below B w w'
set_option maxHeartbeats 400000 in
theorem add_kind (k : Int) (name : ByteArray) (c2 c3 c4 c5 c6 c7 c8 c9 c10 c11 : Value) (hm : Nm.most k = 0) :
    Calls Try.prog 47 #[.pointer (some ⟨p, 0, none⟩), .agg #[.int .i64 k, .string name, c2, c3, c4, c5, c6, c7, c8, c9, c10, c11]] w (AddBad w.heap.size w 8) := by
  have hm2 : (Nm.most k == 0) = true := by rw [hm]; rfl
  have HR : Hid (AddBad w.heap.size w 8 (.returned (.int .i64 8)) (w.alloc (.cells #[.int .i64 k, .string name, c2, c3, c4, c5, c6, c7, c8, c9, c10, c11] 94))) := Lib.hid ⟨rfl, (Below.refl _ _).alloc (Nat.le_refl _) _⟩
  clear hm
  go_enter Try.func47, Try.ntmps47
  go_wp2_with (first | (go_at_call 64; refine (most_any _ _).mono ?_; rintro e w1 ⟨rfl, rfl⟩))
  go_ret
  exact HR.out
set_option maxHeartbeats 400000 in
theorem add_long (h : IsN w B p cs vn vp b1 b2 D1 D2 L) (hb : B ≤ w.heap.size) (k : Nat) (name : ByteArray) (c2 c3 c4 c5 c6 c7 c8 c9 c10 c11 : Value) (hk : 1 ≤ k ∧ k ≤ 8) (hc : (Nm.cnt L k : Int) = Nm.most k) :
    Calls Try.prog 47 #[.pointer (some ⟨p, 0, none⟩), .agg #[.int .i64 k, .string name, c2, c3, c4, c5, c6, c7, c8, c9, c10, c11]] w (AddBad w.heap.size w 3) := by
  have hm2 : (Nm.most k == 0) = false := by
    rw [beq_eq_false_iff_ne]
    exact fun e => by have := Nm.most_zero.1 e; omega
  have HR : Hid (∀ n, AddBad w.heap.size w 3 (.returned (.int .i64 3)) ((w.alloc (.cells #[.int .i64 k, .string name, c2, c3, c4, c5, c6, c7, c8, c9, c10, c11] 94)).drewN n)) := Lib.hid fun n => ⟨rfl, ((Below.refl _ _).alloc (Nat.le_refl _) _).trans ⟨rfl, rfl, rfl, Nat.le_refl _, fun _ _ => rfl⟩⟩
  have m0 := (h.mid hb).alloc (.cells #[.int .i64 k, .string name, c2, c3, c4, c5, c6, c7, c8, c9, c10, c11] 94)
  have d := (m0.cell (4 + k)).trans (h.cc k hk.1 hk.2)
  have x0 := rdX w #[.int .i64 k, .string name, c2, c3, c4, c5, c6, c7, c8, c9, c10, c11] 0 _ rfl
  have he : ((Nm.cnt L k : Nat) : Int) = Nm.most k := hc
  have hk9 : (k : Int) < 9 := by omega
  rw [he] at d
  have HM : ∀ w, Calls Try.prog 64 #[.int .i64 k] w fun e w' => e = .returned (.int .i64 (Nm.most k)) ∧ w = w' := fun w => most_any k w
  clear h m0 hc he
  generalize Nm.most (k : Int) = mk at *
  have HM := Lib.hid HM
  go_enter Try.func47, Try.ntmps47
  go_wp2_with (first | (go_at_call 64; refine (HM.out _).mono ?_; rintro e w1 ⟨rfl, rfl⟩))
  go_quiet (fail)
  go_wp2_with fail
  go_ret
  exact HR.out _
set_option maxHeartbeats 400000 in
theorem add_twice (h : IsN w B p cs vn vp b1 b2 D1 D2 L) (hb : B ≤ w.heap.size) (k : Nat) (name : ByteArray) (c2 c3 c4 c5 c6 c7 c8 c9 c10 c11 : Value) (hk : 1 ≤ k ∧ k ≤ 8) (hc : (Nm.cnt L k : Int) ≠ Nm.most k) (h6 : k ≠ 6) (h8 : k ≠ 8) (hs : name.size ≤ maxLen) (hn : name ∈ Nm.names L) :
    Calls Try.prog 47 #[.pointer (some ⟨p, 0, none⟩), .agg #[.int .i64 k, .string name, c2, c3, c4, c5, c6, c7, c8, c9, c10, c11]] w (AddBad w.heap.size w 6) := by
  have hm2 : (Nm.most k == 0) = false := by
    rw [beq_eq_false_iff_ne]
    exact fun e => by have := Nm.most_zero.1 e; omega
  have HB : Hid (Below w.heap.size w (w.alloc (.cells #[.int .i64 k, .string name, c2, c3, c4, c5, c6, c7, c8, c9, c10, c11] 94))) := Lib.hid ((Below.refl _ _).alloc (Nat.le_refl _) _)
  have m0 := (h.mid hb).alloc (.cells #[.int .i64 k, .string name, c2, c3, c4, c5, c6, c7, c8, c9, c10, c11] 94)
  have d := (m0.cell (4 + k)).trans (h.cc k hk.1 hk.2)
  have d2 := (m0.cell 2).trans h.c2
  have x0 := rdX w #[.int .i64 k, .string name, c2, c3, c4, c5, c6, c7, c8, c9, c10, c11] 0 _ rfl
  have x1 := rdX w #[.int .i64 k, .string name, c2, c3, c4, c5, c6, c7, c8, c9, c10, c11] 1 _ rfl
  have he : (((Nm.cnt L k : Nat) : Int) == Nm.most k) = false := beq_eq_false_iff_ne.2 hc
  have hk9 : (k : Int) < 9 := by omega
  have n6 : ((k : Int) != 6) = true := by simp; omega
  have n8 : ((k : Int) != 8) = true := by simp; omega
  have HM : ∀ w, Calls Try.prog 64 #[.int .i64 k] w fun e w' => e = .returned (.int .i64 (Nm.most k)) ∧ w = w' := fun w => most_any k w
  have hhas := h.n1.yes name hn
  obtain ⟨c, hlk⟩ := look_any m0.m1 name hs
  rw [hhas] at hlk
  clear h m0 hc hn hhas
  generalize Nm.most (k : Int) = mk at *
  generalize Nm.cnt L k = ck at *
  have HM := Lib.hid HM
  go_enter Try.func47, Try.ntmps47
  go_wp2_with (first | (go_at_call 64; refine (HM.out _).mono ?_; rintro e w1 ⟨rfl, rfl⟩))
  go_quiet (fail)
  go_wp2_with fail
  go_quiet (fail)
  go_wp2_with fail
  go_ret
  refine ⟨rfl, ?_⟩
  repeat (first | exact HB.out | apply nbelow_dn)
end
end Go.Proofs.Ytpbgicfoopicbaa
