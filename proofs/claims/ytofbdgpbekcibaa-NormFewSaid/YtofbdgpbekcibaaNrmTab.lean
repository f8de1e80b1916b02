/-
  Norm: steps as keys of a map; what it is that a maker lies in memory.
-/
import Derived.Test.YtofbdgpbekcibaaRec
import Derived.Maps.OwnSet
import Derived.DeepKeys4
namespace Go.Proofs.Ytofbdgpbekcibaa
open Go.RowKit Go.Maps
set_option linter.unusedVariables false
set_option linter.unusedSimpArgs false

/-- A step's numbers. -/
structure Sp where
  op : Int
  a : Int
  b : Int
  t0 : Int
  t1 : Int
  t2 : Int
  t3 : Int
  t4 : Int
  t5 : Int
  t6 : Int
  deriving DecidableEq
def Sp.cells (x : Sp) : List Value := [.int .i64 x.op, .int .i64 x.a, .int .i64 x.b, .int .i64 x.t0, .int .i64 x.t1, .int .i64 x.t2, .int .i64 x.t3, .int .i64 x.t4, .int .i64 x.t5, .int .i64 x.t6]
theorem Sp.cells_len (x : Sp) : x.cells.length = 10 := rfl
abbrev Sp.val (x : Sp) : Value := .agg #[.int .i64 x.op, .int .i64 x.a, .int .i64 x.b, .int .i64 x.t0, .int .i64 x.t1, .int .i64 x.t2, .int .i64 x.t3, .int .i64 x.t4, .int .i64 x.t5, .int .i64 x.t6]
def wfi (n : Int) : Prop := (Lit.int .i64 n).wf = true
structure Sp.ok (x : Sp) : Prop where
  op : wfi x.op
  a : wfi x.a
  b : wfi x.b
  t0 : wfi x.t0
  t1 : wfi x.t1
  t2 : wfi x.t2
  t3 : wfi x.t3
  t4 : wfi x.t4
  t5 : wfi x.t5
  t6 : wfi x.t6
theorem rlaidOut : laidOutB Try.prog = true := by kernel_rfl
theorem lawK : Keyed Try.prog 73 := Keyed.of_law (deep_law_laid rlaidOut (m := 5) (by omega) (of_decide_eq_true (by kernel_rfl)) (by kernel_rfl) (by kernel_rfl))
theorem rzeroI (w : World) : (zeroValue 3).run Try.prog w = .ok (.int .i64 0) w := by kernel_rfl
theorem rcStep : Try.prog.cellsOf 73 = 10 := by kernel_rfl
theorem rcInst : Try.prog.cellsOf 70 = 7 := by kernel_rfl
theorem rcVal : Try.prog.cellsOf 68 = 2 := by kernel_rfl
theorem rcInt : Try.prog.cellsOf 3 = 1 := by kernel_rfl
theorem rcInt64 : Try.prog.cellsOf 2 = 1 := by kernel_rfl
theorem rkeyT : Try.prog.keyType 73 = true := by kernel_rfl
theorem rslots : ∃ d, Try.prog.types.size + 1 = d + 4 := ⟨Try.prog.types.size - 3, by have : (3 : Nat) < Try.prog.types.size := of_decide_eq_true (by kernel_rfl); omega⟩
noncomputable def Sp.key (x : Sp) : Lit := .string (keyBytes [.int .i64 x.op, .int .i64 x.a, .int .i64 x.b, .int .i64 x.t0, .int .i64 x.t1, .int .i64 x.t2, .int .i64 x.t3, .int .i64 x.t4, .int .i64 x.t5, .int .i64 x.t6])
theorem keyVal (d : Nat) (a b : Int) (ha : wfi a) (hb : wfi b) : Try.prog.keyLits (d + 2) 68 [.int .i64 a, .int .i64 b] = some [.int .i64 a, .int .i64 b] := by
  have h3 : Try.prog.underlying 3 = some (.int .i64) := Try.underlying3
  have h2 : Try.prog.underlying 2 = some (.int .i64) := Try.underlying2
  unfold wfi at ha hb
  unfold Program.keyLits
  rw [Try.underlying68]
  simp [Program.keyLits, rcVal, rcInt, rcInt64, h3, h2, ha, hb]
theorem keyInst (d : Nat) (t0 t1 t2 t3 t4 t5 t6 : Int) (h0 : wfi t0) (h1 : wfi t1) (h2 : wfi t2) (h3 : wfi t3) (h4 : wfi t4) (h5 : wfi t5) (h6 : wfi t6) :
    Try.prog.keyLits (d + 3) 70 [.int .i64 t0, .int .i64 t1, .int .i64 t2, .int .i64 t3, .int .i64 t4, .int .i64 t5, .int .i64 t6] = some [.int .i64 t0, .int .i64 t1, .int .i64 t2, .int .i64 t3, .int .i64 t4, .int .i64 t5, .int .i64 t6] := by
  have hi : ∀ (e : Nat) (n : Int), wfi n → Try.prog.keyLits (e + 1) 3 [.int .i64 n] = some [.int .i64 n] := fun e n hn => by
    have h3 : Try.prog.underlying 3 = some (.int .i64) := Try.underlying3
    unfold wfi at hn
    simp [Program.keyLits, h3, hn]
  unfold Program.keyLits
  rw [Try.underlying70]
  simp [rcInst, rcVal, rcInt, hi, keyVal, h0, h1, h2, h3, h4, h5, h6]
theorem keyStep (x : Sp) (h : x.ok) : keyOf Try.prog 73 x.val = some x.key := by
  obtain ⟨d, hd⟩ := rslots
  have hi : ∀ (e : Nat) (n : Int), wfi n → Try.prog.keyLits (e + 1) 3 [.int .i64 n] = some [.int .i64 n] := fun e n hn => by
    have h3 : Try.prog.underlying 3 = some (.int .i64) := Try.underlying3
    unfold wfi at hn
    simp [Program.keyLits, h3, hn]
  have hk := keyInst d x.t0 x.t1 x.t2 x.t3 x.t4 x.t5 x.t6 h.t0 h.t1 h.t2 h.t3 h.t4 h.t5 h.t6
  have hu := Try.underlying73
  have hf : x.val.formed Try.prog 73 = true := by simp [Value.formed, hu, rcStep]
  have hl : Try.prog.keyLits (d + 4) 73 x.cells = some [.int .i64 x.op, .int .i64 x.a, .int .i64 x.b, .int .i64 x.t0, .int .i64 x.t1, .int .i64 x.t2, .int .i64 x.t3, .int .i64 x.t4, .int .i64 x.t5, .int .i64 x.t6] := by
    unfold Program.keyLits Sp.cells
    rw [hu]
    simp [rcStep, rcInst, rcInt, hi, hk, h.op, h.a, h.b]
  unfold keyOf
  rw [hu]
  simp only [rkeyT, hf, Bool.and_self, if_true]
  rw [hd]
  show ((Try.prog.keyLits (d + 4) 73 x.cells).map fun ls => Lit.string (keyBytes ls)) = some x.key
  rw [hl]
  rfl
theorem key_inj {x y : Sp} (hx : x.ok) (hy : y.ok) (h : x.key = y.key) : x = y := by
  have := lawK.inj (keyStep x hx) (h ▸ keyStep y hy)
  cases x; cases y
  simpa using this
theorem key_lit {x : Sp} (hx : x.ok) : WideAt.IsKeyLit x.key := lawK.key (keyStep x hx)
end Go.Proofs.Ytofbdgpbekcibaa
