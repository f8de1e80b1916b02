/-
  Norm: steps and instructions that came in.
-/
import Derived.Test.YtofbdgpbekcibaaNrmOps
import Derived.Test.YtofbdgpbekcibaaNrmChk
namespace Go.Proofs.Ytofbdgpbekcibaa
open Go.RowKit
set_option linter.unusedVariables false
set_option linter.unusedSimpArgs false

def Inx.cells (x : Inx) : List Value := [.int .i64 x.t0, .int .i64 x.t1, .int .i64 x.t2, .int .i64 x.t3, .int .i64 x.t4, .int .i64 x.t5, .int .i64 x.t6]
theorem Inx.cells_len (x : Inx) : x.cells.length = 7 := rfl
/-- Instructions lie from there on. -/
def RdX (w : World) (a : Option Addr) (l : List Inx) : Prop := Reads w a (Rec.flat Inx.cells l)
theorem RdX.mono {w w' : World} {B : Nat} {a : Option Addr} {l : List Inx} (h : RdX w a l) (hb : Below B w w') (hB : w.heap.size ≤ B) : RdX w' a l := Reads.mono h hb hB
theorem RdX.at {w : World} {a : Option Addr} {l : List Inx} (h : RdX w a l) (hp : 0 < l.length) :
    ∃ b off, a = some ⟨b, off, none⟩ ∧ ∀ i (hi : i < l.length), w.rangeAt b (off + i * 7) l[i].cells := by
  obtain ⟨b, off, rfl, hc⟩ := Reads.at h (by rw [Rec.flat_len Inx.cells_len]; omega)
  refine ⟨b, off, rfl, fun i hi j v hv => ?_⟩
  have hj : j < 7 := by rw [← Inx.cells_len l[i]]; exact (List.getElem?_eq_some_iff.1 hv).1
  have := hc (i * 7 + j) (by rw [Rec.flat_len Inx.cells_len]; omega)
  rw [Rec.flat_at Inx.cells_len l i j hi hj] at this
  rw [Nat.add_assoc, this, hv]
theorem nlist10 {α : Type} {cs : List α} (h : cs.length = 10) : ∃ a b c d e f g i j k, cs = [a, b, c, d, e, f, g, i, j, k] := by
  match cs, h with
  | [a, b, c, d, e, f, g, i, j, k], _ => exact ⟨a, b, c, d, e, f, g, i, j, k, rfl⟩
theorem nlist7 {α : Type} {cs : List α} (h : cs.length = 7) : ∃ a b c d e f g, cs = [a, b, c, d, e, f, g] := by
  match cs, h with
  | [a, b, c, d, e, f, g], _ => exact ⟨a, b, c, d, e, f, g, rfl⟩
section
variable {H : Type} {enc : TypeId × Value → H} {w : World}
theorem nrcRef : Try.prog.cellsOf 72 = 10 := by kernel_rfl
theorem ntrod_val {fuel : Nat} {c0 c1 : Value} {y : DataW H × List MemPlace} (h : DataW.trod enc Try.prog w 0 (fun _ => true) true fuel 68 [c0, c1] = some y) :
    ∃ (m n : Int), c0 = .int .i64 m ∧ c1 = .int .i64 n ∧ wfi m ∧ wfi n := by
  obtain ⟨xs, n, _, _, _, hl, hx⟩ := DataW.trod_struct Try.underlying68 h
  have hl : xs.length = 2 := hl
  have h0 : DataW.trod enc Try.prog w 0 (fun _ => true) true n 3 (([c0, c1].drop 0).take (Try.prog.cellsOf 3)) = xs[0]? := hx 0 _ rfl
  have h1 : DataW.trod enc Try.prog w 0 (fun _ => true) true n 2 (([c0, c1].drop 1).take (Try.prog.cellsOf 2)) = xs[1]? := hx 1 _ rfl
  rw [List.getElem?_eq_getElem (by omega)] at h0 h1
  rw [rcInt] at h0
  rw [rcInt64] at h1
  obtain ⟨m, hm, _, w0⟩ := DataW.trod_int Try.underlying3 h0
  obtain ⟨k, hk, _, w1⟩ := DataW.trod_int Try.underlying2 h1
  simp at hm hk
  exact ⟨m, k, hm, hk, w0, w1⟩
theorem ntrod_inst {fuel : Nat} {cs : List Value} {y : DataW H × List MemPlace} (h : DataW.trod enc Try.prog w 0 (fun _ => true) true fuel 70 cs = some y) :
    ∃ x : Inx, cs = x.cells ∧ x.ok := by
  obtain ⟨xs, n, _, _, hcl, hl, hx⟩ := DataW.trod_struct Try.underlying70 h
  rw [rcInst] at hcl
  obtain ⟨c0, c1, c2, c3, c4, c5, c6, rfl⟩ := nlist7 hcl
  have hl : xs.length = 5 := hl
  have h0 : DataW.trod enc Try.prog w 0 (fun _ => true) true n 3 (([c0, c1, c2, c3, c4, c5, c6].drop 0).take (Try.prog.cellsOf 3)) = xs[0]? := hx 0 _ rfl
  have h1 : DataW.trod enc Try.prog w 0 (fun _ => true) true n 68 (([c0, c1, c2, c3, c4, c5, c6].drop 1).take (Try.prog.cellsOf 68)) = xs[1]? := hx 1 _ rfl
  have h2 : DataW.trod enc Try.prog w 0 (fun _ => true) true n 68 (([c0, c1, c2, c3, c4, c5, c6].drop 3).take (Try.prog.cellsOf 68)) = xs[2]? := hx 2 _ rfl
  have h3 : DataW.trod enc Try.prog w 0 (fun _ => true) true n 3 (([c0, c1, c2, c3, c4, c5, c6].drop 5).take (Try.prog.cellsOf 3)) = xs[3]? := hx 3 _ rfl
  have h4 : DataW.trod enc Try.prog w 0 (fun _ => true) true n 3 (([c0, c1, c2, c3, c4, c5, c6].drop 6).take (Try.prog.cellsOf 3)) = xs[4]? := hx 4 _ rfl
  rw [List.getElem?_eq_getElem (by omega)] at h0 h1 h2 h3 h4
  rw [rcInt] at h0 h3 h4
  rw [rcVal] at h1 h2
  obtain ⟨op, e0, _, w0⟩ := DataW.trod_int Try.underlying3 h0
  obtain ⟨la, ln, e1, e2, w1, w2⟩ := ntrod_val (c0 := c1) (c1 := c2) h1
  obtain ⟨ra, rn, e3, e4, w3, w4⟩ := ntrod_val (c0 := c3) (c1 := c4) h2
  obtain ⟨k, e5, _, w5⟩ := DataW.trod_int Try.underlying3 h3
  obtain ⟨us, e6, _, w6⟩ := DataW.trod_int Try.underlying3 h4
  simp at e0 e5 e6
  subst e0 e1 e2 e3 e4 e5 e6
  exact ⟨⟨op, la, ln, ra, rn, k, us⟩, rfl, ⟨w0, w1, w2, w3, w4, w5, w6⟩⟩
theorem ntrod_step {fuel : Nat} {cs : List Value} {y : DataW H × List MemPlace} (h : DataW.trod enc Try.prog w 0 (fun _ => true) true fuel 72 cs = some y) :
    ∃ x : Sp, cs = x.cells ∧ x.ok := by
  obtain ⟨xs, n, _, _, hcl, hl, hx⟩ := DataW.trod_struct Try.underlying72 h
  rw [nrcRef] at hcl
  obtain ⟨c0, c1, c2, c3, c4, c5, c6, c7, c8, c9, rfl⟩ := nlist10 hcl
  have hl : xs.length = 4 := hl
  have h0 : DataW.trod enc Try.prog w 0 (fun _ => true) true n 3 (([c0, c1, c2, c3, c4, c5, c6, c7, c8, c9].drop 0).take (Try.prog.cellsOf 3)) = xs[0]? := hx 0 _ rfl
  have h1 : DataW.trod enc Try.prog w 0 (fun _ => true) true n 3 (([c0, c1, c2, c3, c4, c5, c6, c7, c8, c9].drop 1).take (Try.prog.cellsOf 3)) = xs[1]? := hx 1 _ rfl
  have h2 : DataW.trod enc Try.prog w 0 (fun _ => true) true n 3 (([c0, c1, c2, c3, c4, c5, c6, c7, c8, c9].drop 2).take (Try.prog.cellsOf 3)) = xs[2]? := hx 2 _ rfl
  have h3 : DataW.trod enc Try.prog w 0 (fun _ => true) true n 70 (([c0, c1, c2, c3, c4, c5, c6, c7, c8, c9].drop 3).take (Try.prog.cellsOf 70)) = xs[3]? := hx 3 _ rfl
  rw [List.getElem?_eq_getElem (by omega)] at h0 h1 h2 h3
  rw [rcInt] at h0 h1 h2
  rw [rcInst] at h3
  obtain ⟨op, e0, _, w0⟩ := DataW.trod_int Try.underlying3 h0
  obtain ⟨a, e1, _, w1⟩ := DataW.trod_int Try.underlying3 h1
  obtain ⟨b, e2, _, w2⟩ := DataW.trod_int Try.underlying3 h2
  obtain ⟨x, ex, wx⟩ := ntrod_inst (cs := [c3, c4, c5, c6, c7, c8, c9]) h3
  simp at e0 e1 e2
  simp [Inx.cells] at ex
  obtain ⟨e3, e4, e5, e6, e7, e8, e9⟩ := ex
  subst e0 e1 e2 e3 e4 e5 e6 e7 e8 e9
  exact ⟨⟨op, a, b, x.t0, x.t1, x.t2, x.t3, x.t4, x.t5, x.t6⟩, rfl, ⟨w0, w1, w2, wx.t0, wx.t1, wx.t2, wx.t3, wx.t4, wx.t5, wx.t6⟩⟩
theorem open_steps {a : Option Addr} {len cap : Nat} {d : DataW H} {ps : List MemPlace} (h : DataW.Trod enc Try.prog w 0 (fun _ => true) true 65 (.slice a len cap) d ps) :
    ∃ l : List Sp, l.length = len ∧ RdP w a l ∧ (∀ x ∈ l, x.ok) ∧ l.length ≤ maxLen :=
  open_recs Sp.cells Sp.ok Sp.cells_len Try.underlying65 nrcRef (by omega) (fun _ _ _ h => ntrod_step h) h
theorem open_inxs {a : Option Addr} {len cap : Nat} {d : DataW H} {ps : List MemPlace} (h : DataW.Trod enc Try.prog w 0 (fun _ => true) true 52 (.slice a len cap) d ps) :
    ∃ l : List Inx, l.length = len ∧ RdX w a l ∧ (∀ x ∈ l, x.ok) ∧ l.length ≤ maxLen :=
  open_recs Inx.cells Inx.ok Inx.cells_len Try.underlying52 rcInst (by omega) (fun _ _ _ h => ntrod_inst h) h
end
theorem trod_len {H : Type} {enc : TypeId × Value → H} {P : Program} {w : World} {t e : TypeId} {a : Option Addr} {len cap : Nat} {d : DataW H} {ps : List MemPlace}
    (ht : P.underlying t = some (.slice e)) (h : DataW.Trod enc P w 0 (fun _ => true) true t (.slice a len cap) d ps) : len = 0 ∨ ∃ el sp, d = .slice el sp ∧ len = el.length := by
  obtain ⟨fuel, hf⟩ := h
  rcases DataW.trod_slice ht hf with ⟨hcs, _⟩ | ⟨x, l, c, elems, rest, n, _, hcs, hx, _, hl, hm, hlen, hel, _⟩
  · simp [Value.cells] at hcs
    exact Or.inl hcs.2.1
  · simp [Value.cells] at hcs
    simp only [Prod.mk.injEq] at hx
    exact Or.inr ⟨_, _, hx.1, by simp; omega⟩
end Go.Proofs.Ytofbdgpbekcibaa
