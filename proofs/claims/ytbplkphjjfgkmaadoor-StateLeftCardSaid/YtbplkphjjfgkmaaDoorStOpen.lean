/-
  A state that came in: all that stands in it.
-/
import Derived.Test.YtbplkphjjfgkmaaDoorModOpen
namespace Go.Proofs.YtbplkphjjfgkmaaDoor
open Go.RowKit Go.ChangeShapes
set_option linter.unusedVariables false
set_option linter.unusedSimpArgs false

/-- A state: its lists and sets, where they lie. -/
structure Sv where
  vals : List Int
  op : Int
  dn : Int
  did : List Int
  cnt : List Int
  vala : Option Addr
  valc : Nat
  dida : Option Addr
  didc : Nat
  cnta : Option Addr
  cntc : Nat
def Sv.val (s : Sv) : Value := .agg #[.slice s.vala s.vals.length s.valc, .int .i64 s.op, .int .i64 s.dn, .slice s.dida s.did.length s.didc, .slice s.cnta s.cnt.length s.cntc]
structure RdSv (w : World) (s : Sv) : Prop where
  vals : Reads w s.vala (s.vals.map (Value.int .i64))
  valm : s.vals.length ≤ maxLen
  valk : ∀ x ∈ s.vals, fits x
  op : fits s.op
  dn : fits s.dn
  did : Reads w s.dida (s.did.map (Value.int .i64))
  didm : s.did.length ≤ maxLen
  didk : ∀ x ∈ s.did, fits x
  cnt : Reads w s.cnta (s.cnt.map (Value.int .i64))
  cntm : s.cnt.length ≤ maxLen
  cntk : ∀ x ∈ s.cnt, fits x
theorem RdSv.mono {w w2 : World} {B : Nat} {s : Sv} (h : RdSv w s) (hb : Below B w w2) (hB : w.heap.size ≤ B) : RdSv w2 s := ⟨h.vals.mono hb hB, h.valm, h.valk, h.op, h.dn, h.did.mono hb hB, h.didm, h.didk, h.cnt.mono hb hB, h.cntm, h.cntk⟩
section
variable {H : Type} {enc : TypeId × Value → H} {w : World}
set_option maxRecDepth 100000 in
theorem open_statev {r : Reach} {b0 : Nat} {v : Value} {d : DataW H} {ps : List MemPlace} (hv : Value.okWide Tryd.prog w r b0 78 v) (h : DataW.Trod enc Tryd.prog w 0 (fun _ => true) true 78 v d ps) :
    ∃ s : Sv, v = s.val ∧ RdSv w s := by
  unfold Value.okWide at hv
  rw [Tryd.underlying78] at hv
  obtain ⟨cs, rfl, hsz, _⟩ := hv
  obtain ⟨cs⟩ := cs
  obtain ⟨fuel, hf⟩ := h
  have hf : DataW.trod enc Tryd.prog w 0 (fun _ => true) true fuel 78 cs = some (d, ps) := by simpa [Value.cells] using hf
  obtain ⟨xs, n, _, _, hcl, hl, hx⟩ := DataW.trod_struct Tryd.underlying78 hf
  rw [mcS] at hcl
  obtain ⟨c0, c1, c2, c3, c4, rfl⟩ := mlist5 hcl
  have hl : xs.length = 5 := hl
  have h0 : DataW.trod enc Tryd.prog w 0 (fun _ => true) true n 22 (([c0, c1, c2, c3, c4].drop 0).take (Tryd.prog.cellsOf 22)) = xs[0]? := hx 0 _ rfl
  have h1 : DataW.trod enc Tryd.prog w 0 (fun _ => true) true n 3 (([c0, c1, c2, c3, c4].drop 1).take (Tryd.prog.cellsOf 3)) = xs[1]? := hx 1 _ rfl
  have h2 : DataW.trod enc Tryd.prog w 0 (fun _ => true) true n 3 (([c0, c1, c2, c3, c4].drop 2).take (Tryd.prog.cellsOf 3)) = xs[2]? := hx 2 _ rfl
  have h3 : DataW.trod enc Tryd.prog w 0 (fun _ => true) true n 71 (([c0, c1, c2, c3, c4].drop 3).take (Tryd.prog.cellsOf 71)) = xs[3]? := hx 3 _ rfl
  have h4 : DataW.trod enc Tryd.prog w 0 (fun _ => true) true n 71 (([c0, c1, c2, c3, c4].drop 4).take (Tryd.prog.cellsOf 71)) = xs[4]? := hx 4 _ rfl
  rw [List.getElem?_eq_getElem (by omega)] at h0 h1 h2 h3 h4
  rw [mcs_inits] at h0
  rw [mc3] at h1
  rw [mc3] at h2
  rw [mc1] at h3
  rw [mc1] at h4
  obtain ⟨op, e1, _, w1⟩ := DataW.trod_int Tryd.underlying3 h1
  obtain ⟨dn, e2, _, w2⟩ := DataW.trod_int Tryd.underlying3 h2
  simp at e1 e2
  subst e1 e2
  obtain ⟨a0, n0, k0, rfl⟩ := slice_form Tryd.underlying22 (c := c0) h0
  obtain ⟨l0, u0, r0, o0, m0⟩ : ∃ vs : List Int, vs.length = n0 ∧ Reads w a0 (vs.map (Value.int .i64)) ∧ (∀ x ∈ vs, (Lit.int .i64 x).wf = true) ∧ vs.length ≤ maxLen := open_row (len := n0) (cap := k0) (d := xs[0].1) (ps := xs[0].2) Tryd.underlying22 Tryd.underlying2 mc64 ⟨n, by simpa [Value.cells] using h0⟩
  subst u0
  obtain ⟨a3, n3, k3, rfl⟩ := slice_form Tryd.underlying71 (c := c3) h3
  obtain ⟨l3, u3, r3, o3, m3⟩ : ∃ vs : List Int, vs.length = n3 ∧ Reads w a3 (vs.map (Value.int .i64)) ∧ (∀ x ∈ vs, (Lit.int .i64 x).wf = true) ∧ vs.length ≤ maxLen := open_row (len := n3) (cap := k3) (d := xs[3].1) (ps := xs[3].2) Tryd.underlying71 Tryd.underlying3 mc3 ⟨n, by simpa [Value.cells] using h3⟩
  subst u3
  obtain ⟨a4, n4, k4, rfl⟩ := slice_form Tryd.underlying71 (c := c4) h4
  obtain ⟨l4, u4, r4, o4, m4⟩ : ∃ vs : List Int, vs.length = n4 ∧ Reads w a4 (vs.map (Value.int .i64)) ∧ (∀ x ∈ vs, (Lit.int .i64 x).wf = true) ∧ vs.length ≤ maxLen := open_row (len := n4) (cap := k4) (d := xs[4].1) (ps := xs[4].2) Tryd.underlying71 Tryd.underlying3 mc3 ⟨n, by simpa [Value.cells] using h4⟩
  subst u4
  exact ⟨⟨l0, op, dn, l3, l4, a0, k0, a3, k3, a4, k4⟩, rfl, ⟨r0, m0, fun x hx => bounds_i64 (o0 x hx), bounds_i64 w1, bounds_i64 w2, r3, m3, fun x hx => bounds_i64 (o3 x hx), r4, m4, fun x hx => bounds_i64 (o4 x hx)⟩⟩
end
end Go.Proofs.YtbplkphjjfgkmaaDoor
