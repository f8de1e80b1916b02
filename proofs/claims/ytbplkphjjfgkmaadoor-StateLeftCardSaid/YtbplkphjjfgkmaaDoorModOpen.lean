/-
  A model and a state that came in.
-/
import Derived.Test.YtbplkphjjfgkmaaDoorRec
import Derived.Test.YtbplkphjjfgkmaaDoorItem
import Derived.OpenShut
namespace Go.Proofs.YtbplkphjjfgkmaaDoor
open Go.RowKit
set_option linter.unusedVariables false
set_option linter.unusedSimpArgs false

/-- A slice as it is told, whatever lies in it. -/
structure Sl where
  a : Option Addr
  n : Nat
  c : Nat
def Sl.val (s : Sl) : Value := .slice s.a s.n s.c
structure Ro where
  nm : ByteArray
  us : Int
def Ro.cells (x : Ro) : List Value := [.string x.nm, .int .i64 x.us]
theorem Ro.cells_len (x : Ro) : x.cells.length = 2 := rfl
structure Ro.ok (x : Ro) : Prop where
  us : fits x.us
structure Sg where
  nm : ByteArray
  par : Int
def Sg.cells (x : Sg) : List Value := [.string x.nm, .int .i64 x.par]
theorem Sg.cells_len (x : Sg) : x.cells.length = 2 := rfl
structure Sg.ok (x : Sg) : Prop where
  par : fits x.par
structure Ev where
  nm : ByteArray
  role : Int
  stage : Int
  sets : Sl
  times : Int
def Ev.cells (x : Ev) : List Value := [.string x.nm, .int .i64 x.role, .int .i64 x.stage, .slice x.sets.a x.sets.n x.sets.c, .int .i64 x.times]
theorem Ev.cells_len (x : Ev) : x.cells.length = 5 := rfl
structure Ev.ok (x : Ev) : Prop where
  role : fits x.role
  stage : fits x.stage
  times : fits x.times
structure Gu where
  stage : Int
  event : Int
  cond : Sl
def Gu.cells (x : Gu) : List Value := [.int .i64 x.stage, .int .i64 x.event, .slice x.cond.a x.cond.n x.cond.c]
theorem Gu.cells_len (x : Gu) : x.cells.length = 3 := rfl
structure Gu.ok (x : Gu) : Prop where
  stage : fits x.stage
  event : fits x.event
structure Ml where
  nm : ByteArray
  stage : Int
  event : Int
  cond : Sl
  fin : Bool
def Ml.cells (x : Ml) : List Value := [.string x.nm, .int .i64 x.stage, .int .i64 x.event, .slice x.cond.a x.cond.n x.cond.c, .bool x.fin]
theorem Ml.cells_len (x : Ml) : x.cells.length = 5 := rfl
structure Ml.ok (x : Ml) : Prop where
  stage : fits x.stage
  event : fits x.event
structure Sd where
  a : Int
  b : Int
def Sd.cells (x : Sd) : List Value := [.int .i64 x.a, .int .i64 x.b]
theorem Sd.cells_len (x : Sd) : x.cells.length = 2 := rfl
structure Sd.ok (x : Sd) : Prop where
  a : fits x.a
  b : fits x.b
structure Se where
  mile : Bool
  n : Int
def Se.cells (x : Se) : List Value := [.bool x.mile, .int .i64 x.n]
theorem Se.cells_len (x : Se) : x.cells.length = 2 := rfl
structure Se.ok (x : Se) : Prop where
  n : fits x.n
theorem mlist2 {α : Type} {cs : List α} (h : cs.length = 2) : ∃ a b, cs = [a, b] := by
  match cs, h with
  | [a, b], _ => exact ⟨a, b, rfl⟩
theorem mlist3 {α : Type} {cs : List α} (h : cs.length = 3) : ∃ a b c, cs = [a, b, c] := by
  match cs, h with
  | [a, b, c], _ => exact ⟨a, b, c, rfl⟩
theorem mlist5 {α : Type} {cs : List α} (h : cs.length = 5) : ∃ a b c d e, cs = [a, b, c, d, e] := by
  match cs, h with
  | [a, b, c, d, e], _ => exact ⟨a, b, c, d, e, rfl⟩
theorem mlist10 {α : Type} {cs : List α} (h : cs.length = 10) : ∃ a b c d e f g i j k, cs = [a, b, c, d, e, f, g, i, j, k] := by
  match cs, h with
  | [a, b, c, d, e, f, g, i, j, k], _ => exact ⟨a, b, c, d, e, f, g, i, j, k, rfl⟩
section
variable {H : Type} {enc : TypeId × Value → H} {w : World}
theorem slice_form {P : Program} {t e : TypeId} {fuel : Nat} {c : Value} {y : DataW H × List MemPlace} (ht : P.underlying t = some (.slice e)) (h : DataW.trod enc P w 0 (fun _ => true) true fuel t [c] = some y) : ∃ a n k, c = .slice a n k := by
  rcases DataW.trod_slice ht h with ⟨hcs, _⟩ | ⟨x, l, cp, elems, rest, n, _, hcs, _⟩
  · simp at hcs; exact ⟨_, _, _, hcs⟩
  · simp at hcs; exact ⟨_, _, _, hcs⟩
theorem mc0 : Tryd.prog.cellsOf 132 = 1 := by kernel_rfl
theorem mc1 : Tryd.prog.cellsOf 71 = 1 := by kernel_rfl
theorem mc2 : Tryd.prog.cellsOf 4 = 1 := by kernel_rfl
theorem mc3 : Tryd.prog.cellsOf 3 = 1 := by kernel_rfl
theorem mc4 : Tryd.prog.cellsOf 9 = 1 := by kernel_rfl
theorem mc5 : Tryd.prog.cellsOf 294 = 2 := by kernel_rfl
theorem mc6 : Tryd.prog.cellsOf 296 = 2 := by kernel_rfl
theorem mc7 : Tryd.prog.cellsOf 74 = 5 := by kernel_rfl
theorem mc8 : Tryd.prog.cellsOf 134 = 3 := by kernel_rfl
theorem mc9 : Tryd.prog.cellsOf 136 = 5 := by kernel_rfl
theorem mc10 : Tryd.prog.cellsOf 298 = 2 := by kernel_rfl
theorem mc11 : Tryd.prog.cellsOf 300 = 2 := by kernel_rfl
theorem mtrod_Ro {fuel : Nat} {cs : List Value} {y : DataW H × List MemPlace} (h : DataW.trod enc Tryd.prog w 0 (fun _ => true) true fuel 294 cs = some y) :
    ∃ x : Ro, cs = x.cells ∧ x.ok := by
  obtain ⟨xs, n, _, _, hcl, hl, hx⟩ := DataW.trod_struct Tryd.underlying294 h
  rw [mc5] at hcl
  obtain ⟨c0, c1, rfl⟩ := mlist2 hcl
  have hl : xs.length = 2 := hl
  have h0 : DataW.trod enc Tryd.prog w 0 (fun _ => true) true n 9 (([c0, c1].drop 0).take (Tryd.prog.cellsOf 9)) = xs[0]? := hx 0 _ rfl
  have h1 : DataW.trod enc Tryd.prog w 0 (fun _ => true) true n 3 (([c0, c1].drop 1).take (Tryd.prog.cellsOf 3)) = xs[1]? := hx 1 _ rfl
  rw [List.getElem?_eq_getElem (by omega)] at h0 h1
  rw [mc4] at h0
  rw [mc3] at h1
  obtain ⟨z0, e0, _, _⟩ := DataW.trod_string Tryd.underlying9 h0
  obtain ⟨z1, e1, _, w1⟩ := DataW.trod_int Tryd.underlying3 h1
  simp at e0 e1
  subst e0 e1
  exact ⟨⟨z0, z1⟩, rfl, ⟨bounds_i64 w1⟩⟩
theorem mtrod_Sg {fuel : Nat} {cs : List Value} {y : DataW H × List MemPlace} (h : DataW.trod enc Tryd.prog w 0 (fun _ => true) true fuel 296 cs = some y) :
    ∃ x : Sg, cs = x.cells ∧ x.ok := by
  obtain ⟨xs, n, _, _, hcl, hl, hx⟩ := DataW.trod_struct Tryd.underlying296 h
  rw [mc6] at hcl
  obtain ⟨c0, c1, rfl⟩ := mlist2 hcl
  have hl : xs.length = 2 := hl
  have h0 : DataW.trod enc Tryd.prog w 0 (fun _ => true) true n 9 (([c0, c1].drop 0).take (Tryd.prog.cellsOf 9)) = xs[0]? := hx 0 _ rfl
  have h1 : DataW.trod enc Tryd.prog w 0 (fun _ => true) true n 3 (([c0, c1].drop 1).take (Tryd.prog.cellsOf 3)) = xs[1]? := hx 1 _ rfl
  rw [List.getElem?_eq_getElem (by omega)] at h0 h1
  rw [mc4] at h0
  rw [mc3] at h1
  obtain ⟨z0, e0, _, _⟩ := DataW.trod_string Tryd.underlying9 h0
  obtain ⟨z1, e1, _, w1⟩ := DataW.trod_int Tryd.underlying3 h1
  simp at e0 e1
  subst e0 e1
  exact ⟨⟨z0, z1⟩, rfl, ⟨bounds_i64 w1⟩⟩
theorem mtrod_Ev {fuel : Nat} {cs : List Value} {y : DataW H × List MemPlace} (h : DataW.trod enc Tryd.prog w 0 (fun _ => true) true fuel 74 cs = some y) :
    ∃ x : Ev, cs = x.cells ∧ x.ok := by
  obtain ⟨xs, n, _, _, hcl, hl, hx⟩ := DataW.trod_struct Tryd.underlying74 h
  rw [mc7] at hcl
  obtain ⟨c0, c1, c2, c3, c4, rfl⟩ := mlist5 hcl
  have hl : xs.length = 5 := hl
  have h0 : DataW.trod enc Tryd.prog w 0 (fun _ => true) true n 9 (([c0, c1, c2, c3, c4].drop 0).take (Tryd.prog.cellsOf 9)) = xs[0]? := hx 0 _ rfl
  have h1 : DataW.trod enc Tryd.prog w 0 (fun _ => true) true n 3 (([c0, c1, c2, c3, c4].drop 1).take (Tryd.prog.cellsOf 3)) = xs[1]? := hx 1 _ rfl
  have h2 : DataW.trod enc Tryd.prog w 0 (fun _ => true) true n 3 (([c0, c1, c2, c3, c4].drop 2).take (Tryd.prog.cellsOf 3)) = xs[2]? := hx 2 _ rfl
  have h3 : DataW.trod enc Tryd.prog w 0 (fun _ => true) true n 71 (([c0, c1, c2, c3, c4].drop 3).take (Tryd.prog.cellsOf 71)) = xs[3]? := hx 3 _ rfl
  have h4 : DataW.trod enc Tryd.prog w 0 (fun _ => true) true n 3 (([c0, c1, c2, c3, c4].drop 4).take (Tryd.prog.cellsOf 3)) = xs[4]? := hx 4 _ rfl
  rw [List.getElem?_eq_getElem (by omega)] at h0 h1 h2 h3 h4
  rw [mc4] at h0
  rw [mc3] at h1
  rw [mc3] at h2
  rw [mc1] at h3
  rw [mc3] at h4
  obtain ⟨z0, e0, _, _⟩ := DataW.trod_string Tryd.underlying9 h0
  obtain ⟨z1, e1, _, w1⟩ := DataW.trod_int Tryd.underlying3 h1
  obtain ⟨z2, e2, _, w2⟩ := DataW.trod_int Tryd.underlying3 h2
  obtain ⟨za3, zn3, zc3, e3⟩ := slice_form Tryd.underlying71 (c := c3) h3
  obtain ⟨z4, e4, _, w4⟩ := DataW.trod_int Tryd.underlying3 h4
  simp at e0 e1 e2 e4
  subst e0 e1 e2 e3 e4
  exact ⟨⟨z0, z1, z2, ⟨za3, zn3, zc3⟩, z4⟩, rfl, ⟨bounds_i64 w1, bounds_i64 w2, bounds_i64 w4⟩⟩
theorem mtrod_Gu {fuel : Nat} {cs : List Value} {y : DataW H × List MemPlace} (h : DataW.trod enc Tryd.prog w 0 (fun _ => true) true fuel 134 cs = some y) :
    ∃ x : Gu, cs = x.cells ∧ x.ok := by
  obtain ⟨xs, n, _, _, hcl, hl, hx⟩ := DataW.trod_struct Tryd.underlying134 h
  rw [mc8] at hcl
  obtain ⟨c0, c1, c2, rfl⟩ := mlist3 hcl
  have hl : xs.length = 3 := hl
  have h0 : DataW.trod enc Tryd.prog w 0 (fun _ => true) true n 3 (([c0, c1, c2].drop 0).take (Tryd.prog.cellsOf 3)) = xs[0]? := hx 0 _ rfl
  have h1 : DataW.trod enc Tryd.prog w 0 (fun _ => true) true n 3 (([c0, c1, c2].drop 1).take (Tryd.prog.cellsOf 3)) = xs[1]? := hx 1 _ rfl
  have h2 : DataW.trod enc Tryd.prog w 0 (fun _ => true) true n 132 (([c0, c1, c2].drop 2).take (Tryd.prog.cellsOf 132)) = xs[2]? := hx 2 _ rfl
  rw [List.getElem?_eq_getElem (by omega)] at h0 h1 h2
  rw [mc3] at h0
  rw [mc3] at h1
  rw [mc0] at h2
  obtain ⟨z0, e0, _, w0⟩ := DataW.trod_int Tryd.underlying3 h0
  obtain ⟨z1, e1, _, w1⟩ := DataW.trod_int Tryd.underlying3 h1
  obtain ⟨za2, zn2, zc2, e2⟩ := slice_form Tryd.underlying132 (c := c2) h2
  simp at e0 e1
  subst e0 e1 e2
  exact ⟨⟨z0, z1, ⟨za2, zn2, zc2⟩⟩, rfl, ⟨bounds_i64 w0, bounds_i64 w1⟩⟩
theorem mtrod_Ml {fuel : Nat} {cs : List Value} {y : DataW H × List MemPlace} (h : DataW.trod enc Tryd.prog w 0 (fun _ => true) true fuel 136 cs = some y) :
    ∃ x : Ml, cs = x.cells ∧ x.ok := by
  obtain ⟨xs, n, _, _, hcl, hl, hx⟩ := DataW.trod_struct Tryd.underlying136 h
  rw [mc9] at hcl
  obtain ⟨c0, c1, c2, c3, c4, rfl⟩ := mlist5 hcl
  have hl : xs.length = 5 := hl
  have h0 : DataW.trod enc Tryd.prog w 0 (fun _ => true) true n 9 (([c0, c1, c2, c3, c4].drop 0).take (Tryd.prog.cellsOf 9)) = xs[0]? := hx 0 _ rfl
  have h1 : DataW.trod enc Tryd.prog w 0 (fun _ => true) true n 3 (([c0, c1, c2, c3, c4].drop 1).take (Tryd.prog.cellsOf 3)) = xs[1]? := hx 1 _ rfl
  have h2 : DataW.trod enc Tryd.prog w 0 (fun _ => true) true n 3 (([c0, c1, c2, c3, c4].drop 2).take (Tryd.prog.cellsOf 3)) = xs[2]? := hx 2 _ rfl
  have h3 : DataW.trod enc Tryd.prog w 0 (fun _ => true) true n 132 (([c0, c1, c2, c3, c4].drop 3).take (Tryd.prog.cellsOf 132)) = xs[3]? := hx 3 _ rfl
  have h4 : DataW.trod enc Tryd.prog w 0 (fun _ => true) true n 4 (([c0, c1, c2, c3, c4].drop 4).take (Tryd.prog.cellsOf 4)) = xs[4]? := hx 4 _ rfl
  rw [List.getElem?_eq_getElem (by omega)] at h0 h1 h2 h3 h4
  rw [mc4] at h0
  rw [mc3] at h1
  rw [mc3] at h2
  rw [mc0] at h3
  rw [mc2] at h4
  obtain ⟨z0, e0, _, _⟩ := DataW.trod_string Tryd.underlying9 h0
  obtain ⟨z1, e1, _, w1⟩ := DataW.trod_int Tryd.underlying3 h1
  obtain ⟨z2, e2, _, w2⟩ := DataW.trod_int Tryd.underlying3 h2
  obtain ⟨za3, zn3, zc3, e3⟩ := slice_form Tryd.underlying132 (c := c3) h3
  obtain ⟨z4, e4, _⟩ := DataW.trod_bool Tryd.underlying4 h4
  simp at e0 e1 e2 e4
  subst e0 e1 e2 e3 e4
  exact ⟨⟨z0, z1, z2, ⟨za3, zn3, zc3⟩, z4⟩, rfl, ⟨bounds_i64 w1, bounds_i64 w2⟩⟩
theorem mtrod_Sd {fuel : Nat} {cs : List Value} {y : DataW H × List MemPlace} (h : DataW.trod enc Tryd.prog w 0 (fun _ => true) true fuel 298 cs = some y) :
    ∃ x : Sd, cs = x.cells ∧ x.ok := by
  obtain ⟨xs, n, _, _, hcl, hl, hx⟩ := DataW.trod_struct Tryd.underlying298 h
  rw [mc10] at hcl
  obtain ⟨c0, c1, rfl⟩ := mlist2 hcl
  have hl : xs.length = 2 := hl
  have h0 : DataW.trod enc Tryd.prog w 0 (fun _ => true) true n 3 (([c0, c1].drop 0).take (Tryd.prog.cellsOf 3)) = xs[0]? := hx 0 _ rfl
  have h1 : DataW.trod enc Tryd.prog w 0 (fun _ => true) true n 3 (([c0, c1].drop 1).take (Tryd.prog.cellsOf 3)) = xs[1]? := hx 1 _ rfl
  rw [List.getElem?_eq_getElem (by omega)] at h0 h1
  rw [mc3] at h0
  rw [mc3] at h1
  obtain ⟨z0, e0, _, w0⟩ := DataW.trod_int Tryd.underlying3 h0
  obtain ⟨z1, e1, _, w1⟩ := DataW.trod_int Tryd.underlying3 h1
  simp at e0 e1
  subst e0 e1
  exact ⟨⟨z0, z1⟩, rfl, ⟨bounds_i64 w0, bounds_i64 w1⟩⟩
theorem mtrod_Se {fuel : Nat} {cs : List Value} {y : DataW H × List MemPlace} (h : DataW.trod enc Tryd.prog w 0 (fun _ => true) true fuel 300 cs = some y) :
    ∃ x : Se, cs = x.cells ∧ x.ok := by
  obtain ⟨xs, n, _, _, hcl, hl, hx⟩ := DataW.trod_struct Tryd.underlying300 h
  rw [mc11] at hcl
  obtain ⟨c0, c1, rfl⟩ := mlist2 hcl
  have hl : xs.length = 2 := hl
  have h0 : DataW.trod enc Tryd.prog w 0 (fun _ => true) true n 4 (([c0, c1].drop 0).take (Tryd.prog.cellsOf 4)) = xs[0]? := hx 0 _ rfl
  have h1 : DataW.trod enc Tryd.prog w 0 (fun _ => true) true n 3 (([c0, c1].drop 1).take (Tryd.prog.cellsOf 3)) = xs[1]? := hx 1 _ rfl
  rw [List.getElem?_eq_getElem (by omega)] at h0 h1
  rw [mc2] at h0
  rw [mc3] at h1
  obtain ⟨z0, e0, _⟩ := DataW.trod_bool Tryd.underlying4 h0
  obtain ⟨z1, e1, _, w1⟩ := DataW.trod_int Tryd.underlying3 h1
  simp at e0 e1
  subst e0 e1
  exact ⟨⟨z0, z1⟩, rfl, ⟨bounds_i64 w1⟩⟩
/-- A model: its lists, where they lie. -/
structure Mo where
  attrs : Sl
  inits : Sl
  users : Sl
  roles : List Ro
  stages : List Sg
  events : List Ev
  guards : List Gu
  miles : List Ml
  sods : List Sd
  order : Sl
  rolesa : Option Addr
  rolesc : Nat
  stagesa : Option Addr
  stagesc : Nat
  eventsa : Option Addr
  eventsc : Nat
  guardsa : Option Addr
  guardsc : Nat
  milesa : Option Addr
  milesc : Nat
  sodsa : Option Addr
  sodsc : Nat
def Mo.val (M : Mo) : Value := .agg #[.slice M.attrs.a M.attrs.n M.attrs.c, .slice M.inits.a M.inits.n M.inits.c, .slice M.users.a M.users.n M.users.c, .slice M.rolesa M.roles.length M.rolesc, .slice M.stagesa M.stages.length M.stagesc, .slice M.eventsa M.events.length M.eventsc, .slice M.guardsa M.guards.length M.guardsc, .slice M.milesa M.miles.length M.milesc, .slice M.sodsa M.sods.length M.sodsc, .slice M.order.a M.order.n M.order.c]
structure RdM (w : World) (M : Mo) : Prop where
  attrs : M.attrs.n ≤ maxLen
  inits : M.inits.n ≤ maxLen
  users : M.users.n ≤ maxLen
  roles : Reads w M.rolesa (Rec.flat Ro.cells M.roles)
  rolesm : M.roles.length ≤ maxLen
  rolesk : ∀ x ∈ M.roles, x.ok
  stages : Reads w M.stagesa (Rec.flat Sg.cells M.stages)
  stagesm : M.stages.length ≤ maxLen
  stagesk : ∀ x ∈ M.stages, x.ok
  events : Reads w M.eventsa (Rec.flat Ev.cells M.events)
  eventsm : M.events.length ≤ maxLen
  eventsk : ∀ x ∈ M.events, x.ok
  guards : Reads w M.guardsa (Rec.flat Gu.cells M.guards)
  guardsm : M.guards.length ≤ maxLen
  guardsk : ∀ x ∈ M.guards, x.ok
  miles : Reads w M.milesa (Rec.flat Ml.cells M.miles)
  milesm : M.miles.length ≤ maxLen
  milesk : ∀ x ∈ M.miles, x.ok
  sods : Reads w M.sodsa (Rec.flat Sd.cells M.sods)
  sodsm : M.sods.length ≤ maxLen
  sodsk : ∀ x ∈ M.sods, x.ok
  order : M.order.n ≤ maxLen
theorem RdM.mono {w w2 : World} {B : Nat} {M : Mo} (h : RdM w M) (hb : Below B w w2) (hB : w.heap.size ≤ B) : RdM w2 M := ⟨h.attrs, h.inits, h.users, h.roles.mono hb hB, h.rolesm, h.rolesk, h.stages.mono hb hB, h.stagesm, h.stagesk, h.events.mono hb hB, h.eventsm, h.eventsk, h.guards.mono hb hB, h.guardsm, h.guardsk, h.miles.mono hb hB, h.milesm, h.milesk, h.sods.mono hb hB, h.sodsm, h.sodsk, h.order⟩
theorem mcM : Tryd.prog.cellsOf 70 = 10 := by kernel_rfl
theorem mcs_attrs : Tryd.prog.cellsOf 61 = 1 := by kernel_rfl
theorem mcs_inits : Tryd.prog.cellsOf 22 = 1 := by kernel_rfl
theorem mcs_roles : Tryd.prog.cellsOf 62 = 1 := by kernel_rfl
theorem mcs_stages : Tryd.prog.cellsOf 63 = 1 := by kernel_rfl
theorem mcs_events : Tryd.prog.cellsOf 64 = 1 := by kernel_rfl
theorem mcs_guards : Tryd.prog.cellsOf 65 = 1 := by kernel_rfl
theorem mcs_miles : Tryd.prog.cellsOf 66 = 1 := by kernel_rfl
theorem mcs_sods : Tryd.prog.cellsOf 67 = 1 := by kernel_rfl
theorem mcs_order : Tryd.prog.cellsOf 68 = 1 := by kernel_rfl
theorem mc64 : Tryd.prog.cellsOf 2 = 1 := by kernel_rfl
theorem len_row {P : Program} {t e : TypeId} {a : Option Addr} {n c : Nat} {fuel : Nat} {y : DataW H × List MemPlace} (ht : P.underlying t = some (.slice e)) (h : DataW.trod enc P w 0 (fun _ => true) true fuel t [.slice a n c] = some y) : n ≤ maxLen := by
  rcases DataW.trod_slice ht h with ⟨hcs, _⟩ | ⟨x, l, cp, elems, rest, k, _, hcs, _, _, hl, hm, hlen, helm, _⟩
  · simp at hcs; omega
  · simp at hcs; omega
set_option maxRecDepth 100000 in
theorem open_model {r : Reach} {b0 : Nat} {v : Value} {d : DataW H} {ps : List MemPlace} (hv : Value.okWide Tryd.prog w r b0 70 v) (h : DataW.Trod enc Tryd.prog w 0 (fun _ => true) true 70 v d ps) :
    ∃ M : Mo, v = M.val ∧ RdM w M := by
  unfold Value.okWide at hv
  rw [Tryd.underlying70] at hv
  obtain ⟨cs, rfl, hsz, _⟩ := hv
  obtain ⟨cs⟩ := cs
  obtain ⟨fuel, hf⟩ := h
  have hf : DataW.trod enc Tryd.prog w 0 (fun _ => true) true fuel 70 cs = some (d, ps) := by simpa [Value.cells] using hf
  obtain ⟨xs, n, _, _, hcl, hl, hx⟩ := DataW.trod_struct Tryd.underlying70 hf
  rw [mcM] at hcl
  obtain ⟨c0, c1, c2, c3, c4, c5, c6, c7, c8, c9, rfl⟩ := mlist10 hcl
  have hl : xs.length = 10 := hl
  have h0 : DataW.trod enc Tryd.prog w 0 (fun _ => true) true n 61 (([c0, c1, c2, c3, c4, c5, c6, c7, c8, c9].drop 0).take (Tryd.prog.cellsOf 61)) = xs[0]? := hx 0 _ rfl
  have h1 : DataW.trod enc Tryd.prog w 0 (fun _ => true) true n 22 (([c0, c1, c2, c3, c4, c5, c6, c7, c8, c9].drop 1).take (Tryd.prog.cellsOf 22)) = xs[1]? := hx 1 _ rfl
  have h2 : DataW.trod enc Tryd.prog w 0 (fun _ => true) true n 61 (([c0, c1, c2, c3, c4, c5, c6, c7, c8, c9].drop 2).take (Tryd.prog.cellsOf 61)) = xs[2]? := hx 2 _ rfl
  have h3 : DataW.trod enc Tryd.prog w 0 (fun _ => true) true n 62 (([c0, c1, c2, c3, c4, c5, c6, c7, c8, c9].drop 3).take (Tryd.prog.cellsOf 62)) = xs[3]? := hx 3 _ rfl
  have h4 : DataW.trod enc Tryd.prog w 0 (fun _ => true) true n 63 (([c0, c1, c2, c3, c4, c5, c6, c7, c8, c9].drop 4).take (Tryd.prog.cellsOf 63)) = xs[4]? := hx 4 _ rfl
  have h5 : DataW.trod enc Tryd.prog w 0 (fun _ => true) true n 64 (([c0, c1, c2, c3, c4, c5, c6, c7, c8, c9].drop 5).take (Tryd.prog.cellsOf 64)) = xs[5]? := hx 5 _ rfl
  have h6 : DataW.trod enc Tryd.prog w 0 (fun _ => true) true n 65 (([c0, c1, c2, c3, c4, c5, c6, c7, c8, c9].drop 6).take (Tryd.prog.cellsOf 65)) = xs[6]? := hx 6 _ rfl
  have h7 : DataW.trod enc Tryd.prog w 0 (fun _ => true) true n 66 (([c0, c1, c2, c3, c4, c5, c6, c7, c8, c9].drop 7).take (Tryd.prog.cellsOf 66)) = xs[7]? := hx 7 _ rfl
  have h8 : DataW.trod enc Tryd.prog w 0 (fun _ => true) true n 67 (([c0, c1, c2, c3, c4, c5, c6, c7, c8, c9].drop 8).take (Tryd.prog.cellsOf 67)) = xs[8]? := hx 8 _ rfl
  have h9 : DataW.trod enc Tryd.prog w 0 (fun _ => true) true n 68 (([c0, c1, c2, c3, c4, c5, c6, c7, c8, c9].drop 9).take (Tryd.prog.cellsOf 68)) = xs[9]? := hx 9 _ rfl
  rw [List.getElem?_eq_getElem (by omega)] at h0 h1 h2 h3 h4 h5 h6 h7 h8 h9
  rw [mcs_attrs] at h0
  rw [mcs_inits] at h1
  rw [mcs_attrs] at h2
  rw [mcs_roles] at h3
  rw [mcs_stages] at h4
  rw [mcs_events] at h5
  rw [mcs_guards] at h6
  rw [mcs_miles] at h7
  rw [mcs_sods] at h8
  rw [mcs_order] at h9
  obtain ⟨a0, n0, k0, rfl⟩ := slice_form Tryd.underlying61 (c := c0) h0
  have m0 : n0 ≤ maxLen := len_row Tryd.underlying61 h0
  obtain ⟨a1, n1, k1, rfl⟩ := slice_form Tryd.underlying22 (c := c1) h1
  have m1 : n1 ≤ maxLen := len_row Tryd.underlying22 h1
  obtain ⟨a2, n2, k2, rfl⟩ := slice_form Tryd.underlying61 (c := c2) h2
  have m2 : n2 ≤ maxLen := len_row Tryd.underlying61 h2
  obtain ⟨a3, n3, k3, rfl⟩ := slice_form Tryd.underlying62 (c := c3) h3
  obtain ⟨l3, u3, r3, o3, m3⟩ := open_recs (len := n3) (cap := k3) (d := xs[3].1) (ps := xs[3].2) Ro.cells Ro.ok Ro.cells_len Tryd.underlying62 mc5 (by omega) (fun _ _ _ h => mtrod_Ro h) ⟨n, by simpa [Value.cells] using h3⟩
  subst u3
  obtain ⟨a4, n4, k4, rfl⟩ := slice_form Tryd.underlying63 (c := c4) h4
  obtain ⟨l4, u4, r4, o4, m4⟩ := open_recs (len := n4) (cap := k4) (d := xs[4].1) (ps := xs[4].2) Sg.cells Sg.ok Sg.cells_len Tryd.underlying63 mc6 (by omega) (fun _ _ _ h => mtrod_Sg h) ⟨n, by simpa [Value.cells] using h4⟩
  subst u4
  obtain ⟨a5, n5, k5, rfl⟩ := slice_form Tryd.underlying64 (c := c5) h5
  obtain ⟨l5, u5, r5, o5, m5⟩ := open_recs (len := n5) (cap := k5) (d := xs[5].1) (ps := xs[5].2) Ev.cells Ev.ok Ev.cells_len Tryd.underlying64 mc7 (by omega) (fun _ _ _ h => mtrod_Ev h) ⟨n, by simpa [Value.cells] using h5⟩
  subst u5
  obtain ⟨a6, n6, k6, rfl⟩ := slice_form Tryd.underlying65 (c := c6) h6
  obtain ⟨l6, u6, r6, o6, m6⟩ := open_recs (len := n6) (cap := k6) (d := xs[6].1) (ps := xs[6].2) Gu.cells Gu.ok Gu.cells_len Tryd.underlying65 mc8 (by omega) (fun _ _ _ h => mtrod_Gu h) ⟨n, by simpa [Value.cells] using h6⟩
  subst u6
  obtain ⟨a7, n7, k7, rfl⟩ := slice_form Tryd.underlying66 (c := c7) h7
  obtain ⟨l7, u7, r7, o7, m7⟩ := open_recs (len := n7) (cap := k7) (d := xs[7].1) (ps := xs[7].2) Ml.cells Ml.ok Ml.cells_len Tryd.underlying66 mc9 (by omega) (fun _ _ _ h => mtrod_Ml h) ⟨n, by simpa [Value.cells] using h7⟩
  subst u7
  obtain ⟨a8, n8, k8, rfl⟩ := slice_form Tryd.underlying67 (c := c8) h8
  obtain ⟨l8, u8, r8, o8, m8⟩ := open_recs (len := n8) (cap := k8) (d := xs[8].1) (ps := xs[8].2) Sd.cells Sd.ok Sd.cells_len Tryd.underlying67 mc10 (by omega) (fun _ _ _ h => mtrod_Sd h) ⟨n, by simpa [Value.cells] using h8⟩
  subst u8
  obtain ⟨a9, n9, k9, rfl⟩ := slice_form Tryd.underlying68 (c := c9) h9
  have m9 : n9 ≤ maxLen := len_row Tryd.underlying68 h9
  exact ⟨⟨⟨a0, n0, k0⟩, ⟨a1, n1, k1⟩, ⟨a2, n2, k2⟩, l3, l4, l5, l6, l7, l8, ⟨a9, n9, k9⟩, a3, k3, a4, k4, a5, k5, a6, k6, a7, k7, a8, k8⟩, rfl, ⟨m0, m1, m2, r3, m3, o3, r4, m4, o4, r5, m5, o5, r6, m6, o6, r7, m7, o7, r8, m8, o8, m9⟩⟩
/-- A state: its sets, its lists, where they lie. -/
structure Sq where
  vals : Sl
  op : Int
  dn : Int
  did : List Int
  cnt : List Int
  dida : Option Addr
  didc : Nat
  cnta : Option Addr
  cntc : Nat
def Sq.val (s : Sq) : Value := .agg #[.slice s.vals.a s.vals.n s.vals.c, .int .i64 s.op, .int .i64 s.dn, .slice s.dida s.did.length s.didc, .slice s.cnta s.cnt.length s.cntc]
structure RdS (w : World) (s : Sq) : Prop where
  vals : s.vals.n ≤ maxLen
  op : fits s.op
  dn : fits s.dn
  did : Reads w s.dida (s.did.map (Value.int .i64))
  didm : s.did.length ≤ maxLen
  didk : ∀ x ∈ s.did, fits x
  cnt : Reads w s.cnta (s.cnt.map (Value.int .i64))
  cntm : s.cnt.length ≤ maxLen
  cntk : ∀ x ∈ s.cnt, fits x
theorem RdS.mono {w w2 : World} {B : Nat} {s : Sq} (h : RdS w s) (hb : Below B w w2) (hB : w.heap.size ≤ B) : RdS w2 s := ⟨h.vals, h.op, h.dn, h.did.mono hb hB, h.didm, h.didk, h.cnt.mono hb hB, h.cntm, h.cntk⟩
theorem mcS : Tryd.prog.cellsOf 78 = 5 := by kernel_rfl
set_option maxRecDepth 100000 in
theorem open_stateq {r : Reach} {b0 : Nat} {v : Value} {d : DataW H} {ps : List MemPlace} (hv : Value.okWide Tryd.prog w r b0 78 v) (h : DataW.Trod enc Tryd.prog w 0 (fun _ => true) true 78 v d ps) :
    ∃ s : Sq, v = s.val ∧ RdS w s := by
  unfold Value.okWide at hv
  rw [Tryd.underlying78] at hv
  obtain ⟨cs, rfl, hsz, _⟩ := hv
  obtain ⟨cs⟩ := cs
  obtain ⟨fuel, hf⟩ := h
  have hf : DataW.trod enc Tryd.prog w 0 (fun _ => true) true fuel 78 cs = some (d, ps) := by simpa [Value.cells] using hf
  obtain ⟨xs, n, _, _, hcl, hl, hx⟩ := DataW.trod_struct Tryd.underlying78 hf
  rw [mcS] at hcl
  obtain ⟨c0, c1, c2, c3, c4, rfl⟩ := mlist5 hcl
  have hl : xs.length = 5 := hl
  have h0 : DataW.trod enc Tryd.prog w 0 (fun _ => true) true n 22 (([c0, c1, c2, c3, c4].drop 0).take (Tryd.prog.cellsOf 22)) = xs[0]? := hx 0 _ rfl
  have h1 : DataW.trod enc Tryd.prog w 0 (fun _ => true) true n 3 (([c0, c1, c2, c3, c4].drop 1).take (Tryd.prog.cellsOf 3)) = xs[1]? := hx 1 _ rfl
  have h2 : DataW.trod enc Tryd.prog w 0 (fun _ => true) true n 3 (([c0, c1, c2, c3, c4].drop 2).take (Tryd.prog.cellsOf 3)) = xs[2]? := hx 2 _ rfl
  have h3 : DataW.trod enc Tryd.prog w 0 (fun _ => true) true n 71 (([c0, c1, c2, c3, c4].drop 3).take (Tryd.prog.cellsOf 71)) = xs[3]? := hx 3 _ rfl
  have h4 : DataW.trod enc Tryd.prog w 0 (fun _ => true) true n 71 (([c0, c1, c2, c3, c4].drop 4).take (Tryd.prog.cellsOf 71)) = xs[4]? := hx 4 _ rfl
  rw [List.getElem?_eq_getElem (by omega)] at h0 h1 h2 h3 h4
  rw [mcs_inits] at h0
  rw [mc3] at h1
  rw [mc3] at h2
  rw [mc1] at h3
  rw [mc1] at h4
  obtain ⟨op, e1, _, w1⟩ := DataW.trod_int Tryd.underlying3 h1
  obtain ⟨dn, e2, _, w2⟩ := DataW.trod_int Tryd.underlying3 h2
  simp at e1 e2
  subst e1 e2
  obtain ⟨a0, n0, k0, rfl⟩ := slice_form Tryd.underlying22 (c := c0) h0
  have m0 : n0 ≤ maxLen := len_row Tryd.underlying22 h0
  obtain ⟨a3, n3, k3, rfl⟩ := slice_form Tryd.underlying71 (c := c3) h3
  obtain ⟨l3, u3, r3, o3, m3⟩ : ∃ vs : List Int, vs.length = n3 ∧ Reads w a3 (vs.map (Value.int .i64)) ∧ (∀ x ∈ vs, (Lit.int .i64 x).wf = true) ∧ vs.length ≤ maxLen := open_row (len := n3) (cap := k3) (d := xs[3].1) (ps := xs[3].2) Tryd.underlying71 Tryd.underlying3 mc3 ⟨n, by simpa [Value.cells] using h3⟩
  subst u3
  obtain ⟨a4, n4, k4, rfl⟩ := slice_form Tryd.underlying71 (c := c4) h4
  obtain ⟨l4, u4, r4, o4, m4⟩ : ∃ vs : List Int, vs.length = n4 ∧ Reads w a4 (vs.map (Value.int .i64)) ∧ (∀ x ∈ vs, (Lit.int .i64 x).wf = true) ∧ vs.length ≤ maxLen := open_row (len := n4) (cap := k4) (d := xs[4].1) (ps := xs[4].2) Tryd.underlying71 Tryd.underlying3 mc3 ⟨n, by simpa [Value.cells] using h4⟩
  subst u4
  exact ⟨⟨⟨a0, n0, k0⟩, op, dn, l3, l4, a3, k3, a4, k4⟩, rfl, ⟨m0, bounds_i64 w1, bounds_i64 w2, r3, m3, fun x hx => bounds_i64 (o3 x hx), r4, m4, fun x hx => bounds_i64 (o4 x hx)⟩⟩
end
end Go.Proofs.YtbplkphjjfgkmaaDoor
