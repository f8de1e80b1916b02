/-
  Rights: boxes of a model and of a state; within, of, had.
-/
import Derived.Test.YtdpmkhmjihgckaaRtPlain
namespace Go.Proofs.Ytdpmkhmjihgckaa
open Go.RowKit
set_option linter.unusedVariables false
set_option linter.unusedSimpArgs false

theorem mbel_new (w : World) (o : Obj) : Below w.heap.size w (w.alloc o) := (Below.refl _ _).alloc (Nat.le_refl _) o
theorem mbelow_dn {B : Nat} {a w : World} (h : Below B a w) (n : Nat) : Below B a (w.drewN n) := ⟨h.os, h.tape, h.output, h.size, h.block⟩
structure MoAt (w : World) (p : Nat) (M : Mo) : Prop where
  c0 : w.cell? ⟨p, 0, none⟩ = some (.slice M.attrs.a M.attrs.n M.attrs.c)
  c1 : w.cell? ⟨p, 1, none⟩ = some (.slice M.inits.a M.inits.n M.inits.c)
  c2 : w.cell? ⟨p, 2, none⟩ = some (.slice M.users.a M.users.n M.users.c)
  c3 : w.cell? ⟨p, 3, none⟩ = some (.slice M.rolesa M.roles.length M.rolesc)
  c4 : w.cell? ⟨p, 4, none⟩ = some (.slice M.stagesa M.stages.length M.stagesc)
  c5 : w.cell? ⟨p, 5, none⟩ = some (.slice M.eventsa M.events.length M.eventsc)
  c6 : w.cell? ⟨p, 6, none⟩ = some (.slice M.guardsa M.guards.length M.guardsc)
  c7 : w.cell? ⟨p, 7, none⟩ = some (.slice M.milesa M.miles.length M.milesc)
  c8 : w.cell? ⟨p, 8, none⟩ = some (.slice M.sodsa M.sods.length M.sodsc)
  c9 : w.cell? ⟨p, 9, none⟩ = some (.slice M.order.a M.order.n M.order.c)
structure SqAt (w : World) (p : Nat) (s : Sq) : Prop where
  c0 : w.cell? ⟨p, 0, none⟩ = some (.slice s.vals.a s.vals.n s.vals.c)
  c1 : w.cell? ⟨p, 1, none⟩ = some (.int .i64 s.op)
  c2 : w.cell? ⟨p, 2, none⟩ = some (.int .i64 s.dn)
  c3 : w.cell? ⟨p, 3, none⟩ = some (.slice s.dida s.did.length s.didc)
  c4 : w.cell? ⟨p, 4, none⟩ = some (.slice s.cnta s.cnt.length s.cntc)
theorem mo_new (w : World) (M : Mo) (t : TypeId) : MoAt (w.alloc (.cells #[.slice M.attrs.a M.attrs.n M.attrs.c, .slice M.inits.a M.inits.n M.inits.c, .slice M.users.a M.users.n M.users.c, .slice M.rolesa M.roles.length M.rolesc, .slice M.stagesa M.stages.length M.stagesc, .slice M.eventsa M.events.length M.eventsc, .slice M.guardsa M.guards.length M.guardsc, .slice M.milesa M.miles.length M.milesc, .slice M.sodsa M.sods.length M.sodsc, .slice M.order.a M.order.n M.order.c] t)) w.heap.size M := by
  constructor <;> (rw [World.cell?_alloc_at _ _ _ _ rfl]; rfl)
theorem sq_new (w : World) (s : Sq) (t : TypeId) : SqAt (w.alloc (.cells #[.slice s.vals.a s.vals.n s.vals.c, .int .i64 s.op, .int .i64 s.dn, .slice s.dida s.did.length s.didc, .slice s.cnta s.cnt.length s.cntc] t)) w.heap.size s := by
  constructor <;> (rw [World.cell?_alloc_at _ _ _ _ rfl]; rfl)
theorem mcell_mono {w w' : World} {p : Addr} {v : Value} {B : Nat} (h : w.cell? p = some v) (hb : Below B w w') (hB : w.heap.size ≤ B) : w'.cell? p = some v :=
  (hb.cell (Nat.lt_of_lt_of_le (lt_of_cell h) hB)).trans h
theorem MoAt.mono {w w' : World} {B p : Nat} {M : Mo} (h : MoAt w p M) (hb : Below B w w') (hB : w.heap.size ≤ B) : MoAt w' p M :=
  ⟨mcell_mono h.c0 hb hB, mcell_mono h.c1 hb hB, mcell_mono h.c2 hb hB, mcell_mono h.c3 hb hB, mcell_mono h.c4 hb hB, mcell_mono h.c5 hb hB, mcell_mono h.c6 hb hB, mcell_mono h.c7 hb hB, mcell_mono h.c8 hb hB, mcell_mono h.c9 hb hB⟩
theorem SqAt.mono {w w' : World} {B p : Nat} {s : Sq} (h : SqAt w p s) (hb : Below B w w') (hB : w.heap.size ≤ B) : SqAt w' p s :=
  ⟨mcell_mono h.c0 hb hB, mcell_mono h.c1 hb hB, mcell_mono h.c2 hb hB, mcell_mono h.c3 hb hB, mcell_mono h.c4 hb hB⟩
/-- Both boxes, model first. -/
theorem both_new (w : World) (M : Mo) (s : Sq) (t t2 : TypeId) : Below w.heap.size w ((w.alloc (.cells #[.slice M.attrs.a M.attrs.n M.attrs.c, .slice M.inits.a M.inits.n M.inits.c, .slice M.users.a M.users.n M.users.c, .slice M.rolesa M.roles.length M.rolesc, .slice M.stagesa M.stages.length M.stagesc, .slice M.eventsa M.events.length M.eventsc, .slice M.guardsa M.guards.length M.guardsc, .slice M.milesa M.miles.length M.milesc, .slice M.sodsa M.sods.length M.sodsc, .slice M.order.a M.order.n M.order.c] t)).alloc (.cells #[.slice s.vals.a s.vals.n s.vals.c, .int .i64 s.op, .int .i64 s.dn, .slice s.dida s.did.length s.didc, .slice s.cnta s.cnt.length s.cntc] t2)) ∧ MoAt ((w.alloc (.cells #[.slice M.attrs.a M.attrs.n M.attrs.c, .slice M.inits.a M.inits.n M.inits.c, .slice M.users.a M.users.n M.users.c, .slice M.rolesa M.roles.length M.rolesc, .slice M.stagesa M.stages.length M.stagesc, .slice M.eventsa M.events.length M.eventsc, .slice M.guardsa M.guards.length M.guardsc, .slice M.milesa M.miles.length M.milesc, .slice M.sodsa M.sods.length M.sodsc, .slice M.order.a M.order.n M.order.c] t)).alloc (.cells #[.slice s.vals.a s.vals.n s.vals.c, .int .i64 s.op, .int .i64 s.dn, .slice s.dida s.did.length s.didc, .slice s.cnta s.cnt.length s.cntc] t2)) w.heap.size M ∧ SqAt ((w.alloc (.cells #[.slice M.attrs.a M.attrs.n M.attrs.c, .slice M.inits.a M.inits.n M.inits.c, .slice M.users.a M.users.n M.users.c, .slice M.rolesa M.roles.length M.rolesc, .slice M.stagesa M.stages.length M.stagesc, .slice M.eventsa M.events.length M.eventsc, .slice M.guardsa M.guards.length M.guardsc, .slice M.milesa M.miles.length M.milesc, .slice M.sodsa M.sods.length M.sodsc, .slice M.order.a M.order.n M.order.c] t)).alloc (.cells #[.slice s.vals.a s.vals.n s.vals.c, .int .i64 s.op, .int .i64 s.dn, .slice s.dida s.did.length s.didc, .slice s.cnta s.cnt.length s.cntc] t2)) (w.heap.size + 1) s := by
  have h1 := mo_new w M t
  have b1 := mbel_new w (.cells #[.slice M.attrs.a M.attrs.n M.attrs.c, .slice M.inits.a M.inits.n M.inits.c, .slice M.users.a M.users.n M.users.c, .slice M.rolesa M.roles.length M.rolesc, .slice M.stagesa M.stages.length M.stagesc, .slice M.eventsa M.events.length M.eventsc, .slice M.guardsa M.guards.length M.guardsc, .slice M.milesa M.miles.length M.milesc, .slice M.sodsa M.sods.length M.sodsc, .slice M.order.a M.order.n M.order.c] t)
  have z1 : (w.alloc (.cells #[.slice M.attrs.a M.attrs.n M.attrs.c, .slice M.inits.a M.inits.n M.inits.c, .slice M.users.a M.users.n M.users.c, .slice M.rolesa M.roles.length M.rolesc, .slice M.stagesa M.stages.length M.stagesc, .slice M.eventsa M.events.length M.eventsc, .slice M.guardsa M.guards.length M.guardsc, .slice M.milesa M.miles.length M.milesc, .slice M.sodsa M.sods.length M.sodsc, .slice M.order.a M.order.n M.order.c] t)).heap.size = w.heap.size + 1 := by simp
  generalize w.alloc (.cells #[.slice M.attrs.a M.attrs.n M.attrs.c, .slice M.inits.a M.inits.n M.inits.c, .slice M.users.a M.users.n M.users.c, .slice M.rolesa M.roles.length M.rolesc, .slice M.stagesa M.stages.length M.stagesc, .slice M.eventsa M.events.length M.eventsc, .slice M.guardsa M.guards.length M.guardsc, .slice M.milesa M.miles.length M.milesc, .slice M.sodsa M.sods.length M.sodsc, .slice M.order.a M.order.n M.order.c] t) = W at *
  have h2 := sq_new W s t2
  rw [z1] at h2
  exact ⟨b1.trans ((mbel_new W _).mono b1.size), h1.mono (mbel_new W _) (Nat.le_refl _), h2⟩
set_option maxRecDepth 100000 in
theorem rt_within (i : Int) (n : Nat) (w : World) : Calls Try.prog 60 #[.int .i64 i, .int .i64 (n : Nat)] w fun e w' => e = .returned (.bool (inN i n)) ∧ w = w' := by
  by_cases h0 : 0 ≤ i
  · by_cases h1 : i < (n : Int)
    · rw [inN_iff.2 ⟨h0, h1⟩]
      go_enter Try.func60, Try.ntmps60
      go_wp2
      go_ret
      exact ⟨rfl, rfl⟩
    · rw [inN_no (by omega)]
      go_enter Try.func60, Try.ntmps60
      go_wp2
      go_ret
      exact ⟨rfl, rfl⟩
  · rw [inN_no (by omega)]
    go_enter Try.func60, Try.ntmps60
    go_wp2
    go_ret
    exact ⟨rfl, rfl⟩
set_option maxRecDepth 100000 in
theorem rt_of (a : Option Addr) (c : Nat) (l : List Int) (i : Int) (w : World) (hl : Reads w a (l.map (Value.int .i64))) (hm : l.length ≤ maxLen) : Calls Try.prog 61 #[.slice a l.length c, .int .i64 i] w fun e w' => e = .returned (.int .i64 (ofL l i)) ∧ w = w' := by
  have hm2 : l.length ≤ 9223372036854775807 := by unfold maxLen at hm; omega
  have hw := rt_within i l.length w
  by_cases h : 0 ≤ i ∧ i < (l.length : Int)
  · rw [inN_iff.2 h] at hw
    obtain ⟨k, rfl⟩ : ∃ k : Nat, i = (k : Int) := ⟨i.toNat, by omega⟩
    have hk : k < l.length := by omega
    obtain ⟨b, off, rfl, hc⟩ := Reads.at hl (by rw [List.length_map]; omega)
    have hck := Reads.int hc k hk
    rw [ofL_in hk]
    generalize l[k] = x at *
    clear hl hc
    go_enter Try.func61, Try.ntmps61
    go_wp2_with (go_at_call 60; refine hw.mono ?_; rintro e w' ⟨rfl, rfl⟩)
    go_ret
    exact ⟨rfl, rfl⟩
  · rw [inN_no h] at hw
    rw [ofL_out h]
    clear hl
    go_enter Try.func61, Try.ntmps61
    go_wp2_with (go_at_call 60; refine hw.mono ?_; rintro e w' ⟨rfl, rfl⟩)
    go_ret
    exact ⟨rfl, rfl⟩
set_option maxRecDepth 100000 in
theorem rt_had (s : Sq) (e u : Int) (w : World) (hs : RdS w s) : Calls Try.prog 59 #[s.val, .int .i64 e, .int .i64 u] w fun e' w' => e' = .returned (.bool (hadB s e u)) ∧ Below w.heap.size w w' := by
  have hb := mbel_new w (.cells #[.slice s.vals.a s.vals.n s.vals.c, .int .i64 s.op, .int .i64 s.dn, .slice s.dida s.did.length s.didc, .slice s.cnta s.cnt.length s.cntc] 35)
  have hc := (sq_new w s 35).c3
  have ho := rt_of s.dida s.didc s.did e _ (hs.did.mono hb (Nat.le_refl _)) hs.didm
  have hh := has_any (ofL s.did e) u (w.alloc (.cells #[.slice s.vals.a s.vals.n s.vals.c, .int .i64 s.op, .int .i64 s.dn, .slice s.dida s.did.length s.didc, .slice s.cnta s.cnt.length s.cntc] 35))
  have HB := Lib.hid hb
  clear hs hb
  unfold hadB Sq.val
  generalize ofL s.did e = x at *
  go_enter Try.func59, Try.ntmps59
  go_wp2_with (first | (go_at_call 61; refine ho.mono ?_; rintro e w' ⟨rfl, rfl⟩) | (go_at_call 56; refine hh.mono ?_; rintro e w' ⟨rfl, rfl⟩))
  go_ret
  exact ⟨rfl, HB.out⟩
end Go.Proofs.Ytdpmkhmjihgckaa
