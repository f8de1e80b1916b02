/-
  Rights: Stuck, by a walk.
-/
import Derived.Test.YtdpmkhmjihgckaaRtAny
namespace Go.Proofs.Ytdpmkhmjihgckaa
open Go.RowKit Go.Shelf
attribute [local go_sem] Oper.semAt_some
set_option linter.unusedVariables false
set_option linter.unusedSimpArgs false

theorem box_new1 (W : World) (v : Value) (t : TypeId) (p : Nat) (hp : W.heap.size = p) : Below W.heap.size W (W.alloc (.cells #[v] t)) ∧ (W.alloc (.cells #[v] t)).cell? ⟨p, 0, none⟩ = some v ∧ (W.alloc (.cells #[v] t)).frozen? ⟨p, 0, none⟩ = false ∧ (W.alloc (.cells #[v] t)).heap.size = p + 1 := by
  subst hp
  exact ⟨mbel_new W _, by rw [World.cell?_alloc_at _ _ _ _ rfl]; rfl, by simp, by simp⟩
theorem stuck_world (w : World) (M : Mo) (s : Sq) : ∃ W0, (((((w.alloc (.cells #[.slice M.attrs.a M.attrs.n M.attrs.c, .slice M.inits.a M.inits.n M.inits.c, .slice M.users.a M.users.n M.users.c, .slice M.rolesa M.roles.length M.rolesc, .slice M.stagesa M.stages.length M.stagesc, .slice M.eventsa M.events.length M.eventsc, .slice M.guardsa M.guards.length M.guardsc, .slice M.milesa M.miles.length M.milesc, .slice M.sodsa M.sods.length M.sodsc, .slice M.order.a M.order.n M.order.c] 32)).alloc (.cells #[.slice s.vals.a s.vals.n s.vals.c, .int .i64 s.op, .int .i64 s.dn, .slice s.dida s.did.length s.didc, .slice s.cnta s.cnt.length s.cntc] 35)).alloc (.cells #[.bool false] 4)).alloc (.cells #[.bool false] 4)).alloc (.cells #[.slice M.attrs.a M.attrs.n M.attrs.c, .slice M.inits.a M.inits.n M.inits.c, .slice M.users.a M.users.n M.users.c, .slice M.rolesa M.roles.length M.rolesc, .slice M.stagesa M.stages.length M.stagesc, .slice M.eventsa M.events.length M.eventsc, .slice M.guardsa M.guards.length M.guardsc, .slice M.milesa M.miles.length M.milesc, .slice M.sodsa M.sods.length M.sodsc, .slice M.order.a M.order.n M.order.c] 32)) = W0 ∧ Below w.heap.size w W0 ∧ W0.heap.size = w.heap.size + 1 + 1 + 1 + 1 + 1 ∧ MoAt W0 w.heap.size M ∧ SqAt W0 (w.heap.size + 1) s ∧ (W0.cell? ⟨w.heap.size + 1 + 1, 0, none⟩ = some (.bool false) ∧ W0.frozen? ⟨w.heap.size + 1 + 1, 0, none⟩ = false) ∧ (W0.cell? ⟨w.heap.size + 1 + 1 + 1, 0, none⟩ = some (.bool false) ∧ W0.frozen? ⟨w.heap.size + 1 + 1 + 1, 0, none⟩ = false) ∧ MoAt W0 (w.heap.size + 1 + 1 + 1 + 1) M := by
  refine ⟨_, rfl, ?_⟩
  obtain ⟨b2, hm, hs⟩ := both_new w M s 32 35
  have z2 : ((w.alloc (.cells #[.slice M.attrs.a M.attrs.n M.attrs.c, .slice M.inits.a M.inits.n M.inits.c, .slice M.users.a M.users.n M.users.c, .slice M.rolesa M.roles.length M.rolesc, .slice M.stagesa M.stages.length M.stagesc, .slice M.eventsa M.events.length M.eventsc, .slice M.guardsa M.guards.length M.guardsc, .slice M.milesa M.miles.length M.milesc, .slice M.sodsa M.sods.length M.sodsc, .slice M.order.a M.order.n M.order.c] 32)).alloc (.cells #[.slice s.vals.a s.vals.n s.vals.c, .int .i64 s.op, .int .i64 s.dn, .slice s.dida s.did.length s.didc, .slice s.cnta s.cnt.length s.cntc] 35)).heap.size = w.heap.size + 1 + 1 := by simp
  generalize ((w.alloc (.cells #[.slice M.attrs.a M.attrs.n M.attrs.c, .slice M.inits.a M.inits.n M.inits.c, .slice M.users.a M.users.n M.users.c, .slice M.rolesa M.roles.length M.rolesc, .slice M.stagesa M.stages.length M.stagesc, .slice M.eventsa M.events.length M.eventsc, .slice M.guardsa M.guards.length M.guardsc, .slice M.milesa M.miles.length M.milesc, .slice M.sodsa M.sods.length M.sodsc, .slice M.order.a M.order.n M.order.c] 32)).alloc (.cells #[.slice s.vals.a s.vals.n s.vals.c, .int .i64 s.op, .int .i64 s.dn, .slice s.dida s.did.length s.didc, .slice s.cnta s.cnt.length s.cntc] 35)) = W2 at *
  obtain ⟨b3, c3, f3, z3⟩ := box_new1 W2 (.bool false) 4 _ z2
  generalize W2.alloc (.cells #[.bool false] 4) = W3 at *
  obtain ⟨b4, c4, f4, z4⟩ := box_new1 W3 (.bool false) 4 _ z3
  generalize W3.alloc (.cells #[.bool false] 4) = W4 at *
  have b5 := mbel_new W4 (.cells #[.slice M.attrs.a M.attrs.n M.attrs.c, .slice M.inits.a M.inits.n M.inits.c, .slice M.users.a M.users.n M.users.c, .slice M.rolesa M.roles.length M.rolesc, .slice M.stagesa M.stages.length M.stagesc, .slice M.eventsa M.events.length M.eventsc, .slice M.guardsa M.guards.length M.guardsc, .slice M.milesa M.miles.length M.milesc, .slice M.sodsa M.sods.length M.sodsc, .slice M.order.a M.order.n M.order.c] 32)
  have m5 := mo_new W4 M 32
  rw [z4] at m5
  have h24 : Below W2.heap.size W2 W4 := b3.trans (b4.mono b3.size)
  have h34 : Below W3.heap.size W3 W4 := b4
  have hb4 : Below w.heap.size w W4 := b2.trans (h24.mono b2.size)
  have c3' := mcell_mono c3 b4 (Nat.le_refl _)
  refine ⟨hb4.trans (b5.mono hb4.size), by simp [z4], (hm.mono h24 (Nat.le_refl _)).mono b5 (Nat.le_refl _), (hs.mono h24 (Nat.le_refl _)).mono b5 (Nat.le_refl _), ⟨mcell_mono c3' b5 (Nat.le_refl _), ?_⟩, ⟨mcell_mono c4 b5 (Nat.le_refl _), ?_⟩, m5⟩
  · exact (b5.frozen (p := ⟨w.heap.size + 1 + 1, 0, none⟩) (lt_of_cell c3')).trans ((b4.frozen (p := ⟨w.heap.size + 1 + 1, 0, none⟩) (lt_of_cell c3)).trans f3)
  · exact (b5.frozen (p := ⟨w.heap.size + 1 + 1 + 1, 0, none⟩) (lt_of_cell c4)).trans f4
/-- All blocks of W0 but one stay. -/
def KW (W0 : World) (fr : Nat) (W : World) : Prop := W0.heap.size ≤ W.heap.size ∧ ∀ j, j < W0.heap.size → j ≠ fr → W.heap[j]? = W0.heap[j]?
theorem kw_own {β : Type} (W0 : World) (fr : Nat) : OwnFrom W0.heap.size (fun (_ : β) W => KW W0 fr W) := fun _ W W' row hs hg hr =>
  ⟨Nat.le_trans hs.1 hg.size, fun j hj hne => (hg.block j (Nat.lt_of_lt_of_le hj hs.1) (fun e => by have := (hr j e.symm).1; omega)).trans (hs.2 j hj hne)⟩
theorem KW.cell {W0 W : World} {fr : Nat} {p : Addr} {v : Value} (h : KW W0 fr W) (hc : W0.cell? p = some v) (hp : p.block ≠ fr) : W.cell? p = some v :=
  (World.cell?_of_block (w := W0) (h.2 p.block (lt_of_cell hc) hp)).trans hc
theorem KW.frozen {W0 W : World} {fr : Nat} {p : Addr} {v : Value} (h : KW W0 fr W) (hc : W0.cell? p = some v) (hp : p.block ≠ fr) : W.frozen? p = W0.frozen? p :=
  World.frozen?_of_block (w := W0) (h.2 p.block (lt_of_cell hc) hp)
theorem KW.then {W0 W W' : World} {fr : Nat} (h : KW W0 fr W) (hb : Below W.heap.size W W') : KW W0 fr W' := ⟨Nat.le_trans h.1 hb.size, fun j hj hne => (hb.block j (Nat.lt_of_lt_of_le hj h.1)).trans (h.2 j hj hne)⟩
theorem KW.set {W0 W : World} {fr : Nat} (h : KW W0 fr W) (v : Value) : KW W0 fr (W.setCell ⟨fr, 0, none⟩ v) := ⟨by simpa using h.1, fun j hj hne => (Below.heap_setCell _ _ _ _ hne).trans (h.2 j hj hne)⟩
theorem MoAt.kw {W0 W : World} {fr p : Nat} {M : Mo} (h : MoAt W0 p M) (k : KW W0 fr W) (hp : p ≠ fr) : MoAt W p M :=
  ⟨k.cell h.c0 hp, k.cell h.c1 hp, k.cell h.c2 hp, k.cell h.c3 hp, k.cell h.c4 hp, k.cell h.c5 hp, k.cell h.c6 hp, k.cell h.c7 hp, k.cell h.c8 hp, k.cell h.c9 hp⟩
theorem SqAt.kw {W0 W : World} {fr p : Nat} {s : Sq} (h : SqAt W0 p s) (k : KW W0 fr W) (hp : p ≠ fr) : SqAt W p s :=
  ⟨k.cell h.c0 hp, k.cell h.c1 hp, k.cell h.c2 hp, k.cell h.c3 hp, k.cell h.c4 hp⟩
/-- Any of these is free. -/
noncomputable def frS (M : Mo) (s : Sq) (pre : List (Nat × Nat)) : Bool := dcd (∃ x ∈ pre, freeB M s (x.1 : Nat) (x.2 : Nat) = true)
theorem frS_nil (M : Mo) (s : Sq) : frS M s [] = false := dcd_no (by simp)
theorem frS_old {M : Mo} {s : Sq} {pre : List (Nat × Nat)} (x : Nat × Nat) (h : frS M s pre = true) : frS M s (pre ++ [x]) = true := by
  obtain ⟨y, hy, hf⟩ := dcd_iff.1 h
  exact dcd_yes ⟨y, List.mem_append_left _ hy, hf⟩
theorem frS_new {M : Mo} {s : Sq} {pre : List (Nat × Nat)} (x : Nat × Nat) (h : frS M s pre = false) : frS M s (pre ++ [x]) = freeB M s (x.1 : Nat) (x.2 : Nat) := by
  cases hf : freeB M s (x.1 : Nat) (x.2 : Nat) with
  | true => exact dcd_yes ⟨x, by simp, hf⟩
  | false =>
    refine dcd_no ?_
    rintro ⟨y, hy, hy2⟩
    rcases List.mem_append.1 hy with h1 | h1
    · have := dcd_yes (p := ∃ x ∈ pre, freeB M s (x.1 : Nat) (x.2 : Nat) = true) ⟨y, h1, hy2⟩
      unfold frS at h; rw [h] at this; cases this
    · rw [List.mem_singleton.1 h1, hf] at hy2; cases hy2
set_option maxRecDepth 100000 in
set_option maxHeartbeats 4000000 in
theorem rt_stuck (M : Mo) (s : Sq) (w : World) (hM : RdM w M) (hs : RdS w s) (hE : M.events.length ≤ 100000) (hU : M.users.n ≤ 100000) : Calls Try.prog 22 #[M.val, s.val] w fun r w' => r = .returned (.bool (stuckB M s)) ∧ Below w.heap.size w w' := by
  obtain ⟨W0, hW0, hB0, z0, hMo, hSq, ⟨hr0, hf0⟩, ⟨hq0, hg0⟩, hMo3⟩ := stuck_world w M s
  have hEN : ∀ (e u : Int) W, Below w.heap.size w W → Calls Try.prog 24 #[.agg #[.slice M.attrs.a M.attrs.n M.attrs.c, .slice M.inits.a M.inits.n M.inits.c, .slice M.users.a M.users.n M.users.c, .slice M.rolesa M.roles.length M.rolesc, .slice M.stagesa M.stages.length M.stagesc, .slice M.eventsa M.events.length M.eventsc, .slice M.guardsa M.guards.length M.guardsc, .slice M.milesa M.miles.length M.milesc, .slice M.sodsa M.sods.length M.sodsc, .slice M.order.a M.order.n M.order.c], .agg #[.slice s.vals.a s.vals.n s.vals.c, .int .i64 s.op, .int .i64 s.dn, .slice s.dida s.did.length s.didc, .slice s.cnta s.cnt.length s.cntc], .int .i64 e, .int .i64 u] W fun r w' => r = .returned (.bool (enB M s e u)) ∧ Below W.heap.size W w' := fun e u W hW => rt_enabled M s e u W (hM.mono hW (Nat.le_refl _)) (hs.mono hW (Nat.le_refl _))
  have hFR : ∀ (e u : Int) W, Below w.heap.size w W → Calls Try.prog 25 #[.agg #[.slice M.attrs.a M.attrs.n M.attrs.c, .slice M.inits.a M.inits.n M.inits.c, .slice M.users.a M.users.n M.users.c, .slice M.rolesa M.roles.length M.rolesc, .slice M.stagesa M.stages.length M.stagesc, .slice M.eventsa M.events.length M.eventsc, .slice M.guardsa M.guards.length M.guardsc, .slice M.milesa M.miles.length M.milesc, .slice M.sodsa M.sods.length M.sodsc, .slice M.order.a M.order.n M.order.c], .agg #[.slice s.vals.a s.vals.n s.vals.c, .int .i64 s.op, .int .i64 s.dn, .slice s.dida s.did.length s.didc, .slice s.cnta s.cnt.length s.cntc], .int .i64 e, .int .i64 u] W fun r w' => r = .returned (.bool (freeB M s e u)) ∧ Below W.heap.size W w' := fun e u W hW => rt_free M s e u W (hM.mono hW (Nat.le_refl _)) (hs.mono hW (Nat.le_refl _))
  have HEN := Lib.hid hEN
  have HFR := Lib.hid hFR
  clear hEN hFR
  refine (callsIn_wide (n := 4)).1 ?_
  unfold Sq.val
  have hpr : ∀ (m : Nat) (w : World), CallsIn Fence.wide m Try.prog 55 #[.agg #[.slice M.attrs.a M.attrs.n M.attrs.c, .slice M.inits.a M.inits.n M.inits.c, .slice M.users.a M.users.n M.users.c, .slice M.rolesa M.roles.length M.rolesc, .slice M.stagesa M.stages.length M.stagesc, .slice M.eventsa M.events.length M.eventsc, .slice M.guardsa M.guards.length M.guardsc, .slice M.milesa M.miles.length M.milesc, .slice M.sodsa M.sods.length M.sodsc, .slice M.order.a M.order.n M.order.c]] w fun e w' => e = .returned (.func (.func 95) #[] #[.pointer (some ⟨w.heap.size, 0, none⟩)]) ∧ w' = w.alloc (.cells #[.slice M.attrs.a M.attrs.n M.attrs.c, .slice M.inits.a M.inits.n M.inits.c, .slice M.users.a M.users.n M.users.c, .slice M.rolesa M.roles.length M.rolesc, .slice M.stagesa M.stages.length M.stagesc, .slice M.eventsa M.events.length M.eventsc, .slice M.guardsa M.guards.length M.guardsc, .slice M.milesa M.miles.length M.milesc, .slice M.sodsa M.sods.length M.sodsc, .slice M.order.a M.order.n M.order.c] 32) := fun m w => rt_pairs Fence.wide m trivial rfl M w
  unfold Mo.val
  refine callsIn_of_wp_marks Try.func22 rfl trivial ?_ rfl
  simp only [Try.ntmps22, List.size_toArray, List.length_cons, List.length_nil, Nat.reduceAdd, Nat.reduceSub, Array.replicate_succ, Array.replicate_zero, List.push_toArray, List.append_toArray, List.nil_append, List.cons_append]
  gi_wp2_with (refine ⟨trivial, ?_⟩; gi_at_call 55; refine (hpr _ _).mono ?_; rintro e w' ⟨rfl, rfl⟩)
  clear hM hs hW0
  have hz : W0.heap.size = w.heap.size + 5 := by omega
  refine wpIn_rangeFunc_ownF rfl (by omega) (gf := 95) (lb := #[.pointer (some ⟨w.heap.size + 1 + 1 + 1 + 1, 0, none⟩)]) rfl trivial (enters_of Try.func95 (by kernel_rfl) rfl)
    (rt_pairs_stops Fence.wide _ trivial rfl (by omega) (w.heap.size + 1 + 1 + 1 + 1) M W0 hE hU hMo3) kpB_t (kpB_b (by omega)) (Below.refl _ _) (fun _ => rfl)
    (fun pre W => ((∀ x ∈ pre, enB M s (x.1 : Nat) (x.2 : Nat) = false) ∧ W.cell? ⟨w.heap.size + 1 + 1 + 1, 0, none⟩ = some (.bool (frS M s pre)) ∧ W.frozen? ⟨w.heap.size + 1 + 1 + 1, 0, none⟩ = false) ∧ (KW W0 (w.heap.size + 1 + 1 + 1) W ∧ Below w.heap.size w W))
    (fun c pre W => (c = .ret ∧ (∃ x ∈ pre, enB M s (x.1 : Nat) (x.2 : Nat) = true) ∧ W.cell? ⟨w.heap.size + 1 + 1, 0, none⟩ = some (.bool false)) ∧ Below w.heap.size w W)
    (OwnFrom.and (Own.from (fun s A B row hs hg hr => ⟨hs.1, cell_kept hs.2.1 hg hr, (frozen_kept hs.2.1 hg hr).trans hs.2.2⟩) _) (OwnFrom.and (kw_own W0 _) (ownFrom_below (Nat.le_refl _) hB0.size)))
    (fun c => OwnFrom.and (Own.from (fun s A B row hs hg hr => ⟨hs.1, hs.2.1, cell_kept hs.2.2 hg hr⟩) _) (ownFrom_below (Nat.le_refl _) hB0.size))
    ⟨⟨by simp, by rw [frS_nil]; exact hq0, hg0⟩, ⟨Nat.le_refl _, fun _ _ _ => rfl⟩, hB0⟩
    (fun x => { tmps := #[.agg #[.slice M.attrs.a M.attrs.n M.attrs.c, .slice M.inits.a M.inits.n M.inits.c, .slice M.users.a M.users.n M.users.c, .slice M.rolesa M.roles.length M.rolesc, .slice M.stagesa M.stages.length M.stagesc, .slice M.eventsa M.events.length M.eventsc, .slice M.guardsa M.guards.length M.guardsc, .slice M.milesa M.miles.length M.milesc, .slice M.sodsa M.sods.length M.sodsc, .slice M.order.a M.order.n M.order.c], .agg #[.slice s.vals.a s.vals.n s.vals.c, .int .i64 s.op, .int .i64 s.dn, .slice s.dida s.did.length s.didc, .slice s.cnta s.cnt.length s.cntc], .pointer (some ⟨w.heap.size, 0, none⟩), .pointer (some ⟨w.heap.size + 1, 0, none⟩), .pointer (some ⟨w.heap.size + 1 + 1, 0, none⟩), .pointer (some ⟨w.heap.size + 1 + 1 + 1, 0, none⟩), .int .i64 (x.1 : Nat), .int .i64 (x.2 : Nat), .agg #[.slice M.attrs.a M.attrs.n M.attrs.c, .slice M.inits.a M.inits.n M.inits.c, .slice M.users.a M.users.n M.users.c, .slice M.rolesa M.roles.length M.rolesc, .slice M.stagesa M.stages.length M.stagesc, .slice M.eventsa M.events.length M.eventsc, .slice M.guardsa M.guards.length M.guardsc, .slice M.milesa M.miles.length M.milesc, .slice M.sodsa M.sods.length M.sodsc, .slice M.order.a M.order.n M.order.c], .func (.func 95) #[] #[.pointer (some ⟨w.heap.size + 1 + 1 + 1 + 1, 0, none⟩)], .int .i64 (x.1 : Nat), .int .i64 (x.2 : Nat), undef, undef, undef, undef, undef, undef, undef, undef, undef, undef, undef, undef, undef, undef], defers := [] }) ?assign ?body ?done ?stop
  case assign =>
    intro l x W K hK
    gi_wp2
    exact hK
  case body =>
    rintro l pre x W ⟨⟨hp, hq, hg⟩, hkw, hB⟩ _
    have hc := HEN.out (x.1 : Nat) (x.2 : Nat) W hB
    have hd := fun W hW => HFR.out (x.1 : Nat) (x.2 : Nat) W hW
    have hMoW := hMo.kw hkw (by omega)
    have hSqW := hSq.kw hkw (by omega)
    have hr := hkw.cell hr0 (show w.heap.size + 1 + 1 ≠ w.heap.size + 1 + 1 + 1 by omega)
    have hf := (hkw.frozen hr0 (show w.heap.size + 1 + 1 ≠ w.heap.size + 1 + 1 + 1 by omega)).trans hf0
    have hWz := hkw.1
    have m0 := hMoW.c0
    have m1 := hMoW.c1
    have m2 := hMoW.c2
    have m3 := hMoW.c3
    have m4 := hMoW.c4
    have m5 := hMoW.c5
    have m6 := hMoW.c6
    have m7 := hMoW.c7
    have m8 := hMoW.c8
    have m9 := hMoW.c9
    have s0 := hSqW.c0
    have s1 := hSqW.c1
    have s2 := hSqW.c2
    have s3 := hSqW.c3
    have s4 := hSqW.c4
    have HX : Hid (∀ w4, Below W.heap.size W w4 → w4.cell? ⟨w.heap.size + 1 + 1 + 1, 0, none⟩ = some (.bool (frS M s pre)) ∧ w4.frozen? ⟨w.heap.size + 1 + 1 + 1, 0, none⟩ = false ∧ Below w.heap.size w w4 ∧ MoAt w4 w.heap.size M ∧ SqAt w4 (w.heap.size + 1) s) := Lib.hid fun w4 h4 => ⟨mcell_mono hq h4 (Nat.le_refl _), (h4.frozen (p := ⟨w.heap.size + 1 + 1 + 1, 0, none⟩) (lt_of_cell hq)).trans hg, hB.trans (h4.mono hB.size), hMoW.mono h4 (Nat.le_refl _), hSqW.mono h4 (Nat.le_refl _)⟩
    have HR : Hid (∀ w4, Below W.heap.size W w4 → w4.cell? ⟨w.heap.size + 1 + 1, 0, none⟩ = some (.bool false) ∧ w4.frozen? ⟨w.heap.size + 1 + 1, 0, none⟩ = false) := Lib.hid fun w4 h4 => ⟨mcell_mono hr h4 (Nat.le_refl _), (h4.frozen (p := ⟨w.heap.size + 1 + 1, 0, none⟩) (lt_of_cell hr)).trans hf⟩
    have HEND : Hid (∀ w5 v, Below W.heap.size W w5 → w5.cell? ⟨w.heap.size + 1 + 1 + 1, 0, none⟩ = some (.bool (frS M s pre)) → w5.frozen? ⟨w.heap.size + 1 + 1 + 1, 0, none⟩ = false → enB M s (x.1 : Nat) (x.2 : Nat) = false → frS M s (pre ++ [x]) = v → KeepsOthers W (w5.setCell ⟨w.heap.size + 1 + 1 + 1, 0, none⟩ (.bool v)) ∧ KpB (w.heap.size + 1 + 1 + 1 + 1) W (w5.setCell ⟨w.heap.size + 1 + 1 + 1, 0, none⟩ (.bool v)) ∧ (((∀ y ∈ pre ++ [x], enB M s (y.1 : Nat) (y.2 : Nat) = false) ∧ (w5.setCell ⟨w.heap.size + 1 + 1 + 1, 0, none⟩ (.bool v)).cell? ⟨w.heap.size + 1 + 1 + 1, 0, none⟩ = some (.bool (frS M s (pre ++ [x]))) ∧ (w5.setCell ⟨w.heap.size + 1 + 1 + 1, 0, none⟩ (.bool v)).frozen? ⟨w.heap.size + 1 + 1 + 1, 0, none⟩ = false) ∧ (KW W0 (w.heap.size + 1 + 1 + 1) (w5.setCell ⟨w.heap.size + 1 + 1 + 1, 0, none⟩ (.bool v)) ∧ Below w.heap.size w (w5.setCell ⟨w.heap.size + 1 + 1 + 1, 0, none⟩ (.bool v))))) := Lib.hid fun w5 v h5 hq5 hg5 hen hv =>
      ⟨(others_of h5).trans (KeepsOthers.setCell _ _ _), (Below.heap_setCell _ _ _ _ (show w.heap.size + 1 + 1 + 1 + 1 ≠ w.heap.size + 1 + 1 + 1 by omega)).trans (h5.block _ (by omega)), ⟨fun y hy => (List.mem_append.1 hy).elim (hp y) (fun e => by rw [List.mem_singleton.1 e]; exact hen), by rw [hv]; exact World.cell?_setCell_same' _ _ _ (by rw [hq5]; rfl), by rw [World.frozen?_setCell]; exact hg5⟩, (hkw.then h5).set _, (hB.trans (h5.mono hB.size)).setCell (p := ⟨w.heap.size + 1 + 1 + 1, 0, none⟩) (by simp; omega) _⟩
    clear hMoW hSqW
    cases hen : enB M s (x.1 : Nat) (x.2 : Nat) with
    | true =>
      rw [hen] at hc
      clear hq hg HEND
      gi_wp2_with (refine ⟨trivial, ?_⟩; gi_at_call 24; refine (CallsIn.inRound l (callsIn_wide.2 hc)).mono ?_; rintro e' w4 ⟨rfl, hb4⟩; have hr4 := (HR.out w4 hb4).1; have hf4 := (HR.out w4 hb4).2)
      exact ⟨(others_of hb4).trans (KeepsOthers.setCell _ _ _), ⟨rfl, ⟨x, by simp, hen⟩, World.cell?_setCell_same' _ _ _ (by rw [hr4]; rfl)⟩, ((HX.out w4 hb4).2.2.1).setCell (p := ⟨w.heap.size + 1 + 1, 0, none⟩) (by simp; omega) _⟩
    | false =>
      rw [hen] at hc
      clear hr hf HR
      cases hfs : frS M s pre with
      | true =>
        rw [hfs] at HX HEND
        clear hq hg
        have HE := Lib.hid (fun w5 h1 h2 h3 => HEND.out w5 true h1 h2 h3 hen (frS_old x hfs))
        clear HEND hen hfs
        gi_wp2_with (refine ⟨trivial, ?_⟩; gi_at_call 24; refine (CallsIn.inRound l (callsIn_wide.2 hc)).mono ?_; rintro e' w4 ⟨rfl, hb4⟩; have hq4 := (HX.out w4 hb4).1; have hg4 := (HX.out w4 hb4).2.1; have hbw4 := (HX.out w4 hb4).2.2.1; have hMo4 := (HX.out w4 hb4).2.2.2.1; have n0 := hMo4.c0; have n1 := hMo4.c1; have n2 := hMo4.c2; have n3 := hMo4.c3; have n4 := hMo4.c4; have n5 := hMo4.c5; have n6 := hMo4.c6; have n7 := hMo4.c7; have n8 := hMo4.c8; have n9 := hMo4.c9; have hSq4 := (HX.out w4 hb4).2.2.2.2; have u0 := hSq4.c0; have u1 := hSq4.c1; have u2 := hSq4.c2; have u3 := hSq4.c3; have u4 := hSq4.c4)
        refine ⟨trivial, ?_⟩
        gi_wp2
        exact HE.out _ hb4 hq4 hg4
      | false =>
        rw [hfs] at HX HEND
        clear hq hg
        cases hfr : freeB M s (x.1 : Nat) (x.2 : Nat) with
        | true =>
          rw [hfr] at hd
          have HE := Lib.hid (fun w5 h1 h2 h3 => HEND.out w5 true h1 h2 h3 hen ((frS_new x hfs).trans hfr))
          clear HEND hen hfs hfr
          gi_wp2_with (first | (refine ⟨trivial, ?_⟩; gi_at_call 24; refine (CallsIn.inRound l (callsIn_wide.2 hc)).mono ?_; rintro e' w4 ⟨rfl, hb4⟩; have hq4 := (HX.out w4 hb4).1; have hg4 := (HX.out w4 hb4).2.1; have hbw4 := (HX.out w4 hb4).2.2.1; have hMo4 := (HX.out w4 hb4).2.2.2.1; have n0 := hMo4.c0; have n1 := hMo4.c1; have n2 := hMo4.c2; have n3 := hMo4.c3; have n4 := hMo4.c4; have n5 := hMo4.c5; have n6 := hMo4.c6; have n7 := hMo4.c7; have n8 := hMo4.c8; have n9 := hMo4.c9; have hSq4 := (HX.out w4 hb4).2.2.2.2; have u0 := hSq4.c0; have u1 := hSq4.c1; have u2 := hSq4.c2; have u3 := hSq4.c3; have u4 := hSq4.c4) | (refine ⟨trivial, ?_⟩; gi_at_call 25; refine (CallsIn.inRound l (callsIn_wide.2 (hd _ hbw4))).mono ?_; rintro e' w5 ⟨rfl, hb5⟩; have hq5 := mcell_mono hq4 hb5 (Nat.le_refl _); have hg5 := (hb5.frozen (p := ⟨w.heap.size + 1 + 1 + 1, 0, none⟩) (lt_of_cell hq4)).trans hg4; have hb45 := hb4.trans (hb5.mono hb4.size)))
          exact HE.out _ hb45 hq5 hg5
        | false =>
          rw [hfr] at hd
          have HE := Lib.hid (fun w5 h1 h2 h3 => HEND.out w5 false h1 h2 h3 hen ((frS_new x hfs).trans hfr))
          clear HEND hen hfs hfr
          gi_wp2_with (first | (refine ⟨trivial, ?_⟩; gi_at_call 24; refine (CallsIn.inRound l (callsIn_wide.2 hc)).mono ?_; rintro e' w4 ⟨rfl, hb4⟩; have hq4 := (HX.out w4 hb4).1; have hg4 := (HX.out w4 hb4).2.1; have hbw4 := (HX.out w4 hb4).2.2.1; have hMo4 := (HX.out w4 hb4).2.2.2.1; have n0 := hMo4.c0; have n1 := hMo4.c1; have n2 := hMo4.c2; have n3 := hMo4.c3; have n4 := hMo4.c4; have n5 := hMo4.c5; have n6 := hMo4.c6; have n7 := hMo4.c7; have n8 := hMo4.c8; have n9 := hMo4.c9; have hSq4 := (HX.out w4 hb4).2.2.2.2; have u0 := hSq4.c0; have u1 := hSq4.c1; have u2 := hSq4.c2; have u3 := hSq4.c3; have u4 := hSq4.c4) | (refine ⟨trivial, ?_⟩; gi_at_call 25; refine (CallsIn.inRound l (callsIn_wide.2 (hd _ hbw4))).mono ?_; rintro e' w5 ⟨rfl, hb5⟩; have hq5 := mcell_mono hq4 hb5 (Nat.le_refl _); have hg5 := (hb5.frozen (p := ⟨w.heap.size + 1 + 1 + 1, 0, none⟩) (lt_of_cell hq4)).trans hg4; have hb45 := hb4.trans (hb5.mono hb4.size)))
          exact HE.out _ hb45 hq5 hg5
  case done =>
    rintro D ys W hD rfl ⟨⟨hp, hq, hg⟩, hkw, hB⟩ hK
    have hcr := hkw.cell hr0 (show w.heap.size + 1 + 1 ≠ w.heap.size + 1 + 1 + 1 by omega)
    have hfr := (hkw.frozen hr0 (show w.heap.size + 1 + 1 ≠ w.heap.size + 1 + 1 + 1 by omega)).trans hf0
    have hall : stuckB M s = frS M s (pl M.users.n M.events.length 0) := by
      refine dcd_congr ⟨?_, ?_⟩
      · rintro ⟨⟨e, u, h1, h2, h3⟩, _⟩
        exact ⟨(e, u), pl_mem.2 (Or.inl ⟨h1, h2⟩), h3⟩
      · rintro ⟨x, hx, h3⟩
        rcases pl_mem.1 hx with h1 | h1
        · exact ⟨⟨x.1, x.2, h1.1, h1.2, h3⟩, fun ⟨e, u, h4, h5, h6⟩ => by
            have := hp (e, u) (pl_mem.2 (Or.inl ⟨h4, h5⟩))
            rw [h6] at this; cases this⟩
        · omega
    rw [← hall] at hq
    obtain ⟨v, hv⟩ : ∃ v, stuckB M s = v := ⟨_, rfl⟩
    rw [hv] at hq
    have HV := Lib.hid hv
    clear hall hp hv
    gi_wp2
    have hK' := (KeepsOthers.setCell W ⟨w.heap.size + 1 + 1, 0, none⟩ (.bool v)).same D _ hK rfl
    refine ⟨by simp, .inl ⟨_, _, rfl, run_takeDeferred hK', ?_⟩⟩
    have hc5 := cell_kept (World.cell?_setCell_same' W ⟨w.heap.size + 1 + 1, 0, none⟩ (.bool v) (by rw [hcr]; rfl)) (grownBy_putObj' _ D (.deferred none)) (fun r e => by cases e; exact ⟨_, hK', rfl⟩)
    refine ⟨.bool v, ?_, by rw [HV.out], ?_⟩
    · simp [results, Try.f22, go_sem, hc5]
    · exact (hB.setCell (p := ⟨w.heap.size + 1 + 1, 0, none⟩) (by simp; omega) _).trans (belowK_b (w := w) (Nat.le_refl _) _ D _ _ (Nat.le_trans hB0.size hD) hK' rfl rfl)
  case stop =>
    rintro D c pre W hD hpre ⟨⟨rfl, ⟨x, hx, hen⟩, hcr⟩, hB⟩ hK
    gi_wp2
    refine ⟨by simp, .inl ⟨_, _, rfl, run_takeDeferred hK, ?_⟩⟩
    have hc5 := cell_kept hcr (grownBy_putObj' _ D (.deferred none)) (fun r e => by cases e; exact ⟨_, hK, rfl⟩)
    refine ⟨.bool false, ?_, ?_, ?_⟩
    · simp [results, Try.f22, go_sem, hc5]
    · rw [stuck_not (any_of hen)]
    · exact hB.trans (belowK_b (w := w) (Nat.le_refl _) W D _ _ (Nat.le_trans hB0.size hD) hK rfl rfl)
end Go.Proofs.Ytdpmkhmjihgckaa
