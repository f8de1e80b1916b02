/-
  Rights: Any, by a walk.
-/
import Derived.Test.YtdpmkhmjihgckaaRtPairs
namespace Go.Proofs.Ytdpmkhmjihgckaa
open Go.RowKit Go.Shelf
attribute [local go_sem] Oper.semAt_some
set_option linter.unusedVariables false
set_option linter.unusedSimpArgs false

theorem others_of {W W' : World} (h : Below W.heap.size W W') : KeepsOthers W W' := ⟨h.size, fun k o hk _ => (h.block k (Array.getElem?_eq_some_iff.1 hk).1).trans hk⟩
theorem any_world (w : World) (M : Mo) (s : Sq) : ∃ W0, ((((w.alloc (.cells #[.slice M.attrs.a M.attrs.n M.attrs.c, .slice M.inits.a M.inits.n M.inits.c, .slice M.users.a M.users.n M.users.c, .slice M.rolesa M.roles.length M.rolesc, .slice M.stagesa M.stages.length M.stagesc, .slice M.eventsa M.events.length M.eventsc, .slice M.guardsa M.guards.length M.guardsc, .slice M.milesa M.miles.length M.milesc, .slice M.sodsa M.sods.length M.sodsc, .slice M.order.a M.order.n M.order.c] 32)).alloc (.cells #[.slice s.vals.a s.vals.n s.vals.c, .int .i64 s.op, .int .i64 s.dn, .slice s.dida s.did.length s.didc, .slice s.cnta s.cnt.length s.cntc] 35)).alloc (.cells #[.bool false] 4)).alloc (.cells #[.slice M.attrs.a M.attrs.n M.attrs.c, .slice M.inits.a M.inits.n M.inits.c, .slice M.users.a M.users.n M.users.c, .slice M.rolesa M.roles.length M.rolesc, .slice M.stagesa M.stages.length M.stagesc, .slice M.eventsa M.events.length M.eventsc, .slice M.guardsa M.guards.length M.guardsc, .slice M.milesa M.miles.length M.milesc, .slice M.sodsa M.sods.length M.sodsc, .slice M.order.a M.order.n M.order.c] 32)) = W0 ∧ Below w.heap.size w W0 ∧ W0.heap.size = w.heap.size + 1 + 1 + 1 + 1 ∧ MoAt W0 w.heap.size M ∧ SqAt W0 (w.heap.size + 1) s ∧ W0.cell? ⟨w.heap.size + 1 + 1, 0, none⟩ = some (.bool false) ∧ W0.frozen? ⟨w.heap.size + 1 + 1, 0, none⟩ = false ∧ MoAt W0 (w.heap.size + 1 + 1 + 1) M := by
  refine ⟨_, rfl, ?_⟩
  obtain ⟨b2, hm, hs⟩ := both_new w M s 32 35
  have z2 : ((w.alloc (.cells #[.slice M.attrs.a M.attrs.n M.attrs.c, .slice M.inits.a M.inits.n M.inits.c, .slice M.users.a M.users.n M.users.c, .slice M.rolesa M.roles.length M.rolesc, .slice M.stagesa M.stages.length M.stagesc, .slice M.eventsa M.events.length M.eventsc, .slice M.guardsa M.guards.length M.guardsc, .slice M.milesa M.miles.length M.milesc, .slice M.sodsa M.sods.length M.sodsc, .slice M.order.a M.order.n M.order.c] 32)).alloc (.cells #[.slice s.vals.a s.vals.n s.vals.c, .int .i64 s.op, .int .i64 s.dn, .slice s.dida s.did.length s.didc, .slice s.cnta s.cnt.length s.cntc] 35)).heap.size = w.heap.size + 1 + 1 := by simp
  generalize ((w.alloc (.cells #[.slice M.attrs.a M.attrs.n M.attrs.c, .slice M.inits.a M.inits.n M.inits.c, .slice M.users.a M.users.n M.users.c, .slice M.rolesa M.roles.length M.rolesc, .slice M.stagesa M.stages.length M.stagesc, .slice M.eventsa M.events.length M.eventsc, .slice M.guardsa M.guards.length M.guardsc, .slice M.milesa M.miles.length M.milesc, .slice M.sodsa M.sods.length M.sodsc, .slice M.order.a M.order.n M.order.c] 32)).alloc (.cells #[.slice s.vals.a s.vals.n s.vals.c, .int .i64 s.op, .int .i64 s.dn, .slice s.dida s.did.length s.didc, .slice s.cnta s.cnt.length s.cntc] 35)) = W2 at *
  have b3 := mbel_new W2 (.cells #[.bool false] 4)
  have c3 : (W2.alloc (.cells #[.bool false] 4)).cell? ⟨W2.heap.size, 0, none⟩ = some (.bool false) := by rw [World.cell?_alloc_at _ _ _ _ rfl]; rfl
  have f3 : (W2.alloc (.cells #[.bool false] 4)).frozen? ⟨W2.heap.size, 0, none⟩ = false := by simp
  have z3 : (W2.alloc (.cells #[.bool false] 4)).heap.size = w.heap.size + 1 + 1 + 1 := by simp [z2]
  rw [z2] at c3 f3
  generalize W2.alloc (.cells #[.bool false] 4) = W3 at *
  have b4 := mbel_new W3 (.cells #[.slice M.attrs.a M.attrs.n M.attrs.c, .slice M.inits.a M.inits.n M.inits.c, .slice M.users.a M.users.n M.users.c, .slice M.rolesa M.roles.length M.rolesc, .slice M.stagesa M.stages.length M.stagesc, .slice M.eventsa M.events.length M.eventsc, .slice M.guardsa M.guards.length M.guardsc, .slice M.milesa M.miles.length M.milesc, .slice M.sodsa M.sods.length M.sodsc, .slice M.order.a M.order.n M.order.c] 32)
  have m4 := mo_new W3 M 32
  rw [z3] at m4
  have hb3 : Below w.heap.size w W3 := b2.trans (b3.mono (by omega))
  have h23 : Below W2.heap.size W2 W3 := b3
  refine ⟨hb3.trans (b4.mono hb3.size), by simp [z3], (hm.mono h23 (Nat.le_refl _)).mono b4 (Nat.le_refl _), (hs.mono h23 (Nat.le_refl _)).mono b4 (Nat.le_refl _), mcell_mono c3 b4 (Nat.le_refl _), ?_, m4⟩
  exact (b4.frozen (p := ⟨w.heap.size + 1 + 1, 0, none⟩) (lt_of_cell c3)).trans f3
set_option maxRecDepth 100000 in
set_option maxHeartbeats 4000000 in
theorem rt_any (M : Mo) (s : Sq) (w : World) (hM : RdM w M) (hs : RdS w s) (hE : M.events.length ≤ 100000) (hU : M.users.n ≤ 100000) : Calls Try.prog 18 #[M.val, s.val] w fun r w' => r = .returned (.bool (anyB M s)) ∧ Below w.heap.size w w' := by
  obtain ⟨W0, hW0, hB0, z0, hMo, hSq, hr0, hf0, hMo3⟩ := any_world w M s
  have hM0 := hM.mono hB0 (Nat.le_refl _)
  have hs0 := hs.mono hB0 (Nat.le_refl _)
  have HEN : Hid (∀ (e u : Int) W, Below W0.heap.size W0 W → Calls Try.prog 24 #[.agg #[.slice M.attrs.a M.attrs.n M.attrs.c, .slice M.inits.a M.inits.n M.inits.c, .slice M.users.a M.users.n M.users.c, .slice M.rolesa M.roles.length M.rolesc, .slice M.stagesa M.stages.length M.stagesc, .slice M.eventsa M.events.length M.eventsc, .slice M.guardsa M.guards.length M.guardsc, .slice M.milesa M.miles.length M.milesc, .slice M.sodsa M.sods.length M.sodsc, .slice M.order.a M.order.n M.order.c], .agg #[.slice s.vals.a s.vals.n s.vals.c, .int .i64 s.op, .int .i64 s.dn, .slice s.dida s.did.length s.didc, .slice s.cnta s.cnt.length s.cntc], .int .i64 e, .int .i64 u] W fun r w' => r = .returned (.bool (enB M s e u)) ∧ Below W.heap.size W w') := Lib.hid fun e u W hW => rt_enabled M s e u W (hM0.mono hW (Nat.le_refl _)) (hs0.mono hW (Nat.le_refl _))
  refine (callsIn_wide (n := 4)).1 ?_
  unfold Sq.val
  have hpr : ∀ (m : Nat) (w : World), CallsIn Fence.wide m Try.prog 55 #[.agg #[.slice M.attrs.a M.attrs.n M.attrs.c, .slice M.inits.a M.inits.n M.inits.c, .slice M.users.a M.users.n M.users.c, .slice M.rolesa M.roles.length M.rolesc, .slice M.stagesa M.stages.length M.stagesc, .slice M.eventsa M.events.length M.eventsc, .slice M.guardsa M.guards.length M.guardsc, .slice M.milesa M.miles.length M.milesc, .slice M.sodsa M.sods.length M.sodsc, .slice M.order.a M.order.n M.order.c]] w fun e w' => e = .returned (.func (.func 95) #[] #[.pointer (some ⟨w.heap.size, 0, none⟩)]) ∧ w' = w.alloc (.cells #[.slice M.attrs.a M.attrs.n M.attrs.c, .slice M.inits.a M.inits.n M.inits.c, .slice M.users.a M.users.n M.users.c, .slice M.rolesa M.roles.length M.rolesc, .slice M.stagesa M.stages.length M.stagesc, .slice M.eventsa M.events.length M.eventsc, .slice M.guardsa M.guards.length M.guardsc, .slice M.milesa M.miles.length M.milesc, .slice M.sodsa M.sods.length M.sodsc, .slice M.order.a M.order.n M.order.c] 32) := fun m w => rt_pairs Fence.wide m trivial rfl M w
  unfold Mo.val
  refine callsIn_of_wp_marks Try.func18 rfl trivial ?_ rfl
  simp only [Try.ntmps18, List.size_toArray, List.length_cons, List.length_nil, Nat.reduceAdd, Nat.reduceSub, Array.replicate_succ, Array.replicate_zero, List.push_toArray, List.append_toArray, List.nil_append, List.cons_append]
  gi_wp2_with (refine ⟨trivial, ?_⟩; gi_at_call 55; refine (hpr _ _).mono ?_; rintro e w' ⟨rfl, rfl⟩)
  clear hM hs hM0 hs0 hW0
  refine wpIn_rangeFunc_ownF rfl (by omega) (gf := 95) (lb := #[.pointer (some ⟨w.heap.size + 1 + 1 + 1, 0, none⟩)]) rfl trivial (enters_of Try.func95 (by kernel_rfl) rfl)
    (rt_pairs_stops Fence.wide _ trivial rfl (by omega) (w.heap.size + 1 + 1 + 1) M W0 hE hU hMo3) kpB_t (kpB_b (by omega)) (Below.refl _ _) (fun _ => rfl)
    (fun pre W => (∀ x ∈ pre, enB M s (x.1 : Nat) (x.2 : Nat) = false) ∧ Below W0.heap.size W0 W)
    (fun c pre W => (c = .ret ∧ (∃ x ∈ pre, enB M s (x.1 : Nat) (x.2 : Nat) = true) ∧ W.cell? ⟨w.heap.size + 1 + 1, 0, none⟩ = some (.bool true)) ∧ Below w.heap.size w W)
    (OwnFrom.and (Own.from (fun s A B row hs hg hr => hs) _) (ownFrom_below (Nat.le_refl _) (Nat.le_refl _)))
    (fun c => OwnFrom.and (Own.from (fun s A B row hs hg hr => ⟨hs.1, hs.2.1, cell_kept hs.2.2 hg hr⟩) _) (ownFrom_below (Nat.le_refl _) hB0.size))
    ⟨by simp, Below.refl _ _⟩
    (fun x => { tmps := #[.agg #[.slice M.attrs.a M.attrs.n M.attrs.c, .slice M.inits.a M.inits.n M.inits.c, .slice M.users.a M.users.n M.users.c, .slice M.rolesa M.roles.length M.rolesc, .slice M.stagesa M.stages.length M.stagesc, .slice M.eventsa M.events.length M.eventsc, .slice M.guardsa M.guards.length M.guardsc, .slice M.milesa M.miles.length M.milesc, .slice M.sodsa M.sods.length M.sodsc, .slice M.order.a M.order.n M.order.c], .agg #[.slice s.vals.a s.vals.n s.vals.c, .int .i64 s.op, .int .i64 s.dn, .slice s.dida s.did.length s.didc, .slice s.cnta s.cnt.length s.cntc], .pointer (some ⟨w.heap.size, 0, none⟩), .pointer (some ⟨w.heap.size + 1, 0, none⟩), .pointer (some ⟨w.heap.size + 1 + 1, 0, none⟩), .int .i64 (x.1 : Nat), .int .i64 (x.2 : Nat), .agg #[.slice M.attrs.a M.attrs.n M.attrs.c, .slice M.inits.a M.inits.n M.inits.c, .slice M.users.a M.users.n M.users.c, .slice M.rolesa M.roles.length M.rolesc, .slice M.stagesa M.stages.length M.stagesc, .slice M.eventsa M.events.length M.eventsc, .slice M.guardsa M.guards.length M.guardsc, .slice M.milesa M.miles.length M.milesc, .slice M.sodsa M.sods.length M.sodsc, .slice M.order.a M.order.n M.order.c], .func (.func 95) #[] #[.pointer (some ⟨w.heap.size + 1 + 1 + 1, 0, none⟩)], .int .i64 (x.1 : Nat), .int .i64 (x.2 : Nat), undef, undef, undef, undef, undef], defers := [] }) ?assign ?body ?done ?stop
  case assign =>
    intro l x W K hK
    gi_wp2
    exact hK
  case body =>
    rintro l pre x W ⟨hp, hB⟩ _
    have hc := HEN.out (x.1 : Nat) (x.2 : Nat) W hB
    have hMoW := hMo.mono hB (Nat.le_refl _)
    have hSqW := hSq.mono hB (Nat.le_refl _)
    have m0 := hMoW.c0
    have m1 := hMoW.c1
    have m2 := hMoW.c2
    have m3 := hMoW.c3
    have m4 := hMoW.c4
    have m5 := hMoW.c5
    have m6 := hMoW.c6
    have m7 := hMoW.c7
    have m8 := hMoW.c8
    have m9 := hMoW.c9
    have s0 := hSqW.c0
    have s1 := hSqW.c1
    have s2 := hSqW.c2
    have s3 := hSqW.c3
    have s4 := hSqW.c4
    cases hen : enB M s (x.1 : Nat) (x.2 : Nat) with
    | false =>
      rw [hen] at hc
      gi_wp2_with (refine ⟨trivial, ?_⟩; gi_at_call 24; refine (CallsIn.inRound l (callsIn_wide.2 hc)).mono ?_; rintro e' w4 ⟨rfl, hb4⟩)
      exact ⟨others_of hb4, hb4.block _ (by have := hB.size; omega), fun y hy => (List.mem_append.1 hy).elim (hp y) (fun e => by rw [List.mem_singleton.1 e]; exact hen), hB.trans (hb4.mono hB.size)⟩
    | true =>
      rw [hen] at hc
      have hcr := (hB.cell (p := ⟨w.heap.size + 1 + 1, 0, none⟩) (lt_of_cell hr0)).trans hr0
      have hfr := (hB.frozen (p := ⟨w.heap.size + 1 + 1, 0, none⟩) (lt_of_cell hr0)).trans hf0
      have HX : Hid (∀ w4, Below W.heap.size W w4 → w4.cell? ⟨w.heap.size + 1 + 1, 0, none⟩ = some (.bool false) ∧ w4.frozen? ⟨w.heap.size + 1 + 1, 0, none⟩ = false ∧ Below w.heap.size w w4) := Lib.hid fun w4 h4 => ⟨mcell_mono hcr h4 (Nat.le_refl _), (h4.frozen (p := ⟨w.heap.size + 1 + 1, 0, none⟩) (lt_of_cell hcr)).trans hfr, (hB0.trans (hB.mono hB0.size)).trans (h4.mono (Nat.le_trans hB0.size hB.size))⟩
      gi_wp2_with (refine ⟨trivial, ?_⟩; gi_at_call 24; refine (CallsIn.inRound l (callsIn_wide.2 hc)).mono ?_; rintro e' w4 ⟨rfl, hb4⟩; have hcr4 := (HX.out w4 hb4).1; have hfr4 := (HX.out w4 hb4).2.1)
      exact ⟨(others_of hb4).trans (KeepsOthers.setCell _ _ _), ⟨rfl, ⟨x, by simp, hen⟩, World.cell?_setCell_same' _ _ _ (by rw [hcr4]; rfl)⟩, (HX.out w4 hb4).2.2.setCell (p := ⟨w.heap.size + 1 + 1, 0, none⟩) (by simp; omega) _⟩
  case done =>
    rintro D ys W hD rfl ⟨hp, hB⟩ hK
    have hcr := (hB.cell (p := ⟨w.heap.size + 1 + 1, 0, none⟩) (lt_of_cell hr0)).trans hr0
    have hfr := (hB.frozen (p := ⟨w.heap.size + 1 + 1, 0, none⟩) (lt_of_cell hr0)).trans hf0
    gi_wp2
    have hK' := (KeepsOthers.setCell W ⟨w.heap.size + 1 + 1, 0, none⟩ (.bool false)).same D _ hK rfl
    refine ⟨by simp, .inl ⟨_, _, rfl, run_takeDeferred hK', ?_⟩⟩
    have hc5 := cell_kept (World.cell?_setCell_same' W ⟨w.heap.size + 1 + 1, 0, none⟩ (.bool false) (by rw [hcr]; rfl)) (grownBy_putObj' _ D (.deferred none)) (fun r e => by cases e; exact ⟨_, hK', rfl⟩)
    refine ⟨.bool false, ?_, ?_, ?_⟩
    · simp [results, Try.f18, go_sem, hc5]
    · have : anyB M s = false := dcd_no (fun ⟨e, u, h1, h2, h3⟩ => by
        have := hp (e, u) (pl_mem.2 (Or.inl ⟨h1, h2⟩))
        rw [h3] at this; cases this)
      rw [this]
    · exact ((hB0.trans (hB.mono hB0.size)).setCell (p := ⟨w.heap.size + 1 + 1, 0, none⟩) (by simp; omega) _).trans (belowK_b (w := w) (Nat.le_refl _) _ D _ _ (Nat.le_trans hB0.size hD) hK' rfl rfl)
  case stop =>
    rintro D c pre W hD hpre ⟨⟨rfl, ⟨x, hx, hen⟩, hcr⟩, hB⟩ hK
    gi_wp2
    refine ⟨by simp, .inl ⟨_, _, rfl, run_takeDeferred hK, ?_⟩⟩
    have hc5 := cell_kept hcr (grownBy_putObj' _ D (.deferred none)) (fun r e => by cases e; exact ⟨_, hK, rfl⟩)
    refine ⟨.bool true, ?_, ?_, ?_⟩
    · simp [results, Try.f18, go_sem, hc5]
    · have : anyB M s = true := dcd_yes ⟨x.1, x.2, (hpre x hx).1, (hpre x hx).2, hen⟩
      rw [this]
    · exact hB.trans (belowK_b (w := w) (Nat.le_refl _) W D _ _ (Nat.le_trans hB0.size hD) hK rfl rfl)
end Go.Proofs.Ytdpmkhmjihgckaa
