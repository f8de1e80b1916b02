/-
  state.Check at chapter 15's example, and the example: by walks.
-/
import Derived.Test.YtbplkphjjfgkmaaDoorStAw
import Derived.BigQuiet
namespace Go.Proofs.YtbplkphjjfgkmaaDoor
open Go.RowKit
set_option linter.unusedVariables false
set_option linter.unusedSimpArgs false

theorem stsizeEv : (Tryd.prog.info? 74).map (·.size) = some 5 := by kernel_rfl
/-- The example's model. -/
def aM15 (p : Nat) : Mo := { attrs := ⟨some ⟨p, 0, none⟩, 1, 1⟩, inits := ⟨some ⟨p + 1, 0, none⟩, 1, 1⟩, users := ⟨none, 0, 0⟩, roles := [], stages := [], events := [⟨{ data := #[] }, 0, 0, ⟨none, 0, 0⟩, 0⟩], guards := [], miles := [], sods := [], order := ⟨none, 0, 0⟩, rolesa := none, rolesc := 0, stagesa := none, stagesc := 0, eventsa := some ⟨p + 1 + 1, 0, none⟩, eventsc := 1, guardsa := none, guardsc := 0, milesa := none, milesc := 0, sodsa := none, sodsc := 0 }
theorem mo_sv_new (w : World) (M : Mo) (s : Sv) : Below w.heap.size w ((w.alloc (.cells #[.slice M.attrs.a M.attrs.n M.attrs.c, .slice M.inits.a M.inits.n M.inits.c, .slice M.users.a M.users.n M.users.c, .slice M.rolesa M.roles.length M.rolesc, .slice M.stagesa M.stages.length M.stagesc, .slice M.eventsa M.events.length M.eventsc, .slice M.guardsa M.guards.length M.guardsc, .slice M.milesa M.miles.length M.milesc, .slice M.sodsa M.sods.length M.sodsc, .slice M.order.a M.order.n M.order.c] 70)).alloc (.cells #[.slice s.vala s.vals.length s.valc, .int .i64 s.op, .int .i64 s.dn, .slice s.dida s.did.length s.didc, .slice s.cnta s.cnt.length s.cntc] 78)) ∧ MoAt ((w.alloc (.cells #[.slice M.attrs.a M.attrs.n M.attrs.c, .slice M.inits.a M.inits.n M.inits.c, .slice M.users.a M.users.n M.users.c, .slice M.rolesa M.roles.length M.rolesc, .slice M.stagesa M.stages.length M.stagesc, .slice M.eventsa M.events.length M.eventsc, .slice M.guardsa M.guards.length M.guardsc, .slice M.milesa M.miles.length M.milesc, .slice M.sodsa M.sods.length M.sodsc, .slice M.order.a M.order.n M.order.c] 70)).alloc (.cells #[.slice s.vala s.vals.length s.valc, .int .i64 s.op, .int .i64 s.dn, .slice s.dida s.did.length s.didc, .slice s.cnta s.cnt.length s.cntc] 78)) w.heap.size M ∧ SvAt ((w.alloc (.cells #[.slice M.attrs.a M.attrs.n M.attrs.c, .slice M.inits.a M.inits.n M.inits.c, .slice M.users.a M.users.n M.users.c, .slice M.rolesa M.roles.length M.rolesc, .slice M.stagesa M.stages.length M.stagesc, .slice M.eventsa M.events.length M.eventsc, .slice M.guardsa M.guards.length M.guardsc, .slice M.milesa M.miles.length M.milesc, .slice M.sodsa M.sods.length M.sodsc, .slice M.order.a M.order.n M.order.c] 70)).alloc (.cells #[.slice s.vala s.vals.length s.valc, .int .i64 s.op, .int .i64 s.dn, .slice s.dida s.did.length s.didc, .slice s.cnta s.cnt.length s.cntc] 78)) (w.heap.size + 1) s := by
  have h1 := mbel_new w (.cells #[.slice M.attrs.a M.attrs.n M.attrs.c, .slice M.inits.a M.inits.n M.inits.c, .slice M.users.a M.users.n M.users.c, .slice M.rolesa M.roles.length M.rolesc, .slice M.stagesa M.stages.length M.stagesc, .slice M.eventsa M.events.length M.eventsc, .slice M.guardsa M.guards.length M.guardsc, .slice M.milesa M.miles.length M.milesc, .slice M.sodsa M.sods.length M.sodsc, .slice M.order.a M.order.n M.order.c] 70)
  have h2 := mo_new w M 70
  have hz : (w.alloc (.cells #[.slice M.attrs.a M.attrs.n M.attrs.c, .slice M.inits.a M.inits.n M.inits.c, .slice M.users.a M.users.n M.users.c, .slice M.rolesa M.roles.length M.rolesc, .slice M.stagesa M.stages.length M.stagesc, .slice M.eventsa M.events.length M.eventsc, .slice M.guardsa M.guards.length M.guardsc, .slice M.milesa M.miles.length M.milesc, .slice M.sodsa M.sods.length M.sodsc, .slice M.order.a M.order.n M.order.c] 70)).heap.size = w.heap.size + 1 := by simp
  generalize (w.alloc (.cells #[.slice M.attrs.a M.attrs.n M.attrs.c, .slice M.inits.a M.inits.n M.inits.c, .slice M.users.a M.users.n M.users.c, .slice M.rolesa M.roles.length M.rolesc, .slice M.stagesa M.stages.length M.stagesc, .slice M.eventsa M.events.length M.eventsc, .slice M.guardsa M.guards.length M.guardsc, .slice M.milesa M.miles.length M.milesc, .slice M.sodsa M.sods.length M.sodsc, .slice M.order.a M.order.n M.order.c] 70)) = W1 at *
  have h3 := mbel_new W1 (.cells #[.slice s.vala s.vals.length s.valc, .int .i64 s.op, .int .i64 s.dn, .slice s.dida s.did.length s.didc, .slice s.cnta s.cnt.length s.cntc] 78)
  have h4 := sv_new W1 s
  rw [hz] at h4
  exact ⟨h1.trans (h3.mono h1.size), h2.mono h3 (Nat.le_refl _), h4⟩
set_option maxHeartbeats 8000000 in
theorem check_one (p : Nat) (s : Sv) (w : World) (h1 : One w s) (hr : w.rangeAt (p + 1 + 1) 0 [.string { data := #[] }, .int .i64 0, .int .i64 0, .slice none 0 0, .int .i64 0]) :
    Calls Tryd.prog 89 #[(aM15 p).val, s.val] w fun e w' => e = .returned (.bool true) ∧ Below w.heap.size w w' := by
  have hu : ∀ b : Bool, ¬ (some undef = some (Value.bool b)) := fun b h => by cases h
  obtain ⟨rd, hv, ho, hd, hdi, hcn⟩ := h1
  obtain ⟨hb2, hM, hS⟩ := mo_sv_new w (aM15 p) s
  obtain ⟨vals, op, dn, did, cnt, vala, valc, dida, didc, cnta, cntc⟩ := s
  simp only at hv ho hd hdi hcn
  subst hv ho hd hdi hcn
  obtain ⟨db, doff, ed, hdc⟩ := rd.did.at (by simp)
  obtain ⟨cb, coff, ec, hcc⟩ := rd.cnt.at (by simp)
  simp only at ed ec
  subst ed ec
  have hd0 : w.cell? ⟨db, doff, none⟩ = some (.int .i64 0) := hdc 0 (by simp)
  have hc0 : w.cell? ⟨cb, coff, none⟩ = some (.int .i64 0) := hcc 0 (by simp)
  clear rd hdc hcc
  obtain ⟨W2, hW2⟩ : ∃ W2 : World, W2 = ((w.alloc (.cells #[.slice (some ⟨p, 0, none⟩) 1 1, .slice (some ⟨p + 1, 0, none⟩) 1 1, .slice none 0 0, .slice none 0 0, .slice none 0 0, .slice (some ⟨p + 1 + 1, 0, none⟩) 1 1, .slice none 0 0, .slice none 0 0, .slice none 0 0, .slice none 0 0] 70)).alloc (.cells #[.slice vala 1 valc, .int .i64 0, .int .i64 0, .slice (some ⟨db, doff, none⟩) 1 didc, .slice (some ⟨cb, coff, none⟩) 1 cntc] 78)) := ⟨_, rfl⟩
  have s0 : W2.cell? ⟨w.heap.size + 1, 0, none⟩ = some (.slice vala 1 valc) := by rw [hW2]; exact hS.c0
  have s1 : W2.cell? ⟨w.heap.size + 1, 1, none⟩ = some (.int .i64 0) := by rw [hW2]; exact hS.c1
  have s2 : W2.cell? ⟨w.heap.size + 1, 2, none⟩ = some (.int .i64 0) := by rw [hW2]; exact hS.c2
  have s3 : W2.cell? ⟨w.heap.size + 1, 3, none⟩ = some (.slice (some ⟨db, doff, none⟩) 1 didc) := by rw [hW2]; exact hS.c3
  have s4 : W2.cell? ⟨w.heap.size + 1, 4, none⟩ = some (.slice (some ⟨cb, coff, none⟩) 1 cntc) := by rw [hW2]; exact hS.c4
  have m0 : W2.cell? ⟨w.heap.size, 0, none⟩ = some (.slice (some ⟨p, 0, none⟩) 1 1) := by rw [hW2]; exact hM.c0
  have m2 : W2.cell? ⟨w.heap.size, 2, none⟩ = some (.slice none 0 0) := by rw [hW2]; exact hM.c2
  have m4 : W2.cell? ⟨w.heap.size, 4, none⟩ = some (.slice none 0 0) := by rw [hW2]; exact hM.c4
  have m5 : W2.cell? ⟨w.heap.size, 5, none⟩ = some (.slice (some ⟨p + 1 + 1, 0, none⟩) 1 1) := by rw [hW2]; exact hM.c5
  have m7 : W2.cell? ⟨w.heap.size, 7, none⟩ = some (.slice none 0 0) := by rw [hW2]; exact hM.c7
  have hb : Below w.heap.size w W2 := by rw [hW2]; exact hb2
  have HB := Lib.hid hb
  have HR : Hid (W2.rangeAt (p + 1 + 1) 0 [.string { data := #[] }, .int .i64 0, .int .i64 0, .slice none 0 0, .int .i64 0]) := Lib.hid fun j v hj => mcell_mono (hr j v hj) hb (Nat.le_refl _)
  have HD := Lib.hid (mcell_mono hd0 hb (Nat.le_refl _))
  have HC := Lib.hid (mcell_mono hc0 hb (Nat.le_refl _))
  clear hS hM hd0 hc0 hr hb2 hb
  have HW := Lib.hid hW2
  clear hW2
  unfold Mo.val Sv.val aM15
  go_enter Tryd.func89, Tryd.ntmps89
  go_upto_region 1 with fail
  rw [← HW.out]
  clear HW
  go_wp2_with (first | (go_at_call 148; (with_reducible refine (isset00 _).mono ?_); rintro e w3 ⟨rfl, rfl⟩))
  go_loopw [5, 6, 51] (fun v5 v6 v51 wr => ∃ (p5 p6 : Value) (i : Nat), v5 = p5 ∧ v6 = p6 ∧ i ≤ 1 ∧ v51 = .int .i64 i ∧ Hid (Below W2.heap.size W2 wr)) (fun _ _ v51 _ => 1 - (intOf v51).toNat)
  case atStart => exact ⟨_, _, 0, rfl, rfl, by omega, rfl, Lib.hid (Below.refl _ _)⟩
  case round =>
    obtain ⟨p5, p6, i, rfl, rfl, hi, rfl, HBR⟩ := hrel
    have s3' := mcell_mono s3 HBR.out (Nat.le_refl _)
    have s4' := mcell_mono s4 HBR.out (Nat.le_refl _)
    have m2' := mcell_mono m2 HBR.out (Nat.le_refl _)
    have hd' := mcell_mono HD.out HBR.out (Nat.le_refl _)
    have hc' := mcell_mono HC.out HBR.out (Nat.le_refl _)
    have hrw2 : wr.rangeAt (p + 1 + 1) 0 [.string { data := #[] }, .int .i64 0, .int .i64 0, .slice none 0 0, .int .i64 0] := fun j v hj => mcell_mono (HR.out j v hj) HBR.out (Nat.le_refl _)
    have HBA : Hid (∀ o, Below W2.heap.size W2 (wr.alloc o)) := Lib.hid fun o => bel_alloc HBR.out (Nat.le_refl _) o
    have s3a : ∀ o, (wr.alloc o).cell? ⟨w.heap.size + 1, 3, none⟩ = _ := fun o => alloc_keep s3'
    have s4a : ∀ o, (wr.alloc o).cell? ⟨w.heap.size + 1, 4, none⟩ = _ := fun o => alloc_keep s4'
    have m2a : ∀ o, (wr.alloc o).cell? ⟨w.heap.size, 2, none⟩ = _ := fun o => alloc_keep m2'
    have hda : ∀ o, (wr.alloc o).cell? ⟨db, doff, none⟩ = _ := fun o => alloc_keep hd'
    have hca : ∀ o, (wr.alloc o).cell? ⟨cb, coff, none⟩ = _ := fun o => alloc_keep hc'
    clear s0 s1 s2 s3 s4 m0 m2 m4 m5 m7
    by_cases h0 : i = 0
    · subst h0
      go_wp2_with (refine wpList_load_mid rfl 74 (.tmp 54) rfl (p + 1 + 1) 0 rfl _ _ hrw2 Tryd.underlying74 rfl stsizeEv ?_)
      go_quiet ((go_at_call 148; exact Calls.quiet_of_same ((isset00 _).mono (fun _ _ hq => ⟨hq.1, hq.2.symm⟩))))
      go_wp2
      go_roundw
      case rel => exact ⟨_, _, 1, rfl, rfl, by omega, by go_num, Lib.hid (st_dn (HBA.out _) _)⟩
      case measure => simp [intOf]
    · obtain rfl : i = 1 := by omega
      go_wp2
      go_ret
      exact ⟨rfl, HB.out.trans (HBR.out.mono HB.out.size)⟩
theorem make1e_run (w : World) : (Instr.makeSlice 64 (.int .i64 1) (.int .i64 1)).run Tryd.prog w = .ok (.slice (some ⟨w.heap.size, 0, none⟩) 1 1) (w.alloc (.cells #[.string { data := #[] }, .int .i64 0, .int .i64 0, .slice none 0 0, .int .i64 0] 74)) := by kernel_rfl
/-- The example's text. -/
def awT15 : ByteArray := { data := #[49, 32, 53, 32, 48, 32, 48, 32, 49, 32, 48, 32, 49, 32, 48] }
theorem awT15_jn : (St.jn (St.nums [5] 0 0 [0] [0])).toArray = awT15.data := by decide +kernel
theorem text_one (s : Sv) (w : World) (h : One w s) (ht : Tab10 w) : Calls Tryd.prog 51 #[s.val] w fun e w' => e = .returned (.string awT15) ∧ Below w.heap.size w w' := by
  have := text_any s w h.rd (by rw [h.vals]; decide) (by rw [h.did]; decide) (by rw [h.cnt]; decide) ht
  rw [h.vals, h.op, h.dn, h.did, h.cnt] at this
  unfold Str at this
  rw [awT15_jn] at this
  exact this
theorem aw15_world (w : World) : ∃ W4, ((((w.alloc (.cells #[.string { data := #[97] }] 9)).alloc (.cells #[.int .i64 5] 2)).alloc (.cells #[.string { data := #[] }, .int .i64 0, .int .i64 0, .slice none 0 0, .int .i64 0] 74)).alloc (.cells #[.slice (some ⟨w.heap.size, 0, none⟩) 1 1, .slice (some ⟨w.heap.size + 1, 0, none⟩) 1 1, .slice none 0 0, .slice none 0 0, .slice none 0 0, .slice (some ⟨w.heap.size + 1 + 1, 0, none⟩) 1 1, .slice none 0 0, .slice none 0 0, .slice none 0 0, .slice none 0 0] 70)) = W4 ∧ Below w.heap.size w W4 ∧ Reads W4 (some ⟨w.heap.size + 1, 0, none⟩) [.int .i64 5] ∧ W4.rangeAt (w.heap.size + 1 + 1) 0 [.string { data := #[] }, .int .i64 0, .int .i64 0, .slice none 0 0, .int .i64 0] ∧ MoAt W4 (w.heap.size + 1 + 1 + 1) (aM15 w.heap.size) := by
  refine ⟨_, rfl, ?_⟩
  have c1 := mbel_new w (.cells #[.string { data := #[97] }] 9)
  have z1 : (w.alloc (.cells #[.string { data := #[97] }] 9)).heap.size = w.heap.size + 1 := by simp
  generalize w.alloc (.cells #[.string { data := #[97] }] 9) = W1 at *
  have r2 := st_reads_new W1 [.int .i64 5] 2 _ z1
  have c2 := mbel_new W1 (.cells #[.int .i64 5] 2)
  have z2 : (W1.alloc (.cells #[.int .i64 5] 2)).heap.size = w.heap.size + 1 + 1 := by simp [z1]
  change Reads (W1.alloc (.cells #[.int .i64 5] 2)) _ _ at r2
  generalize W1.alloc (.cells #[.int .i64 5] 2) = W2 at *
  have r3 := st_reads_new W2 [.string { data := #[] }, .int .i64 0, .int .i64 0, .slice none 0 0, .int .i64 0] 74 _ z2
  have c3 := mbel_new W2 (.cells #[.string { data := #[] }, .int .i64 0, .int .i64 0, .slice none 0 0, .int .i64 0] 74)
  have z3 : (W2.alloc (.cells #[.string { data := #[] }, .int .i64 0, .int .i64 0, .slice none 0 0, .int .i64 0] 74)).heap.size = w.heap.size + 1 + 1 + 1 := by simp [z2]
  change Reads (W2.alloc (.cells #[.string { data := #[] }, .int .i64 0, .int .i64 0, .slice none 0 0, .int .i64 0] 74)) _ _ at r3
  generalize W2.alloc (.cells #[.string { data := #[] }, .int .i64 0, .int .i64 0, .slice none 0 0, .int .i64 0] 74) = W3 at *
  have m4 := mo_new W3 (aM15 w.heap.size) 70
  have c4 := mbel_new W3 (.cells #[.slice (some ⟨w.heap.size, 0, none⟩) 1 1, .slice (some ⟨w.heap.size + 1, 0, none⟩) 1 1, .slice none 0 0, .slice none 0 0, .slice none 0 0, .slice (some ⟨w.heap.size + 1 + 1, 0, none⟩) 1 1, .slice none 0 0, .slice none 0 0, .slice none 0 0, .slice none 0 0] 70)
  rw [z3] at m4
  change MoAt (W3.alloc (.cells #[.slice (some ⟨w.heap.size, 0, none⟩) 1 1, .slice (some ⟨w.heap.size + 1, 0, none⟩) 1 1, .slice none 0 0, .slice none 0 0, .slice none 0 0, .slice (some ⟨w.heap.size + 1 + 1, 0, none⟩) 1 1, .slice none 0 0, .slice none 0 0, .slice none 0 0, .slice none 0 0] 70)) _ _ at m4
  generalize W3.alloc (.cells #[.slice (some ⟨w.heap.size, 0, none⟩) 1 1, .slice (some ⟨w.heap.size + 1, 0, none⟩) 1 1, .slice none 0 0, .slice none 0 0, .slice none 0 0, .slice (some ⟨w.heap.size + 1 + 1, 0, none⟩) 1 1, .slice none 0 0, .slice none 0 0, .slice none 0 0, .slice none 0 0] 70) = W4 at *
  have d2 : Below W2.heap.size W2 W4 := c3.trans (c4.mono c3.size)
  refine ⟨c1.trans ((c2.mono c1.size).trans (d2.mono (Nat.le_trans c1.size c2.size))), r2.mono d2 (Nat.le_refl _), fun j v hj => ?_, m4⟩
  have r3' := r3.mono c4 (Nat.le_refl _)
  rcases r3' with h | ⟨b, off, e, hc⟩
  · cases h
  · injection e with e
    injection e with e1 e2 _
    subst e1 e2
    rw [hc j (List.getElem?_eq_some_iff.1 hj).1]
    exact hj
set_option maxHeartbeats 8000000 in
theorem awake15_any (w : World) (ht : Tab10 w) : Calls Tryd.prog 47 #[] w fun e w' => e = .returned (.bool true) ∧ Below w.heap.size w w' := by
  obtain ⟨W4, hW4, hB, hr, hrg, hMo⟩ := aw15_world w
  have HST : Hid (∀ W, Below W4.heap.size W4 W → Calls Tryd.prog 88 #[.agg #[.slice (some ⟨w.heap.size, 0, none⟩) 1 1, .slice (some ⟨w.heap.size + 1, 0, none⟩) 1 1, .slice none 0 0, .slice none 0 0, .slice none 0 0, .slice (some ⟨w.heap.size + 1 + 1, 0, none⟩) 1 1, .slice none 0 0, .slice none 0 0, .slice none 0 0, .slice none 0 0]] W fun e w' => ∃ s : Sv, e = .returned s.val ∧ Hid (One w' s) ∧ Below W.heap.size W w') := Lib.hid fun W hW => (start_one (aM15 w.heap.size) W (hr.mono hW (Nat.le_refl _)) rfl rfl).mono fun e w' ⟨s, h1, h2, h3⟩ => ⟨s, h1, Lib.hid h2, h3⟩
  have HTX : Hid (∀ W s, Below W4.heap.size W4 W → Hid (One W s) → Calls Tryd.prog 51 #[s.val] W fun e w' => e = .returned (.string { data := #[49, 32, 53, 32, 48, 32, 48, 32, 49, 32, 48, 32, 49, 32, 48] }) ∧ Below W.heap.size W w') := Lib.hid fun W s hW h => text_one s W h.out (ht.below (hB.trans (hW.mono hB.size)))
  have HCK : Hid (∀ W s, Below W4.heap.size W4 W → Hid (One W s) → Calls Tryd.prog 89 #[.agg #[.slice (some ⟨w.heap.size, 0, none⟩) 1 1, .slice (some ⟨w.heap.size + 1, 0, none⟩) 1 1, .slice none 0 0, .slice none 0 0, .slice none 0 0, .slice (some ⟨w.heap.size + 1 + 1, 0, none⟩) 1 1, .slice none 0 0, .slice none 0 0, .slice none 0 0, .slice none 0 0], s.val] W fun e w' => e = .returned (.bool true) ∧ Below W.heap.size W w') := Lib.hid fun W s hW h => check_one w.heap.size s W h.out (fun j v hj => mcell_mono (hrg j v hj) hW (Nat.le_refl _))
  have n0 : W4.cell? ⟨w.heap.size + 1 + 1 + 1, 0, none⟩ = some (.slice (some ⟨w.heap.size, 0, none⟩) 1 1) := hMo.c0
  have n1 : W4.cell? ⟨w.heap.size + 1 + 1 + 1, 1, none⟩ = some (.slice (some ⟨w.heap.size + 1, 0, none⟩) 1 1) := hMo.c1
  have n2 : W4.cell? ⟨w.heap.size + 1 + 1 + 1, 2, none⟩ = some (.slice none 0 0) := hMo.c2
  have n3 : W4.cell? ⟨w.heap.size + 1 + 1 + 1, 3, none⟩ = some (.slice none 0 0) := hMo.c3
  have n4 : W4.cell? ⟨w.heap.size + 1 + 1 + 1, 4, none⟩ = some (.slice none 0 0) := hMo.c4
  have n5 : W4.cell? ⟨w.heap.size + 1 + 1 + 1, 5, none⟩ = some (.slice (some ⟨w.heap.size + 1 + 1, 0, none⟩) 1 1) := hMo.c5
  have n6 : W4.cell? ⟨w.heap.size + 1 + 1 + 1, 6, none⟩ = some (.slice none 0 0) := hMo.c6
  have n7 : W4.cell? ⟨w.heap.size + 1 + 1 + 1, 7, none⟩ = some (.slice none 0 0) := hMo.c7
  have n8 : W4.cell? ⟨w.heap.size + 1 + 1 + 1, 8, none⟩ = some (.slice none 0 0) := hMo.c8
  have n9 : W4.cell? ⟨w.heap.size + 1 + 1 + 1, 9, none⟩ = some (.slice none 0 0) := hMo.c9
  have HW := Lib.hid hW4
  have HB := Lib.hid hB
  clear hW4 hB hr hrg hMo ht
  have hmk := make1e_run
  have HDR : Below W4.heap.size W4 W4.drew := (Below.refl _ _).drew
  go_enter Tryd.func47, Tryd.ntmps47
  go_wp2_with fail
  rw [HW.out]
  clear HW hmk
  go_region_held3 (fun w' => w'.cell? ⟨w.heap.size + 1 + 1 + 1, 0, none⟩ = some (.slice (some ⟨w.heap.size, 0, none⟩) 1 1) ∧ w'.cell? ⟨w.heap.size + 1 + 1 + 1, 1, none⟩ = some (.slice (some ⟨w.heap.size + 1, 0, none⟩) 1 1) ∧ w'.cell? ⟨w.heap.size + 1 + 1 + 1, 2, none⟩ = some (.slice none 0 0) ∧ w'.cell? ⟨w.heap.size + 1 + 1 + 1, 3, none⟩ = some (.slice none 0 0) ∧ w'.cell? ⟨w.heap.size + 1 + 1 + 1, 4, none⟩ = some (.slice none 0 0) ∧ w'.cell? ⟨w.heap.size + 1 + 1 + 1, 5, none⟩ = some (.slice (some ⟨w.heap.size + 1 + 1, 0, none⟩) 1 1) ∧ w'.cell? ⟨w.heap.size + 1 + 1 + 1, 6, none⟩ = some (.slice none 0 0) ∧ w'.cell? ⟨w.heap.size + 1 + 1 + 1, 7, none⟩ = some (.slice none 0 0) ∧ w'.cell? ⟨w.heap.size + 1 + 1 + 1, 8, none⟩ = some (.slice none 0 0) ∧ w'.cell? ⟨w.heap.size + 1 + 1 + 1, 9, none⟩ = some (.slice none 0 0) ∧ Below W4.heap.size W4 w')
    (first
      | exact ⟨n0, n1, n2, n3, n4, n5, n6, n7, n8, n9, HDR⟩
      | with_reducible exact ⟨n0, n1, n2, n3, n4, n5, n6, n7, n8, n9, Below.refl _ _⟩
      | (go_split_ands
         refine ⟨?_, ?_, ?_, ?_, ?_, ?_, ?_, ?_, ?_, ?_, ?_⟩
         · exact mcell_mono (by assumption) hb (Nat.le_refl _)
         · exact mcell_mono (by assumption) hb (Nat.le_refl _)
         · exact mcell_mono (by assumption) hb (Nat.le_refl _)
         · exact mcell_mono (by assumption) hb (Nat.le_refl _)
         · exact mcell_mono (by assumption) hb (Nat.le_refl _)
         · exact mcell_mono (by assumption) hb (Nat.le_refl _)
         · exact mcell_mono (by assumption) hb (Nat.le_refl _)
         · exact mcell_mono (by assumption) hb (Nat.le_refl _)
         · exact mcell_mono (by assumption) hb (Nat.le_refl _)
         · exact mcell_mono (by assumption) hb (Nat.le_refl _)
         · exact Below.trans (by assumption) (hb.mono (Below.size (by assumption))))
      | go_keep)
    (first
      | (go_at_call 88; ((with_reducible refine (HST.out _ (by first | assumption | exact Below.refl _ _ | (go_split_ands; assumption))).mono ?_); rintro e' w2 ⟨s, rfl, hone, hb⟩))
      | (go_at_call 51; ((with_reducible refine (HTX.out _ _ (by first | assumption | (go_split_ands; assumption)) (by assumption)).mono ?_); rintro e' w2 ⟨rfl, hb⟩))
      | (go_at_call 89; ((with_reducible refine (HCK.out _ _ (by first | assumption | (go_split_ands; assumption)) (by assumption)).mono ?_); rintro e' w2 ⟨rfl, hb⟩)))
  rename_i hh
  obtain ⟨-, -, -, -, -, -, -, -, -, -, hbl⟩ := hh
  have HF := Lib.hid (HB.out.trans (hbl.mono HB.out.size))
  clear hbl
  go_wp2_with fail
  go_ret
  exact ⟨rfl, HF.out⟩
end Go.Proofs.YtbplkphjjfgkmaaDoor
