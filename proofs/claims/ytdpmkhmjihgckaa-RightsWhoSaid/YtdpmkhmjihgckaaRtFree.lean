/-
  Rights: Free, by a walk.
-/
import Derived.Test.YtdpmkhmjihgckaaRtCpl
import Derived.BigQuiet
namespace Go.Proofs.Ytdpmkhmjihgckaa
open Go.RowKit
set_option linter.unusedVariables false
set_option linter.unusedSimpArgs false

theorem of_quiet {P : Program} {f : FuncId} {args : Array Value} {w : World} {n : Nat} {v : Value} (h : Calls P f args (w.drewN n) fun e w' => e = .returned v ∧ w.drewN n = w') : Calls P f args (w.drewN n) fun e w' => e = .returned v ∧ w' = w.drewN n := h.mono fun _ _ h => ⟨h.1, h.2.symm⟩
theorem msizeEvent : (Try.prog.info? 105).map (·.size) = some 5 := by kernel_rfl
theorem msizeRole : (Try.prog.info? 107).map (·.size) = some 2 := by kernel_rfl
set_option maxRecDepth 100000 in
set_option maxHeartbeats 40000000 in
theorem rt_free (M : Mo) (s : Sq) (e u : Int) (w : World) (hM : RdM w M) (hs : RdS w s) : Calls Try.prog 25 #[M.val, s.val, .int .i64 e, .int .i64 u] w fun r w' => r = .returned (.bool (freeB M s e u)) ∧ Below w.heap.size w w' := by
  have hu : ∀ b : Bool, ¬ (some undef = some (Value.bool b)) := fun b h => by cases h
  obtain ⟨hb, hMo, hSq⟩ := both_new w M s 32 35
  have hbz := hb.size
  have HB := Lib.hid hb
  have hM1 := hM.mono hb (Nat.le_refl _)
  have hs1 := hs.mono hb (Nat.le_refl _)
  have m2 := hMo.c2
  have m3 := hMo.c3
  have m4 := hMo.c4
  have m5 := hMo.c5
  have s1 := hSq.c1
  have s4 := hSq.c4
  have w1 := rt_within e M.events.length ((w.alloc (.cells #[.slice M.attrs.a M.attrs.n M.attrs.c, .slice M.inits.a M.inits.n M.inits.c, .slice M.users.a M.users.n M.users.c, .slice M.rolesa M.roles.length M.rolesc, .slice M.stagesa M.stages.length M.stagesc, .slice M.eventsa M.events.length M.eventsc, .slice M.guardsa M.guards.length M.guardsc, .slice M.milesa M.miles.length M.milesc, .slice M.sodsa M.sods.length M.sodsc, .slice M.order.a M.order.n M.order.c] 32)).alloc (.cells #[.slice s.vals.a s.vals.n s.vals.c, .int .i64 s.op, .int .i64 s.dn, .slice s.dida s.did.length s.didc, .slice s.cnta s.cnt.length s.cntc] 35))
  have w2 := rt_within u M.users.n ((w.alloc (.cells #[.slice M.attrs.a M.attrs.n M.attrs.c, .slice M.inits.a M.inits.n M.inits.c, .slice M.users.a M.users.n M.users.c, .slice M.rolesa M.roles.length M.rolesc, .slice M.stagesa M.stages.length M.stagesc, .slice M.eventsa M.events.length M.eventsc, .slice M.guardsa M.guards.length M.guardsc, .slice M.milesa M.miles.length M.milesc, .slice M.sodsa M.sods.length M.sodsc, .slice M.order.a M.order.n M.order.c] 32)).alloc (.cells #[.slice s.vals.a s.vals.n s.vals.c, .int .i64 s.op, .int .i64 s.dn, .slice s.dida s.did.length s.didc, .slice s.cnta s.cnt.length s.cntc] 35))
  have hcp : Calls Try.prog 20 #[.agg #[.slice M.attrs.a M.attrs.n M.attrs.c, .slice M.inits.a M.inits.n M.inits.c, .slice M.users.a M.users.n M.users.c, .slice M.rolesa M.roles.length M.rolesc, .slice M.stagesa M.stages.length M.stagesc, .slice M.eventsa M.events.length M.eventsc, .slice M.guardsa M.guards.length M.guardsc, .slice M.milesa M.miles.length M.milesc, .slice M.sodsa M.sods.length M.sodsc, .slice M.order.a M.order.n M.order.c], .agg #[.slice s.vals.a s.vals.n s.vals.c, .int .i64 s.op, .int .i64 s.dn, .slice s.dida s.did.length s.didc, .slice s.cnta s.cnt.length s.cntc]] ((w.alloc (.cells #[.slice M.attrs.a M.attrs.n M.attrs.c, .slice M.inits.a M.inits.n M.inits.c, .slice M.users.a M.users.n M.users.c, .slice M.rolesa M.roles.length M.rolesc, .slice M.stagesa M.stages.length M.stagesc, .slice M.eventsa M.events.length M.eventsc, .slice M.guardsa M.guards.length M.guardsc, .slice M.milesa M.miles.length M.milesc, .slice M.sodsa M.sods.length M.sodsc, .slice M.order.a M.order.n M.order.c] 32)).alloc (.cells #[.slice s.vals.a s.vals.n s.vals.c, .int .i64 s.op, .int .i64 s.dn, .slice s.dida s.did.length s.didc, .slice s.cnta s.cnt.length s.cntc] 35)) fun e w' => e = .returned (.bool (cpl M s)) ∧ Below ((w.alloc (.cells #[.slice M.attrs.a M.attrs.n M.attrs.c, .slice M.inits.a M.inits.n M.inits.c, .slice M.users.a M.users.n M.users.c, .slice M.rolesa M.roles.length M.rolesc, .slice M.stagesa M.stages.length M.stagesc, .slice M.eventsa M.events.length M.eventsc, .slice M.guardsa M.guards.length M.guardsc, .slice M.milesa M.miles.length M.milesc, .slice M.sodsa M.sods.length M.sodsc, .slice M.order.a M.order.n M.order.c] 32)).alloc (.cells #[.slice s.vals.a s.vals.n s.vals.c, .int .i64 s.op, .int .i64 s.dn, .slice s.dida s.did.length s.didc, .slice s.cnta s.cnt.length s.cntc] 35)).heap.size ((w.alloc (.cells #[.slice M.attrs.a M.attrs.n M.attrs.c, .slice M.inits.a M.inits.n M.inits.c, .slice M.users.a M.users.n M.users.c, .slice M.rolesa M.roles.length M.rolesc, .slice M.stagesa M.stages.length M.stagesc, .slice M.eventsa M.events.length M.eventsc, .slice M.guardsa M.guards.length M.guardsc, .slice M.milesa M.miles.length M.milesc, .slice M.sodsa M.sods.length M.sodsc, .slice M.order.a M.order.n M.order.c] 32)).alloc (.cells #[.slice s.vals.a s.vals.n s.vals.c, .int .i64 s.op, .int .i64 s.dn, .slice s.dida s.did.length s.didc, .slice s.cnta s.cnt.length s.cntc] 35)) w' := rt_complete M s ((w.alloc (.cells #[.slice M.attrs.a M.attrs.n M.attrs.c, .slice M.inits.a M.inits.n M.inits.c, .slice M.users.a M.users.n M.users.c, .slice M.rolesa M.roles.length M.rolesc, .slice M.stagesa M.stages.length M.stagesc, .slice M.eventsa M.events.length M.eventsc, .slice M.guardsa M.guards.length M.guardsc, .slice M.milesa M.miles.length M.milesc, .slice M.sodsa M.sods.length M.sodsc, .slice M.order.a M.order.n M.order.c] 32)).alloc (.cells #[.slice s.vals.a s.vals.n s.vals.c, .int .i64 s.op, .int .i64 s.dn, .slice s.dida s.did.length s.didc, .slice s.cnta s.cnt.length s.cntc] 35)) hM1
  clear hb
  unfold Mo.val Sq.val
  by_cases h1 : 0 ≤ e ∧ e < (M.events.length : Int)
  rotate_left
  · have HF : Hid (freeB M s e u = false) := Lib.hid (by unfold freeB; rw [inN_no h1]; simp)
    rw [inN_no h1] at w1
    clear hM hs hM1 hs1 h1 hMo hSq
    go_enter Try.func25, Try.ntmps25
    go_wp2_with (go_at_call 60; refine w1.mono ?_; rintro e w' ⟨rfl, rfl⟩)
    go_ret
    exact ⟨ret_bool HF.out.symm, HB.out⟩
  by_cases h2 : 0 ≤ u ∧ u < (M.users.n : Int)
  rotate_left
  · have HF : Hid (freeB M s e u = false) := Lib.hid (by unfold freeB; rw [inN_no h2]; simp)
    rw [inN_iff.2 h1] at w1
    rw [inN_no h2] at w2
    clear hM hs hM1 hs1 h1 h2 hMo hSq
    go_enter Try.func25, Try.ntmps25
    go_wp2_with (go_at_call 60; first | (refine w1.mono ?_; clear w1; rintro e w' ⟨rfl, rfl⟩) | (refine w2.mono ?_; rintro e w' ⟨rfl, rfl⟩))
    go_ret
    exact ⟨ret_bool HF.out.symm, HB.out⟩
  rw [inN_iff.2 h1] at w1
  rw [inN_iff.2 h2] at w2
  obtain ⟨k, rfl⟩ : ∃ k : Nat, e = (k : Int) := ⟨e.toNat, by omega⟩
  have hk : k < M.events.length := by omega
  have hk2 : M.events.length ≤ 9223372036854775807 := by have := hM1.eventsm; unfold maxLen at this; omega
  have hr2 : M.roles.length ≤ 9223372036854775807 := by have := hM1.rolesm; unfold maxLen at this; omega
  have HEQ : Hid (freeB M s (k : Int) u = (!cpl M s && freeE M s M.events[k] (k : Int) u)) := Lib.hid (by
    unfold freeB
    rw [inN_iff.2 h1, inN_iff.2 h2]
    have : M.events[((k : Nat) : Int).toNat]? = some M.events[k] := by rw [Int.toNat_natCast]; exact List.getElem?_eq_getElem hk
    rw [this]
    simp)
  obtain ⟨eb, eoff, hea, herg⟩ := recs_at Ev.cells_len (by omega) hM1.events k hk
  have HRG := Lib.hid (herg k hk)
  have HEA := Lib.hid hea
  have HMO := Lib.hid hMo
  have HSQ := Lib.hid hSq
  have HM1 := Lib.hid hM1
  have HS1 := Lib.hid hs1
  clear hM hs h1 h2 hM1 hs1 hMo hSq herg m3 m4 s1 s4 hea
  generalize M.events[k] = x at *
  obtain ⟨nm, role, stage, sets, times⟩ := x
  cases hc : cpl M s with
  | true =>
    rw [hc] at hcp
    have HF : Hid (freeB M s (k : Int) u = false) := Lib.hid (by rw [HEQ.out, hc]; rfl)
    clear hc
    go_enter Try.func25, Try.ntmps25
    go_wp2_with (first | (go_at_call 60; first | (refine w1.mono ?_; clear w1; rintro e' w' ⟨rfl, rfl⟩) | (refine w2.mono ?_; clear w2; rintro e' w' ⟨rfl, rfl⟩)) | (go_at_call 20; refine hcp.mono ?_; rintro e' w3 ⟨rfl, hb3⟩; have HB3 := Lib.hid hb3; clear hb3))
    go_ret
    exact ⟨ret_bool HF.out.symm, HB.out.trans (HB3.out.mono hbz)⟩
  | false =>
    rw [hc] at hcp
    have HE2 : Hid (freeB M s (k : Int) u = freeE M s ⟨nm, role, stage, sets, times⟩ (k : Int) u) := Lib.hid (by rw [HEQ.out, hc]; rfl)
    clear hc HEQ
    have w3s := fun W => rt_within stage M.stages.length W
    have h5 := fun W => has_any s.op stage W
    have w4r := fun W => rt_within role M.roles.length W
    by_cases q1 : inN stage M.stages.length = true
    rotate_left
    · have q1 : inN stage M.stages.length = false := by simpa using q1
      rw [q1] at w3s
      have HF : Hid (freeB M s (k : Int) u = false) := Lib.hid (by rw [HE2.out]; unfold freeE; simp [q1])
      clear q1 h5 w4r HE2
      go_enter Try.func25, Try.ntmps25
      go_wp2_with (first | (go_at_call 60; first | (refine w1.mono ?_; clear w1; rintro e' w' ⟨rfl, rfl⟩) | (refine w2.mono ?_; clear w2; rintro e' w' ⟨rfl, rfl⟩) | (refine (w3s _).mono ?_; clear w3s; rintro e' w' ⟨rfl, rfl⟩) | (refine (w4r _).mono ?_; clear w4r; rintro e' w' ⟨rfl, rfl⟩)) | (go_at_call 56; first | (refine (h5 _).mono ?_; clear h5; rintro e' w' ⟨rfl, rfl⟩) | (refine (h7 _).mono ?_; clear h7; rintro e' w' ⟨rfl, rfl⟩)) | fail | (go_at_call 20; refine hcp.mono ?_; rintro e' w3 ⟨rfl, hb3⟩; have HB3 := Lib.hid (HB.out.trans (hb3.mono hbz)); have HEND := Lib.hid (fun o => HB3.out.trans ((mbel_new w3 o).mono HB3.out.size)); have HMO3 := HMO.out.mono hb3 (Nat.le_refl _); have m5 := HMO3.c5; rw [HEA.out] at m5; have m4 := fun o => ((HMO3.mono (mbel_new w3 o) (Nat.le_refl _)).c4); have m3 := fun o => ((HMO3.mono (mbel_new w3 o) (Nat.le_refl _)).c3); have HSQ3 := HSQ.out.mono hb3 (Nat.le_refl _); have s1 := fun o => ((HSQ3.mono (mbel_new w3 o) (Nat.le_refl _)).c1); have s4 := fun o => ((HSQ3.mono (mbel_new w3 o) (Nat.le_refl _)).c4); have HS3 := HS1.out.mono hb3 (Nat.le_refl _); have ho := fun (W : World) (hw : Below w3.heap.size w3 W) => rt_of s.cnta s.cntc s.cnt (k : Int) W (HS3.cnt.mono hw (Nat.le_refl _)) HS3.cntm; have HOQ := Lib.hid (fun (o : Obj) (n : Nat) => of_quiet (ho ((w3.alloc o).drewN n) (mbelow_dn (mbel_new w3 o) n))); clear ho; have hrw3 : w3.rangeAt eb (eoff + k * 5) [.string nm, .int .i64 role, .int .i64 stage, .slice sets.a sets.n sets.c, .int .i64 times] := (fun j v hv => (hb3.cell (p := ⟨eb, eoff + k * 5 + j, none⟩) (lt_of_cell (HRG.out j v hv))).trans (HRG.out j v hv)); clear hb3 HMO HSQ HM1 HS1 HRG hcp HMO3 HSQ3 HS3) | (have hq := hrw3; refine wpList_load_mid rfl 105 (.tmp 32) rfl eb (eoff + k * 5) rfl _ _ hq Try.underlying105 rfl msizeEvent ?_; clear hrw3 hq))
      go_ret
      exact ⟨ret_bool HF.out.symm, HEND.out _⟩
    rw [q1] at w3s
    by_cases q2 : hasB s.op stage = true
    rotate_left
    · have q2 : hasB s.op stage = false := by simpa using q2
      rw [q2] at h5
      have HF : Hid (freeB M s (k : Int) u = false) := Lib.hid (by rw [HE2.out]; unfold freeE; simp [q1, q2])
      clear q1 q2 w4r HE2
      go_enter Try.func25, Try.ntmps25
      go_wp2_with (first | (go_at_call 60; first | (refine w1.mono ?_; clear w1; rintro e' w' ⟨rfl, rfl⟩) | (refine w2.mono ?_; clear w2; rintro e' w' ⟨rfl, rfl⟩) | (refine (w3s _).mono ?_; clear w3s; rintro e' w' ⟨rfl, rfl⟩) | (refine (w4r _).mono ?_; clear w4r; rintro e' w' ⟨rfl, rfl⟩)) | (go_at_call 56; first | (refine (h5 _).mono ?_; clear h5; rintro e' w' ⟨rfl, rfl⟩) | (refine (h7 _).mono ?_; clear h7; rintro e' w' ⟨rfl, rfl⟩)) | fail | (go_at_call 20; refine hcp.mono ?_; rintro e' w3 ⟨rfl, hb3⟩; have HB3 := Lib.hid (HB.out.trans (hb3.mono hbz)); have HEND := Lib.hid (fun o => HB3.out.trans ((mbel_new w3 o).mono HB3.out.size)); have HMO3 := HMO.out.mono hb3 (Nat.le_refl _); have m5 := HMO3.c5; rw [HEA.out] at m5; have m4 := fun o => ((HMO3.mono (mbel_new w3 o) (Nat.le_refl _)).c4); have m3 := fun o => ((HMO3.mono (mbel_new w3 o) (Nat.le_refl _)).c3); have HSQ3 := HSQ.out.mono hb3 (Nat.le_refl _); have s1 := fun o => ((HSQ3.mono (mbel_new w3 o) (Nat.le_refl _)).c1); have s4 := fun o => ((HSQ3.mono (mbel_new w3 o) (Nat.le_refl _)).c4); have HS3 := HS1.out.mono hb3 (Nat.le_refl _); have ho := fun (W : World) (hw : Below w3.heap.size w3 W) => rt_of s.cnta s.cntc s.cnt (k : Int) W (HS3.cnt.mono hw (Nat.le_refl _)) HS3.cntm; have HOQ := Lib.hid (fun (o : Obj) (n : Nat) => of_quiet (ho ((w3.alloc o).drewN n) (mbelow_dn (mbel_new w3 o) n))); clear ho; have hrw3 : w3.rangeAt eb (eoff + k * 5) [.string nm, .int .i64 role, .int .i64 stage, .slice sets.a sets.n sets.c, .int .i64 times] := (fun j v hv => (hb3.cell (p := ⟨eb, eoff + k * 5 + j, none⟩) (lt_of_cell (HRG.out j v hv))).trans (HRG.out j v hv)); clear hb3 HMO HSQ HM1 HS1 HRG hcp HMO3 HSQ3 HS3) | (have hq := hrw3; refine wpList_load_mid rfl 105 (.tmp 32) rfl eb (eoff + k * 5) rfl _ _ hq Try.underlying105 rfl msizeEvent ?_; clear hrw3 hq))
      go_ret
      exact ⟨ret_bool HF.out.symm, HEND.out _⟩
    rw [q2] at h5
    by_cases q3 : inN role M.roles.length = true
    rotate_left
    · have q3 : inN role M.roles.length = false := by simpa using q3
      rw [q3] at w4r
      have HF : Hid (freeB M s (k : Int) u = false) := Lib.hid (by rw [HE2.out]; unfold freeE; simp [q1, q2, q3])
      clear q1 q2 q3 HE2
      go_enter Try.func25, Try.ntmps25
      go_wp2_with (first | (go_at_call 60; first | (refine w1.mono ?_; clear w1; rintro e' w' ⟨rfl, rfl⟩) | (refine w2.mono ?_; clear w2; rintro e' w' ⟨rfl, rfl⟩) | (refine (w3s _).mono ?_; clear w3s; rintro e' w' ⟨rfl, rfl⟩) | (refine (w4r _).mono ?_; clear w4r; rintro e' w' ⟨rfl, rfl⟩)) | (go_at_call 56; first | (refine (h5 _).mono ?_; clear h5; rintro e' w' ⟨rfl, rfl⟩) | (refine (h7 _).mono ?_; clear h7; rintro e' w' ⟨rfl, rfl⟩)) | fail | (go_at_call 20; refine hcp.mono ?_; rintro e' w3 ⟨rfl, hb3⟩; have HB3 := Lib.hid (HB.out.trans (hb3.mono hbz)); have HEND := Lib.hid (fun o => HB3.out.trans ((mbel_new w3 o).mono HB3.out.size)); have HMO3 := HMO.out.mono hb3 (Nat.le_refl _); have m5 := HMO3.c5; rw [HEA.out] at m5; have m4 := fun o => ((HMO3.mono (mbel_new w3 o) (Nat.le_refl _)).c4); have m3 := fun o => ((HMO3.mono (mbel_new w3 o) (Nat.le_refl _)).c3); have HSQ3 := HSQ.out.mono hb3 (Nat.le_refl _); have s1 := fun o => ((HSQ3.mono (mbel_new w3 o) (Nat.le_refl _)).c1); have s4 := fun o => ((HSQ3.mono (mbel_new w3 o) (Nat.le_refl _)).c4); have HS3 := HS1.out.mono hb3 (Nat.le_refl _); have ho := fun (W : World) (hw : Below w3.heap.size w3 W) => rt_of s.cnta s.cntc s.cnt (k : Int) W (HS3.cnt.mono hw (Nat.le_refl _)) HS3.cntm; have HOQ := Lib.hid (fun (o : Obj) (n : Nat) => of_quiet (ho ((w3.alloc o).drewN n) (mbelow_dn (mbel_new w3 o) n))); clear ho; have hrw3 : w3.rangeAt eb (eoff + k * 5) [.string nm, .int .i64 role, .int .i64 stage, .slice sets.a sets.n sets.c, .int .i64 times] := (fun j v hv => (hb3.cell (p := ⟨eb, eoff + k * 5 + j, none⟩) (lt_of_cell (HRG.out j v hv))).trans (HRG.out j v hv)); clear hb3 HMO HSQ HM1 HS1 HRG hcp HMO3 HSQ3 HS3) | (have hq := hrw3; refine wpList_load_mid rfl 105 (.tmp 32) rfl eb (eoff + k * 5) rfl _ _ hq Try.underlying105 rfl msizeEvent ?_; clear hrw3 hq))
      go_ret
      exact ⟨ret_bool HF.out.symm, HEND.out _⟩
    rw [q3] at w4r
    have q3' := inN_iff.1 q3
    obtain ⟨kr, rfl⟩ : ∃ kr : Nat, role = (kr : Int) := ⟨role.toNat, by omega⟩
    have hkr : kr < M.roles.length := by omega
    obtain ⟨rb, roff, hra, hrrg⟩ := recs_at Ro.cells_len (by omega) (HM1.out).roles kr hkr
    have HRA := Lib.hid hra
    have hget : M.roles[kr]? = some M.roles[kr] := List.getElem?_eq_getElem hkr
    have HRO : Hid (∀ W, Below ((w.alloc (.cells #[.slice M.attrs.a M.attrs.n M.attrs.c, .slice M.inits.a M.inits.n M.inits.c, .slice M.users.a M.users.n M.users.c, .slice M.rolesa M.roles.length M.rolesc, .slice M.stagesa M.stages.length M.stagesc, .slice M.eventsa M.events.length M.eventsc, .slice M.guardsa M.guards.length M.guardsc, .slice M.milesa M.miles.length M.milesc, .slice M.sodsa M.sods.length M.sodsc, .slice M.order.a M.order.n M.order.c] 32)).alloc (.cells #[.slice s.vals.a s.vals.n s.vals.c, .int .i64 s.op, .int .i64 s.dn, .slice s.dida s.did.length s.didc, .slice s.cnta s.cnt.length s.cntc] 35)).heap.size ((w.alloc (.cells #[.slice M.attrs.a M.attrs.n M.attrs.c, .slice M.inits.a M.inits.n M.inits.c, .slice M.users.a M.users.n M.users.c, .slice M.rolesa M.roles.length M.rolesc, .slice M.stagesa M.stages.length M.stagesc, .slice M.eventsa M.events.length M.eventsc, .slice M.guardsa M.guards.length M.guardsc, .slice M.milesa M.miles.length M.milesc, .slice M.sodsa M.sods.length M.sodsc, .slice M.order.a M.order.n M.order.c] 32)).alloc (.cells #[.slice s.vals.a s.vals.n s.vals.c, .int .i64 s.op, .int .i64 s.dn, .slice s.dida s.did.length s.didc, .slice s.cnta s.cnt.length s.cntc] 35)) W → W.cell? ⟨rb, roff + kr * 2 + 1, none⟩ = some (.int .i64 M.roles[kr].us)) := Lib.hid (fun W hb => by
      have h1 := hrrg kr hkr 1 _ (show (M.roles[kr].cells)[1]? = some (.int .i64 M.roles[kr].us) from rfl)
      exact (hb.cell (p := ⟨rb, roff + kr * 2 + 1, none⟩) (lt_of_cell h1)).trans h1)
    generalize M.roles[kr] = y at *
    clear hra hrrg q3'
    have h7 := fun W => has_any y.us u W
    by_cases q4 : hasB y.us u = true
    rotate_left
    · have q4 : hasB y.us u = false := by simpa using q4
      rw [q4] at h7
      have HF : Hid (freeB M s (k : Int) u = false) := Lib.hid (by rw [HE2.out]; unfold freeE; simp [q1, q2, q3, q4, hget])
      clear q1 q2 q3 q4 hget HE2
      go_enter Try.func25, Try.ntmps25
      go_wp2_with (first | (go_at_call 60; first | (refine w1.mono ?_; clear w1; rintro e' w' ⟨rfl, rfl⟩) | (refine w2.mono ?_; clear w2; rintro e' w' ⟨rfl, rfl⟩) | (refine (w3s _).mono ?_; clear w3s; rintro e' w' ⟨rfl, rfl⟩) | (refine (w4r _).mono ?_; clear w4r; rintro e' w' ⟨rfl, rfl⟩)) | (go_at_call 56; first | (refine (h5 _).mono ?_; clear h5; rintro e' w' ⟨rfl, rfl⟩) | (refine (h7 _).mono ?_; clear h7; rintro e' w' ⟨rfl, rfl⟩)) | fail | (go_at_call 20; refine hcp.mono ?_; rintro e' w3 ⟨rfl, hb3⟩; have HB3 := Lib.hid (HB.out.trans (hb3.mono hbz)); have HEND := Lib.hid (fun o => HB3.out.trans ((mbel_new w3 o).mono HB3.out.size)); have HMO3 := HMO.out.mono hb3 (Nat.le_refl _); have m5 := HMO3.c5; rw [HEA.out] at m5; have m4 := fun o => ((HMO3.mono (mbel_new w3 o) (Nat.le_refl _)).c4); have m3 := fun o => ((HMO3.mono (mbel_new w3 o) (Nat.le_refl _)).c3); have HSQ3 := HSQ.out.mono hb3 (Nat.le_refl _); have s1 := fun o => ((HSQ3.mono (mbel_new w3 o) (Nat.le_refl _)).c1); have s4 := fun o => ((HSQ3.mono (mbel_new w3 o) (Nat.le_refl _)).c4); have HS3 := HS1.out.mono hb3 (Nat.le_refl _); have ho := fun (W : World) (hw : Below w3.heap.size w3 W) => rt_of s.cnta s.cntc s.cnt (k : Int) W (HS3.cnt.mono hw (Nat.le_refl _)) HS3.cntm; have HOQ := Lib.hid (fun (o : Obj) (n : Nat) => of_quiet (ho ((w3.alloc o).drewN n) (mbelow_dn (mbel_new w3 o) n))); clear ho; have mr := fun o => (mcell_mono (HRO.out _ hb3) (mbel_new w3 o) (Nat.le_refl _)); rw [HRA.out] at m3; have hrw3 : w3.rangeAt eb (eoff + k * 5) [.string nm, .int .i64 (kr : Nat), .int .i64 stage, .slice sets.a sets.n sets.c, .int .i64 times] := (fun j v hv => (hb3.cell (p := ⟨eb, eoff + k * 5 + j, none⟩) (lt_of_cell (HRG.out j v hv))).trans (HRG.out j v hv)); clear hb3 HMO HSQ HM1 HS1 HRG hcp HMO3 HSQ3 HS3) | (have hq := hrw3; refine wpList_load_mid rfl 105 (.tmp 32) rfl eb (eoff + k * 5) rfl _ _ hq Try.underlying105 rfl msizeEvent ?_; clear hrw3 hq))
      go_ret
      exact ⟨ret_bool HF.out.symm, HEND.out _⟩
    rw [q4] at h7
    by_cases q5 : times ≤ 0

    · have HF : Hid (freeB M s (k : Int) u = true) := Lib.hid (by rw [HE2.out]; unfold freeE; simp [q1, q2, q3, q4, q5, hget])
      clear q1 q2 q3 q4 hget HE2
      go_enter Try.func25, Try.ntmps25
      have hd : decide (times ≤ 0) = true := by simp [q5]
      go_wp2_with (first | (go_at_call 60; first | (refine w1.mono ?_; clear w1; rintro e' w' ⟨rfl, rfl⟩) | (refine w2.mono ?_; clear w2; rintro e' w' ⟨rfl, rfl⟩) | (refine (w3s _).mono ?_; clear w3s; rintro e' w' ⟨rfl, rfl⟩) | (refine (w4r _).mono ?_; clear w4r; rintro e' w' ⟨rfl, rfl⟩)) | (go_at_call 56; first | (refine (h5 _).mono ?_; clear h5; rintro e' w' ⟨rfl, rfl⟩) | (refine (h7 _).mono ?_; clear h7; rintro e' w' ⟨rfl, rfl⟩)) | fail | (go_at_call 20; refine hcp.mono ?_; rintro e' w3 ⟨rfl, hb3⟩; have HB3 := Lib.hid (HB.out.trans (hb3.mono hbz)); have HEND := Lib.hid (fun o => HB3.out.trans ((mbel_new w3 o).mono HB3.out.size)); have HMO3 := HMO.out.mono hb3 (Nat.le_refl _); have m5 := HMO3.c5; rw [HEA.out] at m5; have m4 := fun o => ((HMO3.mono (mbel_new w3 o) (Nat.le_refl _)).c4); have m3 := fun o => ((HMO3.mono (mbel_new w3 o) (Nat.le_refl _)).c3); have HSQ3 := HSQ.out.mono hb3 (Nat.le_refl _); have s1 := fun o => ((HSQ3.mono (mbel_new w3 o) (Nat.le_refl _)).c1); have s4 := fun o => ((HSQ3.mono (mbel_new w3 o) (Nat.le_refl _)).c4); have HS3 := HS1.out.mono hb3 (Nat.le_refl _); have ho := fun (W : World) (hw : Below w3.heap.size w3 W) => rt_of s.cnta s.cntc s.cnt (k : Int) W (HS3.cnt.mono hw (Nat.le_refl _)) HS3.cntm; have HOQ := Lib.hid (fun (o : Obj) (n : Nat) => of_quiet (ho ((w3.alloc o).drewN n) (mbelow_dn (mbel_new w3 o) n))); clear ho; have mr := fun o => (mcell_mono (HRO.out _ hb3) (mbel_new w3 o) (Nat.le_refl _)); rw [HRA.out] at m3; have hrw3 : w3.rangeAt eb (eoff + k * 5) [.string nm, .int .i64 (kr : Nat), .int .i64 stage, .slice sets.a sets.n sets.c, .int .i64 times] := (fun j v hv => (hb3.cell (p := ⟨eb, eoff + k * 5 + j, none⟩) (lt_of_cell (HRG.out j v hv))).trans (HRG.out j v hv)); clear hb3 HMO HSQ HM1 HS1 HRG hcp HMO3 HSQ3 HS3) | (have hq := hrw3; refine wpList_load_mid rfl 105 (.tmp 32) rfl eb (eoff + k * 5) rfl _ _ hq Try.underlying105 rfl msizeEvent ?_; clear hrw3 hq))
      go_quiet (first | (go_at_call 61; refine Calls.quiet_of_same (HOQ.out _ _)))
      all_goals go_wp2
      all_goals go_ret
      all_goals exact ⟨ret_bool (by first | exact HF.out.symm | (rw [HF.out]; exact decide_eq_false (by omega))), by repeat (first | exact HEND.out _ | apply mbelow_dn | apply Below.drew)⟩
    obtain ⟨z, hz⟩ : ∃ z, ofL s.cnt (k : Int) = z := ⟨_, rfl⟩
    have HOF := Lib.hid hz
    by_cases q6 : z < times
    · have q6b : ofL s.cnt (k : Int) < times := by rw [hz]; exact q6
      have HF : Hid (freeB M s (k : Int) u = true) := Lib.hid (by rw [HE2.out]; unfold freeE; simp [q1, q2, q3, q4, q6b, hget])
      clear q1 q2 q3 q4 hget HE2 q6b hz
      go_enter Try.func25, Try.ntmps25
      have hd : decide (times ≤ 0) = false := by simp; omega
      go_wp2_with (first | (go_at_call 60; first | (refine w1.mono ?_; clear w1; rintro e' w' ⟨rfl, rfl⟩) | (refine w2.mono ?_; clear w2; rintro e' w' ⟨rfl, rfl⟩) | (refine (w3s _).mono ?_; clear w3s; rintro e' w' ⟨rfl, rfl⟩) | (refine (w4r _).mono ?_; clear w4r; rintro e' w' ⟨rfl, rfl⟩)) | (go_at_call 56; first | (refine (h5 _).mono ?_; clear h5; rintro e' w' ⟨rfl, rfl⟩) | (refine (h7 _).mono ?_; clear h7; rintro e' w' ⟨rfl, rfl⟩)) | fail | (go_at_call 20; refine hcp.mono ?_; rintro e' w3 ⟨rfl, hb3⟩; have HB3 := Lib.hid (HB.out.trans (hb3.mono hbz)); have HEND := Lib.hid (fun o => HB3.out.trans ((mbel_new w3 o).mono HB3.out.size)); have HMO3 := HMO.out.mono hb3 (Nat.le_refl _); have m5 := HMO3.c5; rw [HEA.out] at m5; have m4 := fun o => ((HMO3.mono (mbel_new w3 o) (Nat.le_refl _)).c4); have m3 := fun o => ((HMO3.mono (mbel_new w3 o) (Nat.le_refl _)).c3); have HSQ3 := HSQ.out.mono hb3 (Nat.le_refl _); have s1 := fun o => ((HSQ3.mono (mbel_new w3 o) (Nat.le_refl _)).c1); have s4 := fun o => ((HSQ3.mono (mbel_new w3 o) (Nat.le_refl _)).c4); have HS3 := HS1.out.mono hb3 (Nat.le_refl _); have ho := fun (W : World) (hw : Below w3.heap.size w3 W) => rt_of s.cnta s.cntc s.cnt (k : Int) W (HS3.cnt.mono hw (Nat.le_refl _)) HS3.cntm; have HOQ := Lib.hid (fun (o : Obj) (n : Nat) => of_quiet (ho ((w3.alloc o).drewN n) (mbelow_dn (mbel_new w3 o) n))); clear ho; rw [HOF.out] at HOQ; have mr := fun o => (mcell_mono (HRO.out _ hb3) (mbel_new w3 o) (Nat.le_refl _)); rw [HRA.out] at m3; have hrw3 : w3.rangeAt eb (eoff + k * 5) [.string nm, .int .i64 (kr : Nat), .int .i64 stage, .slice sets.a sets.n sets.c, .int .i64 times] := (fun j v hv => (hb3.cell (p := ⟨eb, eoff + k * 5 + j, none⟩) (lt_of_cell (HRG.out j v hv))).trans (HRG.out j v hv)); clear hb3 HMO HSQ HM1 HS1 HRG hcp HMO3 HSQ3 HS3) | (have hq := hrw3; refine wpList_load_mid rfl 105 (.tmp 32) rfl eb (eoff + k * 5) rfl _ _ hq Try.underlying105 rfl msizeEvent ?_; clear hrw3 hq))
      go_quiet (first | (go_at_call 61; refine Calls.quiet_of_same (HOQ.out _ _)))
      all_goals go_wp2
      all_goals go_ret
      all_goals exact ⟨ret_bool (by first | exact HF.out.symm | (rw [HF.out]; exact decide_eq_false (by omega))), by repeat (first | exact HEND.out _ | apply mbelow_dn | apply Below.drew)⟩
    · have q6b : ¬ ofL s.cnt (k : Int) < times := by rw [hz]; exact q6
      have HF : Hid (freeB M s (k : Int) u = false) := Lib.hid (by rw [HE2.out]; unfold freeE; simp [q1, q2, q3, q4, q5, q6b, hget])
      clear q1 q2 q3 q4 hget HE2 q6b hz
      go_enter Try.func25, Try.ntmps25
      have hd : decide (times ≤ 0) = false := by simp; omega
      go_wp2_with (first | (go_at_call 60; first | (refine w1.mono ?_; clear w1; rintro e' w' ⟨rfl, rfl⟩) | (refine w2.mono ?_; clear w2; rintro e' w' ⟨rfl, rfl⟩) | (refine (w3s _).mono ?_; clear w3s; rintro e' w' ⟨rfl, rfl⟩) | (refine (w4r _).mono ?_; clear w4r; rintro e' w' ⟨rfl, rfl⟩)) | (go_at_call 56; first | (refine (h5 _).mono ?_; clear h5; rintro e' w' ⟨rfl, rfl⟩) | (refine (h7 _).mono ?_; clear h7; rintro e' w' ⟨rfl, rfl⟩)) | fail | (go_at_call 20; refine hcp.mono ?_; rintro e' w3 ⟨rfl, hb3⟩; have HB3 := Lib.hid (HB.out.trans (hb3.mono hbz)); have HEND := Lib.hid (fun o => HB3.out.trans ((mbel_new w3 o).mono HB3.out.size)); have HMO3 := HMO.out.mono hb3 (Nat.le_refl _); have m5 := HMO3.c5; rw [HEA.out] at m5; have m4 := fun o => ((HMO3.mono (mbel_new w3 o) (Nat.le_refl _)).c4); have m3 := fun o => ((HMO3.mono (mbel_new w3 o) (Nat.le_refl _)).c3); have HSQ3 := HSQ.out.mono hb3 (Nat.le_refl _); have s1 := fun o => ((HSQ3.mono (mbel_new w3 o) (Nat.le_refl _)).c1); have s4 := fun o => ((HSQ3.mono (mbel_new w3 o) (Nat.le_refl _)).c4); have HS3 := HS1.out.mono hb3 (Nat.le_refl _); have ho := fun (W : World) (hw : Below w3.heap.size w3 W) => rt_of s.cnta s.cntc s.cnt (k : Int) W (HS3.cnt.mono hw (Nat.le_refl _)) HS3.cntm; have HOQ := Lib.hid (fun (o : Obj) (n : Nat) => of_quiet (ho ((w3.alloc o).drewN n) (mbelow_dn (mbel_new w3 o) n))); clear ho; rw [HOF.out] at HOQ; have mr := fun o => (mcell_mono (HRO.out _ hb3) (mbel_new w3 o) (Nat.le_refl _)); rw [HRA.out] at m3; have hrw3 : w3.rangeAt eb (eoff + k * 5) [.string nm, .int .i64 (kr : Nat), .int .i64 stage, .slice sets.a sets.n sets.c, .int .i64 times] := (fun j v hv => (hb3.cell (p := ⟨eb, eoff + k * 5 + j, none⟩) (lt_of_cell (HRG.out j v hv))).trans (HRG.out j v hv)); clear hb3 HMO HSQ HM1 HS1 HRG hcp HMO3 HSQ3 HS3) | (have hq := hrw3; refine wpList_load_mid rfl 105 (.tmp 32) rfl eb (eoff + k * 5) rfl _ _ hq Try.underlying105 rfl msizeEvent ?_; clear hrw3 hq))
      go_quiet (first | (go_at_call 61; refine Calls.quiet_of_same (HOQ.out _ _)))
      all_goals go_wp2
      all_goals go_ret
      all_goals exact ⟨ret_bool (by first | exact HF.out.symm | (rw [HF.out]; exact decide_eq_false (by omega))), by repeat (first | exact HEND.out _ | apply mbelow_dn | apply Below.drew)⟩
end Go.Proofs.Ytdpmkhmjihgckaa
