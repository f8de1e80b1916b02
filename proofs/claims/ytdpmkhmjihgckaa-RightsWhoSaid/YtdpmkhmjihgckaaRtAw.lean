/-
  Rights: chapter 17's example.
-/
import Derived.Test.YtdpmkhmjihgckaaRtWho
namespace Go.Proofs.Ytdpmkhmjihgckaa
open Go.RowKit
set_option linter.unusedVariables false
set_option linter.unusedSimpArgs false

theorem minfoEvent : (Try.prog.info? 105).map (fun i => (i.zero, i.size, i.bytes)) = some (some (.agg #[.string { data := #[] }, .int .i64 0, .int .i64 0, .slice none 0 0, .int .i64 0]), 5, 64) := by kernel_rfl
theorem make_ev {w : World} {ops : Array Oper} {rest : List Oper} {o : Oper} {a : Act} {Q : Exit → Act → World → Prop}
    (hg : o.guard = none) (l c : Operand) (hop : o.op = Op.makeSlice 26 l c) (hl : a.eval l = .int .i64 2) (hc : a.eval c = .int .i64 2)
    (hK : ∀ w', w'.ownsRow w.heap.size 105 5 (.slice (some ⟨w.heap.size, 0, none⟩) 2 2) 2 (Rec.flat Ev.cells [⟨{ data := #[] }, 0, 0, ⟨none, 0, 0⟩, 0⟩, ⟨{ data := #[] }, 0, 0, ⟨none, 0, 0⟩, 0⟩])  → w.heap.size < w'.heap.size → Below w.heap.size w w' → wpList Try.prog ops Q rest (a.put o.dst (.slice (some ⟨w.heap.size, 0, none⟩) 2 2)) w') :
    wpList Try.prog ops Q (o :: rest) a w := by
  obtain ⟨i, hi0, hz0, hz1, hz2⟩ := info_got minfoEvent
  refine wpList_make_full w hg l c 26 hop w.heap.size 105 i _ 5 Try.underlying26 hi0 hz0 hz1 .i64 .i64 2 2 2 hl hc rfl rfl (by rw [hz2]; omega) (by unfold maxLen; omega) (Nat.le_refl _) ?_
  intro w' h1 h2
  have e : (madeCells (Value.agg #[.string { data := #[] }, .int .i64 0, .int .i64 0, .slice none 0 0, .int .i64 0]).cells (2 * 5)).toList = Rec.flat Ev.cells [⟨{ data := #[] }, 0, 0, ⟨none, 0, 0⟩, 0⟩, ⟨{ data := #[] }, 0, 0, ⟨none, 0, 0⟩, 0⟩] := by
    apply List.ext_getElem
    · simp [madeCells, Rec.flat, Ev.cells]
    · intro k h1 h2
      have hk : k < 10 := by simpa [Rec.flat, Ev.cells] using h2
      simp only [madeCells, Array.toList_map, Array.toList_range, List.getElem_map, List.getElem_range]
      match k, hk with
      | 0, _ => rfl
      | 1, _ => rfl
      | 2, _ => rfl
      | 3, _ => rfl
      | 4, _ => rfl
      | 5, _ => rfl
      | 6, _ => rfl
      | 7, _ => rfl
      | 8, _ => rfl
      | 9, _ => rfl
  rw [e] at h1
  exact hK w' h1 ((h1.lt _ rfl).2) ((Keeps.grown (S := fun _ => False) h2 (fun k hk => by cases hk)).below (fun k hk => hk.elim) (Nat.le_refl _))
def aM (p q : Nat) : Mo := { attrs := ⟨none, 0, 0⟩, inits := ⟨none, 0, 0⟩, users := ⟨some ⟨p, 0, none⟩, 1, 1⟩, roles := [⟨{ data := #[] }, 1⟩], stages := [⟨{ data := #[] }, -1⟩], events := [⟨{ data := #[] }, 0, 0, ⟨none, 0, 0⟩, 0⟩, ⟨{ data := #[] }, 0, 0, ⟨none, 0, 0⟩, 0⟩], guards := [], miles := [], sods := [⟨0, 1⟩], order := ⟨none, 0, 0⟩, rolesa := some ⟨p + 1, 0, none⟩, rolesc := 1, stagesa := some ⟨p + 1 + 1, 0, none⟩, stagesc := 1, eventsa := some ⟨p + 1 + 1 + 1, 0, none⟩, eventsc := 2, guardsa := none, guardsc := 0, milesa := none, milesc := 0, sodsa := some ⟨q, 0, none⟩, sodsc := 1 }
def aS (q : Nat) : Sq := { vals := ⟨none, 0, 0⟩, op := 1, dn := 0, did := [1, 0], cnt := [0, 0], dida := some ⟨q + 1 + 1, 0, none⟩, didc := 2, cnta := some ⟨q + 1 + 1 + 1, 0, none⟩, cntc := 2 }
theorem aM_val (p q : Nat) : (aM p q).val = .agg #[.slice none 0 0, .slice none 0 0, .slice (some ⟨p, 0, none⟩) 1 1, .slice (some ⟨p + 1, 0, none⟩) 1 1, .slice (some ⟨p + 1 + 1, 0, none⟩) 1 1, .slice (some ⟨p + 1 + 1 + 1, 0, none⟩) 2 2, .slice none 0 0, .slice none 0 0, .slice (some ⟨q, 0, none⟩) 1 1, .slice none 0 0] := rfl
theorem aS_val (q : Nat) : (aS q).val = .agg #[.slice none 0 0, .int .i64 1, .int .i64 0, .slice (some ⟨q + 1 + 1, 0, none⟩) 2 2, .slice (some ⟨q + 1 + 1 + 1, 0, none⟩) 2 2] := rfl
theorem aM_cpl (p q : Nat) : cpl (aM p q) (aS q) = false := dcd_no (by rintro ⟨i, x, hi, _⟩; simp [aM] at hi)
theorem aM_free (p q : Nat) (e : Nat) (he : e < 2) : freeB (aM p q) (aS q) (e : Nat) 0 = true := by
  unfold freeB
  rw [aM_cpl]
  have h : e = 0 ∨ e = 1 := by omega
  rcases h with rfl | rfl <;> simp [aM, aS, inN, freeE, hasB, inB, BitsPlain.bit, ofL]
theorem aM_en0 (p q : Nat) : enB (aM p q) (aS q) ((0 : Nat) : Int) 0 = true := by
  unfold enB
  rw [aM_free p q 0 (by omega), dcd_no]
  · rfl
  · rintro ⟨i, x, hi, hx, h⟩
    have hi0 : i = 0 := by simp [aM] at hi; omega
    subst hi0
    simp [aM] at hx
    subst hx
    rcases h with ⟨_, h⟩ | ⟨h, _⟩
    · simp [hadB, aS, ofL, hasB, inB, BitsPlain.bit] at h
    · simp at h
theorem aM_en1 (p q : Nat) : enB (aM p q) (aS q) ((1 : Nat) : Int) 0 = false := by
  unfold enB
  rw [dcd_yes]
  · simp
  · exact ⟨0, ⟨0, 1⟩, by simp [aM], rfl, Or.inr ⟨rfl, by simp [hadB, aS, ofL, hasB, inB, BitsPlain.bit]⟩⟩
theorem mreads_new (w : World) (xs : List Value) (e : TypeId) (p : Nat) (hp : w.heap.size = p) : Reads (w.alloc (.cells xs.toArray e)) (some ⟨p, 0, none⟩) xs := by
  subst hp
  exact Or.inr ⟨w.heap.size, 0, rfl, fun j hj => by
    rw [Nat.zero_add]
    simp⟩
theorem fits_small {n : Int} (h : -1 ≤ n ∧ n ≤ 2) : fits n := ⟨by omega, by omega⟩
theorem aw_world (w w4 : World) (own4 : w4.ownsRow (((w.alloc (.cells #[.string { data := #[117] }] 9)).alloc (.cells #[.string { data := #[] }, .int .i64 1] 107)).alloc (.cells #[.string { data := #[] }, .int .i64 (-1)] 109)).heap.size 105 5 (.slice (some ⟨(((w.alloc (.cells #[.string { data := #[117] }] 9)).alloc (.cells #[.string { data := #[] }, .int .i64 1] 107)).alloc (.cells #[.string { data := #[] }, .int .i64 (-1)] 109)).heap.size, 0, none⟩) 2 2) 2 (Rec.flat Ev.cells [⟨{ data := #[] }, 0, 0, ⟨none, 0, 0⟩, 0⟩, ⟨{ data := #[] }, 0, 0, ⟨none, 0, 0⟩, 0⟩])) (b4 : Below (((w.alloc (.cells #[.string { data := #[117] }] 9)).alloc (.cells #[.string { data := #[] }, .int .i64 1] 107)).alloc (.cells #[.string { data := #[] }, .int .i64 (-1)] 109)).heap.size (((w.alloc (.cells #[.string { data := #[117] }] 9)).alloc (.cells #[.string { data := #[] }, .int .i64 1] 107)).alloc (.cells #[.string { data := #[] }, .int .i64 (-1)] 109)) w4) :
    ∃ W8, (((((w4.alloc (.cells #[.int .i64 0, .int .i64 1] 111)).alloc (.cells #[.slice none 0 0, .slice none 0 0, .slice (some ⟨w.heap.size, 0, none⟩) 1 1, .slice (some ⟨w.heap.size + 1, 0, none⟩) 1 1, .slice (some ⟨w.heap.size + 1 + 1, 0, none⟩) 1 1, .slice (some ⟨w.heap.size + 1 + 1 + 1, 0, none⟩) 2 2, .slice none 0 0, .slice none 0 0, .slice (some ⟨w4.heap.size, 0, none⟩) 1 1, .slice none 0 0] 32)).alloc (.cells #[.int .i64 1, .int .i64 0] 3)).alloc (.cells #[.int .i64 0, .int .i64 0] 3)).alloc (.cells #[.slice none 0 0, .int .i64 1, .int .i64 0, .slice (some ⟨w4.heap.size + 1 + 1, 0, none⟩) 2 2, .slice (some ⟨w4.heap.size + 1 + 1 + 1, 0, none⟩) 2 2] 35)) = W8 ∧ Below w.heap.size w W8 ∧ RdM W8 (aM w.heap.size w4.heap.size) ∧ RdS W8 (aS w4.heap.size) ∧ MoAt W8 (w4.heap.size + 1) (aM w.heap.size w4.heap.size) ∧ SqAt W8 (w4.heap.size + 1 + 1 + 1 + 1) (aS w4.heap.size) := by
  refine ⟨_, rfl, ?_⟩
  have c1 := mbel_new w (.cells #[.string { data := #[117] }] 9)
  have z1 : (w.alloc (.cells #[.string { data := #[117] }] 9)).heap.size = w.heap.size + 1 := by simp
  generalize w.alloc (.cells #[.string { data := #[117] }] 9) = W1 at *
  have r2 := mreads_new W1 [.string { data := #[] }, .int .i64 1] 107 _ z1
  have c2 := mbel_new W1 (.cells #[.string { data := #[] }, .int .i64 1] 107)
  have z2 : (W1.alloc (.cells #[.string { data := #[] }, .int .i64 1] 107)).heap.size = w.heap.size + 1 + 1 := by simp [z1]
  generalize W1.alloc (.cells #[.string { data := #[] }, .int .i64 1] 107) = W2 at *
  have r3 := mreads_new W2 [.string { data := #[] }, .int .i64 (-1)] 109 _ z2
  have c3 := mbel_new W2 (.cells #[.string { data := #[] }, .int .i64 (-1)] 109)
  have z3 : (W2.alloc (.cells #[.string { data := #[] }, .int .i64 (-1)] 109)).heap.size = w.heap.size + 1 + 1 + 1 := by simp [z2]
  generalize W2.alloc (.cells #[.string { data := #[] }, .int .i64 (-1)] 109) = W3 at *
  have b3 : Below w.heap.size w W3 := c1.trans ((c2.mono c1.size).trans (c3.mono (Nat.le_trans c1.size c2.size)))
  have r4 : Reads w4 (some ⟨w.heap.size + 1 + 1 + 1, 0, none⟩) (Rec.flat Ev.cells [⟨{ data := #[] }, 0, 0, ⟨none, 0, 0⟩, 0⟩, ⟨{ data := #[] }, 0, 0, ⟨none, 0, 0⟩, 0⟩]) := Or.inr ⟨_, 0, rfl, fun j hj => by
    rw [Nat.zero_add]
    rw [z3] at own4
    exact own4.cellAt j (by simpa [Rec.flat, Ev.cells] using hj)⟩
  have h4 : Below w.heap.size w w4 := b3.trans (b4.mono b3.size)
  have r2' := (r2.mono c3 (Nat.le_refl _)).mono b4 (Nat.le_refl _)
  have r3' := r3.mono b4 (Nat.le_refl _)
  clear own4 r2 r3 c1 c2 c3
  have r5 := mreads_new w4 [.int .i64 0, .int .i64 1] 111 _ rfl
  have c5 := mbel_new w4 (.cells #[.int .i64 0, .int .i64 1] 111)
  have z5 : (w4.alloc (.cells #[.int .i64 0, .int .i64 1] 111)).heap.size = w4.heap.size + 1 := by simp
  generalize w4.alloc (.cells #[.int .i64 0, .int .i64 1] 111) = W5 at *
  have m6 := mo_new W5 (aM w.heap.size w4.heap.size) 32
  have c6 := mbel_new W5 (.cells #[.slice none 0 0, .slice none 0 0, .slice (some ⟨w.heap.size, 0, none⟩) 1 1, .slice (some ⟨w.heap.size + 1, 0, none⟩) 1 1, .slice (some ⟨w.heap.size + 1 + 1, 0, none⟩) 1 1, .slice (some ⟨w.heap.size + 1 + 1 + 1, 0, none⟩) 2 2, .slice none 0 0, .slice none 0 0, .slice (some ⟨w4.heap.size, 0, none⟩) 1 1, .slice none 0 0] 32)
  have z6 : (W5.alloc (.cells #[.slice none 0 0, .slice none 0 0, .slice (some ⟨w.heap.size, 0, none⟩) 1 1, .slice (some ⟨w.heap.size + 1, 0, none⟩) 1 1, .slice (some ⟨w.heap.size + 1 + 1, 0, none⟩) 1 1, .slice (some ⟨w.heap.size + 1 + 1 + 1, 0, none⟩) 2 2, .slice none 0 0, .slice none 0 0, .slice (some ⟨w4.heap.size, 0, none⟩) 1 1, .slice none 0 0] 32)).heap.size = w4.heap.size + 1 + 1 := by simp [z5]
  rw [z5] at m6
  change MoAt (W5.alloc (.cells #[.slice none 0 0, .slice none 0 0, .slice (some ⟨w.heap.size, 0, none⟩) 1 1, .slice (some ⟨w.heap.size + 1, 0, none⟩) 1 1, .slice (some ⟨w.heap.size + 1 + 1, 0, none⟩) 1 1, .slice (some ⟨w.heap.size + 1 + 1 + 1, 0, none⟩) 2 2, .slice none 0 0, .slice none 0 0, .slice (some ⟨w4.heap.size, 0, none⟩) 1 1, .slice none 0 0] 32)) _ _ at m6
  generalize W5.alloc (.cells #[.slice none 0 0, .slice none 0 0, .slice (some ⟨w.heap.size, 0, none⟩) 1 1, .slice (some ⟨w.heap.size + 1, 0, none⟩) 1 1, .slice (some ⟨w.heap.size + 1 + 1, 0, none⟩) 1 1, .slice (some ⟨w.heap.size + 1 + 1 + 1, 0, none⟩) 2 2, .slice none 0 0, .slice none 0 0, .slice (some ⟨w4.heap.size, 0, none⟩) 1 1, .slice none 0 0] 32) = W6 at *
  have r7 := mreads_new W6 [.int .i64 1, .int .i64 0] 3 _ z6
  have c7 := mbel_new W6 (.cells #[.int .i64 1, .int .i64 0] 3)
  have z7 : (W6.alloc (.cells #[.int .i64 1, .int .i64 0] 3)).heap.size = w4.heap.size + 1 + 1 + 1 := by simp [z6]
  generalize W6.alloc (.cells #[.int .i64 1, .int .i64 0] 3) = W7 at *
  have r8 := mreads_new W7 [.int .i64 0, .int .i64 0] 3 _ z7
  have c8 := mbel_new W7 (.cells #[.int .i64 0, .int .i64 0] 3)
  have z8 : (W7.alloc (.cells #[.int .i64 0, .int .i64 0] 3)).heap.size = w4.heap.size + 1 + 1 + 1 + 1 := by simp [z7]
  generalize W7.alloc (.cells #[.int .i64 0, .int .i64 0] 3) = W8 at *
  have s9 := sq_new W8 (aS w4.heap.size) 35
  have c9 := mbel_new W8 (.cells #[.slice none 0 0, .int .i64 1, .int .i64 0, .slice (some ⟨w4.heap.size + 1 + 1, 0, none⟩) 2 2, .slice (some ⟨w4.heap.size + 1 + 1 + 1, 0, none⟩) 2 2] 35)
  rw [z8] at s9
  change SqAt (W8.alloc (.cells #[.slice none 0 0, .int .i64 1, .int .i64 0, .slice (some ⟨w4.heap.size + 1 + 1, 0, none⟩) 2 2, .slice (some ⟨w4.heap.size + 1 + 1 + 1, 0, none⟩) 2 2] 35)) _ _ at s9
  generalize W8.alloc (.cells #[.slice none 0 0, .int .i64 1, .int .i64 0, .slice (some ⟨w4.heap.size + 1 + 1, 0, none⟩) 2 2, .slice (some ⟨w4.heap.size + 1 + 1 + 1, 0, none⟩) 2 2] 35) = W9 at *
  have k8 := c9
  have k7 : Below W7.heap.size W7 W9 := c8.trans (k8.mono c8.size)
  have k6 : Below W6.heap.size W6 W9 := c7.trans (k7.mono c7.size)
  have k5 : Below W5.heap.size W5 W9 := c6.trans (k6.mono c6.size)
  have k4 : Below w4.heap.size w4 W9 := c5.trans (k5.mono c5.size)
  refine ⟨h4.trans (k4.mono h4.size), ?_, ?_, m6.mono k6 (Nat.le_refl _), s9⟩
  · exact ⟨by simp [aM], by simp [aM], by simp [aM, maxLen], r2'.mono k4 (Nat.le_refl _), by simp [aM, maxLen], fun x hx => by simp [aM] at hx; subst hx; exact ⟨fits_small (by simp)⟩, r3'.mono k4 (Nat.le_refl _), by simp [aM, maxLen], fun x hx => by simp [aM] at hx; subst hx; exact ⟨fits_small (by simp)⟩, r4.mono k4 (Nat.le_refl _), by simp [aM, maxLen], fun x hx => by simp [aM] at hx; subst hx; exact ⟨fits_small (by simp), fits_small (by simp), fits_small (by simp)⟩, Or.inl rfl, by simp [aM], fun x hx => by simp [aM] at hx, Or.inl rfl, by simp [aM], fun x hx => by simp [aM] at hx, r5.mono k5 (Nat.le_refl _), by simp [aM, maxLen], fun x hx => by simp [aM] at hx; subst hx; exact ⟨fits_small (by simp), fits_small (by simp)⟩, by simp [aM]⟩
  · exact ⟨by simp [aS], fits_small (by simp [aS]), fits_small (by simp [aS]), r7.mono (c8.trans (k8.mono c8.size)) (by omega), by simp [aS, maxLen], fun x hx => by simp [aS] at hx; exact fits_small (by omega), r8.mono k8 (Nat.le_refl _), by simp [aS, maxLen], fun x hx => by simp [aS] at hx; exact fits_small (by omega)⟩
set_option maxRecDepth 100000 in
set_option maxHeartbeats 4000000 in
theorem rawake_any (w : World) : Calls Try.prog 13 #[] w fun e w2 => e = .returned (.bool true) ∧ Below w.heap.size w w2 := by
  go_enter Try.func13, Try.ntmps13
  go_wp2_with (at_make; refine make_ev rfl _ _ rfl rfl rfl ?_; intro w4 own4 zz4 b4; have HA := Lib.hid (aw_world w w4 own4 b4); clear own4 zz4 b4)
  obtain ⟨W8, hW8, hB, hM, hS, hMo, hSq⟩ := HA.out
  clear HA
  rw [hW8]
  clear hW8
  have HE0 : Calls Try.prog 24 #[.agg #[.slice none 0 0, .slice none 0 0, .slice (some ⟨w.heap.size, 0, none⟩) 1 1, .slice (some ⟨w.heap.size + 1, 0, none⟩) 1 1, .slice (some ⟨w.heap.size + 1 + 1, 0, none⟩) 1 1, .slice (some ⟨w.heap.size + 1 + 1 + 1, 0, none⟩) 2 2, .slice none 0 0, .slice none 0 0, .slice (some ⟨w4.heap.size, 0, none⟩) 1 1, .slice none 0 0], .agg #[.slice none 0 0, .int .i64 1, .int .i64 0, .slice (some ⟨w4.heap.size + 1 + 1, 0, none⟩) 2 2, .slice (some ⟨w4.heap.size + 1 + 1 + 1, 0, none⟩) 2 2], .int .i64 0, .int .i64 0] W8 fun r w' => r = .returned (.bool true) ∧ Below W8.heap.size W8 w' := by
    have := rt_enabled (aM w.heap.size w4.heap.size) (aS w4.heap.size) 0 0 W8 hM hS
    rw [show enB (aM w.heap.size w4.heap.size) (aS w4.heap.size) 0 0 = true from aM_en0 _ _] at this
    exact this
  have HF1 : Hid (∀ W, Below W8.heap.size W8 W → Calls Try.prog 25 #[.agg #[.slice none 0 0, .slice none 0 0, .slice (some ⟨w.heap.size, 0, none⟩) 1 1, .slice (some ⟨w.heap.size + 1, 0, none⟩) 1 1, .slice (some ⟨w.heap.size + 1 + 1, 0, none⟩) 1 1, .slice (some ⟨w.heap.size + 1 + 1 + 1, 0, none⟩) 2 2, .slice none 0 0, .slice none 0 0, .slice (some ⟨w4.heap.size, 0, none⟩) 1 1, .slice none 0 0], .agg #[.slice none 0 0, .int .i64 1, .int .i64 0, .slice (some ⟨w4.heap.size + 1 + 1, 0, none⟩) 2 2, .slice (some ⟨w4.heap.size + 1 + 1 + 1, 0, none⟩) 2 2], .int .i64 1, .int .i64 0] W fun r w' => r = .returned (.bool true) ∧ Below W.heap.size W w') := Lib.hid fun W hW => by
    have := rt_free (aM w.heap.size w4.heap.size) (aS w4.heap.size) 1 0 W (hM.mono hW (Nat.le_refl _)) (hS.mono hW (Nat.le_refl _))
    rw [show freeB (aM w.heap.size w4.heap.size) (aS w4.heap.size) 1 0 = true from aM_free _ _ 1 (by omega)] at this
    exact this
  have HE1 : Hid (∀ W, Below W8.heap.size W8 W → Calls Try.prog 24 #[.agg #[.slice none 0 0, .slice none 0 0, .slice (some ⟨w.heap.size, 0, none⟩) 1 1, .slice (some ⟨w.heap.size + 1, 0, none⟩) 1 1, .slice (some ⟨w.heap.size + 1 + 1, 0, none⟩) 1 1, .slice (some ⟨w.heap.size + 1 + 1 + 1, 0, none⟩) 2 2, .slice none 0 0, .slice none 0 0, .slice (some ⟨w4.heap.size, 0, none⟩) 1 1, .slice none 0 0], .agg #[.slice none 0 0, .int .i64 1, .int .i64 0, .slice (some ⟨w4.heap.size + 1 + 1, 0, none⟩) 2 2, .slice (some ⟨w4.heap.size + 1 + 1 + 1, 0, none⟩) 2 2], .int .i64 1, .int .i64 0] W fun r w' => r = .returned (.bool false) ∧ Below W.heap.size W w') := Lib.hid fun W hW => by
    have := rt_enabled (aM w.heap.size w4.heap.size) (aS w4.heap.size) 1 0 W (hM.mono hW (Nat.le_refl _)) (hS.mono hW (Nat.le_refl _))
    rw [show enB (aM w.heap.size w4.heap.size) (aS w4.heap.size) 1 0 = false from aM_en1 _ _] at this
    exact this
  have HMO := Lib.hid hMo
  have HSQ := Lib.hid hSq
  have HB := Lib.hid hB
  clear hM hS hMo hSq hB
  refine HE0.mono ?_
  rintro e W9 ⟨rfl, hb9⟩
  have hMo := HMO.out.mono hb9 (Nat.le_refl _)
  have hSq := HSQ.out.mono hb9 (Nat.le_refl _)
  have m0 : W9.cell? ⟨w4.heap.size + 1, 0, none⟩ = some (.slice none 0 0) := hMo.c0
  have m1 : W9.cell? ⟨w4.heap.size + 1, 1, none⟩ = some (.slice none 0 0) := hMo.c1
  have m2 : W9.cell? ⟨w4.heap.size + 1, 2, none⟩ = some (.slice (some ⟨w.heap.size, 0, none⟩) 1 1) := hMo.c2
  have m3 : W9.cell? ⟨w4.heap.size + 1, 3, none⟩ = some (.slice (some ⟨w.heap.size + 1, 0, none⟩) 1 1) := hMo.c3
  have m4 : W9.cell? ⟨w4.heap.size + 1, 4, none⟩ = some (.slice (some ⟨w.heap.size + 1 + 1, 0, none⟩) 1 1) := hMo.c4
  have m5 : W9.cell? ⟨w4.heap.size + 1, 5, none⟩ = some (.slice (some ⟨w.heap.size + 1 + 1 + 1, 0, none⟩) 2 2) := hMo.c5
  have m6 : W9.cell? ⟨w4.heap.size + 1, 6, none⟩ = some (.slice none 0 0) := hMo.c6
  have m7 : W9.cell? ⟨w4.heap.size + 1, 7, none⟩ = some (.slice none 0 0) := hMo.c7
  have m8 : W9.cell? ⟨w4.heap.size + 1, 8, none⟩ = some (.slice (some ⟨w4.heap.size, 0, none⟩) 1 1) := hMo.c8
  have m9 : W9.cell? ⟨w4.heap.size + 1, 9, none⟩ = some (.slice none 0 0) := hMo.c9
  have s0 : W9.cell? ⟨w4.heap.size + 1 + 1 + 1 + 1, 0, none⟩ = some (.slice none 0 0) := hSq.c0
  have s1 : W9.cell? ⟨w4.heap.size + 1 + 1 + 1 + 1, 1, none⟩ = some (.int .i64 1) := hSq.c1
  have s2 : W9.cell? ⟨w4.heap.size + 1 + 1 + 1 + 1, 2, none⟩ = some (.int .i64 0) := hSq.c2
  have s3 : W9.cell? ⟨w4.heap.size + 1 + 1 + 1 + 1, 3, none⟩ = some (.slice (some ⟨w4.heap.size + 1 + 1, 0, none⟩) 2 2) := hSq.c3
  have s4 : W9.cell? ⟨w4.heap.size + 1 + 1 + 1 + 1, 4, none⟩ = some (.slice (some ⟨w4.heap.size + 1 + 1 + 1, 0, none⟩) 2 2) := hSq.c4
  have HB9 := Lib.hid hb9
  clear hMo hSq hb9 HE0
  go_wp2_with (go_at_call 25; refine (HF1.out _ HB9.out).mono ?_; rintro e W10 ⟨rfl, hb10⟩; have HB10 := Lib.hid (HB9.out.trans (hb10.mono HB9.out.size)); have hMo := HMO.out.mono HB10.out (Nat.le_refl _); have hSq := HSQ.out.mono HB10.out (Nat.le_refl _); have m0 : W10.cell? ⟨w4.heap.size + 1, 0, none⟩ = some (.slice none 0 0) := hMo.c0; have m1 : W10.cell? ⟨w4.heap.size + 1, 1, none⟩ = some (.slice none 0 0) := hMo.c1; have m2 : W10.cell? ⟨w4.heap.size + 1, 2, none⟩ = some (.slice (some ⟨w.heap.size, 0, none⟩) 1 1) := hMo.c2; have m3 : W10.cell? ⟨w4.heap.size + 1, 3, none⟩ = some (.slice (some ⟨w.heap.size + 1, 0, none⟩) 1 1) := hMo.c3; have m4 : W10.cell? ⟨w4.heap.size + 1, 4, none⟩ = some (.slice (some ⟨w.heap.size + 1 + 1, 0, none⟩) 1 1) := hMo.c4; have m5 : W10.cell? ⟨w4.heap.size + 1, 5, none⟩ = some (.slice (some ⟨w.heap.size + 1 + 1 + 1, 0, none⟩) 2 2) := hMo.c5; have m6 : W10.cell? ⟨w4.heap.size + 1, 6, none⟩ = some (.slice none 0 0) := hMo.c6; have m7 : W10.cell? ⟨w4.heap.size + 1, 7, none⟩ = some (.slice none 0 0) := hMo.c7; have m8 : W10.cell? ⟨w4.heap.size + 1, 8, none⟩ = some (.slice (some ⟨w4.heap.size, 0, none⟩) 1 1) := hMo.c8; have m9 : W10.cell? ⟨w4.heap.size + 1, 9, none⟩ = some (.slice none 0 0) := hMo.c9; have s0 : W10.cell? ⟨w4.heap.size + 1 + 1 + 1 + 1, 0, none⟩ = some (.slice none 0 0) := hSq.c0; have s1 : W10.cell? ⟨w4.heap.size + 1 + 1 + 1 + 1, 1, none⟩ = some (.int .i64 1) := hSq.c1; have s2 : W10.cell? ⟨w4.heap.size + 1 + 1 + 1 + 1, 2, none⟩ = some (.int .i64 0) := hSq.c2; have s3 : W10.cell? ⟨w4.heap.size + 1 + 1 + 1 + 1, 3, none⟩ = some (.slice (some ⟨w4.heap.size + 1 + 1, 0, none⟩) 2 2) := hSq.c3; have s4 : W10.cell? ⟨w4.heap.size + 1 + 1 + 1 + 1, 4, none⟩ = some (.slice (some ⟨w4.heap.size + 1 + 1 + 1, 0, none⟩) 2 2) := hSq.c4; clear hMo hSq hb10)
  refine (HE1.out _ HB10.out).mono ?_
  rintro e W11 ⟨rfl, hb11⟩
  have HB11 := Lib.hid (HB10.out.trans (hb11.mono HB10.out.size))
  clear hb11
  go_wp2
  go_ret
  exact ⟨rfl, HB.out.trans (HB11.out.mono HB.out.size)⟩
end Go.Proofs.Ytdpmkhmjihgckaa
