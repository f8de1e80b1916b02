/-
  Chapter 16's example: by walks.
-/
import Derived.Test.YtpbgicfoopicbaaEvalRow
namespace Go.Proofs.Ytpbgicfoopicbaa
open Go.RowKit
set_option linter.unusedVariables false
set_option linter.unusedSimpArgs false

theorem keeps_cell {S : Nat → Prop} {w w' : World} {p j : Nat} {v : Value} (h : Keeps S w w') (hc : w.cell? ⟨p, j, none⟩ = some v) (hs : ¬ S p) : w'.cell? ⟨p, j, none⟩ = some v :=
  (World.cell?_of_block (w := w) (h.block p (lt_of_cell hc) hs)).trans hc
theorem keeps_frozen {S : Nat → Prop} {w w' : World} {p j : Nat} (h : Keeps S w w') (hp : p < w.heap.size) (hs : ¬ S p) : w'.frozen? ⟨p, j, none⟩ = w.frozen? ⟨p, j, none⟩ :=
  World.frozen?_of_block (w := w) (h.block p hp hs)
theorem keeps_of {B : Nat} {w w' : World} (S : Nat → Prop) (h : Below B w w') (hB : w.heap.size ≤ B) : Keeps S w w' := ⟨h.os, h.tape, h.output, h.size, fun j hj _ => h.block j (Nat.lt_of_lt_of_le hj hB)⟩
theorem InstAt.keeps {S : Nat → Prop} {w w' : World} {p : Nat} (h : InstAt w p) (k : Keeps S w w') (hs : ¬ S p) : InstAt w' p :=
  ⟨keeps_cell k h.c0 hs, keeps_cell k h.c1 hs, keeps_cell k h.c2 hs, keeps_cell k h.c3 hs, keeps_cell k h.c4 hs, keeps_cell k h.c5 hs, keeps_cell k h.c6 hs⟩
theorem StAt.keeps {S : Nat → Prop} {w w' : World} {h g : Nat} (s : StAt w h g) (k : Keeps S w w') (hs : ¬ S h) (hg : ¬ S g) : StAt w' h g :=
  ⟨keeps_cell k s.c0 hs, keeps_cell k s.c1 hs, keeps_cell k s.c2 hs, keeps_cell k s.c3 hs, keeps_cell k s.c4 hs, keeps_cell k s.val hg⟩
/-- While it is asked. -/
structure AskSt (w wr : World) (L h g : Nat) : Prop where
  inst : InstAt wr L
  st : StAt wr w.heap.size g
  box : StAt wr h g
  r0 : wr.cell? ⟨w.heap.size + 1, 0, none⟩ = some (.bool false)
  z0 : wr.frozen? ⟨w.heap.size + 1, 0, none⟩ = false
  r1 : wr.cell? ⟨w.heap.size + 1 + 1, 0, none⟩ = some (.int .i64 0)
  z1 : wr.frozen? ⟨w.heap.size + 1 + 1, 0, none⟩ = false
  below : Below w.heap.size w wr
theorem AskSt.keeps {w wr w2 : World} {L h g : Nat} (a : AskSt w wr L h g) (k : Keeps (fun j => j = w.heap.size + 1 + 1 + 1) wr w2) (hL : L < w.heap.size) (hh : h < w.heap.size) (hg : g < w.heap.size) : AskSt w w2 L h g :=
  ⟨a.inst.keeps k (by omega), a.st.keeps k (by omega) (by omega), a.box.keeps k (by omega) (by omega), keeps_cell k a.r0 (by omega), (keeps_frozen (p := w.heap.size + 1) k (lt_of_cell a.r0) (by omega)).trans a.z0, keeps_cell k a.r1 (by omega), (keeps_frozen (p := w.heap.size + 1 + 1) k (lt_of_cell a.r1) (by omega)).trans a.z1, a.below.trans (k.below (fun j hj => by omega) a.below.size)⟩
theorem ask_start {w : World} {L h g : Nat} (hi : InstAt w L) (hs : StAt w h g) (t t2 t3 t4 : TypeId) :
    AskSt w ((((w.alloc (.cells #[.slice (some ⟨g, 0, none⟩) 1 1, .int .i64 0, .int .i64 0, .slice none 0 0, .slice none 0 0] t)).alloc (.cells #[.bool false] t2)).alloc (.cells #[.int .i64 0] t3)).alloc (.cells #[.slice none 0 0] t4)) L h g ∧
    ((((w.alloc (.cells #[.slice (some ⟨g, 0, none⟩) 1 1, .int .i64 0, .int .i64 0, .slice none 0 0, .slice none 0 0] t)).alloc (.cells #[.bool false] t2)).alloc (.cells #[.int .i64 0] t3)).alloc (.cells #[.slice none 0 0] t4)).frozen? ⟨w.heap.size + 1 + 1 + 1, 0, none⟩ = false ∧
    ((((w.alloc (.cells #[.slice (some ⟨g, 0, none⟩) 1 1, .int .i64 0, .int .i64 0, .slice none 0 0, .slice none 0 0] t)).alloc (.cells #[.bool false] t2)).alloc (.cells #[.int .i64 0] t3)).alloc (.cells #[.slice none 0 0] t4)).cell? ⟨w.heap.size + 1 + 1 + 1, 0, none⟩ = some (.slice none 0 0) := by
  obtain ⟨W1, hW1⟩ : ∃ W1, w.alloc (.cells #[.slice (some ⟨g, 0, none⟩) 1 1, .int .i64 0, .int .i64 0, .slice none 0 0, .slice none 0 0] t) = W1 := ⟨_, rfl⟩
  have s1 := st_new hs.val t
  have b1 := bel_new w (.cells #[.slice (some ⟨g, 0, none⟩) 1 1, .int .i64 0, .int .i64 0, .slice none 0 0, .slice none 0 0] t)
  have z1 : (w.alloc (.cells #[.slice (some ⟨g, 0, none⟩) 1 1, .int .i64 0, .int .i64 0, .slice none 0 0, .slice none 0 0] t)).heap.size = w.heap.size + 1 := by simp
  rw [hW1] at s1 b1 z1 ⊢
  have s2 := s1.mono (bel_new W1 (.cells #[.bool false] t2)) (Nat.le_refl _)
  have b2 := b1.trans ((bel_new W1 (.cells #[.bool false] t2)).mono b1.size)
  have c2 : (W1.alloc (.cells #[.bool false] t2)).cell? ⟨W1.heap.size, 0, none⟩ = some (.bool false) := by rw [World.cell?_alloc_at _ _ _ _ rfl]; rfl
  have f2 : (W1.alloc (.cells #[.bool false] t2)).frozen? ⟨W1.heap.size, 0, none⟩ = false := by simp
  have z2 : (W1.alloc (.cells #[.bool false] t2)).heap.size = w.heap.size + 1 + 1 := by simp [z1]
  rw [z1] at c2 f2
  generalize W1.alloc (.cells #[.bool false] t2) = W2 at *
  have s3 := s2.mono (bel_new W2 (.cells #[.int .i64 0] t3)) (Nat.le_refl _)
  have b3 := b2.trans ((bel_new W2 (.cells #[.int .i64 0] t3)).mono b2.size)
  have c3 := cell_mono c2 (bel_new W2 (.cells #[.int .i64 0] t3)) (Nat.le_refl _)
  have f3 := ((bel_new W2 (.cells #[.int .i64 0] t3)).frozen (p := ⟨w.heap.size + 1, 0, none⟩) (lt_of_cell c2)).trans f2
  have d3 : (W2.alloc (.cells #[.int .i64 0] t3)).cell? ⟨W2.heap.size, 0, none⟩ = some (.int .i64 0) := by rw [World.cell?_alloc_at _ _ _ _ rfl]; rfl
  have e3 : (W2.alloc (.cells #[.int .i64 0] t3)).frozen? ⟨W2.heap.size, 0, none⟩ = false := by simp
  have z3 : (W2.alloc (.cells #[.int .i64 0] t3)).heap.size = w.heap.size + 1 + 1 + 1 := by simp [z2]
  rw [z2] at d3 e3
  generalize W2.alloc (.cells #[.int .i64 0] t3) = W3 at *
  have n4 := bel_new W3 (.cells #[.slice none 0 0] t4)
  have b4 := b3.trans (n4.mono b3.size)
  have c5 : (W3.alloc (.cells #[.slice none 0 0] t4)).cell? ⟨W3.heap.size, 0, none⟩ = some (.slice none 0 0) := by rw [World.cell?_alloc_at _ _ _ _ rfl]; rfl
  have f5 : (W3.alloc (.cells #[.slice none 0 0] t4)).frozen? ⟨W3.heap.size, 0, none⟩ = false := by simp
  rw [z3] at c5 f5
  exact ⟨⟨hi.mono b4 (Nat.le_refl _), s3.mono n4 (Nat.le_refl _), hs.mono b4 (Nat.le_refl _), cell_mono c3 n4 (Nat.le_refl _), (n4.frozen (p := ⟨w.heap.size + 1, 0, none⟩) (lt_of_cell c3)).trans f3, cell_mono d3 n4 (Nat.le_refl _), (n4.frozen (p := ⟨w.heap.size + 1 + 1, 0, none⟩) (lt_of_cell d3)).trans e3, b4⟩, f5, c5⟩
def AskAns (w : World) (e : Ending) (w' : World) : Prop := e = .returned (.tuple #[.bool true, .int .i64 0]) ∧ Below w.heap.size w w'
set_option maxRecDepth 100000 in
set_option maxHeartbeats 1000000 in
theorem ask_one (L h g : Nat) (w : World) (hi : InstAt w L) (hs : StAt w h g) :
    Calls Try.prog 56 #[.slice (some ⟨L, 0, none⟩) 1 1, .agg #[.slice (some ⟨g, 0, none⟩) 1 1, .int .i64 0, .int .i64 0, .slice none 0 0, .slice none 0 0], .func (.func 57) #[] #[.pointer (some ⟨h, 0, none⟩)]] w (AskAns w) := by
  have hu : ∀ b : Bool, ¬ (some undef = some (Value.bool b)) := fun b h => by cases h
  have hmf : ∀ (fn : Fn) (first cap : Array Value) (w : World), (Instr.makeFunc fn first cap).run Try.prog w = .ok (.func fn first cap) w := fun _ _ _ _ => rfl
  have hLl : L < w.heap.size := lt_of_cell hi.c0
  have hhl : h < w.heap.size := lt_of_cell hs.c0
  have hgl : g < w.heap.size := lt_of_cell hs.val
  have HI := Lib.hid (And.intro hi hs)
  clear hi hs
  go_enter_defers Try.func56, Try.ntmps56
  go_wp2_with fail
  go_loopw [19] (fun v19 wr => ∃ k : Nat, k ≤ 1 ∧ v19 = .int .i64 k ∧ AskSt w wr L h g ∧ wr.frozen? ⟨w.heap.size + 1 + 1 + 1, 0, none⟩ = false ∧ ((k = 0 ∧ wr.cell? ⟨w.heap.size + 1 + 1 + 1, 0, none⟩ = some (.slice none 0 0)) ∨ (k = 1 ∧ ∃ g' cap, 1 ≤ cap ∧ wr.cell? ⟨w.heap.size + 1 + 1 + 1, 0, none⟩ = some (.slice (some ⟨g', 0, none⟩) 1 cap) ∧ wr.cell? ⟨g', 0, none⟩ = some (.iface 4 (.bool true))))) (fun v19 _ => 1 - (intOf v19).toNat)
  case atStart =>
    obtain ⟨h1, h2, h3⟩ := ask_start (HI.out).1 (HI.out).2 60 4 23 138
    exact ⟨0, by omega, rfl, h1, h2, Or.inl ⟨rfl, h3⟩⟩
  case round =>
    obtain ⟨k, hk, rfl, hst, hfz, hrow⟩ := hrel
    rcases hrow with ⟨rfl, hrow⟩ | ⟨rfl, g', cap, hcap, hrow, hg'⟩
    · obtain ⟨i0, i1, i2, i3, i4, i5, i6⟩ := hst.inst
      have n1 := bel_new wr (.cells #[.int .i64 3, .int .i64 0, .int .i64 0, .int .i64 (-1), .int .i64 3, .int .i64 0, .int .i64 0] 70)
      have st1 := hst.st.mono n1 (Nat.le_refl _)
      have bx1 := hst.box.mono n1 (Nat.le_refl _)
      have T := Lib.hid (truth_any g h (some ⟨w.heap.size + 1 + 1 + 1, 0, none⟩) _ bx1)
      have k1 := keeps_of (fun j => j = w.heap.size + 1 + 1 + 1) n1 (Nat.le_refl _)
      have as1 := hst.keeps k1 hLl hhl hgl
      have row1 := cell_mono hrow n1 (Nat.le_refl _)
      have fz1 := (n1.frozen (p := ⟨w.heap.size + 1 + 1 + 1, 0, none⟩) (lt_of_cell hrow)).trans hfz
      have HA1 := Lib.hid (And.intro as1 (And.intro row1 fz1))
      obtain ⟨s0, s1, s2, s3, s4, _⟩ := st1
      obtain ⟨t0, t1, t2, t3, t4, _⟩ := hst.st
      have hwl : w.heap.size < wr.heap.size := lt_of_cell t0
      have hwn : w.heap.size ≠ wr.heap.size := by omega
      clear n1 bx1 k1 as1 row1 fz1 hst hfz hrow
      go_wp2_with fail
      refine T.out.mono ?_
      rintro e w3 ⟨rfl, b3⟩
      generalize wr.alloc (.cells #[.int .i64 3, .int .i64 0, .int .i64 0, .int .i64 (-1), .int .i64 3, .int .i64 0, .int .i64 0] 70) = W1 at *
      have as3 := (HA1.out).1.keeps (keeps_of (fun j => j = w.heap.size + 1 + 1 + 1) b3 (Nat.le_refl _)) hLl hhl hgl
      have row3 := cell_mono (HA1.out).2.1 b3 (Nat.le_refl _)
      have fz3 := (b3.frozen (p := ⟨w.heap.size + 1 + 1 + 1, 0, none⟩) (lt_of_cell (HA1.out).2.1)).trans (HA1.out).2.2
      have PU := Lib.hid (put_nil (w.heap.size + 1 + 1 + 1) 4 (.bool true) w3 row3 fz3)
      have HA3 := Lib.hid as3
      clear b3 as3 row3 fz3 HA1 T s0 s1 s2 s3 s4 t0 t1 t2 t3 t4 i0 i1 i2 i3 i4 i5 i6 hwl hwn
      go_wp2_with fail
      refine PU.out.mono ?_
      rintro e w4 ⟨rfl, g4, cap4, r4, f4, c4, v4, l4, k4⟩
      have as4 := HA3.out.keeps k4 hLl hhl hgl
      have HA4 := Lib.hid (And.intro as4 (And.intro f4 (And.intro c4 (And.intro r4 v4))))
      clear as4 f4 c4 r4 v4 k4 HA3 PU
      go_wp2_with fail
      go_roundw
      case rel => exact ⟨1, by omega, by first | rfl | go_num, (HA4.out).1, (HA4.out).2.1, Or.inr ⟨rfl, g4, cap4, (HA4.out).2.2.1, (HA4.out).2.2.2.1, (HA4.out).2.2.2.2⟩⟩
      case measure => simp [intOf]
    · have TK := Lib.hid (take_any (w.heap.size + 1 + 1 + 1) g' cap true wr hrow hfz hcap hg')
      have HA := Lib.hid (And.intro hst hrow)
      clear hst hrow hfz hg'
      go_wp2_with fail
      refine TK.out.mono ?_
      rintro e w3 ⟨rfl, r3, k3⟩
      have as3 := (HA.out).1.keeps k3 hLl hhl hgl
      obtain ⟨_, _, _, r0, z0, r1, z1, below⟩ := as3
      have HB := Lib.hid below
      clear below TK HA k3
      go_wp2_with fail
      refine leaves_cons (f := 70) (args := #[.pointer (some ⟨w.heap.size + 1, 0, none⟩), .pointer (some ⟨w.heap.size + 1 + 1, 0, none⟩)]) (by simp) (by simp [go_sem]) ?_
      refine (idle_any _ _ _).mono ?_
      rintro e u' w'' ⟨rfl, rfl, rfl⟩
      simp [Leaves, settle, results, Try.results56, go_sem, r0, r1, z0, z1, AskAns]
      exact ((HB.out.setCell (p := ⟨w.heap.size + 1, 0, none⟩) (by show w.heap.size ≤ w.heap.size + 1; omega) _).setCell (p := ⟨w.heap.size + 1, 0, none⟩) (by show w.heap.size ≤ w.heap.size + 1; omega) _).setCell (p := ⟨w.heap.size + 1 + 1, 0, none⟩) (by show w.heap.size ≤ w.heap.size + 1 + 1; omega) _
set_option maxHeartbeats 1000000 in
theorem holds_one (L g : Nat) (w : World) (hi : InstAt w L) (hg : w.cell? ⟨g, 0, none⟩ = some (.int .i64 2)) :
    Calls Try.prog 37 #[.slice (some ⟨L, 0, none⟩) 1 1, .agg #[.slice (some ⟨g, 0, none⟩) 1 1, .int .i64 0, .int .i64 0, .slice none 0 0, .slice none 0 0]] w (AskAns w) := by
  have hmf : ∀ (fn : Fn) (first cap : Array Value) (w : World), (Instr.makeFunc fn first cap).run Try.prog w = .ok (.func fn first cap) w := fun _ _ _ _ => rfl
  have n1 := bel_new w (.cells #[.slice (some ⟨g, 0, none⟩) 1 1, .int .i64 0, .int .i64 0, .slice none 0 0, .slice none 0 0] 60)
  have AK := Lib.hid (ask_one L w.heap.size g _ (hi.mono n1 (Nat.le_refl _)) (st_new hg 60))
  have HN := Lib.hid n1
  clear n1 hi hg
  go_enter Try.func37, Try.ntmps37
  go_wp2_with fail
  refine AK.out.mono ?_
  rintro e w2 ⟨rfl, b2⟩
  have B2 := Lib.hid (HN.out.trans (b2.mono HN.out.size))
  clear b2 AK HN
  go_wp2_with fail
  go_ret2
  exact ⟨rfl, B2.out⟩
set_option maxHeartbeats 1000000 in
theorem awake16_any (w : World) : Calls Try.prog 36 #[] w fun e w' => e = .returned (.bool true) ∧ Below w.heap.size w w' := by
  have hu : ∀ b : Bool, ¬ (some undef = some (Value.bool b)) := fun b h => by cases h
  have n1 := bel_new w (.cells #[.int .i64 3, .int .i64 0, .int .i64 0, .int .i64 (-1), .int .i64 3, .int .i64 0, .int .i64 0] 70)
  have i1 := inst_new w 70
  have z1 : (w.alloc (.cells #[.int .i64 3, .int .i64 0, .int .i64 0, .int .i64 (-1), .int .i64 3, .int .i64 0, .int .i64 0] 70)).heap.size = w.heap.size + 1 := by simp
  obtain ⟨W1, hW1⟩ : ∃ W1, w.alloc (.cells #[.int .i64 3, .int .i64 0, .int .i64 0, .int .i64 (-1), .int .i64 3, .int .i64 0, .int .i64 0] 70) = W1 := ⟨_, rfl⟩
  rw [hW1] at n1 i1 z1
  have n2 := bel_new W1 (.cells #[.int .i64 2] 2)
  have c2 : (W1.alloc (.cells #[.int .i64 2] 2)).cell? ⟨W1.heap.size, 0, none⟩ = some (.int .i64 2) := by rw [World.cell?_alloc_at _ _ _ _ rfl]; rfl
  rw [z1] at c2
  have HC := Lib.hid (holds_one w.heap.size (w.heap.size + 1) _ (i1.mono n2 (Nat.le_refl _)) c2)
  have HN := Lib.hid (n1.trans (n2.mono n1.size))
  rw [← hW1] at HC HN
  clear hW1 n1 n2 i1 z1 c2
  go_enter Try.func36, Try.ntmps36
  go_wp2_with fail
  refine HC.out.mono ?_
  rintro e w3 ⟨rfl, b3⟩
  have B3 := Lib.hid (HN.out.trans (b3.mono HN.out.size))
  have CM := Lib.hid (cmp_any 6 4 4 w3)
  rw [show cmpB 6 4 4 = true by decide] at CM
  clear b3 HC HN
  go_wp2_with fail
  refine CM.out.mono ?_
  rintro e w4 ⟨rfl, rfl⟩
  go_wp2_with fail
  go_ret
  exact ⟨rfl, B3.out⟩
end Go.Proofs.Ytpbgicfoopicbaa
