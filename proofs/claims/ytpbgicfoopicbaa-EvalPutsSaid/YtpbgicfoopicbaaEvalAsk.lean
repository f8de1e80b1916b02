/-
  eval.ask, eval.Holds at any condition: by walks.
-/
import Derived.Test.YtpbgicfoopicbaaEvalTruth
import Derived.Deep.MidRow
namespace Go.Proofs.Ytpbgicfoopicbaa
open Go.RowKit
set_option linter.unusedVariables false
set_option linter.unusedSimpArgs false

/-- A condition lies from there on. -/
def RdL (w : World) (a : Option Addr) (l : List Ins) : Prop := Reads w a (Rec.flat Ins.cells l)
theorem RdL.mono {w w' : World} {B : Nat} {a : Option Addr} {l : List Ins} (h : RdL w a l) (hb : Below B w w') (hB : w.heap.size ≤ B) : RdL w' a l := Reads.mono h hb hB
theorem RdL.at {w : World} {a : Option Addr} {l : List Ins} (h : RdL w a l) (hp : 0 < l.length) :
    ∃ b off, a = some ⟨b, off, none⟩ ∧ ∀ i (hi : i < l.length), w.rangeAt b (off + i * 7) l[i].cells := by
  obtain ⟨b, off, rfl, hc⟩ := Reads.at h (by rw [Rec.flat_len Ins.cells_len]; omega)
  refine ⟨b, off, rfl, fun i hi j v hv => ?_⟩
  have hj : j < 7 := by rw [← Ins.cells_len l[i]]; exact (List.getElem?_eq_some_iff.1 hv).1
  have := hc (i * 7 + j) (by rw [Rec.flat_len Ins.cells_len]; omega)
  rw [Rec.flat_at Ins.cells_len l i j hi hj] at this
  rw [Nat.add_assoc, this, hv]
theorem sizeInst : (Try.prog.info? 70).map (·.size) = some 7 := by kernel_rfl
theorem stepE_len {s : Sta} {x : Ins} {r r' : List (Option Bool)} (h : stepE s x r = some r') : r'.length ≤ r.length + 1 := by
  have ht : ∀ (q q2 : List (Option Bool)) (b : Bool), takeP q = some (b, q2) → q2.length + 1 = q.length := fun q q2 b hq => by
    rcases last_cases q with h1 | ⟨r1, h1⟩ | ⟨r1, c, h1⟩
    · subst h1; cases hq
    · subst h1; rw [takeP_none] at hq; cases hq
    · subst h1
      rw [takeP_some] at hq
      injection hq with hq
      injection hq with h2 h3
      subst h3; simp
  unfold stepE at h
  split at h
  · injection h with h; subst h; simp
  split at h
  · injection h with h; subst h; simp
  split at h
  · injection h with h; subst h; simp
  split at h
  · injection h with h; subst h; simp
  split at h
  · injection h with h; subst h; simp
  split at h
  · cases hq : takeP r with
    | none => rw [hq] at h; cases h
    | some y =>
      rw [hq] at h
      have h2 := ht r y.2 y.1 hq
      injection h with h; subst h; simp; omega
  split at h
  · cases hq : takeP r with
    | none => rw [hq] at h; cases h
    | some y =>
      rw [hq] at h
      have h2 := ht r y.2 y.1 hq
      cases hq2 : takeP y.2 with
      | none => simp only [Option.bind_some, hq2] at h; cases h
      | some z =>
        simp only [Option.bind_some, hq2] at h
        have h3 := ht y.2 z.2 z.1 hq2
        injection h with h; subst h; simp; omega
  · injection h with h; subst h; simp
/-- While it is asked. -/
structure AsSt (w wr : World) (s : Sta) : Prop where
  st : StaAt wr w.heap.size s
  r0 : wr.cell? ⟨w.heap.size + 1, 0, none⟩ = some (.bool false)
  z0 : wr.frozen? ⟨w.heap.size + 1, 0, none⟩ = false
  r1 : wr.cell? ⟨w.heap.size + 1 + 1, 0, none⟩ = some (.int .i64 0)
  z1 : wr.frozen? ⟨w.heap.size + 1 + 1, 0, none⟩ = false
  below : Below w.heap.size w wr
theorem AsSt.keeps {w wr w2 : World} {s : Sta} (a : AsSt w wr s) (k : Keeps (fun j => w.heap.size + 1 + 1 + 1 ≤ j) wr w2) : AsSt w w2 s :=
  ⟨a.st.keeps k (by omega), keeps_cell k a.r0 (by omega), (keeps_frozen (p := w.heap.size + 1) k (lt_of_cell a.r0) (by omega)).trans a.z0, keeps_cell k a.r1 (by omega), (keeps_frozen (p := w.heap.size + 1 + 1) k (lt_of_cell a.r1) (by omega)).trans a.z1, a.below.trans (k.below (fun j hj => by omega) a.below.size)⟩
theorem as_start {w : World} {s : Sta} (t t2 t3 t4 : TypeId) : AsSt w ((((w.alloc (.cells #[.slice s.a s.vals.length s.c, .int .i64 s.op, .int .i64 s.dn, s.did, s.cnt] t)).alloc (.cells #[.bool false] t2)).alloc (.cells #[.int .i64 0] t3)).alloc (.cells #[.slice none 0 0] t4)) s ∧ RowAt ((((w.alloc (.cells #[.slice s.a s.vals.length s.c, .int .i64 s.op, .int .i64 s.dn, s.did, s.cnt] t)).alloc (.cells #[.bool false] t2)).alloc (.cells #[.int .i64 0] t3)).alloc (.cells #[.slice none 0 0] t4)) (w.heap.size + 1 + 1 + 1) [] := by
  obtain ⟨W1, hW1⟩ : ∃ W1, w.alloc (.cells #[.slice s.a s.vals.length s.c, .int .i64 s.op, .int .i64 s.dn, s.did, s.cnt] t) = W1 := ⟨_, rfl⟩
  have s1 := sta_new w s t
  have b1 := bel_new w (.cells #[.slice s.a s.vals.length s.c, .int .i64 s.op, .int .i64 s.dn, s.did, s.cnt] t)
  have z1 : (w.alloc (.cells #[.slice s.a s.vals.length s.c, .int .i64 s.op, .int .i64 s.dn, s.did, s.cnt] t)).heap.size = w.heap.size + 1 := by simp
  rw [hW1] at s1 b1 z1 ⊢
  have s2 := s1.mono (bel_new W1 (.cells #[.bool false] t2)) (Nat.le_refl _)
  have b2 := b1.trans ((bel_new W1 (.cells #[.bool false] t2)).mono b1.size)
  have c2 : (W1.alloc (.cells #[.bool false] t2)).cell? ⟨W1.heap.size, 0, none⟩ = some (.bool false) := by rw [World.cell?_alloc_at _ _ _ _ rfl]; rfl
  have f2 : (W1.alloc (.cells #[.bool false] t2)).frozen? ⟨W1.heap.size, 0, none⟩ = false := by simp
  have z2 : (W1.alloc (.cells #[.bool false] t2)).heap.size = w.heap.size + 1 + 1 := by simp [z1]
  rw [z1] at c2 f2
  generalize W1.alloc (.cells #[.bool false] t2) = W2 at *
  have s3 := s2.mono (bel_new W2 (.cells #[.int .i64 0] t3)) (Nat.le_refl _)
  have b3 := b2.trans ((bel_new W2 (.cells #[.int .i64 0] t3)).mono b2.size)
  have c3 := cell_mono c2 (bel_new W2 (.cells #[.int .i64 0] t3)) (Nat.le_refl _)
  have f3 := ((bel_new W2 (.cells #[.int .i64 0] t3)).frozen (p := ⟨w.heap.size + 1, 0, none⟩) (lt_of_cell c2)).trans f2
  have d3 : (W2.alloc (.cells #[.int .i64 0] t3)).cell? ⟨W2.heap.size, 0, none⟩ = some (.int .i64 0) := by rw [World.cell?_alloc_at _ _ _ _ rfl]; rfl
  have e3 : (W2.alloc (.cells #[.int .i64 0] t3)).frozen? ⟨W2.heap.size, 0, none⟩ = false := by simp
  have z3 : (W2.alloc (.cells #[.int .i64 0] t3)).heap.size = w.heap.size + 1 + 1 + 1 := by simp [z2]
  rw [z2] at d3 e3
  generalize W2.alloc (.cells #[.int .i64 0] t3) = W3 at *
  have n4 := bel_new W3 (.cells #[.slice none 0 0] t4)
  have b4 := b3.trans (n4.mono b3.size)
  have c5 : (W3.alloc (.cells #[.slice none 0 0] t4)).cell? ⟨W3.heap.size, 0, none⟩ = some (.slice none 0 0) := by rw [World.cell?_alloc_at _ _ _ _ rfl]; rfl
  have f5 : (W3.alloc (.cells #[.slice none 0 0] t4)).frozen? ⟨W3.heap.size, 0, none⟩ = false := by simp
  rw [z3] at c5 f5
  exact ⟨⟨s3.mono n4 (Nat.le_refl _), cell_mono c3 n4 (Nat.le_refl _), (n4.frozen (p := ⟨w.heap.size + 1, 0, none⟩) (lt_of_cell c3)).trans f3, cell_mono d3 n4 (Nat.le_refl _), (n4.frozen (p := ⟨w.heap.size + 1 + 1, 0, none⟩) (lt_of_cell d3)).trans e3, b4⟩, ⟨f5, _, c5, World.ownsRow_nil _ _ _ _⟩⟩
set_option maxHeartbeats 1000000 in
theorem catch_any (n : Nat) (x : Bool) (y : Int) (u : TypeId) (pv : Value) (older : List PanicEntry) (w : World) (hc : w.cell? ⟨n, 0, none⟩ = some (.bool x)) (hz : w.frozen? ⟨n, 0, none⟩ = false) (hd : w.cell? ⟨n + 1, 0, none⟩ = some (.int .i64 y)) (hy : w.frozen? ⟨n + 1, 0, none⟩ = false) :
    CallsD Try.prog 70 #[.pointer (some ⟨n, 0, none⟩), .pointer (some ⟨n + 1, 0, none⟩)] (.panicking ({ v := .iface u pv, recovered := false } :: older)) w fun e u' w' =>
      e = .returned (.tuple #[]) ∧ u' = .panicking ({ v := .iface u pv, recovered := true } :: older) ∧ w' = (w.setCell ⟨n, 0, none⟩ (.bool false)).setCell ⟨n + 1, 0, none⟩ (.int .i64 17) := by
  refine callsD_of_wpS Try.func70 rfl fun c₀ cs hu => ?_
  apply wpS_seq
  apply wpS_region
  simp [wpOpsS, go_sem, recoverD, hu, Try.ntmps70, Exit.thenS]
  refine wpS_cond (t := true) (by simp [Act.eval, Array.replicate]) ?_
  simp only [if_true]
  apply wpS_region
  simp [wpOpsS, go_sem, hc, hz, hd, hy, bodyPostS, results, Try.results70]
def AskR (s : Sta) (l : List Ins) (w : World) (e : Ending) (w' : World) : Prop :=
  (askE s l = none ∧ e = .returned (.tuple #[.bool false, .int .i64 17]) ∧ Below w.heap.size w w') ∨ (∃ b, askE s l = some b ∧ e = .returned (.tuple #[.bool b, .int .i64 0]) ∧ Below w.heap.size w w')
set_option maxRecDepth 100000 in
set_option maxHeartbeats 1500000 in
theorem ask_of (a : Option Addr) (c : Nat) (l : List Ins) (s : Sta) (h : Nat) (w : World) (hl : RdL w a l) (hm : l.length ≤ maxLen) (hs : StaAt w h s) (hv : RdV w s) :
    Calls Try.prog 56 #[.slice a l.length c, .agg #[.slice s.a s.vals.length s.c, .int .i64 s.op, .int .i64 s.dn, s.did, s.cnt], .func (.func 57) #[] #[.pointer (some ⟨h, 0, none⟩)]] w (AskR s l w) := by
  have hu : ∀ b : Bool, ¬ (some undef = some (Value.bool b)) := fun b h => by cases h
  have hmf : ∀ (fn : Fn) (first cap : Array Value) (w : World), (Instr.makeFunc fn first cap).run Try.prog w = .ok (.func fn first cap) w := fun _ _ _ _ => rfl
  have hm2 : l.length ≤ 9223372036854775807 := by unfold maxLen at hm; omega
  have HNONE : Hid (∀ w', askE s l = none → Below w.heap.size w w' → AskR s l w (.returned (.tuple #[.bool false, .int .i64 17])) w') := Lib.hid (fun w' h1 h2 => Or.inl ⟨h1, rfl, h2⟩)
  have HSOME : Hid (∀ w' b, askE s l = some b → Below w.heap.size w w' → AskR s l w (.returned (.tuple #[.bool b, .int .i64 0])) w') := Lib.hid (fun w' b h1 h2 => Or.inr ⟨b, h1, rfl, h2⟩)
  obtain ⟨st0, ro0⟩ := as_start (w := w) (s := s) 60 4 23 138
  have HST := Lib.hid (And.intro st0 ro0)
  clear st0 ro0
  by_cases h64 : 64 < l.length
  · have HE : Hid (askE s l = none) := Lib.hid (by unfold askE; rw [if_pos h64])
    clear hl hs hv hm
    go_enter_defers Try.func56, Try.ntmps56
    go_wp2_with fail
    simp [bodyPostD, Leaves, settle, results, Try.results56, go_sem]
    exact HNONE.out _ HE.out ((((Below.refl _ _).alloc (Nat.le_refl _) _).alloc (by simp) _).alloc (by simp <;> omega) _)
  · have hl64 : l.length ≤ 64 := by omega
    have HIN := Lib.hid (And.intro hl (And.intro hs hv))
    have hhl : h < w.heap.size := lt_of_cell hs.c0
    have HAS : Hid (askE s l = finE (runE s l [])) := Lib.hid (by unfold askE; rw [if_neg h64])
    have HTK := Lib.hid (fun k (hk : k < l.length) => runE_take s hk [])
    clear hl hs hv hm h64
    go_enter_defers Try.func56, Try.ntmps56
    go_wp2_with fail
    go_loopw [19] (fun v19 wr => ∃ (k : Nat) (r : List (Option Bool)), k ≤ l.length ∧ v19 = .int .i64 k ∧ AsSt w wr s ∧ Hid (runE s (l.take k) [] = some r) ∧ r.length ≤ k ∧ RowAt wr (w.heap.size + 1 + 1 + 1) r) (fun v19 _ => l.length - (intOf v19).toNat)
    case atStart => exact ⟨0, [], by omega, rfl, (HST.out).1, Lib.hid rfl, Nat.le_refl _, (HST.out).2⟩
    case round =>
      obtain ⟨k, r, hk, rfl, hst, HR, hrk, hrow⟩ := hrel
      by_cases hlt : k < l.length
      · obtain ⟨b, off, ha, hrg⟩ := (HIN.out).1.at (by omega)
        subst ha
        have hrw := fun j v hv => (hst.below.cell (p := ⟨b, off + k * 7 + j, none⟩) (lt_of_cell (hrg k hlt j v hv))).trans (hrg k hlt j v hv)
        have HX := Lib.hid (HTK.out k hlt)
        have HDEAD : Hid (∀ q, runE s (l.take (k + 1)) [] = q → q = none → runE s l [] = none) := Lib.hid (fun q h1 h2 => by
          have h3 := runE_app s (l.take (k + 1)) (l.drop (k + 1)) []
          rw [List.take_append_drop, h1, h2] at h3
          exact h3)
        clear hrg
        generalize l[k] = x at *
        have hrw2 : wr.rangeAt b (off + k * 7) [.int .i64 x.op, .int .i64 x.la, .int .i64 x.ln, .int .i64 x.ra, .int .i64 x.rn, .int .i64 x.n, .int .i64 x.us] := hrw
        have n1 := bel_new wr (.cells #[.int .i64 x.op, .int .i64 x.la, .int .i64 x.ln, .int .i64 x.ra, .int .i64 x.rn, .int .i64 x.n, .int .i64 x.us] 70)
        have TR := Lib.hid (truth_of x s (w.heap.size + 1 + 1 + 1) h r _ (hrow.mono n1 (Nat.le_refl _)) (by omega) ((((HIN.out).2.1.mono hst.below (Nat.le_refl _)).mono n1 (Nat.le_refl _))) (((HIN.out).2.2.mono hst.below (Nat.le_refl _)).mono n1 (Nat.le_refl _)))
        have HA := Lib.hid (hst.keeps (keeps_of (fun j => w.heap.size + 1 + 1 + 1 ≤ j) n1 (Nat.le_refl _)))
        obtain ⟨s0, s1, s2, s3, s4⟩ := (HA.out).st
        obtain ⟨t0, t1, t2, t3, t4⟩ := hst.st
        have hwl : w.heap.size < wr.heap.size := lt_of_cell t0
        have hwn : w.heap.size ≠ wr.heap.size := by omega
        clear hrw n1 hst hrow
        go_wp2_with (refine wpList_load_mid rfl 70 (.tmp 21) rfl b (off + k * 7) rfl _ _ hrw2 Try.underlying70 rfl sizeInst ?_)
        refine TR.out.mono ?_
        intro e w3 htr
        rcases htr with ⟨r0', t, hse, rfl, hrow3, k3⟩ | ⟨hse, TK⟩
        · have hlen := stepE_len hse
          have HA3 := Lib.hid (HA.out.keeps k3)
          have HSE := Lib.hid hse
          have hl0 : r0'.length ≤ 64 := by simp at hlen; omega
          have hl1 : (r0' ++ [t]).length ≤ k + 1 := by omega
          have PU := Lib.hid (put_any2 (w.heap.size + 1 + 1 + 1) r0' t w3 hrow3 hl0)
          clear hse hrow3 k3 TR HA s0 s1 s2 s3 s4 t0 t1 t2 t3 t4 hwl hwn hlen hrw2
          go_wp2_with fail
          refine PU.out.mono ?_
          rintro e w4 ⟨rfl, hrow4, k4⟩
          have HA4 := Lib.hid (And.intro (HA3.out.keeps k4) hrow4)
          clear hrow4 k4 PU
          go_wp2_with fail
          go_roundw
          case rel => exact ⟨k + 1, r0' ++ [t], by omega, by go_num, (HA4.out).1, Lib.hid (by rw [HX.out, HR.out]; exact HSE.out), hl1, (HA4.out).2⟩
          case measure => simp [intOf] <;> omega
        · have HE : Hid (askE s l = none) := Lib.hid (by rw [HAS.out, HDEAD.out _ rfl (by rw [HX.out, HR.out]; exact hse)]; rfl)
          clear hse TR s0 s1 s2 s3 s4 t0 t1 t2 t3 t4 hwl hwn hrw2
          obtain ⟨⟨t, pv, rfl⟩, k3⟩ := TK
          obtain ⟨_, r0, z0, r1, z1, below⟩ := HA.out.keeps k3
          have HB := Lib.hid below
          clear below k3
          go_wp2_with fail
          refine leaves_cons (f := 70) (args := #[.pointer (some ⟨w.heap.size + 1, 0, none⟩), .pointer (some ⟨w.heap.size + 1 + 1, 0, none⟩)]) (by simp) (by simp [go_sem]) ?_
          refine (catch_any (w.heap.size + 1) false 0 _ _ _ _ r0 z0 r1 z1).mono ?_
          rintro e u' w'' ⟨rfl, rfl, rfl⟩
          simp [Leaves, settle, results, Try.results56, go_sem, r0, r1, z0, z1]
          exact HNONE.out _ HE.out ((HB.out.setCell (p := ⟨w.heap.size + 1, 0, none⟩) (by show w.heap.size ≤ w.heap.size + 1; omega) _).setCell (p := ⟨w.heap.size + 1 + 1, 0, none⟩) (by show w.heap.size ≤ w.heap.size + 1 + 1; omega) _)
      · have hke : k = l.length := by omega
        subst hke
        have HA := Lib.hid hst
        have hrl := HR.out
        rw [List.take_length] at hrl
        have HRL := Lib.hid hrl
        clear hrl HR
        rcases last_cases r with hr | ⟨r1', hr⟩ | ⟨r1', b, hr⟩
        · subst hr
          have HE : Hid (askE s l = none) := Lib.hid (by rw [HAS.out, HRL.out]; rfl)
          have TK := Lib.hid (take_nil (w.heap.size + 1 + 1 + 1) wr hrow)
          clear hst hrow
          go_wp2_with fail
          refine TK.out.mono ?_
          rintro e w3 ⟨⟨t, pv, rfl⟩, k3⟩
          obtain ⟨_, r0, z0, r1, z1, below⟩ := HA.out.keeps k3
          have HB := Lib.hid below
          clear below k3 TK
          go_wp2_with fail
          refine leaves_cons (f := 70) (args := #[.pointer (some ⟨w.heap.size + 1, 0, none⟩), .pointer (some ⟨w.heap.size + 1 + 1, 0, none⟩)]) (by simp) (by simp [go_sem]) ?_
          refine (catch_any (w.heap.size + 1) false 0 _ _ _ _ r0 z0 r1 z1).mono ?_
          rintro e u' w'' ⟨rfl, rfl, rfl⟩
          simp [Leaves, settle, results, Try.results56, go_sem, r0, r1, z0, z1]
          exact HNONE.out _ HE.out ((HB.out.setCell (p := ⟨w.heap.size + 1, 0, none⟩) (by show w.heap.size ≤ w.heap.size + 1; omega) _).setCell (p := ⟨w.heap.size + 1 + 1, 0, none⟩) (by show w.heap.size ≤ w.heap.size + 1 + 1; omega) _)
        · subst hr
          have HE : Hid (askE s l = none) := Lib.hid (by rw [HAS.out, HRL.out]; cases r1' with | nil => rfl | cons y r2 => cases r2 <;> cases y <;> rfl)
          have TK := Lib.hid (take_bad (w.heap.size + 1 + 1 + 1) r1' wr hrow (by simp at hrk; omega))
          clear hst hrow
          go_wp2_with fail
          refine TK.out.mono ?_
          rintro e w3 ⟨⟨t, pv, rfl⟩, k3⟩
          obtain ⟨_, r0, z0, r1, z1, below⟩ := HA.out.keeps k3
          have HB := Lib.hid below
          clear below k3 TK
          go_wp2_with fail
          refine leaves_cons (f := 70) (args := #[.pointer (some ⟨w.heap.size + 1, 0, none⟩), .pointer (some ⟨w.heap.size + 1 + 1, 0, none⟩)]) (by simp) (by simp [go_sem]) ?_
          refine (catch_any (w.heap.size + 1) false 0 _ _ _ _ r0 z0 r1 z1).mono ?_
          rintro e u' w'' ⟨rfl, rfl, rfl⟩
          simp [Leaves, settle, results, Try.results56, go_sem, r0, r1, z0, z1]
          exact HNONE.out _ HE.out ((HB.out.setCell (p := ⟨w.heap.size + 1, 0, none⟩) (by show w.heap.size ≤ w.heap.size + 1; omega) _).setCell (p := ⟨w.heap.size + 1 + 1, 0, none⟩) (by show w.heap.size ≤ w.heap.size + 1 + 1; omega) _)
        · subst hr
          have hl1 : r1'.length ≤ 64 := by simp at hrk; omega
          have TK := Lib.hid (take_some (w.heap.size + 1 + 1 + 1) r1' b wr hrow hl1)
          clear hst hrow
          go_wp2_with fail
          refine TK.out.mono ?_
          rintro e w3 ⟨rfl, hrow3, k3⟩
          obtain ⟨_, r0, z0, r1, z1, below⟩ := HA.out.keeps ⟨k3.os, k3.tape, k3.output, k3.size, fun j hj hs => k3.block j hj (fun e => by omega)⟩
          obtain ⟨vr, hp3, hown3⟩ := hrow3.ex
          obtain ⟨ar, cr, hvr⟩ := own_len hown3
          subst hvr
          have HB := Lib.hid below
          clear below TK k3 hrow3 hown3
          by_cases h0 : r1'.length = 0
          · have hr1 : r1' = [] := List.eq_nil_of_length_eq_zero h0
            subst hr1
            have HE : Hid (askE s l = some b) := Lib.hid (by rw [HAS.out, HRL.out]; rfl)
            simp only [List.length_nil] at hp3
            clear h0 hl1
            go_wp2_with fail
            refine leaves_cons (f := 70) (args := #[.pointer (some ⟨w.heap.size + 1, 0, none⟩), .pointer (some ⟨w.heap.size + 1 + 1, 0, none⟩)]) (by simp) (by simp [go_sem]) ?_
            refine (idle_any _ _ _).mono ?_
            rintro e u' w'' ⟨rfl, rfl, rfl⟩
            simp [Leaves, settle, results, Try.results56, go_sem, r0, r1, z0, z1]
            exact HSOME.out _ _ HE.out (((HB.out.setCell (p := ⟨w.heap.size + 1, 0, none⟩) (by show w.heap.size ≤ w.heap.size + 1; omega) _).setCell (p := ⟨w.heap.size + 1, 0, none⟩) (by show w.heap.size ≤ w.heap.size + 1; omega) _).setCell (p := ⟨w.heap.size + 1 + 1, 0, none⟩) (by show w.heap.size ≤ w.heap.size + 1 + 1; omega) _)
          · have h1 : 0 < r1'.length := by omega
            have HE : Hid (askE s l = none) := Lib.hid (by rw [HAS.out, HRL.out]; cases r1' with | nil => exact absurd rfl h0 | cons y r2 => cases r2 <;> cases y <;> rfl)
            clear h0
            go_wp2_with fail
            refine leaves_cons (f := 70) (args := #[.pointer (some ⟨w.heap.size + 1, 0, none⟩), .pointer (some ⟨w.heap.size + 1 + 1, 0, none⟩)]) (by simp) (by simp [go_sem]) ?_
            refine (idle_any _ _ _).mono ?_
            rintro e u' w'' ⟨rfl, rfl, rfl⟩
            simp [Leaves, settle, results, Try.results56, go_sem, r0, r1, z0, z1]
            exact HNONE.out _ HE.out (((HB.out.setCell (p := ⟨w.heap.size + 1, 0, none⟩) (by show w.heap.size ≤ w.heap.size + 1; omega) _).setCell (p := ⟨w.heap.size + 1, 0, none⟩) (by show w.heap.size ≤ w.heap.size + 1; omega) _).setCell (p := ⟨w.heap.size + 1 + 1, 0, none⟩) (by show w.heap.size ≤ w.heap.size + 1 + 1; omega) _)
set_option maxHeartbeats 1000000 in
theorem holds_of (a : Option Addr) (c : Nat) (l : List Ins) (s : Sta) (w : World) (hl : RdL w a l) (hm : l.length ≤ maxLen) (hv : RdV w s) :
    Calls Try.prog 37 #[.slice a l.length c, .agg #[.slice s.a s.vals.length s.c, .int .i64 s.op, .int .i64 s.dn, s.did, s.cnt]] w (AskR s l w) := by
  have hmf : ∀ (fn : Fn) (first cap : Array Value) (w : World), (Instr.makeFunc fn first cap).run Try.prog w = .ok (.func fn first cap) w := fun _ _ _ _ => rfl
  have n1 := bel_new w (.cells #[.slice s.a s.vals.length s.c, .int .i64 s.op, .int .i64 s.dn, s.did, s.cnt] 60)
  have AK := Lib.hid (ask_of a c l s w.heap.size _ (hl.mono n1 (Nat.le_refl _)) hm (sta_new w s 60) (hv.mono n1 (Nat.le_refl _)))
  have HN := Lib.hid n1
  clear n1 hl hm hv
  go_enter Try.func37, Try.ntmps37
  go_wp2_with fail
  refine AK.out.mono ?_
  intro e w2 hq
  rcases hq with ⟨he, rfl, b2⟩ | ⟨b, he, rfl, b2⟩
  · have H2 := Lib.hid (show AskR s l w (.returned (.tuple #[.bool false, .int .i64 17])) w2 from Or.inl ⟨he, rfl, HN.out.trans (b2.mono HN.out.size)⟩)
    clear b2 AK HN he
    go_wp2_with fail
    go_ret2
    exact H2.out
  · have H2 := Lib.hid (show AskR s l w (.returned (.tuple #[.bool b, .int .i64 0])) w2 from Or.inr ⟨b, he, rfl, HN.out.trans (b2.mono HN.out.size)⟩)
    clear b2 AK HN he
    go_wp2_with fail
    go_ret2
    exact H2.out
end Go.Proofs.Ytpbgicfoopicbaa
