/-
  The closure of eval.Holds at any instruction; eval.join; eval.truth: by walks.
-/
import Derived.Test.YtpbgicfoopicbaaEvalStk
import Derived.Test.YtpbgicfoopicbaaTreeAr
namespace Go.Proofs.Ytpbgicfoopicbaa
open Go.RowKit
set_option linter.unusedVariables false
set_option linter.unusedSimpArgs false

set_option maxHeartbeats 1000000 in
theorem clo_of (x : Ins) (s : Sta) (h : Nat) (w : World) (hs : StaAt w h s) (hv : RdV w s) :
    Calls Try.prog 57 #[.agg #[.int .i64 x.op, .int .i64 x.la, .int .i64 x.ln, .int .i64 x.ra, .int .i64 x.rn, .int .i64 x.n, .int .i64 x.us], .pointer (some ⟨h, 0, none⟩)] w fun e w' => e = .returned (tvV (cmpV s x)) ∧ Below w.heap.size w w' := by
  have hu : ∀ b : Bool, ¬ (some undef = some (Value.bool b)) := fun b h => by cases h
  have b1 := bel_new w (.cells #[.int .i64 x.op, .int .i64 x.la, .int .i64 x.ln, .int .i64 x.ra, .int .i64 x.rn, .int .i64 x.n, .int .i64 x.us] 70)
  have s1 := hs.mono b1 (Nat.le_refl _)
  have i1 := ins_new w x 70
  have N1 := num_any s x.la x.ln _ (hv.mono b1 (Nat.le_refl _))
  have N20 : ∀ w', Below w.heap.size w w' → Calls Try.prog 58 #[.agg #[.slice s.a s.vals.length s.c, .int .i64 s.op, .int .i64 s.dn, s.did, s.cnt], .agg #[.int .i64 x.ra, .int .i64 x.rn]] w' (fun e w2 => e = .returned (numRes (numV s x.ra x.rn)) ∧ Below w'.heap.size w' w2) := fun w' hb => num_any s x.ra x.rn w' (hv.mono hb (Nat.le_refl _))
  have HI := Lib.hid (And.intro s1 (And.intro i1 b1))
  obtain ⟨s0, s1', s2, s3, s4⟩ := s1
  obtain ⟨i0, i1', i2, i3, i4, i5, i6⟩ := i1
  have hh : h < w.heap.size := lt_of_cell hs.c0
  clear hs hv b1
  cases hA : numV s x.la x.ln with
  | none =>
    rw [hA] at N1
    cases hB : numV s x.ra x.rn with
    | none =>
      rw [hB] at N20
      simp only [numRes] at N1 N20
      have HN1 := Lib.hid N1
      have HN2 := Lib.hid N20
      have HC : Hid (cmpV s x = none) := Lib.hid (by unfold cmpV; rw [hA, hB])
      clear hA hB N1 N20
      go_enter Try.func57, Try.ntmps57
      go_wp2_with fail
      refine HN1.out.mono ?_
      rintro e w2 ⟨rfl, b2⟩
      generalize w.alloc (.cells #[.int .i64 x.op, .int .i64 x.la, .int .i64 x.ln, .int .i64 x.ra, .int .i64 x.rn, .int .i64 x.n, .int .i64 x.us] 70) = W1 at *
      have s2' := (HI.out).1.mono b2 (Nat.le_refl _)
      have i2' := (HI.out).2.1.mono b2 (Nat.le_refl _)
      have B2 := Lib.hid ((HI.out).2.2.trans (b2.mono (HI.out).2.2.size))
      have HI2 := Lib.hid (And.intro s2' i2')
      clear s0 s1' s2 s3 s4 i0 i1' i2 i3 i4 i5 i6 b2 HN1 HI
      obtain ⟨s0, s1', s2, s3, s4⟩ := s2'
      obtain ⟨i0, i1', i2, i3, i4, i5, i6⟩ := i2'
      go_wp2_with fail
      refine (HN2.out w2 B2.out).mono ?_
      rintro e w3 ⟨rfl, b3⟩
      have i3' := (HI2.out).2.mono b3 (Nat.le_refl _)
      have B3 := Lib.hid (B2.out.trans (b3.mono B2.out.size))
      clear s0 s1' s2 s3 s4 i0 i1' i2 i3 i4 i5 i6 b3 HI2
      obtain ⟨i0, i1', i2, i3, i4, i5, i6⟩ := i3'
      go_wp2_with fail
      go_ret
      rw [HC.out]
      exact ⟨rfl, B3.out⟩
    | some B =>
      rw [hB] at N20
      simp only [numRes] at N1 N20
      have HN1 := Lib.hid N1
      have HN2 := Lib.hid N20
      have HC : Hid (cmpV s x = none) := Lib.hid (by unfold cmpV; rw [hA, hB])
      clear hA hB N1 N20
      go_enter Try.func57, Try.ntmps57
      go_wp2_with fail
      refine HN1.out.mono ?_
      rintro e w2 ⟨rfl, b2⟩
      generalize w.alloc (.cells #[.int .i64 x.op, .int .i64 x.la, .int .i64 x.ln, .int .i64 x.ra, .int .i64 x.rn, .int .i64 x.n, .int .i64 x.us] 70) = W1 at *
      have s2' := (HI.out).1.mono b2 (Nat.le_refl _)
      have i2' := (HI.out).2.1.mono b2 (Nat.le_refl _)
      have B2 := Lib.hid ((HI.out).2.2.trans (b2.mono (HI.out).2.2.size))
      have HI2 := Lib.hid (And.intro s2' i2')
      clear s0 s1' s2 s3 s4 i0 i1' i2 i3 i4 i5 i6 b2 HN1 HI
      obtain ⟨s0, s1', s2, s3, s4⟩ := s2'
      obtain ⟨i0, i1', i2, i3, i4, i5, i6⟩ := i2'
      go_wp2_with fail
      refine (HN2.out w2 B2.out).mono ?_
      rintro e w3 ⟨rfl, b3⟩
      have i3' := (HI2.out).2.mono b3 (Nat.le_refl _)
      have B3 := Lib.hid (B2.out.trans (b3.mono B2.out.size))
      clear s0 s1' s2 s3 s4 i0 i1' i2 i3 i4 i5 i6 b3 HI2
      obtain ⟨i0, i1', i2, i3, i4, i5, i6⟩ := i3'
      go_wp2_with fail
      go_ret
      rw [HC.out]
      exact ⟨rfl, B3.out⟩
  | some A =>
    rw [hA] at N1
    cases hB : numV s x.ra x.rn with
    | none =>
      rw [hB] at N20
      simp only [numRes] at N1 N20
      have HN1 := Lib.hid N1
      have HN2 := Lib.hid N20
      have HC : Hid (cmpV s x = none) := Lib.hid (by unfold cmpV; rw [hA, hB])
      clear hA hB N1 N20
      go_enter Try.func57, Try.ntmps57
      go_wp2_with fail
      refine HN1.out.mono ?_
      rintro e w2 ⟨rfl, b2⟩
      generalize w.alloc (.cells #[.int .i64 x.op, .int .i64 x.la, .int .i64 x.ln, .int .i64 x.ra, .int .i64 x.rn, .int .i64 x.n, .int .i64 x.us] 70) = W1 at *
      have s2' := (HI.out).1.mono b2 (Nat.le_refl _)
      have i2' := (HI.out).2.1.mono b2 (Nat.le_refl _)
      have B2 := Lib.hid ((HI.out).2.2.trans (b2.mono (HI.out).2.2.size))
      have HI2 := Lib.hid (And.intro s2' i2')
      clear s0 s1' s2 s3 s4 i0 i1' i2 i3 i4 i5 i6 b2 HN1 HI
      obtain ⟨s0, s1', s2, s3, s4⟩ := s2'
      obtain ⟨i0, i1', i2, i3, i4, i5, i6⟩ := i2'
      go_wp2_with fail
      refine (HN2.out w2 B2.out).mono ?_
      rintro e w3 ⟨rfl, b3⟩
      have i3' := (HI2.out).2.mono b3 (Nat.le_refl _)
      have B3 := Lib.hid (B2.out.trans (b3.mono B2.out.size))
      clear s0 s1' s2 s3 s4 i0 i1' i2 i3 i4 i5 i6 b3 HI2
      obtain ⟨i0, i1', i2, i3, i4, i5, i6⟩ := i3'
      go_wp2_with fail
      go_ret
      rw [HC.out]
      exact ⟨rfl, B3.out⟩
    | some B =>
      rw [hB] at N20
      simp only [numRes] at N1 N20
      have HN1 := Lib.hid N1
      have HN2 := Lib.hid N20
      have HC : Hid (cmpV s x = some (cmpB x.op A B)) := Lib.hid (by unfold cmpV; rw [hA, hB])
      clear hA hB N1 N20
      go_enter Try.func57, Try.ntmps57
      go_wp2_with fail
      refine HN1.out.mono ?_
      rintro e w2 ⟨rfl, b2⟩
      generalize w.alloc (.cells #[.int .i64 x.op, .int .i64 x.la, .int .i64 x.ln, .int .i64 x.ra, .int .i64 x.rn, .int .i64 x.n, .int .i64 x.us] 70) = W1 at *
      have s2' := (HI.out).1.mono b2 (Nat.le_refl _)
      have i2' := (HI.out).2.1.mono b2 (Nat.le_refl _)
      have B2 := Lib.hid ((HI.out).2.2.trans (b2.mono (HI.out).2.2.size))
      have HI2 := Lib.hid (And.intro s2' i2')
      clear s0 s1' s2 s3 s4 i0 i1' i2 i3 i4 i5 i6 b2 HN1 HI
      obtain ⟨s0, s1', s2, s3, s4⟩ := s2'
      obtain ⟨i0, i1', i2, i3, i4, i5, i6⟩ := i2'
      go_wp2_with fail
      refine (HN2.out w2 B2.out).mono ?_
      rintro e w3 ⟨rfl, b3⟩
      have i3' := (HI2.out).2.mono b3 (Nat.le_refl _)
      have B3 := Lib.hid (B2.out.trans (b3.mono B2.out.size))
      clear s0 s1' s2 s3 s4 i0 i1' i2 i3 i4 i5 i6 b3 HI2
      obtain ⟨i0, i1', i2, i3, i4, i5, i6⟩ := i3'
      have C3 := Lib.hid (cmp_any x.op A B w3)
      generalize cmpB x.op A B = y at *
      go_wp2_with (go_at_call 55; refine C3.out.mono ?_; rintro e w4 ⟨rfl, rfl⟩)
      go_ret
      rw [HC.out]
      exact ⟨rfl, B3.out⟩
theorem join_any (op : Int) (a b : Bool) (w : World) : Calls Try.prog 82 #[.int .i64 op, .bool a, .bool b] w fun e w' => e = .returned (.bool (joinB op a b)) ∧ w = w' := by
  have hu : ∀ b : Bool, ¬ (some undef = some (Value.bool b)) := fun b h => by cases h
  by_cases h1 : op = 16
  · subst h1
    cases a <;> cases b <;> (go_enter Try.func82, Try.ntmps82; go_wp2; go_ret; exact ⟨rfl, rfl⟩)
  · have h1b : (op == 16) = false := by simpa using h1
    by_cases h2 : op = 17
    · subst h2
      cases a <;> cases b <;> (go_enter Try.func82, Try.ntmps82; go_wp2; go_ret; exact ⟨rfl, rfl⟩)
    · have h2b : (op == 17) = false := by simpa using h2
      have hj : joinB op a b = (!a || b) := by unfold joinB; rw [if_neg h1, if_neg h2]
      rw [hj]
      clear hj h1 h2
      cases a <;> cases b <;> (go_enter Try.func82, Try.ntmps82; go_wp2; go_ret; exact ⟨rfl, rfl⟩)
def TrAns (s : Sta) (x : Ins) (r : List (Option Bool)) (p : Nat) (w : World) (e : Ending) (w' : World) : Prop :=
  (∃ r0 t, stepE s x r = some (r0 ++ [t]) ∧ e = .returned (tvV t) ∧ RowAt w' p r0 ∧ Keeps (fun j => p ≤ j) w w') ∨ (stepE s x r = none ∧ Dies p w e w')
theorem truth_pre (x : Ins) (s : Sta) (p h : Nat) (r : List (Option Bool)) (w : World) (hr : RowAt w p r) (hs : StaAt w h s) (hv : RdV w s) :
    InsAt ((w.alloc (.cells #[.int .i64 x.op, .int .i64 x.la, .int .i64 x.ln, .int .i64 x.ra, .int .i64 x.rn, .int .i64 x.n, .int .i64 x.us] 70)).alloc (.cells #[.slice s.a s.vals.length s.c, .int .i64 s.op, .int .i64 s.dn, s.did, s.cnt] 60)) w.heap.size x ∧ StaAt ((w.alloc (.cells #[.int .i64 x.op, .int .i64 x.la, .int .i64 x.ln, .int .i64 x.ra, .int .i64 x.rn, .int .i64 x.n, .int .i64 x.us] 70)).alloc (.cells #[.slice s.a s.vals.length s.c, .int .i64 s.op, .int .i64 s.dn, s.did, s.cnt] 60)) (w.heap.size + 1) s ∧ RowAt ((w.alloc (.cells #[.int .i64 x.op, .int .i64 x.la, .int .i64 x.ln, .int .i64 x.ra, .int .i64 x.rn, .int .i64 x.n, .int .i64 x.us] 70)).alloc (.cells #[.slice s.a s.vals.length s.c, .int .i64 s.op, .int .i64 s.dn, s.did, s.cnt] 60)) p r ∧ StaAt ((w.alloc (.cells #[.int .i64 x.op, .int .i64 x.la, .int .i64 x.ln, .int .i64 x.ra, .int .i64 x.rn, .int .i64 x.n, .int .i64 x.us] 70)).alloc (.cells #[.slice s.a s.vals.length s.c, .int .i64 s.op, .int .i64 s.dn, s.did, s.cnt] 60)) h s ∧ RdV ((w.alloc (.cells #[.int .i64 x.op, .int .i64 x.la, .int .i64 x.ln, .int .i64 x.ra, .int .i64 x.rn, .int .i64 x.n, .int .i64 x.us] 70)).alloc (.cells #[.slice s.a s.vals.length s.c, .int .i64 s.op, .int .i64 s.dn, s.did, s.cnt] 60)) s ∧ Below w.heap.size w ((w.alloc (.cells #[.int .i64 x.op, .int .i64 x.la, .int .i64 x.ln, .int .i64 x.ra, .int .i64 x.rn, .int .i64 x.n, .int .i64 x.us] 70)).alloc (.cells #[.slice s.a s.vals.length s.c, .int .i64 s.op, .int .i64 s.dn, s.did, s.cnt] 60)) := by
  have b1 := bel_new w (.cells #[.int .i64 x.op, .int .i64 x.la, .int .i64 x.ln, .int .i64 x.ra, .int .i64 x.rn, .int .i64 x.n, .int .i64 x.us] 70)
  have i1 := ins_new w x 70
  have z1 : (w.alloc (.cells #[.int .i64 x.op, .int .i64 x.la, .int .i64 x.ln, .int .i64 x.ra, .int .i64 x.rn, .int .i64 x.n, .int .i64 x.us] 70)).heap.size = w.heap.size + 1 := by simp
  have hr1 := hr.mono b1 (Nat.le_refl _)
  have hs1 := hs.mono b1 (Nat.le_refl _)
  have hv1 := hv.mono b1 (Nat.le_refl _)
  generalize w.alloc (.cells #[.int .i64 x.op, .int .i64 x.la, .int .i64 x.ln, .int .i64 x.ra, .int .i64 x.rn, .int .i64 x.n, .int .i64 x.us] 70) = W1 at *
  have b2 := bel_new W1 (.cells #[.slice s.a s.vals.length s.c, .int .i64 s.op, .int .i64 s.dn, s.did, s.cnt] 60)
  have t2 := sta_new W1 s 60
  rw [z1] at t2
  exact ⟨i1.mono b2 (Nat.le_refl _), t2, hr1.mono b2 (Nat.le_refl _), hs1.mono b2 (Nat.le_refl _), hv1.mono b2 (Nat.le_refl _), b1.trans (b2.mono b1.size)⟩
end Go.Proofs.Ytpbgicfoopicbaa
