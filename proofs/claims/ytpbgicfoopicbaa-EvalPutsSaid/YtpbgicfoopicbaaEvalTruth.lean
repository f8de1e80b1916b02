/-
  eval.truth at any instruction: by walks.
-/
import Derived.Test.YtpbgicfoopicbaaEvalJoin
namespace Go.Proofs.Ytpbgicfoopicbaa
open Go.RowKit
set_option linter.unusedVariables false
set_option linter.unusedSimpArgs false

theorem last_cases (r : List (Option Bool)) : r = [] ∨ (∃ r1, r = r1 ++ [none]) ∨ ∃ r1 b, r = r1 ++ [some b] := by
  rcases List.eq_nil_or_concat r with h | ⟨r1, t, h⟩
  · exact Or.inl h
  · cases t with
    | none => exact Or.inr (Or.inl ⟨r1, by simpa using h⟩)
    | some b => exact Or.inr (Or.inr ⟨r1, b, by simpa using h⟩)
set_option maxHeartbeats 1000000 in
theorem truth_1 (x : Ins) (s : Sta) (p h : Nat) (r : List (Option Bool)) (w : World) (hr : RowAt w p r) (hl : r.length ≤ 64) (hs : StaAt w h s) (hv : RdV w s) (e1 : x.op = 1) :
    Calls Try.prog 72 #[.agg #[.int .i64 x.op, .int .i64 x.la, .int .i64 x.ln, .int .i64 x.ra, .int .i64 x.rn, .int .i64 x.n, .int .i64 x.us], .agg #[.slice s.a s.vals.length s.c, .int .i64 s.op, .int .i64 s.dn, s.did, s.cnt], .pointer (some ⟨p, 0, none⟩), .func (.func 57) #[] #[.pointer (some ⟨h, 0, none⟩)]] w (TrAns s x r p w) := by
  have hu : ∀ b : Bool, ¬ (some undef = some (Value.bool b)) := fun b h => by cases h
  obtain ⟨i2, t2, r2, s2, v2, b2⟩ := truth_pre x s p h r w hr hs hv
  have hpl : p < w.heap.size := by obtain ⟨v, h1, _⟩ := hr.ex; exact lt_of_cell h1
  have K2 := Lib.hid (keeps_of (fun j => p ≤ j) b2 (Nat.le_refl _))
  have HI := Lib.hid (And.intro i2 (And.intro r2 (And.intro s2 (And.intro v2 b2))))
  obtain ⟨i0, i1, i2, i3, i4, i5, i6⟩ := i2
  obtain ⟨t0, t1, t2, t3, t4⟩ := t2
  clear hr hs hv b2 r2 s2 v2
  have HS : Hid (stepE s x r = some (r ++ [some true])) := Lib.hid (by unfold stepE; simp [e1])
  have q1 : (x.op == 1) = true := by simp [e1]
  clear e1
  go_enter Try.func72, Try.ntmps72
  go_wp2
  go_ret
  exact Or.inl ⟨r, some true, HS.out, rfl, (HI.out).2.1, K2.out⟩
set_option maxHeartbeats 1000000 in
theorem truth_2 (x : Ins) (s : Sta) (p h : Nat) (r : List (Option Bool)) (w : World) (hr : RowAt w p r) (hl : r.length ≤ 64) (hs : StaAt w h s) (hv : RdV w s) (e1 : x.op = 2) :
    Calls Try.prog 72 #[.agg #[.int .i64 x.op, .int .i64 x.la, .int .i64 x.ln, .int .i64 x.ra, .int .i64 x.rn, .int .i64 x.n, .int .i64 x.us], .agg #[.slice s.a s.vals.length s.c, .int .i64 s.op, .int .i64 s.dn, s.did, s.cnt], .pointer (some ⟨p, 0, none⟩), .func (.func 57) #[] #[.pointer (some ⟨h, 0, none⟩)]] w (TrAns s x r p w) := by
  have hu : ∀ b : Bool, ¬ (some undef = some (Value.bool b)) := fun b h => by cases h
  obtain ⟨i2, t2, r2, s2, v2, b2⟩ := truth_pre x s p h r w hr hs hv
  have hpl : p < w.heap.size := by obtain ⟨v, h1, _⟩ := hr.ex; exact lt_of_cell h1
  have K2 := Lib.hid (keeps_of (fun j => p ≤ j) b2 (Nat.le_refl _))
  have HI := Lib.hid (And.intro i2 (And.intro r2 (And.intro s2 (And.intro v2 b2))))
  obtain ⟨i0, i1, i2, i3, i4, i5, i6⟩ := i2
  obtain ⟨t0, t1, t2, t3, t4⟩ := t2
  clear hr hs hv b2 r2 s2 v2
  have HS : Hid (stepE s x r = some (r ++ [some false])) := Lib.hid (by unfold stepE; simp [e1])
  have q1 : (x.op == 1) = false := by simp [e1]
  have q2 : (x.op == 2) = true := by simp [e1]
  clear e1
  go_enter Try.func72, Try.ntmps72
  go_wp2
  go_ret
  exact Or.inl ⟨r, some false, HS.out, rfl, (HI.out).2.1, K2.out⟩
set_option maxHeartbeats 1000000 in
theorem truth_3 (x : Ins) (s : Sta) (p h : Nat) (r : List (Option Bool)) (w : World) (hr : RowAt w p r) (hl : r.length ≤ 64) (hs : StaAt w h s) (hv : RdV w s) (e1 : 3 ≤ x.op) (e2 : x.op ≤ 8) :
    Calls Try.prog 72 #[.agg #[.int .i64 x.op, .int .i64 x.la, .int .i64 x.ln, .int .i64 x.ra, .int .i64 x.rn, .int .i64 x.n, .int .i64 x.us], .agg #[.slice s.a s.vals.length s.c, .int .i64 s.op, .int .i64 s.dn, s.did, s.cnt], .pointer (some ⟨p, 0, none⟩), .func (.func 57) #[] #[.pointer (some ⟨h, 0, none⟩)]] w (TrAns s x r p w) := by
  have hu : ∀ b : Bool, ¬ (some undef = some (Value.bool b)) := fun b h => by cases h
  obtain ⟨i2, t2, r2, s2, v2, b2⟩ := truth_pre x s p h r w hr hs hv
  have hpl : p < w.heap.size := by obtain ⟨v, h1, _⟩ := hr.ex; exact lt_of_cell h1
  have K2 := Lib.hid (keeps_of (fun j => p ≤ j) b2 (Nat.le_refl _))
  have HI := Lib.hid (And.intro i2 (And.intro r2 (And.intro s2 (And.intro v2 b2))))
  obtain ⟨i0, i1, i2, i3, i4, i5, i6⟩ := i2
  obtain ⟨t0, t1, t2, t3, t4⟩ := t2
  clear hr hs hv b2 r2 s2 v2
  have HS : Hid (stepE s x r = some (r ++ [cmpV s x])) := Lib.hid (by unfold stepE; rw [if_neg (by omega), if_neg (by omega), if_pos ⟨e1, e2⟩])
  have q1 : (x.op == 1) = false := by rw [beq_eq_false_iff_ne]; omega
  have q2 : (x.op == 2) = false := by rw [beq_eq_false_iff_ne]; omega
  have CL := Lib.hid (clo_of x s h ((w.alloc (.cells #[.int .i64 x.op, .int .i64 x.la, .int .i64 x.ln, .int .i64 x.ra, .int .i64 x.rn, .int .i64 x.n, .int .i64 x.us] 70)).alloc (.cells #[.slice s.a s.vals.length s.c, .int .i64 s.op, .int .i64 s.dn, s.did, s.cnt] 60)) (HI.out).2.2.1 (HI.out).2.2.2.1)
  generalize cmpV s x = y at *
  go_enter Try.func72, Try.ntmps72
  go_wp2_with fail
  refine CL.out.mono ?_
  rintro e w3 ⟨rfl, b3⟩
  have R3 := Lib.hid (And.intro ((HI.out).2.1.mono b3 (Nat.le_refl _)) (K2.out.trans (keeps_of (fun j => p ≤ j) b3 (Nat.le_refl _))))
  clear b3 CL
  go_wp2_with fail
  go_ret
  exact Or.inl ⟨r, y, HS.out, rfl, (R3.out).1, (R3.out).2⟩
set_option maxHeartbeats 1000000 in
theorem truth_9 (x : Ins) (s : Sta) (p h : Nat) (r : List (Option Bool)) (w : World) (hr : RowAt w p r) (hl : r.length ≤ 64) (hs : StaAt w h s) (hv : RdV w s) (e1 : x.op = 9) :
    Calls Try.prog 72 #[.agg #[.int .i64 x.op, .int .i64 x.la, .int .i64 x.ln, .int .i64 x.ra, .int .i64 x.rn, .int .i64 x.n, .int .i64 x.us], .agg #[.slice s.a s.vals.length s.c, .int .i64 s.op, .int .i64 s.dn, s.did, s.cnt], .pointer (some ⟨p, 0, none⟩), .func (.func 57) #[] #[.pointer (some ⟨h, 0, none⟩)]] w (TrAns s x r p w) := by
  have hu : ∀ b : Bool, ¬ (some undef = some (Value.bool b)) := fun b h => by cases h
  obtain ⟨i2, t2, r2, s2, v2, b2⟩ := truth_pre x s p h r w hr hs hv
  have hpl : p < w.heap.size := by obtain ⟨v, h1, _⟩ := hr.ex; exact lt_of_cell h1
  have K2 := Lib.hid (keeps_of (fun j => p ≤ j) b2 (Nat.le_refl _))
  have HI := Lib.hid (And.intro i2 (And.intro r2 (And.intro s2 (And.intro v2 b2))))
  obtain ⟨i0, i1, i2, i3, i4, i5, i6⟩ := i2
  obtain ⟨t0, t1, t2, t3, t4⟩ := t2
  clear hr hs hv b2 r2 s2 v2
  have HS : Hid (stepE s x r = some (r ++ [some (hasB s.op x.n)])) := Lib.hid (by unfold stepE; simp [e1])
  have q1 : (x.op == 1) = false := by simp [e1]
  have q2 : (x.op == 2) = false := by simp [e1]
  have q3 : 3 ≤ x.op := by omega
  have q4 : 8 < x.op := by omega
  have q9 : (x.op == 9) = true := by simp [e1]
  have q10 : (x.op == 10) = false := by simp [e1]
  clear e1
  have HA := Lib.hid (fun w => has_any s.op x.n w)
  generalize hasB s.op x.n = y at *
  go_enter Try.func72, Try.ntmps72
  go_wp2_with (go_at_call 81; refine (HA.out _).mono ?_; rintro e w3 ⟨rfl, rfl⟩)
  go_ret
  exact Or.inl ⟨r, some y, HS.out, rfl, (HI.out).2.1, K2.out⟩
set_option maxHeartbeats 1000000 in
theorem truth_10 (x : Ins) (s : Sta) (p h : Nat) (r : List (Option Bool)) (w : World) (hr : RowAt w p r) (hl : r.length ≤ 64) (hs : StaAt w h s) (hv : RdV w s) (e1 : x.op = 10) :
    Calls Try.prog 72 #[.agg #[.int .i64 x.op, .int .i64 x.la, .int .i64 x.ln, .int .i64 x.ra, .int .i64 x.rn, .int .i64 x.n, .int .i64 x.us], .agg #[.slice s.a s.vals.length s.c, .int .i64 s.op, .int .i64 s.dn, s.did, s.cnt], .pointer (some ⟨p, 0, none⟩), .func (.func 57) #[] #[.pointer (some ⟨h, 0, none⟩)]] w (TrAns s x r p w) := by
  have hu : ∀ b : Bool, ¬ (some undef = some (Value.bool b)) := fun b h => by cases h
  obtain ⟨i2, t2, r2, s2, v2, b2⟩ := truth_pre x s p h r w hr hs hv
  have hpl : p < w.heap.size := by obtain ⟨v, h1, _⟩ := hr.ex; exact lt_of_cell h1
  have K2 := Lib.hid (keeps_of (fun j => p ≤ j) b2 (Nat.le_refl _))
  have HI := Lib.hid (And.intro i2 (And.intro r2 (And.intro s2 (And.intro v2 b2))))
  obtain ⟨i0, i1, i2, i3, i4, i5, i6⟩ := i2
  obtain ⟨t0, t1, t2, t3, t4⟩ := t2
  clear hr hs hv b2 r2 s2 v2
  have HS : Hid (stepE s x r = some (r ++ [some (hasB s.dn x.n)])) := Lib.hid (by unfold stepE; simp [e1])
  have q1 : (x.op == 1) = false := by simp [e1]
  have q2 : (x.op == 2) = false := by simp [e1]
  have q3 : 3 ≤ x.op := by omega
  have q4 : 8 < x.op := by omega
  have q9 : (x.op == 9) = false := by simp [e1]
  have q10 : (x.op == 10) = true := by simp [e1]
  clear e1
  have HA := Lib.hid (fun w => has_any s.dn x.n w)
  generalize hasB s.dn x.n = y at *
  go_enter Try.func72, Try.ntmps72
  go_wp2_with (go_at_call 81; refine (HA.out _).mono ?_; rintro e w3 ⟨rfl, rfl⟩)
  go_ret
  exact Or.inl ⟨r, some y, HS.out, rfl, (HI.out).2.1, K2.out⟩
set_option maxHeartbeats 1000000 in
theorem truth_15 (x : Ins) (s : Sta) (p h : Nat) (r : List (Option Bool)) (w : World) (hr : RowAt w p r) (hl : r.length ≤ 64) (hs : StaAt w h s) (hv : RdV w s) (e1 : x.op = 15) :
    Calls Try.prog 72 #[.agg #[.int .i64 x.op, .int .i64 x.la, .int .i64 x.ln, .int .i64 x.ra, .int .i64 x.rn, .int .i64 x.n, .int .i64 x.us], .agg #[.slice s.a s.vals.length s.c, .int .i64 s.op, .int .i64 s.dn, s.did, s.cnt], .pointer (some ⟨p, 0, none⟩), .func (.func 57) #[] #[.pointer (some ⟨h, 0, none⟩)]] w (TrAns s x r p w) := by
  have hu : ∀ b : Bool, ¬ (some undef = some (Value.bool b)) := fun b h => by cases h
  obtain ⟨i2, t2, r2, s2, v2, b2⟩ := truth_pre x s p h r w hr hs hv
  have hpl : p < w.heap.size := by obtain ⟨v, h1, _⟩ := hr.ex; exact lt_of_cell h1
  have K2 := Lib.hid (keeps_of (fun j => p ≤ j) b2 (Nat.le_refl _))
  have HI := Lib.hid (And.intro i2 (And.intro r2 (And.intro s2 (And.intro v2 b2))))
  obtain ⟨i0, i1, i2, i3, i4, i5, i6⟩ := i2
  obtain ⟨t0, t1, t2, t3, t4⟩ := t2
  clear hr hs hv b2 r2 s2 v2
  have q1 : (x.op == 1) = false := by rw [beq_eq_false_iff_ne]; omega
  have q2 : (x.op == 2) = false := by rw [beq_eq_false_iff_ne]; omega
  have q3 : 3 ≤ x.op := by omega
  have q4 : 8 < x.op := by omega
  have q9 : (x.op == 9) = false := by rw [beq_eq_false_iff_ne]; omega
  have q10 : (x.op == 10) = false := by rw [beq_eq_false_iff_ne]; omega
  have q15 : (x.op == 15) = true := by simp [e1]
  rcases last_cases r with hr | ⟨r1, hr⟩ | ⟨r1, b, hr⟩
  · subst hr
    have HS : Hid (stepE s x [] = none) := Lib.hid (by unfold stepE; simp [e1, takeP_nil])
    clear e1
    have TK := Lib.hid (take_nil p _ (HI.out).2.1)
    go_enter Try.func72, Try.ntmps72
    go_wp2_with fail
    refine TK.out.mono ?_
    rintro e w3 ⟨⟨t, pv, rfl⟩, k3⟩
    have K3 := Lib.hid (K2.out.trans k3)
    clear k3 TK
    go_wp2_with fail
    exact ⟨rfl, Or.inr ⟨HS.out, ⟨_, _, rfl⟩, K3.out⟩⟩
  · subst hr
    have HS : Hid (stepE s x (r1 ++ [none]) = none) := Lib.hid (by unfold stepE; simp [e1, takeP_none])
    clear e1
    have TK := Lib.hid (take_bad p r1 _ (HI.out).2.1 (by simp at hl; omega))
    go_enter Try.func72, Try.ntmps72
    go_wp2_with fail
    refine TK.out.mono ?_
    rintro e w3 ⟨⟨t, pv, rfl⟩, k3⟩
    have K3 := Lib.hid (K2.out.trans k3)
    clear k3 TK
    go_wp2_with fail
    exact ⟨rfl, Or.inr ⟨HS.out, ⟨_, _, rfl⟩, K3.out⟩⟩
  · subst hr
    have HS : Hid (stepE s x (r1 ++ [some b]) = some (r1 ++ [some !b])) := Lib.hid (by unfold stepE; simp [e1, takeP_some])
    clear e1
    have TK := Lib.hid (take_some p r1 b _ (HI.out).2.1 (by simp at hl; omega))
    go_enter Try.func72, Try.ntmps72
    go_wp2_with fail
    refine TK.out.mono ?_
    rintro e w3 ⟨rfl, r3, k3⟩
    have R3 := Lib.hid (And.intro r3 (K2.out.trans ⟨k3.os, k3.tape, k3.output, k3.size, fun j hj hs => k3.block j hj (fun e => by omega)⟩))
    clear r3 k3 TK
    go_wp2_with fail
    go_ret
    exact Or.inl ⟨r1, some !b, HS.out, rfl, (R3.out).1, (R3.out).2⟩
set_option maxHeartbeats 1000000 in
theorem truth_16 (x : Ins) (s : Sta) (p h : Nat) (r : List (Option Bool)) (w : World) (hr : RowAt w p r) (hl : r.length ≤ 64) (hs : StaAt w h s) (hv : RdV w s) (e1 : 16 ≤ x.op) (e2 : x.op ≤ 18) :
    Calls Try.prog 72 #[.agg #[.int .i64 x.op, .int .i64 x.la, .int .i64 x.ln, .int .i64 x.ra, .int .i64 x.rn, .int .i64 x.n, .int .i64 x.us], .agg #[.slice s.a s.vals.length s.c, .int .i64 s.op, .int .i64 s.dn, s.did, s.cnt], .pointer (some ⟨p, 0, none⟩), .func (.func 57) #[] #[.pointer (some ⟨h, 0, none⟩)]] w (TrAns s x r p w) := by
  have hu : ∀ b : Bool, ¬ (some undef = some (Value.bool b)) := fun b h => by cases h
  obtain ⟨i2, t2, r2, s2, v2, b2⟩ := truth_pre x s p h r w hr hs hv
  have hpl : p < w.heap.size := by obtain ⟨v, h1, _⟩ := hr.ex; exact lt_of_cell h1
  have K2 := Lib.hid (keeps_of (fun j => p ≤ j) b2 (Nat.le_refl _))
  have HI := Lib.hid (And.intro i2 (And.intro r2 (And.intro s2 (And.intro v2 b2))))
  obtain ⟨i0, i1, i2, i3, i4, i5, i6⟩ := i2
  obtain ⟨t0, t1, t2, t3, t4⟩ := t2
  clear hr hs hv b2 r2 s2 v2
  have q1 : (x.op == 1) = false := by rw [beq_eq_false_iff_ne]; omega
  have q2 : (x.op == 2) = false := by rw [beq_eq_false_iff_ne]; omega
  have q3 : 3 ≤ x.op := by omega
  have q4 : 8 < x.op := by omega
  have q9 : (x.op == 9) = false := by rw [beq_eq_false_iff_ne]; omega
  have q10 : (x.op == 10) = false := by rw [beq_eq_false_iff_ne]; omega
  have q15 : (x.op == 15) = false := by rw [beq_eq_false_iff_ne]; omega
  have q19 : x.op < 19 := by omega
  have AR : Hid (∀ w, Calls Try.prog 18 #[.int .i64 x.op] w fun e w' => e = .returned (.int .i64 2) ∧ w = w') := Lib.hid (fun w => by
    have h1 := arity_any x.op w
    unfold ArAns at h1
    rw [show Tr.ar x.op = 2 by unfold Tr.ar; rw [if_neg (by omega), if_neg (by omega), if_pos (by omega)]] at h1
    exact h1)
  have hst : ∀ q, stepE s x q = (takeP q).bind (fun p => (takeP p.2).map (fun q => q.2 ++ [some (joinB x.op q.1 p.1)])) := fun q => by unfold stepE; rw [if_neg (by omega), if_neg (by omega), if_neg (by omega), if_neg (by omega), if_neg (by omega), if_neg (by omega), if_pos ⟨e1, e2⟩]
  rcases last_cases r with hr | ⟨r1, hr⟩ | ⟨r1, b, hr⟩
  · subst hr
    have HS : Hid (stepE s x [] = none) := Lib.hid (by rw [hst, takeP_nil]; rfl)
    have TK := Lib.hid (take_nil p _ (HI.out).2.1)
    clear hst
    go_enter Try.func72, Try.ntmps72
    go_wp2_with (go_at_call 18; refine (AR.out _).mono ?_; rintro e w4 ⟨rfl, rfl⟩)
    refine TK.out.mono ?_
    rintro e w3 ⟨⟨t, pv, rfl⟩, k3⟩
    have K3 := Lib.hid (K2.out.trans k3)
    clear k3 TK
    go_wp2_with fail
    exact ⟨rfl, Or.inr ⟨HS.out, ⟨_, _, rfl⟩, K3.out⟩⟩
  · subst hr
    have HS : Hid (stepE s x (r1 ++ [none]) = none) := Lib.hid (by rw [hst, takeP_none]; rfl)
    have TK := Lib.hid (take_bad p r1 _ (HI.out).2.1 (by simp at hl; omega))
    clear hst
    go_enter Try.func72, Try.ntmps72
    go_wp2_with (go_at_call 18; refine (AR.out _).mono ?_; rintro e w4 ⟨rfl, rfl⟩)
    refine TK.out.mono ?_
    rintro e w3 ⟨⟨t, pv, rfl⟩, k3⟩
    have K3 := Lib.hid (K2.out.trans k3)
    clear k3 TK
    go_wp2_with fail
    exact ⟨rfl, Or.inr ⟨HS.out, ⟨_, _, rfl⟩, K3.out⟩⟩
  · subst hr
    have hl1 : r1.length ≤ 64 := by simp at hl; omega
    have TK := Lib.hid (take_some p r1 b _ (HI.out).2.1 hl1)
    have HST := Lib.hid hst
    clear hst
    go_enter Try.func72, Try.ntmps72
    go_wp2_with (go_at_call 18; refine (AR.out _).mono ?_; rintro e w4 ⟨rfl, rfl⟩)
    refine TK.out.mono ?_
    rintro e w3 ⟨rfl, r3, k3⟩
    have i3' := (HI.out).1.keeps k3 (by omega)
    have R3 := Lib.hid (And.intro r3 (K2.out.trans ⟨k3.os, k3.tape, k3.output, k3.size, fun j hj hs => k3.block j hj (fun e => by omega)⟩))
    have I3 := Lib.hid i3'
    clear r3 k3 TK i0 i1 i2 i3 i4 i5 i6 t0 t1 t2 t3 t4 i3' HI K2
    rcases last_cases r1 with hr | ⟨r2, hr⟩ | ⟨r2, a, hr⟩
    · subst hr
      have HS : Hid (stepE s x ([] ++ [some b]) = none) := Lib.hid (by rw [HST.out, takeP_some]; rfl)
      have TK := Lib.hid (take_nil p _ (R3.out).1)
      go_wp2_with fail
      refine TK.out.mono ?_
      rintro e w5 ⟨⟨t, pv, rfl⟩, k5⟩
      have K5 := Lib.hid ((R3.out).2.trans k5)
      clear k5 TK
      go_wp2_with fail
      exact ⟨rfl, Or.inr ⟨by simpa using HS.out, ⟨_, _, rfl⟩, K5.out⟩⟩
    · subst hr
      have HS : Hid (stepE s x (r2 ++ [none] ++ [some b]) = none) := Lib.hid (by rw [HST.out, takeP_some]; simp [takeP_none])
      have TK := Lib.hid (take_bad p r2 _ (R3.out).1 (by simp at hl1; omega))
      go_wp2_with fail
      refine TK.out.mono ?_
      rintro e w5 ⟨⟨t, pv, rfl⟩, k5⟩
      have K5 := Lib.hid ((R3.out).2.trans k5)
      clear k5 TK
      go_wp2_with fail
      exact ⟨rfl, Or.inr ⟨by simpa using HS.out, ⟨_, _, rfl⟩, K5.out⟩⟩
    · subst hr
      have HS : Hid (stepE s x (r2 ++ [some a] ++ [some b]) = some (r2 ++ [some (joinB x.op a b)])) := Lib.hid (by rw [HST.out, takeP_some]; simp [takeP_some])
      have TK := Lib.hid (take_some p r2 a _ (R3.out).1 (by simp at hl1; omega))
      have JN := Lib.hid (fun w => join_any x.op a b w)
      generalize joinB x.op a b = y at *
      go_wp2_with fail
      refine TK.out.mono ?_
      rintro e w5 ⟨rfl, r5, k5⟩
      obtain ⟨i0, i1, i2, i3, i4, i5, i6⟩ := I3.out.keeps k5 (by omega)
      have R5 := Lib.hid (And.intro r5 ((R3.out).2.trans ⟨k5.os, k5.tape, k5.output, k5.size, fun j hj hs => k5.block j hj (fun e => by omega)⟩))
      clear r5 k5 TK
      go_wp2_with (go_at_call 82; refine (JN.out _).mono ?_; rintro e w6 ⟨rfl, rfl⟩)
      go_ret
      exact Or.inl ⟨r2, some y, by simpa using HS.out, rfl, (R5.out).1, (R5.out).2⟩
set_option maxHeartbeats 1000000 in
theorem truth_lo (x : Ins) (s : Sta) (p h : Nat) (r : List (Option Bool)) (w : World) (hr : RowAt w p r) (hl : r.length ≤ 64) (hs : StaAt w h s) (hv : RdV w s) (e1 : x.op < 1) :
    Calls Try.prog 72 #[.agg #[.int .i64 x.op, .int .i64 x.la, .int .i64 x.ln, .int .i64 x.ra, .int .i64 x.rn, .int .i64 x.n, .int .i64 x.us], .agg #[.slice s.a s.vals.length s.c, .int .i64 s.op, .int .i64 s.dn, s.did, s.cnt], .pointer (some ⟨p, 0, none⟩), .func (.func 57) #[] #[.pointer (some ⟨h, 0, none⟩)]] w (TrAns s x r p w) := by
  have hu : ∀ b : Bool, ¬ (some undef = some (Value.bool b)) := fun b h => by cases h
  obtain ⟨i2, t2, r2, s2, v2, b2⟩ := truth_pre x s p h r w hr hs hv
  have hpl : p < w.heap.size := by obtain ⟨v, h1, _⟩ := hr.ex; exact lt_of_cell h1
  have K2 := Lib.hid (keeps_of (fun j => p ≤ j) b2 (Nat.le_refl _))
  have HI := Lib.hid (And.intro i2 (And.intro r2 (And.intro s2 (And.intro v2 b2))))
  obtain ⟨i0, i1, i2, i3, i4, i5, i6⟩ := i2
  obtain ⟨t0, t1, t2, t3, t4⟩ := t2
  clear hr hs hv b2 r2 s2 v2
  have q1 : (x.op == 1) = false := by rw [beq_eq_false_iff_ne]; omega
  have q2 : (x.op == 2) = false := by rw [beq_eq_false_iff_ne]; omega
  have q9 : (x.op == 9) = false := by rw [beq_eq_false_iff_ne]; omega
  have q10 : (x.op == 10) = false := by rw [beq_eq_false_iff_ne]; omega
  have q15 : (x.op == 15) = false := by rw [beq_eq_false_iff_ne]; omega
  have HS : Hid (stepE s x r = some (r ++ [none])) := Lib.hid (by unfold stepE; rw [if_neg (by omega), if_neg (by omega), if_neg (by omega), if_neg (by omega), if_neg (by omega), if_neg (by omega), if_neg (by omega)])
  obtain ⟨n, hn⟩ : ∃ n, Tr.ar x.op = n := ⟨_, rfl⟩
  have hn2 : (n == 2) = false := by rw [← hn, beq_eq_false_iff_ne]; unfold Tr.ar; repeat' split <;> omega
  have AR : Hid (∀ w, Calls Try.prog 18 #[.int .i64 x.op] w fun e w' => e = .returned (.int .i64 n) ∧ w = w') := Lib.hid (fun w => by
    have h1 := arity_any x.op w
    unfold ArAns at h1
    rw [hn] at h1
    exact h1)
  clear hn
  have q3 : x.op < 3 := by omega
  have q19 : x.op < 19 := by omega
  go_enter Try.func72, Try.ntmps72
  go_wp2_with (go_at_call 18; refine (AR.out _).mono ?_; rintro e w4 ⟨rfl, rfl⟩)
  go_ret
  exact Or.inl ⟨r, none, HS.out, rfl, (HI.out).2.1, K2.out⟩
set_option maxHeartbeats 1000000 in
theorem truth_11 (x : Ins) (s : Sta) (p h : Nat) (r : List (Option Bool)) (w : World) (hr : RowAt w p r) (hl : r.length ≤ 64) (hs : StaAt w h s) (hv : RdV w s) (e1 : 11 ≤ x.op) (e2 : x.op ≤ 14) :
    Calls Try.prog 72 #[.agg #[.int .i64 x.op, .int .i64 x.la, .int .i64 x.ln, .int .i64 x.ra, .int .i64 x.rn, .int .i64 x.n, .int .i64 x.us], .agg #[.slice s.a s.vals.length s.c, .int .i64 s.op, .int .i64 s.dn, s.did, s.cnt], .pointer (some ⟨p, 0, none⟩), .func (.func 57) #[] #[.pointer (some ⟨h, 0, none⟩)]] w (TrAns s x r p w) := by
  have hu : ∀ b : Bool, ¬ (some undef = some (Value.bool b)) := fun b h => by cases h
  obtain ⟨i2, t2, r2, s2, v2, b2⟩ := truth_pre x s p h r w hr hs hv
  have hpl : p < w.heap.size := by obtain ⟨v, h1, _⟩ := hr.ex; exact lt_of_cell h1
  have K2 := Lib.hid (keeps_of (fun j => p ≤ j) b2 (Nat.le_refl _))
  have HI := Lib.hid (And.intro i2 (And.intro r2 (And.intro s2 (And.intro v2 b2))))
  obtain ⟨i0, i1, i2, i3, i4, i5, i6⟩ := i2
  obtain ⟨t0, t1, t2, t3, t4⟩ := t2
  clear hr hs hv b2 r2 s2 v2
  have q1 : (x.op == 1) = false := by rw [beq_eq_false_iff_ne]; omega
  have q2 : (x.op == 2) = false := by rw [beq_eq_false_iff_ne]; omega
  have q9 : (x.op == 9) = false := by rw [beq_eq_false_iff_ne]; omega
  have q10 : (x.op == 10) = false := by rw [beq_eq_false_iff_ne]; omega
  have q15 : (x.op == 15) = false := by rw [beq_eq_false_iff_ne]; omega
  have HS : Hid (stepE s x r = some (r ++ [none])) := Lib.hid (by unfold stepE; rw [if_neg (by omega), if_neg (by omega), if_neg (by omega), if_neg (by omega), if_neg (by omega), if_neg (by omega), if_neg (by omega)])
  obtain ⟨n, hn⟩ : ∃ n, Tr.ar x.op = n := ⟨_, rfl⟩
  have hn2 : (n == 2) = false := by rw [← hn, beq_eq_false_iff_ne]; unfold Tr.ar; repeat' split <;> omega
  have AR : Hid (∀ w, Calls Try.prog 18 #[.int .i64 x.op] w fun e w' => e = .returned (.int .i64 n) ∧ w = w') := Lib.hid (fun w => by
    have h1 := arity_any x.op w
    unfold ArAns at h1
    rw [hn] at h1
    exact h1)
  clear hn
  have q3 : 3 ≤ x.op := by omega
  have q4 : 8 < x.op := by omega
  have q19 : x.op < 19 := by omega
  go_enter Try.func72, Try.ntmps72
  go_wp2_with (go_at_call 18; refine (AR.out _).mono ?_; rintro e w4 ⟨rfl, rfl⟩)
  go_ret
  exact Or.inl ⟨r, none, HS.out, rfl, (HI.out).2.1, K2.out⟩
set_option maxHeartbeats 1000000 in
theorem truth_hi (x : Ins) (s : Sta) (p h : Nat) (r : List (Option Bool)) (w : World) (hr : RowAt w p r) (hl : r.length ≤ 64) (hs : StaAt w h s) (hv : RdV w s) (e1 : 19 ≤ x.op) :
    Calls Try.prog 72 #[.agg #[.int .i64 x.op, .int .i64 x.la, .int .i64 x.ln, .int .i64 x.ra, .int .i64 x.rn, .int .i64 x.n, .int .i64 x.us], .agg #[.slice s.a s.vals.length s.c, .int .i64 s.op, .int .i64 s.dn, s.did, s.cnt], .pointer (some ⟨p, 0, none⟩), .func (.func 57) #[] #[.pointer (some ⟨h, 0, none⟩)]] w (TrAns s x r p w) := by
  have hu : ∀ b : Bool, ¬ (some undef = some (Value.bool b)) := fun b h => by cases h
  obtain ⟨i2, t2, r2, s2, v2, b2⟩ := truth_pre x s p h r w hr hs hv
  have hpl : p < w.heap.size := by obtain ⟨v, h1, _⟩ := hr.ex; exact lt_of_cell h1
  have K2 := Lib.hid (keeps_of (fun j => p ≤ j) b2 (Nat.le_refl _))
  have HI := Lib.hid (And.intro i2 (And.intro r2 (And.intro s2 (And.intro v2 b2))))
  obtain ⟨i0, i1, i2, i3, i4, i5, i6⟩ := i2
  obtain ⟨t0, t1, t2, t3, t4⟩ := t2
  clear hr hs hv b2 r2 s2 v2
  have q1 : (x.op == 1) = false := by rw [beq_eq_false_iff_ne]; omega
  have q2 : (x.op == 2) = false := by rw [beq_eq_false_iff_ne]; omega
  have q9 : (x.op == 9) = false := by rw [beq_eq_false_iff_ne]; omega
  have q10 : (x.op == 10) = false := by rw [beq_eq_false_iff_ne]; omega
  have q15 : (x.op == 15) = false := by rw [beq_eq_false_iff_ne]; omega
  have HS : Hid (stepE s x r = some (r ++ [none])) := Lib.hid (by unfold stepE; rw [if_neg (by omega), if_neg (by omega), if_neg (by omega), if_neg (by omega), if_neg (by omega), if_neg (by omega), if_neg (by omega)])
  have q3 : 3 ≤ x.op := by omega
  have q4 : 8 < x.op := by omega
  go_enter Try.func72, Try.ntmps72
  go_wp2
  go_ret
  exact Or.inl ⟨r, none, HS.out, rfl, (HI.out).2.1, K2.out⟩
theorem truth_of (x : Ins) (s : Sta) (p h : Nat) (r : List (Option Bool)) (w : World) (hr : RowAt w p r) (hl : r.length ≤ 64) (hs : StaAt w h s) (hv : RdV w s) :
    Calls Try.prog 72 #[.agg #[.int .i64 x.op, .int .i64 x.la, .int .i64 x.ln, .int .i64 x.ra, .int .i64 x.rn, .int .i64 x.n, .int .i64 x.us], .agg #[.slice s.a s.vals.length s.c, .int .i64 s.op, .int .i64 s.dn, s.did, s.cnt], .pointer (some ⟨p, 0, none⟩), .func (.func 57) #[] #[.pointer (some ⟨h, 0, none⟩)]] w (TrAns s x r p w) := by
  by_cases h1 : x.op < 1
  · exact truth_lo x s p h r w hr hl hs hv h1
  by_cases h2 : x.op = 1
  · exact truth_1 x s p h r w hr hl hs hv h2
  by_cases h3 : x.op = 2
  · exact truth_2 x s p h r w hr hl hs hv h3
  by_cases h4 : x.op ≤ 8
  · exact truth_3 x s p h r w hr hl hs hv (by omega) h4
  by_cases h5 : x.op = 9
  · exact truth_9 x s p h r w hr hl hs hv h5
  by_cases h6 : x.op = 10
  · exact truth_10 x s p h r w hr hl hs hv h6
  by_cases h7 : x.op ≤ 14
  · exact truth_11 x s p h r w hr hl hs hv (by omega) h7
  by_cases h8 : x.op = 15
  · exact truth_15 x s p h r w hr hl hs hv h8
  by_cases h9 : x.op ≤ 18
  · exact truth_16 x s p h r w hr hl hs hv (by omega) h9
  exact truth_hi x s p h r w hr hl hs hv (by omega)
end Go.Proofs.Ytpbgicfoopicbaa
