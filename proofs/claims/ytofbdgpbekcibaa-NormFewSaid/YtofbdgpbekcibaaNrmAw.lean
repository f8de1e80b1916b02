/-
  Norm: chapter 31's example.
-/
import Derived.Test.YtofbdgpbekcibaaNrmSteps
namespace Go.Proofs.Ytofbdgpbekcibaa
open Go.RowKit Go.Maps
set_option linter.unusedVariables false
set_option linter.unusedSimpArgs false

def agx : Inx := ⟨23, 0, 0, 0, 0, 0, 0⟩
theorem nreads_new (w : World) (xs : List Value) (e : TypeId) : Reads (w.alloc (.cells xs.toArray e)) (some ⟨w.heap.size, 0, none⟩) xs :=
  Or.inr ⟨w.heap.size, 0, rfl, fun j hj => by
    rw [Nat.zero_add]
    simp⟩
theorem sp_ok_ex : ∀ x ∈ [tru, agx], x.ok := by
  intro x hx
  simp at hx
  rcases hx with rfl | rfl <;> exact ⟨wfi_small _ (by simp [tru, agx]), wfi_small _ (by simp [tru, agx]), wfi_small _ (by simp [tru, agx]), wfi_small _ (by simp [tru, agx]), wfi_small _ (by simp [tru, agx]), wfi_small _ (by simp [tru, agx]), wfi_small _ (by simp [tru, agx])⟩
theorem ex_steps (W : World) : Calls Try.prog 42 #[.slice (some ⟨W.heap.size, 0, none⟩) 2 2] (W.alloc (.cells #[.int .i64 1, .int .i64 0, .int .i64 0, .int .i64 0, .int .i64 0, .int .i64 0, .int .i64 0, .int .i64 23, .int .i64 0, .int .i64 0, .int .i64 0, .int .i64 0, .int .i64 0, .int .i64 0] 70)) fun e w' =>
    ∃ g c, e = .returned (.tuple #[.slice (some ⟨g, 0, none⟩) 4 c, .int .i64 3, .int .i64 0]) ∧ Below W.heap.size W w' ∧ w'.cell? ⟨g, 10, none⟩ = some (.int .i64 15) ∧ w'.cell? ⟨g, 20, none⟩ = some (.int .i64 26) ∧ w'.cell? ⟨g, 21, none⟩ = some (.int .i64 0) ∧ w'.cell? ⟨g, 22, none⟩ = some (.int .i64 1) ∧ w'.cell? ⟨g, 30, none⟩ = some (.int .i64 15) := by
  refine (ksteps_any (some ⟨W.heap.size, 0, none⟩) 2 [tru, agx] _ (nreads_new W _ _) sp_ok_ex (by unfold maxLen; simp)).mono ?_
  rintro e w' ⟨hb, h⟩
  have hb2 : Below W.heap.size W w' := (rbel_new W _).trans (hb.mono (by simp))
  rcases h with ⟨S, n, v, _, hn, he, ho, _⟩ | ⟨hn, _⟩
  · have h2 := nall_ex
    rw [show ([tru, ⟨23, 0, 0, 0, 0, 0, 0⟩] : List Inx) = [tru, agx] from rfl, hn] at h2
    cases h2
    obtain ⟨g, c, hv, _⟩ := own_some ho (by simp)
    subst hv
    have hc : ∀ j u, (Rec.flat Sp.cells [atm tru, sgn 15 0 0, sgn 26 0 1, sgn 15 2 0])[j]? = some u → w'.cell? ⟨g, j, none⟩ = some u := fun j u hu => by
      have hj := (List.getElem?_eq_some_iff.1 hu).1
      rw [Rec.flat_len Sp.cells_len] at hj
      rw [ho.cellAt j hj, hu]
    exact ⟨g, c, he, hb2, hc 10 _ rfl, hc 20 _ rfl, hc 21 _ rfl, hc 22 _ rfl, hc 30 _ rfl⟩
  · exfalso
    have h2 := nall_ex
    rcases hn with h3 | h3
    · simp at h3
    · rw [show ([tru, ⟨23, 0, 0, 0, 0, 0, 0⟩] : List Inx) = [tru, agx] from rfl, h3] at h2
      cases h2
set_option maxHeartbeats 1000000 in
theorem nawake_any (w : World) : Calls Try.prog 41 #[] w fun e w2 => e = .returned (.bool true) ∧ Below w.heap.size w w2 := by
  have HE := Lib.hid (ex_steps w)
  go_enter Try.func41, Try.ntmps41
  go_wp2_with (go_at_call 42; refine (HE.out).mono ?_; rintro e w2 ⟨g, c, rfl, hb, e1, e2, e3, e4, e5⟩; have HB := Lib.hid hb; clear hb)
  go_ret
  exact ⟨rfl, HB.out⟩
theorem nawake_hid (w : World) : Hid (∀ w', Below w.heap.size w w' → Calls Try.prog 41 #[] w' fun e w2 => e = .returned (.bool true) ∧ Below w.heap.size w w2) :=
  Lib.hid fun w' hb => (nawake_any w').mono fun e w2 h => ⟨h.1, hb.trans (h.2.mono hb.size)⟩
end Go.Proofs.Ytofbdgpbekcibaa
