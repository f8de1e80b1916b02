/-
  Bind: lists of instructions that are the same; which names a table tells.
-/
import Derived.Test.YtpbgicfoopicbaaBndForm
import Derived.Laws.StructEq
namespace Go.Proofs.Ytpbgicfoopicbaa
open Go.RowKit
set_option linter.unusedVariables false
set_option linter.unusedSimpArgs false

theorem beqVal (d : Nat) (a b c e : Int) (w : World) : (Op.equalIn (d + 1 + 1) 68 (.agg #[.int .i64 a, .int .i64 b]) (.agg #[.int .i64 c, .int .i64 e])).run Try.prog w = .ok (a == c && b == e) w := by
  have u3 := Try.underlying3
  have a3 := Try.isAgg3
  have z3 := Try.sizeOf3
  have u2 := Try.underlying2
  have a2 := Try.isAgg2
  have z2 := Try.sizeOf2
  rw [run_equalIn_struct w (d + 1) 68 _ _ (by rw [Program.fieldsOf, Try.underlying68]) (by kernel_rfl)]
  simp only [Program.fieldsOf, Try.underlying68, Op.eqFields]
  go_simp
  by_cases h1 : a = c <;> by_cases h2 : b = e <;> simp [h1, h2]
theorem beqIns (y : In7) (w : World) : (Op.equalIn 10000 70 (.agg #[.int .i64 y.a0, .int .i64 y.a1, .int .i64 y.a2, .int .i64 y.a3, .int .i64 y.a4, .int .i64 y.a5, .int .i64 y.a6]) (.agg #[.int .i64 y.a0, .int .i64 y.a1, .int .i64 y.a2, .int .i64 y.a3, .int .i64 y.a4, .int .i64 y.a5, .int .i64 y.a6])).run Try.prog w = .ok true w := by
  have u3 := Try.underlying3
  have a3 := Try.isAgg3
  have z3 := Try.sizeOf3
  have av := Try.isAgg68
  have zv := Try.sizeOf68
  have qv := fun a b w => (beqVal 9997 a b a b w).trans (show _ = Result.ok true w by simp)
  rw [show (10000 : Nat) = 9999 + 1 from rfl, run_equalIn_struct w 9999 70 _ _ (by rw [Program.fieldsOf, Try.underlying70]) (by kernel_rfl)]
  simp only [Program.fieldsOf, Try.underlying70, Op.eqFields]
  go_simp
/-- A list of instructions lies from there on. -/
def RdN (w : World) (a : Option Addr) (l : List In7) : Prop := Reads w a (Rec.flat In7.cells l)
theorem RdN.mono {w w' : World} {B : Nat} {a : Option Addr} {l : List In7} (h : RdN w a l) (hb : Below B w w') (hB : w.heap.size ≤ B) : RdN w' a l := Reads.mono h hb hB
theorem RdN.at {w : World} {a : Option Addr} {l : List In7} (h : RdN w a l) (hp : 0 < l.length) :
    ∃ b off, a = some ⟨b, off, none⟩ ∧ ∀ i (hi : i < l.length), w.rangeAt b (off + i * 7) l[i].cells := by
  obtain ⟨b, off, rfl, hc⟩ := Reads.at h (by rw [Rec.flat_len In7.cells_len]; omega)
  refine ⟨b, off, rfl, fun i hi j v hv => ?_⟩
  have hj : j < 7 := by rw [← In7.cells_len l[i]]; exact (List.getElem?_eq_some_iff.1 hv).1
  have := hc (i * 7 + j) (by rw [Rec.flat_len In7.cells_len]; omega)
  rw [Rec.flat_at In7.cells_len l i j hi hj] at this
  rw [Nat.add_assoc, this, hv]
theorem own_reads {w : World} {B n : Nat} {v : Value} {l : List In7} (h : w.ownsRow B 70 7 v n (Rec.flat In7.cells l)) (hn : l.length = n) : ∃ a c, v = .slice a n c ∧ RdN w a l := by
  rcases h.2 with ⟨h1, h0⟩ | ⟨g, cap, cur, rfl, hg, hh, _⟩
  · subst h0
    have : l = [] := List.eq_nil_of_length_eq_zero hn
    subst this
    exact ⟨none, 0, h1, Or.inl rfl⟩
  · refine ⟨_, cap, rfl, Or.inr ⟨g, 0, rfl, fun j hj => ?_⟩⟩
    rw [Nat.zero_add]
    rw [Rec.flat_len In7.cells_len] at hj
    rw [h.cellAt j (by rw [← hn]; exact hj)]
set_option maxHeartbeats 1000000 in
theorem same_any (a1 a2 : Option Addr) (c1 c2 : Nat) (l : List In7) (w : World) (h1 : RdN w a1 l) (h2 : RdN w a2 l) (hm : l.length ≤ 100) :
    Calls Try.prog 35 #[.slice a1 l.length c1, .slice a2 l.length c2] w fun e w' => e = .returned (.bool true) ∧ Below w.heap.size w w' := by
  have H1 := Lib.hid h1
  have H2 := Lib.hid h2
  have hll : ((l.length : Int) != (l.length : Int)) = false := by simp
  clear h1 h2
  go_enter Try.func35, Try.ntmps35
  go_wp2_with fail
  go_loopw [5] (fun v5 wr => ∃ k : Nat, k ≤ l.length ∧ v5 = .int .i64 k ∧ Hid (Below w.heap.size w wr)) (fun v5 _ => l.length - (intOf v5).toNat)
  case atStart => exact ⟨0, by omega, rfl, Lib.hid (Below.refl _ _)⟩
  case round =>
    obtain ⟨k, hk, rfl, HB⟩ := hrel
    by_cases hlt : k < l.length
    · obtain ⟨b, off, ha, hrg⟩ := (H1.out.mono HB.out (Nat.le_refl _)).at (by omega)
      obtain ⟨b', off', ha', hrg'⟩ := (H2.out.mono HB.out (Nat.le_refl _)).at (by omega)
      subst ha ha'
      have r1 := hrg k hlt
      have r2 := hrg' k hlt
      have hq := fun w => beqIns l[k] w
      unfold In7.cells at r1 r2
      clear hrg hrg'
      generalize l[k] = y at *
      have p0 := r1 0 _ rfl
      have p1 := r1 1 _ rfl
      have p2 := r1 2 _ rfl
      have p3 := r1 3 _ rfl
      have p4 := r1 4 _ rfl
      have p5 := r1 5 _ rfl
      have p6 := r1 6 _ rfl
      have q0 := r2 0 _ rfl
      have q1 := r2 1 _ rfl
      have q2 := r2 2 _ rfl
      have q3 := r2 3 _ rfl
      have q4 := r2 4 _ rfl
      have q5 := r2 5 _ rfl
      have q6 := r2 6 _ rfl
      simp only [Nat.add_zero] at p0 q0
      clear r1 r2
      go_wp2_with fail
      go_quiet (fail)
      go_wp2_with fail
      go_roundw
      case rel => exact ⟨k + 1, by omega, by go_num, Lib.hid (by repeat (first | exact HB.out | apply bbelow_dn | apply Below.drew))⟩
      case measure => simp [intOf] <;> omega
    · have hke : k = l.length := by omega
      subst hke
      go_wp2_with fail
      go_ret
      exact ⟨rfl, HB.out⟩
end Go.Proofs.Ytpbgicfoopicbaa
