/-
  tree.Same, warderref04.Same, the law of what is the same: by walks.
-/
import Derived.Test.YtpbgicfoopicbaaTreeEq
namespace Go.Proofs.Ytpbgicfoopicbaa
open Go.RowKit
set_option linter.unusedVariables false
set_option linter.unusedSimpArgs false

/-- Two lists, but for places. -/
def sameTo (l m : List It) (k : Nat) : Bool := (List.range k).all (fun i => match l[i]?, m[i]? with | some x, some y => sameB x y | _, _ => false)
def sameL (l m : List It) : Bool := decide (l.length = m.length) && sameTo l m l.length
theorem sameTo_succ {l m : List It} {k : Nat} (h1 : k < l.length) (h2 : k < m.length) : sameTo l m (k + 1) = (sameTo l m k && sameB l[k] m[k]) := by
  unfold sameTo
  rw [List.range_succ, List.all_append]
  simp [List.getElem?_eq_getElem h1, List.getElem?_eq_getElem h2]
theorem sameTo_no {l m : List It} {k : Nat} (h1 : k < l.length) (h2 : k < m.length) (h : sameB l[k] m[k] = false) : sameTo l m l.length = false := by
  unfold sameTo
  rw [List.all_eq_false]
  exact ⟨k, List.mem_range.2 h1, by simp [List.getElem?_eq_getElem h1, List.getElem?_eq_getElem h2, h]⟩
theorem cells_of {w : World} {b o : Nat} {y : It} (h : w.rangeAt b o y.cells) :
    w.cell? ⟨b, o, none⟩ = some (.int .i64 y.op) ∧ w.cell? ⟨b, o + 1, none⟩ = some (.string y.ln) ∧ w.cell? ⟨b, o + 2, none⟩ = some (.int .i64 y.lv) ∧ w.cell? ⟨b, o + 3, none⟩ = some (.string y.rn) ∧ w.cell? ⟨b, o + 4, none⟩ = some (.int .i64 y.rv) ∧
    w.cell? ⟨b, o + 5, none⟩ = some (.string y.nm) ∧ w.cell? ⟨b, o + 6, none⟩ = some (.string y.us) ∧ w.cell? ⟨b, o + 7, none⟩ = some (.int .i64 y.line) ∧ w.cell? ⟨b, o + 8, none⟩ = some (.int .i64 y.col) :=
  ⟨h 0 _ rfl, h 1 _ rfl, h 2 _ rfl, h 3 _ rfl, h 4 _ rfl, h 5 _ rfl, h 6 _ rfl, h 7 _ rfl, h 8 _ rfl⟩
theorem range_mono {w w' : World} {B b o : Nat} {cs : List Value} (h : w.rangeAt b o cs) (hb : Below B w w') (hB : w.heap.size ≤ B) : w'.rangeAt b o cs := fun j v hv => by
  have h1 := h j v hv
  exact (hb.cell (p := ⟨b, o + j, none⟩) (Nat.lt_of_lt_of_le (lt_of_cell h1) hB)).trans h1
set_option maxRecDepth 100000 in
set_option maxHeartbeats 2000000 in
theorem same_any (a a2 : Option Addr) (c c2 : Nat) (l m : List It) (w : World) (hl : RdI w a l) (hm : RdI w a2 m) (hll : l.length ≤ maxLen) (hml : m.length ≤ maxLen) :
    Calls Try.prog 28 #[.slice a l.length c, .slice a2 m.length c2] w fun e w' => e = .returned (.bool (sameL l m)) ∧ Below w.heap.size w w' := by
  have hu : ∀ b : Bool, ¬ (some undef = some (Value.bool b)) := fun b h => by cases h
  have hl2 : l.length ≤ 9223372036854775807 := by unfold maxLen at hll; omega
  have hm2 : m.length ≤ 9223372036854775807 := by unfold maxLen at hml; omega
  by_cases hle : l.length = m.length
  · have HS : Hid (sameL l m = sameTo l m l.length) := Lib.hid (by unfold sameL; rw [decide_eq_true hle]; rfl)
    have HL := Lib.hid (And.intro hl hm)
    have HLE := Lib.hid hle
    have hne : ((l.length : Int) != (m.length : Int)) = false := by rw [hle]; simp
    clear hl hm hll hml hle
    go_enter Try.func28, Try.ntmps28
    go_wp2_with fail
    go_loopw [14] (fun v14 wr => ∃ k : Nat, k ≤ l.length ∧ v14 = .int .i64 k ∧ Hid (sameTo l m k = true) ∧ Below w.heap.size w wr) (fun v14 _ => l.length - (intOf v14).toNat)
    case atStart => exact ⟨0, by omega, rfl, Lib.hid rfl, Below.refl _ _⟩
    case round =>
      obtain ⟨k, hk, rfl, HT, hb⟩ := hrel
      by_cases hlt : k < l.length
      · have hkm : k < m.length := by rw [← HLE.out]; exact hlt
        obtain ⟨b, off, ha, hrg⟩ := (HL.out).1.at (by omega)
        obtain ⟨b2, off2, ha2, hrg2⟩ := (HL.out).2.at (by omega)
        subst ha ha2
        have hrw := range_mono (hrg k hlt) hb (Nat.le_refl _)
        have hrm := range_mono (hrg2 k hkm) hb (Nat.le_refl _)
        have hlt2 := lt_of_cell (cells_of (hrg2 k hkm)).1
        have HN := Lib.hid (And.intro (sameTo_succ hlt hkm) (sameTo_no hlt hkm))
        have HB := Lib.hid hb
        have hz := hb.size
        have hb2 : b2 < wr.heap.size := by simp only at hlt2; omega
        clear hrg hrg2 hb hlt2
        generalize l[k] = x at *
        generalize m[k] = y at *
        have hrw2 : wr.rangeAt b (off + k * 9) [.int .i64 x.op, .string x.ln, .int .i64 x.lv, .string x.rn, .int .i64 x.rv, .string x.nm, .string x.us, .int .i64 x.line, .int .i64 x.col] := hrw
        obtain ⟨c0, c1, c2, c3, c4, c5, c6, c7, c8⟩ := cells_of hrm
        have hq := fun w => eqItem (⟨x.op, x.ln, x.lv, x.rn, x.rv, x.nm, x.us, y.line, y.col⟩ : It) y w
        simp only [beq_self_eq_true, Bool.and_self, Bool.and_true] at hq
        have hsb : sameB (⟨x.op, x.ln, x.lv, x.rn, x.rv, x.nm, x.us, y.line, y.col⟩ : It) y = sameB x y := rfl
        rw [hsb] at hq
        clear hrw hrm hsb
        cases hsm : sameB x y with
        | true =>
          rw [hsm] at hq
          have HSM := Lib.hid hsm
          clear hsm
          have bn : Below w.heap.size w (wr.alloc (.cells #[.int .i64 x.op, .string x.ln, .int .i64 x.lv, .string x.rn, .int .i64 x.rv, .string x.nm, .string x.us, .int .i64 y.line, .int .i64 y.col] 42)) := HB.out.trans ((below_new wr _).mono hz)
          have BN := Lib.hid bn
          clear bn
          go_wp2_with (refine wpList_load_mid rfl 42 (.tmp 17) rfl b (off + k * 9) rfl _ _ hrw2 Try.underlying42 rfl sizeItem ?_)
          go_quiet (fail)
          go_wp2
          go_roundw
          case rel => exact ⟨k + 1, by omega, by go_num, Lib.hid (by rw [(HN.out).1, HT.out, HSM.out]; rfl), by repeat (first | exact BN.out | apply below_dn | apply Below.drew)⟩
          case measure => simp [intOf] <;> omega
        | false =>
          rw [hsm] at hq
          have HSM := Lib.hid ((HN.out).2 hsm)
          clear hsm
          have bn : Below w.heap.size w (wr.alloc (.cells #[.int .i64 x.op, .string x.ln, .int .i64 x.lv, .string x.rn, .int .i64 x.rv, .string x.nm, .string x.us, .int .i64 y.line, .int .i64 y.col] 42)) := HB.out.trans ((below_new wr _).mono hz)
          have BN := Lib.hid bn
          clear bn
          go_wp2_with (refine wpList_load_mid rfl 42 (.tmp 17) rfl b (off + k * 9) rfl _ _ hrw2 Try.underlying42 rfl sizeItem ?_)
          go_quiet (fail)
          go_wp2
          go_ret
          rw [HS.out, HSM.out]
          exact ⟨rfl, by repeat (first | exact BN.out | apply below_dn | apply Below.drew)⟩
      · have hke : k = l.length := by omega
        subst hke
        go_wp2_with fail
        go_ret
        rw [HS.out, HT.out]
        exact ⟨rfl, hb⟩
  · have HS : Hid (sameL l m = false) := Lib.hid (by unfold sameL; rw [decide_eq_false hle]; rfl)
    have hne : ((l.length : Int) != (m.length : Int)) = true := by rw [bne_iff_ne]; omega
    clear hl hm hll hml hle
    go_enter Try.func28, Try.ntmps28
    go_wp2_with fail
    go_ret
    rw [HS.out]
    exact ⟨rfl, Below.refl _ _⟩
theorem eqW (a c : ByteArray) (b e : Int) (w : World) : (Op.equalIn 10000 38 (.agg #[.string a, .int .i64 b]) (.agg #[.string c, .int .i64 e])).run Try.prog w = .ok (a.toList == c.toList && b == e) w := eqWord 9998 a c b e w
set_option maxRecDepth 100000 in
set_option maxHeartbeats 4000000 in
theorem rsame_any (a a2 : Option Addr) (c c2 : Nat) (l m : List It) (w : World) (hl : RdI w a l) (hm : RdI w a2 m) (hll : l.length ≤ maxLen) (hml : m.length ≤ maxLen) :
    Calls Try.prog 29 #[.slice a l.length c, .slice a2 m.length c2] w fun e w' => e = .returned (.bool (sameL l m)) ∧ Below w.heap.size w w' := by
  have hu : ∀ b : Bool, ¬ (some undef = some (Value.bool b)) := fun b h => by cases h
  have hl2 : l.length ≤ 9223372036854775807 := by unfold maxLen at hll; omega
  have hm2 : m.length ≤ 9223372036854775807 := by unfold maxLen at hml; omega
  by_cases hle : l.length = m.length
  · have HS : Hid (sameL l m = sameTo l m l.length) := Lib.hid (by unfold sameL; rw [decide_eq_true hle]; rfl)
    have HL := Lib.hid (And.intro hl hm)
    have HLE := Lib.hid hle
    have hne : ((l.length : Int) != (m.length : Int)) = false := by rw [hle]; simp
    clear hl hm hll hml hle
    go_enter Try.func29, Try.ntmps29
    go_wp2_with fail
    go_loopw [5] (fun v5 wr => ∃ k : Nat, k ≤ l.length ∧ v5 = .int .i64 k ∧ Hid (sameTo l m k = true) ∧ Below w.heap.size w wr) (fun v5 _ => l.length - (intOf v5).toNat)
    case atStart => exact ⟨0, by omega, rfl, Lib.hid rfl, Below.refl _ _⟩
    case round =>
      obtain ⟨k, hk, rfl, HT, hb⟩ := hrel
      by_cases hlt : k < l.length
      · have hkm : k < m.length := by rw [← HLE.out]; exact hlt
        obtain ⟨b, off, ha, hrg⟩ := (HL.out).1.at (by omega)
        obtain ⟨b2, off2, ha2, hrg2⟩ := (HL.out).2.at (by omega)
        subst ha ha2
        have hrw := range_mono (hrg k hlt) hb (Nat.le_refl _)
        have hrm := range_mono (hrg2 k hkm) hb (Nat.le_refl _)
        have HN := Lib.hid (And.intro (sameTo_succ hlt hkm) (sameTo_no hlt hkm))
        have HB := Lib.hid hb
        clear hrg hrg2 hb
        generalize l[k] = x at *
        generalize m[k] = y at *
        obtain ⟨d0, d1, d2, d3, d4, d5, d6, d7, d8⟩ := cells_of hrw
        obtain ⟨c0, c1, c2, c3, c4, c5, c6, c7, c8⟩ := cells_of hrm
        have hq1 := fun w => eqW x.ln y.ln x.lv y.lv w
        have hq2 := fun w => eqW x.rn y.rn x.rv y.rv w
        clear hrw hrm
        obtain ⟨w1, hw1⟩ : ∃ b, (x.ln.toList == y.ln.toList && x.lv == y.lv) = b := ⟨_, rfl⟩
        obtain ⟨w2, hw2⟩ : ∃ b, (x.rn.toList == y.rn.toList && x.rv == y.rv) = b := ⟨_, rfl⟩
        obtain ⟨w0, hw0⟩ : ∃ b, (x.op == y.op) = b := ⟨_, rfl⟩
        obtain ⟨w3, hw3⟩ : ∃ b, (x.nm.toList == y.nm.toList) = b := ⟨_, rfl⟩
        obtain ⟨w4, hw4⟩ : ∃ b, (x.us.toList == y.us.toList) = b := ⟨_, rfl⟩
        have hsb : sameB x y = (w0 && w1 && w2 && w3 && w4) := by unfold sameB; rw [hw0, hw1, hw2, hw3, hw4]
        rw [hw1] at hq1
        rw [hw2] at hq2
        have HSB := Lib.hid hsb
        clear hw1 hw2 hsb
        cases w0 with
        | false =>
          have hn0 : (x.op != y.op) = true := by simp [bne, hw0]
          have HSM := Lib.hid ((HN.out).2 (by rw [HSB.out]; rfl))
          go_wp2_with fail
          go_quiet (fail)
          go_wp2
          go_ret
          rw [HS.out, HSM.out]
          exact ⟨rfl, by repeat (first | exact HB.out | apply below_dn | apply Below.drew)⟩
        | true =>
          have hn0 : (x.op != y.op) = false := by simp [bne, hw0]
          cases w1 with
          | false =>
            have HSM := Lib.hid ((HN.out).2 (by rw [HSB.out]; rfl))
            go_wp2_with fail
            go_quiet (fail)
            go_wp2
            go_ret
            rw [HS.out, HSM.out]
            exact ⟨rfl, by repeat (first | exact HB.out | apply below_dn | apply Below.drew)⟩
          | true =>
            cases w2 with
            | false =>
              have HSM := Lib.hid ((HN.out).2 (by rw [HSB.out]; rfl))
              go_wp2_with fail
              go_quiet (fail)
              go_wp2
              go_ret
              rw [HS.out, HSM.out]
              exact ⟨rfl, by repeat (first | exact HB.out | apply below_dn | apply Below.drew)⟩
            | true =>
              cases w3 with
              | false =>
                have hn3 : (x.nm.toList != y.nm.toList) = true := by simp [bne, hw3]
                have HSM := Lib.hid ((HN.out).2 (by rw [HSB.out]; rfl))
                go_wp2_with fail
                go_quiet (fail)
                go_wp2
                go_ret
                rw [HS.out, HSM.out]
                exact ⟨rfl, by repeat (first | exact HB.out | apply below_dn | apply Below.drew)⟩
              | true =>
                have hn3 : (x.nm.toList != y.nm.toList) = false := by simp [bne, hw3]
                cases w4 with
                | false =>
                  have hn4 : (x.us.toList != y.us.toList) = true := by simp [bne, hw4]
                  have HSM := Lib.hid ((HN.out).2 (by rw [HSB.out]; rfl))
                  go_wp2_with fail
                  go_quiet (fail)
                  go_wp2
                  go_ret
                  rw [HS.out, HSM.out]
                  exact ⟨rfl, by repeat (first | exact HB.out | apply below_dn | apply Below.drew)⟩
                | true =>
                  have hn4 : (x.us.toList != y.us.toList) = false := by simp [bne, hw4]
                  have HSM := Lib.hid (show sameB x y = true by rw [HSB.out]; rfl)
                  go_wp2_with fail
                  go_quiet (fail)
                  go_wp2
                  go_roundw
                  case rel => exact ⟨k + 1, by omega, by go_num, Lib.hid (by rw [(HN.out).1, HT.out, HSM.out]; rfl), by repeat (first | exact HB.out | apply below_dn | apply Below.drew)⟩
                  case measure => simp [intOf] <;> omega
      · have hke : k = l.length := by omega
        subst hke
        go_wp2_with fail
        go_ret
        rw [HS.out, HT.out]
        exact ⟨rfl, hb⟩
  · have HS : Hid (sameL l m = false) := Lib.hid (by unfold sameL; rw [decide_eq_false hle]; rfl)
    have hne : ((l.length : Int) != (m.length : Int)) = true := by rw [bne_iff_ne]; omega
    clear hl hm hll hml hle
    go_enter Try.func29, Try.ntmps29
    go_wp2_with fail
    go_ret
    rw [HS.out]
    exact ⟨rfl, Below.refl _ _⟩
end Go.Proofs.Ytpbgicfoopicbaa
