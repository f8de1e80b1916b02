/-
  tree.Uses, warderref04.Uses, the law of signs: by walks.
-/
import Derived.Test.YtpbgicfoopicbaaTreeRef
namespace Go.Proofs.Ytpbgicfoopicbaa
open Go.RowKit
set_option linter.unusedVariables false
set_option linter.unusedSimpArgs false

/-- How many of the first items have a sign. -/
def usesTo (l : List It) (op : Int) (k : Nat) : Nat := ((l.take k).filter (fun x => x.op == op)).length
theorem usesTo_le (l : List It) (op : Int) (k : Nat) : usesTo l op k ≤ k := by
  unfold usesTo
  have h1 := List.length_filter_le (fun x : It => x.op == op) (l.take k)
  have h2 := List.length_take_le k l
  omega
theorem usesTo_succ {l : List It} {op : Int} {k : Nat} (hk : k < l.length) : usesTo l op (k + 1) = usesTo l op k + (if (l[k].op == op) = true then 1 else 0) := by
  unfold usesTo
  rw [List.take_succ_eq_append_getElem hk, List.filter_append, List.length_append]
  congr 1
  rw [List.filter_cons]
  split <;> simp_all
set_option maxHeartbeats 1000000 in
theorem uses_any (a : Option Addr) (c : Nat) (l : List It) (op : Int) (w : World) (hl : RdI w a l) (hm : l.length ≤ maxLen) :
    Calls Try.prog 20 #[.slice a l.length c, .int .i64 op] w fun e w' => e = .returned (.int .i64 (usesTo l op l.length)) ∧ Below w.heap.size w w' := by
  have hm2 : l.length ≤ 9223372036854775807 := by unfold maxLen at hm; omega
  have HL := Lib.hid hl
  clear hl hm
  go_enter Try.func20, Try.ntmps20
  go_wp2_with fail
  go_loopw [5, 10] (fun v5 v10 wr => ∃ k : Nat, k ≤ l.length ∧ v10 = .int .i64 k ∧ v5 = .int .i64 (usesTo l op k) ∧ Below w.heap.size w wr) (fun _ v10 _ => l.length - (intOf v10).toNat)
  case atStart => exact ⟨0, by omega, rfl, rfl, Below.refl _ _⟩
  case round =>
    obtain ⟨k, hk, rfl, rfl, hb⟩ := hrel
    have hle := usesTo_le l op k
    by_cases hlt : k < l.length
    · obtain ⟨b, off, ha, hrg⟩ := HL.out.at (by omega)
      subst ha
      have hrc := hrg k hlt
      have hrw : wr.rangeAt b (off + k * 9) l[k].cells := fun j v hv => by
        have h1 := hrc j v hv
        exact (hb.cell (p := ⟨b, off + k * 9 + j, none⟩) (lt_of_cell h1)).trans h1
      have HS := Lib.hid (usesTo_succ (l := l) (op := op) hlt)
      have HB := Lib.hid hb
      have hz := hb.size
      clear hrg hrc hb
      generalize l[k] = x at *
      have hrw2 : wr.rangeAt b (off + k * 9) [.int .i64 x.op, .string x.ln, .int .i64 x.lv, .string x.rn, .int .i64 x.rv, .string x.nm, .string x.us, .int .i64 x.line, .int .i64 x.col] := hrw
      clear hrw
      generalize usesTo l op k = n at *
      have bn := HB.out.trans ((below_new wr (.cells #[.int .i64 x.op, .string x.ln, .int .i64 x.lv, .string x.rn, .int .i64 x.rv, .string x.nm, .string x.us, .int .i64 x.line, .int .i64 x.col] 42)).mono hz)
      have BN := Lib.hid bn
      clear bn
      cases he : (x.op == op) with
      | true =>
        have HE := Lib.hid he
        go_wp2_with (refine wpList_load_mid rfl 42 (.tmp 12) rfl b (off + k * 9) rfl _ _ hrw2 Try.underlying42 rfl sizeItem ?_)
        go_roundw
        case rel => exact ⟨k + 1, by omega, by go_num, by rw [HS.out, if_pos HE.out]; go_num, BN.out⟩
        case measure => simp [intOf] <;> omega
      | false =>
        have HE := Lib.hid he
        go_wp2_with (refine wpList_load_mid rfl 42 (.tmp 12) rfl b (off + k * 9) rfl _ _ hrw2 Try.underlying42 rfl sizeItem ?_)
        go_roundw
        case rel => exact ⟨k + 1, by omega, by go_num, by rw [HS.out, if_neg (by rw [HE.out]; decide)]; go_num, BN.out⟩
        case measure => simp [intOf] <;> omega
    · have hke : k = l.length := by omega
      subst hke
      go_wp2_with fail
      go_ret
      exact ⟨rfl, hb⟩
set_option maxHeartbeats 1000000 in
theorem ruses_any (a : Option Addr) (c : Nat) (l : List It) (op : Int) (w : World) (hl : RdI w a l) (hm : l.length ≤ maxLen) :
    Calls Try.prog 21 #[.slice a l.length c, .int .i64 op] w fun e w' => e = .returned (.int .i64 (usesTo l op l.length)) ∧ w = w' := by
  have hm2 : l.length ≤ 9223372036854775807 := by unfold maxLen at hm; omega
  have HL := Lib.hid hl
  clear hl hm
  go_enter Try.func21, Try.ntmps21
  go_wp2_with fail
  go_loopw [5, 6] (fun v5 v6 wr => ∃ k : Nat, k ≤ l.length ∧ v6 = .int .i64 k ∧ v5 = .int .i64 (usesTo l op k) ∧ w = wr) (fun _ v6 _ => l.length - (intOf v6).toNat)
  case atStart => exact ⟨0, by omega, rfl, rfl, rfl⟩
  case round =>
    obtain ⟨k, hk, rfl, rfl, rfl⟩ := hrel
    have hle := usesTo_le l op k
    by_cases hlt : k < l.length
    · obtain ⟨b, off, ha, hrg⟩ := HL.out.at (by omega)
      subst ha
      have hop := RdI.op (hrg k hlt)
      have HS := Lib.hid (usesTo_succ (l := l) (op := op) hlt)
      clear hrg
      generalize l[k] = x at *
      generalize usesTo l op k = n at *
      cases he : (x.op == op) with
      | true =>
        have HE := Lib.hid he
        go_wp2_with fail
        go_roundw
        case rel => exact ⟨k + 1, by omega, by go_num, by rw [HS.out, if_pos HE.out]; go_num, trivial⟩
        case measure => simp [intOf] <;> omega
      | false =>
        have HE := Lib.hid he
        go_wp2_with fail
        go_roundw
        case rel => exact ⟨k + 1, by omega, by go_num, by rw [HS.out, if_neg (by rw [HE.out]; decide)]; go_num, trivial⟩
        case measure => simp [intOf] <;> omega
    · have hke : k = l.length := by omega
      subst hke
      go_wp2_with fail
      go_ret
      exact ⟨rfl, rfl⟩
set_option maxHeartbeats 1000000 in
theorem treeArity_walk (op : Int) (a : Option Addr) (c : Nat) (l : List It) (w : World) (hl : RdI w a l) (hm : l.length ≤ maxLen) :
    Calls Try.prog 4 #[.int .i64 op, .slice a l.length c] w fun e w' => e = .returned (.bool true) ∧ Below w.heap.size w w' := by
  have hu : ∀ b : Bool, ¬ (some undef = some (Value.bool b)) := fun b h => by cases h
  have AR := Lib.hid (arity_any op w)
  have RAR := Lib.hid (rarity_any op w)
  have US := Lib.hid (uses_any a c l op w hl hm)
  have RUS : Hid (∀ w', Below w.heap.size w w' → Calls Try.prog 21 #[.slice a l.length c, .int .i64 op] w' fun e w2 => e = .returned (.int .i64 (usesTo l op l.length)) ∧ w' = w2) := Lib.hid (fun w' hb => ruses_any a c l op w' (hl.mono hb (Nat.le_refl _)) hm)
  unfold ArAns at AR RAR
  have h1 : (Tr.ar op == Tr.ar op) = true := by simp
  have h2 : (((usesTo l op l.length : Nat) : Int) == ((usesTo l op l.length : Nat) : Int)) = true := by simp
  clear hl hm
  generalize Tr.ar op = n at *
  generalize ((usesTo l op l.length : Nat) : Int) = m at *
  go_enter Try.func4, Try.ntmps4
  go_wp2_with fail
  refine AR.out.mono ?_
  rintro e w2 ⟨rfl, rfl⟩
  go_wp2_with fail
  refine RAR.out.mono ?_
  rintro e w2 ⟨rfl, rfl⟩
  go_wp2_with fail
  refine US.out.mono ?_
  rintro e w2 ⟨rfl, hb⟩
  have HB := Lib.hid hb
  clear hb
  go_wp2_with fail
  refine (RUS.out w2 HB.out).mono ?_
  rintro e w3 ⟨rfl, rfl⟩
  go_wp2_with fail
  refine (awake04_end w w2 HB.out).mono ?_
  rintro e w3 ⟨rfl, hb3⟩
  go_wp2_with fail
  go_ret
  exact ⟨rfl, hb3⟩
end Go.Proofs.Ytpbgicfoopicbaa
