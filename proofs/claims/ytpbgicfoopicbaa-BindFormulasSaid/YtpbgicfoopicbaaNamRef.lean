/-
  Names: the document's own answers, by walks.
-/
import Derived.Test.YtpbgicfoopicbaaNamLst
import Derived.Test.YtpbgicfoopicbaaNamOpen
import Derived.Deep.MidRow
namespace Go.Proofs.Ytpbgicfoopicbaa
open Go.RowKit
set_option linter.unusedVariables false
set_option linter.unusedSimpArgs false

theorem rbel_alloc (w : World) (o : Obj) : Below w.heap.size w (w.alloc o) := (Below.refl _ _).alloc (Nat.le_refl _) o
theorem rsizeStmt : (Try.prog.info? 94).map (·.size) = some 12 := by kernel_rfl
theorem named_any (k : Int) (c1 c2 c3 c4 c5 c6 c7 c8 c9 c10 c11 : Value) (w : World) :
    Calls Try.prog 50 #[.agg #[.int .i64 k, c1, c2, c3, c4, c5, c6, c7, c8, c9, c10, c11]] w fun e w' => e = .returned (.bool (Nm.named k)) ∧ Below w.heap.size w w' := by
  have hu : ∀ b : Bool, ¬ (some undef = some (Value.bool b)) := fun b h => by cases h
  have HB : Hid (∀ o, Below w.heap.size w (w.alloc o)) := Lib.hid (rbel_alloc w)
  by_cases h6 : k = 6
  · subst h6
    go_enter Try.func50, Try.ntmps50
    go_wp2
    go_ret
    exact ⟨rfl, HB.out _⟩
  · have n6 : (k != 6) = true := by simpa using h6
    have HN : Hid (Nm.named k = (k != 8)) := Lib.hid (by unfold Nm.named; rw [n6]; rfl)
    clear h6
    go_enter Try.func50, Try.ntmps50
    go_wp2
    all_goals go_ret
    all_goals (rw [HN.out]; exact ⟨rfl, HB.out _⟩)
theorem rmost_any (k : Nat) (hk : 1 ≤ k ∧ k ≤ 8) (w : World) : Calls Try.prog 49 #[.int .i64 (k : Nat)] w fun e w' => e = .returned (.int .i64 (Nm.most k)) ∧ Below w.heap.size w w' := by
  have HB : Hid (∀ o, Below w.heap.size w (w.alloc o)) := Lib.hid (rbel_alloc w)
  have : k = 1 ∨ k = 2 ∨ k = 3 ∨ k = 4 ∨ k = 5 ∨ k = 6 ∨ k = 7 ∨ k = 8 := by omega
  clear hk
  rcases this with e | e | e | e | e | e | e | e <;> subst e
  all_goals
    go_enter Try.func49, Try.ntmps49
    go_wp2
    go_ret
    exact ⟨rfl, HB.out _⟩
set_option maxHeartbeats 400000 in
theorem ahead_any (a : Option Addr) (c : Nat) (l : List St) (m : Nat) (k : Int) (w : World) (hl : RdS w a l) (hm : m ≤ l.length) (hm2 : l.length ≤ 9223372036854775807) :
    Calls Try.prog 48 #[.slice a l.length c, .int .i64 (m : Nat), .int .i64 k] w fun e w' => e = .returned (.int .i64 (Nm.cnt (l.take m) k : Nat)) ∧ w = w' := by
  have HL := Lib.hid hl
  have HC0 : Hid (Nm.cnt (l.take 0) k = 0) := Lib.hid (by simp [Nm.cnt])
  have HCL : Hid (∀ i, Nm.cnt (l.take i) k ≤ i) := Lib.hid fun i => Nat.le_trans (Nm.cnt_le _ _) (by rw [List.length_take]; omega)
  clear hl
  go_enter Try.func48, Try.ntmps48
  go_wp2
  go_loopw [7, 8] (fun v7 v8 wr => ∃ i : Nat, i ≤ m ∧ v8 = .int .i64 i ∧ v7 = .int .i64 (Nm.cnt (l.take i) k : Nat) ∧ w = wr) (fun _ v8 _ => m - (intOf v8).toNat)
  case atStart => exact ⟨0, by omega, rfl, by rw [HC0.out]; rfl, rfl⟩
  case round =>
    obtain ⟨i, hi, rfl, rfl, rfl⟩ := hrel
    by_cases hlt : i < m
    · obtain ⟨b, off, ha, hrg⟩ := HL.out.at (by omega)
      subst ha
      have hil : i < l.length := by omega
      have k0 : w.cell? ⟨b, off + i * 12, none⟩ = some (.int .i64 l[i].kind) := by have := hrg i hil 0 _ rfl; simpa using this
      have HS := Lib.hid (Nm.cnt_take hil k)
      have hle := HCL.out i
      clear hrg
      generalize l[i] = x at *
      generalize Nm.cnt (l.take i) k = n at *
      cases he : (x.kind == k) with
      | true =>
        have HE : Hid (x.kind = k) := Lib.hid (by simpa using he)
        go_wp2
        go_roundw
        case rel => exact ⟨i + 1, by omega, by go_num, by rw [HS.out, if_pos HE.out]; go_num, trivial⟩
        case measure => simp [intOf] <;> omega
      | false =>
        have HE : Hid (¬ x.kind = k) := Lib.hid (by simpa using he)
        go_wp2
        go_roundw
        case rel => exact ⟨i + 1, by omega, by go_num, by rw [HS.out, if_neg HE.out]; rfl, trivial⟩
        case measure => simp [intOf] <;> omega
    · have hie : i = m := by omega
      subst hie
      go_wp2
      go_ret
      exact ⟨rfl, rfl⟩
set_option maxHeartbeats 800000 in
theorem rfind_any (a : Option Addr) (c : Nat) (l : List St) (m : Nat) (s : ByteArray) (w : World) (hl : RdS w a l) (hm : m ≤ l.length) (hm2 : l.length ≤ 9223372036854775807) :
    Calls Try.prog 51 #[.slice a l.length c, .int .i64 (m : Nat), .string s] w fun e w' => ∃ r, e = .returned (.int .i64 r) ∧ Nm.FndAt l m s r ∧ Below w.heap.size w w' := by
  have HL := Lib.hid hl
  have hu : ∀ b : Bool, ¬ (some undef = some (Value.bool b)) := fun b h => by cases h
  clear hl
  go_enter Try.func51, Try.ntmps51
  go_wp2
  go_loopw [7] (fun v7 wr => ∃ i : Nat, i ≤ m ∧ v7 = .int .i64 i ∧ Hid ((∀ j, j < i → ¬ Nm.isAt l s j) ∧ Below w.heap.size w wr)) (fun v7 _ => m - (intOf v7).toNat)
  case atStart => exact ⟨0, by omega, rfl, Lib.hid ⟨fun j hj => by omega, Below.refl _ _⟩⟩
  case round =>
    obtain ⟨i, hi, rfl, HH⟩ := hrel
    by_cases hlt : i < m
    · obtain ⟨b, off, ha, hrg⟩ := (HL.out.mono HH.out.2 (Nat.le_refl _)).at (by omega)
      subst ha
      have hil : i < l.length := by omega
      have hrgk := hrg i hil
      have HK1 : Hid (∀ w2, Below wr.heap.size wr w2 → w2.cell? ⟨b, off + i * 12 + 1, none⟩ = some (.string l[i].name)) := Lib.hid fun w2 hb => by
        have h := hrgk 1 (.string l[i].name) rfl
        rw [hb.cell (p := ⟨b, off + i * 12 + 1, none⟩) (lt_of_cell h)]; exact h
      have HNMD : Hid (∀ w2, Calls Try.prog 50 #[.agg #[.int .i64 l[i].kind, .string l[i].name, .int .i64 l[i].line, .int .i64 l[i].col, l[i].c4, l[i].c5, l[i].c6, l[i].c7, l[i].c8, l[i].c9, l[i].c10, l[i].c11]] w2 fun e w' => e = .returned (.bool (Nm.named l[i].kind)) ∧ Below w2.heap.size w2 w') := Lib.hid fun w2 => named_any _ _ _ _ _ _ _ _ _ _ _ _ w2
      have HYES : Hid (Nm.named l[i].kind = true → l[i].name = s → Nm.isAt l s i) := Lib.hid fun h1 h2 => ⟨hil, h1, h2⟩
      have HNO : Hid (¬ (Nm.named l[i].kind = true ∧ l[i].name = s) → ¬ Nm.isAt l s i) := Lib.hid fun h ⟨_, h1, h2⟩ => h ⟨h1, h2⟩
      unfold St.cells at hrgk
      clear hrg
      generalize l[i] = x at *
      by_cases hnm : Nm.named x.kind = true
      · by_cases hsx : x.name = s
        · have hbq : (x.name.toList == s.toList) = true := by rw [hsx]; simp
          have HY := Lib.hid (HYES.out hnm hsx)
          rw [hnm] at HNMD
          clear HYES HNO hsx hnm
          go_wp2_with (first
            | (refine wpList_load_mid rfl 94 (.tmp 15) rfl b (off + i * 12) rfl [.int .i64 x.kind, .string x.name, .int .i64 x.line, .int .i64 x.col, x.c4, x.c5, x.c6, x.c7, x.c8, x.c9, x.c10, x.c11] _ ?_ Try.underlying94 rfl rsizeStmt ?_; exact hrgk)
            | (go_at_call 50; refine (HNMD.out _).mono ?_; rintro e w2 ⟨rfl, hb⟩; have k1 := HK1.out w2 hb; have HB2 := Lib.hid hb; clear hb))
          go_ret
          exact ⟨_, rfl, Or.inr ⟨i, rfl, hlt, HY.out, HH.out.1⟩, HH.out.2.trans (HB2.out.mono HH.out.2.size)⟩
        · have hbq : (x.name.toList == s.toList) = false := by rw [bytes_beq]; simpa using hsx
          have HN := Lib.hid (HNO.out (fun h => hsx h.2))
          rw [hnm] at HNMD
          clear HYES HNO hsx hnm
          go_wp2_with (first
            | (refine wpList_load_mid rfl 94 (.tmp 15) rfl b (off + i * 12) rfl [.int .i64 x.kind, .string x.name, .int .i64 x.line, .int .i64 x.col, x.c4, x.c5, x.c6, x.c7, x.c8, x.c9, x.c10, x.c11] _ ?_ Try.underlying94 rfl rsizeStmt ?_; exact hrgk)
            | (go_at_call 50; refine (HNMD.out _).mono ?_; rintro e w2 ⟨rfl, hb⟩; have k1 := HK1.out w2 hb; have HB2 := Lib.hid hb; clear hb))
          go_roundw
          case rel => exact ⟨i + 1, by omega, by go_num, Lib.hid ⟨(fun j hj => by
            rcases Nat.lt_or_ge j i with h | h
            · exact HH.out.1 j h
            · have : j = i := by omega
              rw [this]; exact HN.out), HH.out.2.trans (HB2.out.mono HH.out.2.size)⟩⟩
          case measure => simp [intOf] <;> omega
      · have hnf : Nm.named x.kind = false := by simpa using hnm
        have HN := Lib.hid (HNO.out (fun h => hnm h.1))
        rw [hnf] at HNMD
        clear HYES HNO hnm hnf HK1
        go_wp2_with (first
          | (refine wpList_load_mid rfl 94 (.tmp 15) rfl b (off + i * 12) rfl [.int .i64 x.kind, .string x.name, .int .i64 x.line, .int .i64 x.col, x.c4, x.c5, x.c6, x.c7, x.c8, x.c9, x.c10, x.c11] _ ?_ Try.underlying94 rfl rsizeStmt ?_; exact hrgk)
          | (go_at_call 50; refine (HNMD.out _).mono ?_; rintro e w2 ⟨rfl, hb⟩; have HB2 := Lib.hid hb; clear hb))
        go_roundw
        case rel => exact ⟨i + 1, by omega, by go_num, Lib.hid ⟨(fun j hj => by
            rcases Nat.lt_or_ge j i with h | h
            · exact HH.out.1 j h
            · have : j = i := by omega
              rw [this]; exact HN.out), HH.out.2.trans (HB2.out.mono HH.out.2.size)⟩⟩
        case measure => simp [intOf] <;> omega
    · have hie : i = m := by omega
      subst hie
      go_wp2
      go_ret
      exact ⟨_, rfl, Or.inl ⟨rfl, HH.out.1⟩, HH.out.2⟩
end Go.Proofs.Ytpbgicfoopicbaa
