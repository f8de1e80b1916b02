/-
  text.told, text.behind, text.first: one rune more, by walks.
-/
import Derived.Test.YtbplkphjjfgkmaaDoorTextDec
import Derived.Lib.Strings
namespace Go.Proofs.YtbplkphjjfgkmaaDoor
open Go.RowKit
set_option linter.unusedVariables false

set_option maxHeartbeats 400000 in
theorem first0 (w : World) : Calls Tryd.prog 107 #[] w fun e w' => e = .returned (.agg #[.int .i64 1, .int .i64 1]) ∧ Keeps (fun _ => False) w w' := by
  go_enter Tryd.func107, Tryd.ntmps107
  go_wp2
  exact bodyPost_ret (v := .agg #[.int .i64 1, .int .i64 1]) (by simp [results, Tryd.results107, go_sem]) rfl ⟨rfl, Keeps.alloc _ _ _⟩
set_option maxHeartbeats 400000 in
theorem behind_nl (l c : Nat) (w : World) (hl : l ≤ 1000000000000) (hc : c ≤ 1000000000000) : Calls Tryd.prog 109 #[.agg #[.int .i64 l, .int .i64 c], .int .i32 10] w fun e w' => e = .returned (.agg #[.int .i64 ((l : Int) + 1), .int .i64 1]) ∧ Keeps (fun _ => False) w w' := by
  go_enter Tryd.func109, Tryd.ntmps109
  go_wp2
  exact bodyPost_ret (v := .agg #[.int .i64 ((l : Int) + 1), .int .i64 1]) (by simp [results, Tryd.results109, go_sem]) rfl ⟨rfl, (Keeps.alloc _ _ _).trans (Keeps.alloc _ _ _)⟩
set_option maxHeartbeats 400000 in
theorem behind_no (l c : Nat) (r : Int) (w : World) (hl : l ≤ 1000000000000) (hc : c ≤ 1000000000000) (hr : r ≠ 10) : Calls Tryd.prog 109 #[.agg #[.int .i64 l, .int .i64 c], .int .i32 r] w fun e w' => e = .returned (.agg #[.int .i64 l, .int .i64 ((c : Int) + 1)]) ∧ Keeps (fun _ => False) w w' := by
  have h1 : (r == 10) = false := by simp [hr]
  clear hr
  go_enter Tryd.func109, Tryd.ntmps109
  go_wp2
  exact bodyPost_ret (v := .agg #[.int .i64 l, .int .i64 ((c : Int) + 1)]) (by simp [results, Tryd.results109, go_sem]) rfl ⟨rfl, (Keeps.alloc _ _ _).trans (Keeps.alloc _ _ _)⟩
/-- Of how many bytes a rune is. -/
def RL (r : Int) (n : Nat) : Prop := (0 ≤ r ∧ r < 128 ∧ n = 1) ∨ (128 ≤ r ∧ r < 2048 ∧ n = 2) ∨ (2048 ≤ r ∧ r < 55296 ∧ n = 3) ∨ (57344 ≤ r ∧ r < 65536 ∧ n = 3) ∨ (65536 ≤ r ∧ r ≤ 1114111 ∧ n = 4)
set_option maxHeartbeats 800000 in
theorem runeLen_any (r : Int) (n : Nat) (w : World) (h : RL r n) : Calls Tryd.prog 167 #[.int .i32 r] w fun e w' => e = .returned (.int .i64 n) ∧ w = w' := by
  rcases h with ⟨h1, h2, rfl⟩ | ⟨h1, h2, rfl⟩ | ⟨h1, h2, rfl⟩ | ⟨h1, h2, rfl⟩ | ⟨h1, h2, rfl⟩
  all_goals
    go_enter Tryd.func167, Tryd.ntmps167
    go_wp2
    go_ret
    exact ⟨rfl, rfl⟩
def hp (t p : ByteArray) : Bool := decide (p.size ≤ t.size) && ((t.extract 0 p.size).toList == p.toList)
set_option maxHeartbeats 800000 in
theorem hasPrefix_any (t p : ByteArray) (w : World) (ht : t.size ≤ 1000000000000) (hq : p.size ≤ 1000000000000) : Calls Tryd.prog 166 #[.string t, .string p] w fun e w' => e = .returned (.bool (hp t p)) ∧ w = w' := by
  by_cases h : p.size ≤ t.size
  · have h1 : (p.size : Int) ≤ (t.size : Int) := by omega
    have hh : hp t p = ((t.extract 0 p.size).toList == p.toList) := by unfold hp; rw [decide_eq_true h]; rfl
    have HH := Lib.hid hh
    clear hh
    go_enter Tryd.func166, Tryd.ntmps166
    go_wp2
    go_ret
    exact ⟨ret_bool HH.out.symm, rfl⟩
  · have h1 : ¬ (p.size : Int) ≤ (t.size : Int) := by omega
    have hh : hp t p = false := by unfold hp; rw [decide_eq_false h]; rfl
    rw [hh]
    clear hh
    go_enter Tryd.func166, Tryd.ntmps166
    go_wp2
    go_ret
    exact ⟨rfl, rfl⟩

def fffd : ByteArray := ⟨#[239, 191, 189]⟩
theorem byt_list (s : ByteArray) (k : Nat) (h : k < s.data.toList.length) : (s.data.toList[k]).toNat = byt s k := by
  have h2 : k < s.size := by simpa using h
  rw [← byt_at s k h2]
  rfl
theorem hp_fffd (s : ByteArray) (i : Nat) (hi : i < s.size) : hp (s.extract i s.size) fffd = (decide (i + 2 < s.size) && (decide (byt s i = 239) && (decide (byt s (i + 1) = 191) && decide (byt s (i + 2) = 189)))) := by
  have hsz : (s.extract i s.size).size = s.size - i := by simp
  have hf : fffd.size = 3 := rfl
  have hl : s.data.toList.length = s.size := by simp
  unfold hp
  rw [hsz, hf]
  by_cases h : i + 2 < s.size
  · rw [decide_eq_true (show 3 ≤ s.size - i by omega), decide_eq_true h, Bool.true_and, Bool.true_and]
    have e1 : ((s.extract i s.size).extract 0 3).toList = [s.data.toList[i], s.data.toList[i + 1], s.data.toList[i + 2]] := by
      rw [Lib.extract_toList]
      have e2 : (s.extract i s.size).data.toList = s.data.toList.drop i := by
        rw [← Lib.toList_data, Lib.extract_toList, List.take_of_length_le (by simp)]
      rw [e2, List.drop_zero, Nat.sub_zero]
      rw [List.drop_eq_getElem_cons (by omega), List.drop_eq_getElem_cons (by omega), List.drop_eq_getElem_cons (by omega)]
      rfl
    have e3 : fffd.toList = [239, 191, 189] := by rw [Lib.toList_data]; rfl
    rw [e1, e3, Bool.eq_iff_iff, beq_iff_eq]
    simp only [List.cons.injEq, and_true, Bool.and_eq_true, decide_eq_true_eq]
    rw [← byt_list s i (by omega), ← byt_list s (i + 1) (by omega), ← byt_list s (i + 2) (by omega), ← UInt8.toNat_inj, ← UInt8.toNat_inj, ← UInt8.toNat_inj]
    rfl
  · rw [decide_eq_false (show ¬ 3 ≤ s.size - i by omega), decide_eq_false h]
    rfl
theorem decN_cases (c b1 b2 b3 : Nat) (t1 t2 t3 : Bool) : decN c b1 b2 b3 t1 t2 t3 = (65533, 1) ∨ (RL ((decN c b1 b2 b3 t1 t2 t3).1 : Int) (decN c b1 b2 b3 t1 t2 t3).2 ∧ ((decN c b1 b2 b3 t1 t2 t3).1 = 65533 → (decN c b1 b2 b3 t1 t2 t3).2 = 3 ∧ t1 = true ∧ t2 = true ∧ c = 239 ∧ b1 % 64 = 63 ∧ b2 % 64 = 61)) := by
  unfold decN
  split
  · right; exact ⟨Or.inl (by omega), fun h => by simp only at h; omega⟩
  · split
    · rename_i h1 h2
      simp only [Bool.and_eq_true, beq_iff_eq] at h2
      split
      · right; exact ⟨Or.inr (Or.inl (by omega)), fun h => by simp only at h; omega⟩
      · left; rfl
    · split
      · rename_i h1 h2 h3
        simp only [Bool.and_eq_true, beq_iff_eq] at h3
        split
        · rename_i h4
          rw [valid_is] at h4
          simp only [Bool.and_eq_true, Bool.or_eq_true, decide_eq_true_eq] at h4
          right
          refine ⟨?_, fun h => ?_⟩
          · rcases h4.2 with h6 | h6
            · exact Or.inr (Or.inr (Or.inl ⟨by simp only; omega, by simp only; omega, rfl⟩))
            · exact Or.inr (Or.inr (Or.inr (Or.inl ⟨by simp only; omega, by simp only; omega, rfl⟩)))
          · simp only at h
            exact ⟨rfl, h3.1.2, h3.2, by omega, by omega, by omega⟩
        · left; rfl
      · split
        · rename_i h1 h2 h3 h4
          simp only [Bool.and_eq_true, beq_iff_eq] at h4
          split
          · rename_i h5
            rw [valid_is] at h5
            simp only [Bool.and_eq_true, Bool.or_eq_true, decide_eq_true_eq] at h5
            right
            refine ⟨?_, fun h => ?_⟩
            · exact Or.inr (Or.inr (Or.inr (Or.inr ⟨by simp only; omega, by simp only; omega, rfl⟩)))
            · simp only at h; omega
          · left; rfl
        · left; rfl
theorem dec_prefix (s : ByteArray) (i : Nat) (hi : i < s.size) (hd : (Utf8.decode s i).1 = 65533) : hp (s.extract i s.size) fffd = decide ((Utf8.decode s i).2 ≠ 1) := by
  rw [hp_fffd s i hi]
  rw [decode_is] at hd ⊢
  rcases decN_cases (byt s i) (byt s (i + 1)) (byt s (i + 2)) (byt s (i + 3)) (tl s (i + 1) 128 191) (tl s (i + 2) 128 191) (tl s (i + 3) 128 191) with h | ⟨_, h⟩
  · rw [h]
    simp only [ne_eq, not_true_eq_false, decide_false]
    rw [Bool.eq_false_iff]
    intro hp
    simp only [Bool.and_eq_true, decide_eq_true_eq] at hp
    obtain ⟨h1, h2, h3, h4⟩ := hp
    have t1 : tl s (i + 1) 128 191 = true := tl_yes ⟨by omega, by omega, by omega⟩
    have t2 : tl s (i + 2) 128 191 = true := tl_yes ⟨by omega, by omega, by omega⟩
    rw [h2, h3, h4, t1, t2] at h
    have : decN 239 191 189 (byt s (i + 3)) true true (tl s (i + 3) 128 191) = (65533, 3) := by
      unfold decN
      rw [valid_is]
      rfl
    rw [this] at h
    simp at h
  · obtain ⟨h3, t1, t2, hc, h1, h2⟩ := h hd
    rw [h3]
    have q1 := tl_true t1
    have q2 := tl_true t2
    simp
    omega
theorem dec_len (s : ByteArray) (i : Nat) (h : ¬ ((Utf8.decode s i).1 = 65533 ∧ (Utf8.decode s i).2 = 1)) : RL ((Utf8.decode s i).1 : Int) (Utf8.decode s i).2 := by
  rw [decode_is] at h ⊢
  rcases decN_cases (byt s i) (byt s (i + 1)) (byt s (i + 2)) (byt s (i + 3)) (tl s (i + 1) 128 191) (tl s (i + 2) 128 191) (tl s (i + 3) 128 191) with h2 | ⟨h2, _⟩
  · exact absurd (by rw [h2]; exact ⟨rfl, rfl⟩) h
  · exact h2

set_option maxHeartbeats 800000 in
theorem told_any (s : ByteArray) (i : Nat) (w : World) (hi : i < s.size) (hs : s.size ≤ 1000000000000) :
    Calls Tryd.prog 108 #[.string s, .int .i64 i, .int .i32 ((Utf8.decode s i).1 : Nat)] w fun e w' =>
      e = .returned (.agg #[.int .i32 (firstR s i).1, .int .i64 i, .int .i64 ((i + (firstR s i).2 : Nat) : Int), .int .i64 0, .int .i64 0]) ∧ Keeps (fun _ => False) w w' := by
  rw [first_dec]
  have hle := decode_le s i
  by_cases hbad : (Utf8.decode s i).1 = 65533
  · have hpx := dec_prefix s i hi hbad
    by_cases h1 : (Utf8.decode s i).2 = 1
    · have e1 : fixB (Utf8.decode s i) = (-1, 1) := by unfold fixB; rw [if_pos ⟨hbad, h1⟩]
      rw [e1, hbad]
      rw [decide_eq_false (by simp [h1])] at hpx
      have HP := Lib.hid (fun w => hasPrefix_any (s.extract i s.size) fffd w (by simp; omega) (by decide))
      rw [hpx] at HP
      clear hpx h1 e1 hbad hle
      go_enter Tryd.func108, Tryd.ntmps108
      go_wp2_with fail
      refine (HP.out _).mono ?_
      rintro e w1 ⟨rfl, rfl⟩
      go_wp2_with fail
      exact bodyPost_ret (v := .agg #[.int .i32 (-1), .int .i64 i, .int .i64 ((i + 1 : Nat) : Int), .int .i64 0, .int .i64 0]) (by simp [results, Tryd.results108, go_sem]) rfl ⟨rfl, Keeps.alloc _ _ _⟩
    · have hrl := dec_len s i (by omega)
      have e1 : fixB (Utf8.decode s i) = (((Utf8.decode s i).1 : Int), (Utf8.decode s i).2) := by unfold fixB; rw [if_neg (by omega)]
      rw [e1]
      rw [decide_eq_true h1] at hpx
      have HP := Lib.hid (fun w => hasPrefix_any (s.extract i s.size) fffd w (by simp; omega) (by decide))
      rw [hpx] at HP
      rw [hbad] at hrl ⊢
      have HRL := Lib.hid (fun w => runeLen_any _ _ w hrl)
      have hn4 : (Utf8.decode s i).2 ≤ 4 := by unfold RL at hrl; omega
      clear hpx h1 e1 hbad hle hrl
      generalize (Utf8.decode s i).2 = n at *
      go_enter Tryd.func108, Tryd.ntmps108
      go_wp2_with fail
      refine (HP.out _).mono ?_
      rintro e w1 ⟨rfl, rfl⟩
      go_wp2_with fail
      refine (HRL.out _).mono ?_
      rintro e w1 ⟨rfl, rfl⟩
      go_wp2_with fail
      exact bodyPost_ret (v := .agg #[.int .i32 65533, .int .i64 i, .int .i64 ((i + n : Nat) : Int), .int .i64 0, .int .i64 0]) (by simp [results, Tryd.results108, go_sem]) rfl ⟨rfl, Keeps.alloc _ _ _⟩
  · have hrl := dec_len s i (by omega)
    have e1 : fixB (Utf8.decode s i) = (((Utf8.decode s i).1 : Int), (Utf8.decode s i).2) := by unfold fixB; rw [if_neg (by omega)]
    rw [e1]
    have HRL := Lib.hid (fun w => runeLen_any _ _ w hrl)
    have hn4 : (Utf8.decode s i).2 ≤ 4 := by unfold RL at hrl; omega
    have hne : ((((Utf8.decode s i).1 : Nat) : Int) == 65533) = false := by simp; omega
    clear e1 hbad hrl
    generalize (Utf8.decode s i).2 = n at *
    generalize (Utf8.decode s i).1 = r at *
    go_enter Tryd.func108, Tryd.ntmps108
    go_wp2_with fail
    refine (HRL.out _).mono ?_
    rintro e w1 ⟨rfl, rfl⟩
    go_wp2_with fail
    exact bodyPost_ret (v := .agg #[.int .i32 r, .int .i64 i, .int .i64 ((i + n : Nat) : Int), .int .i64 0, .int .i64 0]) (by simp [results, Tryd.results108, go_sem]) rfl ⟨rfl, Keeps.alloc _ _ _⟩
end Go.Proofs.YtbplkphjjfgkmaaDoor
