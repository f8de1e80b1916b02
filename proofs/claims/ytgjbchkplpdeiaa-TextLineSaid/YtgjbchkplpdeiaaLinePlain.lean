/-
  Lines of a text, in plain words.
-/
import Derived.Test.YtgjbchkplpdeiaaTextAt
import Derived.Lib.Bytealg
namespace Go.Proofs.Ytgjbchkplpdeiaa
open Go.RowKit
set_option linter.unusedVariables false

namespace Ln
/-- Line k of a row of bytes, counted from 0. -/
def line : Nat → List UInt8 → List UInt8
  | _, [] => []
  | 0, c :: l => if c = 10 then [] else c :: line 0 l
  | k + 1, c :: l => if c = 10 then line k l else line (k + 1) l
theorem line_no : ∀ (l : List UInt8), (10 : UInt8) ∉ l → line 0 l = l ∧ ∀ k, line (k + 1) l = []
  | [], _ => ⟨rfl, fun _ => rfl⟩
  | c :: l, h => by
    have hc : ¬ c = 10 := fun e => h (by rw [e]; exact List.mem_cons_self ..)
    have hl : (10 : UInt8) ∉ l := fun e => h (List.mem_cons_of_mem _ e)
    obtain ⟨h1, h2⟩ := line_no l hl
    exact ⟨by simp only [line, if_neg hc, h1], fun k => by simp only [line, if_neg hc, h2]⟩
theorem line_at : ∀ (a r : List UInt8), (10 : UInt8) ∉ a → line 0 (a ++ 10 :: r) = a ∧ ∀ k, line (k + 1) (a ++ 10 :: r) = line k r
  | [], r, _ => ⟨by simp [line], fun k => by simp [line]⟩
  | c :: a, r, h => by
    have hc : ¬ c = 10 := fun e => h (by rw [e]; exact List.mem_cons_self ..)
    have hl : (10 : UInt8) ∉ a := fun e => h (List.mem_cons_of_mem _ e)
    obtain ⟨h1, h2⟩ := line_at a r hl
    exact ⟨by simp only [List.cons_append, line, if_neg hc, h1], fun k => by simp only [List.cons_append, line, if_neg hc, h2]⟩
theorem split (l : List UInt8) : (10 : UInt8) ∉ l ∨ ∃ a r, l = a ++ 10 :: r ∧ (10 : UInt8) ∉ a := by
  induction l with
  | nil => left; simp
  | cons c l ih =>
    by_cases hc : c = 10
    · subst hc; right; exact ⟨[], l, rfl, by simp⟩
    · rcases ih with h | ⟨a, r, h1, h2⟩
      · left; simp [h]; exact fun e => hc e.symm
      · right; exact ⟨c :: a, r, by rw [h1]; rfl, by simp [h2]; exact fun e => hc e.symm⟩
theorem index_no : ∀ (l : List UInt8), (10 : UInt8) ∉ l → Lib.indexByte l 10 = -1
  | [], _ => rfl
  | c :: l, h => by
    have hc : (c == 10) = false := by rw [beq_eq_false_iff_ne]; exact fun e => h (by rw [e]; exact List.mem_cons_self ..)
    have hl : (10 : UInt8) ∉ l := fun e => h (List.mem_cons_of_mem _ e)
    simp [Lib.indexByte, hc, index_no l hl]
theorem index_at : ∀ (a r : List UInt8), (10 : UInt8) ∉ a → Lib.indexByte (a ++ 10 :: r) 10 = (a.length : Int)
  | [], r, _ => by simp [Lib.indexByte]
  | c :: a, r, h => by
    have hc : (c == 10) = false := by rw [beq_eq_false_iff_ne]; exact fun e => h (by rw [e]; exact List.mem_cons_self ..)
    have hl : (10 : UInt8) ∉ a := fun e => h (List.mem_cons_of_mem _ e)
    simp only [List.cons_append, Lib.indexByte, hc, index_at a r hl]
    have : (((a.length : Int)) == -1) = false := by rw [beq_eq_false_iff_ne]; omega
    rw [this]
    simp
def bs (l : List UInt8) : ByteArray := ⟨l.toArray⟩
theorem bs_data (s : ByteArray) : bs s.data.toList = s := rfl
theorem data_bs (l : List UInt8) : (bs l).data.toList = l := rfl
theorem size_bs (l : List UInt8) : (bs l).size = l.length := rfl
theorem bs_app (a b : List UInt8) : bs a ++ bs b = bs (a ++ b) := by
  apply ByteArray.ext
  simp [bs]
/-- Line n of a text, counted from 1. -/
def lineB (s : ByteArray) (n : Int) : ByteArray := if n < 1 then ByteArray.empty else bs (line (n - 1).toNat s.data.toList)
theorem lineB_low (s : ByteArray) (n : Int) (h : n < 1) : lineB s n = ByteArray.empty := by unfold lineB; rw [if_pos h]
theorem ext_data (s : ByteArray) (a : Nat) (h : a ≤ s.size) : (s.extract a s.size).data.toList = s.data.toList.drop a := by
  rw [Lib.extract_data, List.take_of_length_le (by simp)]
/-- Where a text's first line ends: a newline stands there, and none ahead of it; or there is none. -/
theorem cases_ (s : ByteArray) : (Lib.indexByte s.data.toList 10 = -1 ∧ lineB s 1 = s ∧ ∀ n, n ≠ 1 → lineB s n = ByteArray.empty) ∨
    ∃ j : Nat, Lib.indexByte s.data.toList 10 = j ∧ j < s.size ∧ lineB s 1 = s.extract 0 j ∧ ∀ n, n ≠ 1 → lineB s n = lineB (s.extract (j + 1) s.size) (n - 1) := by
  rcases split s.data.toList with h | ⟨a, r, h, ha⟩
  · left
    obtain ⟨h1, h2⟩ := line_no _ h
    refine ⟨index_no _ h, ?_, fun n hn => ?_⟩
    · unfold lineB
      rw [if_neg (by omega)]
      show bs (line 0 s.data.toList) = s
      rw [h1]; rfl
    · by_cases hl : n < 1
      · exact lineB_low _ _ hl
      · unfold lineB
        rw [if_neg hl]
        obtain ⟨k, hk⟩ : ∃ k : Nat, (n - 1).toNat = k + 1 := ⟨(n - 2).toNat, by omega⟩
        rw [hk, h2]; rfl
  · right
    obtain ⟨h1, h2⟩ := line_at a r ha
    have hsz : s.size = a.length + 1 + r.length := by
      have : s.size = s.data.toList.length := Lib.size_eq s
      rw [this, h]; simp; omega
    refine ⟨a.length, by rw [h]; exact index_at a r ha, by omega, ?_, fun n hn => ?_⟩
    · unfold lineB
      rw [if_neg (by omega)]
      show bs (line 0 s.data.toList) = _
      rw [h, h1, Lib.extract_eq, h]
      simp [bs]
    · by_cases hl : n < 1
      · rw [lineB_low _ _ hl, lineB_low _ _ (by omega)]
      · unfold lineB
        rw [if_neg hl, if_neg (by omega)]
        obtain ⟨k, hk⟩ : ∃ k : Nat, (n - 1).toNat = k + 1 := ⟨(n - 2).toNat, by omega⟩
        have hk2 : (n - 1 - 1).toNat = k := by omega
        rw [hk, hk2, h, h2, ext_data _ _ (by omega), h]
        congr 2
        rw [List.drop_append, List.drop_of_length_le (by omega)]
        simp
/-- All lines up to line k, each behind the other. -/
def join : Nat → List UInt8 → List UInt8
  | 0, l => line 0 l
  | k + 1, l => join k l ++ 10 :: line (k + 1) l
theorem join_rest (a r : List UInt8) (ha : (10 : UInt8) ∉ a) : ∀ k, join (k + 1) (a ++ 10 :: r) = a ++ 10 :: join k r
  | 0 => by simp only [join, (line_at a r ha).1, (line_at a r ha).2]
  | k + 1 => by
    rw [join, join_rest a r ha k, (line_at a r ha).2, join]
    simp
theorem join_all : ∀ (n : Nat) (l : List UInt8), l.count 10 = n → join n l = l ∧ line (n + 1) l = [] := by
  intro n
  induction n with
  | zero =>
    intro l h
    have h0 := List.count_eq_zero.1 h
    exact ⟨(line_no l h0).1, (line_no l h0).2 0⟩
  | succ n ih =>
    intro l h
    rcases split l with h0 | ⟨a, r, rfl, ha⟩
    · rw [List.count_eq_zero.2 h0] at h; omega
    · have hr : r.count 10 = n := by
        rw [List.count_append, List.count_eq_zero.2 ha, List.count_cons_self] at h
        omega
      obtain ⟨h1, h2⟩ := ih r hr
      exact ⟨by rw [join_rest a r ha, h1], by rw [(line_at a r ha).2, h2]⟩
/-- How many newlines are among the first bytes. -/
def cnt (s : ByteArray) (i : Nat) : Nat := (s.data.toList.take i).count 10
theorem cnt_succ (s : ByteArray) (i : Nat) (h : i < s.size) : cnt s (i + 1) = cnt s i + if byt s i = 10 then 1 else 0 := by
  unfold cnt
  have hl : i < s.data.toList.length := by rw [← Lib.size_eq]; exact h
  rw [List.take_succ_eq_append_getElem hl, List.count_append]
  congr 1
  have hb := byt_list s i hl
  by_cases h10 : byt s i = 10
  · rw [if_pos h10]
    have : s.data.toList[i] = 10 := by rw [← UInt8.toNat_inj, hb, h10]; rfl
    rw [this]; rfl
  · rw [if_neg h10]
    have : ¬ s.data.toList[i] = 10 := fun e => h10 (by rw [← hb, e]; rfl)
    rw [List.count_singleton, if_neg (by rw [beq_iff_eq]; exact this)]
theorem cnt_all (s : ByteArray) : cnt s s.size = s.data.toList.count 10 := by
  unfold cnt
  rw [List.take_of_length_le (by rw [← Lib.size_eq]; exact Nat.le_refl _)]
theorem cnt_le (s : ByteArray) (i : Nat) : cnt s i ≤ i := by
  unfold cnt
  exact Nat.le_trans List.count_le_length (by simp; omega)
/-- All lines up to line k of a text. -/
def joinB (s : ByteArray) (k : Nat) : ByteArray := bs (join k s.data.toList)
theorem joinB_zero (s : ByteArray) : joinB s 0 = lineB s 1 := by
  unfold joinB lineB; rw [if_neg (by omega)]; rfl
theorem joinB_succ (s : ByteArray) (k : Nat) : joinB s (k + 1) = joinB s k ++ (⟨#[10]⟩ ++ lineB s ((k : Int) + 2)) := by
  unfold joinB lineB
  rw [if_neg (by omega), show ((k : Int) + 2 - 1).toNat = k + 1 by omega, join]
  have : (⟨#[10]⟩ : ByteArray) = bs [10] := rfl
  rw [this, bs_app, bs_app]
  simp
theorem joinB_all (s : ByteArray) : joinB s (s.data.toList.count 10) = s := by
  unfold joinB
  rw [(join_all _ _ rfl).1]; rfl
theorem line_last (s : ByteArray) : lineB s ((s.data.toList.count 10 : Nat) + 2 : Int) = ByteArray.empty := by
  unfold lineB
  rw [if_neg (by omega), show (((s.data.toList.count 10 : Nat) : Int) + 2 - 1).toNat = s.data.toList.count 10 + 1 by omega, (join_all _ _ rfl).2]; rfl
theorem line_len : ∀ (k : Nat) (l : List UInt8), (line k l).length ≤ l.length
  | _, [] => by simp [line]
  | 0, c :: l => by
    unfold line
    have := line_len 0 l
    split <;> simp
    exact this
  | k + 1, c :: l => by
    unfold line
    have := line_len k l
    have := line_len (k + 1) l
    split <;> simp <;> omega
theorem lineB_len (s : ByteArray) (n : Int) : (lineB s n).size ≤ s.size := by
  unfold lineB
  split
  · simp
  · rw [size_bs, Lib.size_eq s]; exact line_len _ _
theorem join_len : ∀ (k : Nat) (l : List UInt8), (join k l).length ≤ (k + 1) * (l.length + 1)
  | 0, l => by have := line_len 0 l; unfold join; omega
  | k + 1, l => by
    have h1 := join_len k l
    have h2 := line_len (k + 1) l
    unfold join
    simp only [List.length_append, List.length_cons]
    rw [Nat.add_mul (k + 1) 1]
    omega
theorem joinB_len (s : ByteArray) (k : Nat) : (joinB s k).size ≤ (k + 1) * (s.size + 1) := by
  unfold joinB; rw [size_bs, Lib.size_eq s]; exact join_len _ _
/-- From a place on no newline stands ahead of another place. -/
def Free (s : ByteArray) (a b : Nat) : Prop := ∀ j, a ≤ j → j < b → byt s j ≠ 10
theorem free_not (s : ByteArray) (a b : Nat) (h : Free s a b) (hb : b ≤ s.size) : (10 : UInt8) ∉ (s.data.toList.drop a).take (b - a) := by
  intro hm
  obtain ⟨j, hj, he⟩ := List.mem_iff_getElem.1 hm
  simp only [List.length_take, List.length_drop] at hj
  have hl : s.data.toList.length = s.size := (Lib.size_eq s).symm
  rw [List.getElem_take, List.getElem_drop] at he
  have := byt_list s (a + j) (by omega)
  rw [he] at this
  exact h (a + j) (by omega) (by omega) this.symm
/-- A newline at b, none from a on ahead of it: that is where the rest's first line ends. -/
theorem rest_at (s : ByteArray) (a b : Nat) (hab : a ≤ b) (hb : b < s.size) (h : Free s a b) (h10 : byt s b = 10) :
    lineB (s.extract a s.size) 1 = s.extract a b ∧ ∀ n, n ≠ 1 → lineB (s.extract a s.size) n = lineB (s.extract (b + 1) s.size) (n - 1) := by
  have hl : s.data.toList.length = s.size := (Lib.size_eq s).symm
  have e : (s.extract a s.size).data.toList = (s.data.toList.drop a).take (b - a) ++ 10 :: s.data.toList.drop (b + 1) := by
    rw [ext_data _ _ (by omega)]
    conv => lhs; rw [← List.take_append_drop (b - a) (s.data.toList.drop a)]
    congr 1
    rw [List.drop_drop, show a + (b - a) = b by omega, List.drop_eq_getElem_cons (by omega)]
    congr 1
    rw [← UInt8.toNat_inj, byt_list s b (by omega), h10]; rfl
  have hf := free_not s a b h (by omega)
  obtain ⟨h1, h2⟩ := line_at _ (s.data.toList.drop (b + 1)) hf
  constructor
  · unfold lineB
    rw [if_neg (by omega)]
    show bs (line 0 _) = _
    rw [e, h1, Lib.extract_eq]; rfl
  · intro n hn
    by_cases hl : n < 1
    · rw [lineB_low _ _ hl, lineB_low _ _ (by omega)]
    · unfold lineB
      rw [if_neg hl, if_neg (by omega)]
      obtain ⟨k, hk⟩ : ∃ k : Nat, (n - 1).toNat = k + 1 := ⟨(n - 2).toNat, by omega⟩
      rw [hk, show (n - 1 - 1).toNat = k by omega, e, h2, ext_data _ _ (by omega)]
theorem rest_no (s : ByteArray) (a : Nat) (ha : a ≤ s.size) (h : Free s a s.size) :
    lineB (s.extract a s.size) 1 = s.extract a s.size ∧ ∀ n, n ≠ 1 → lineB (s.extract a s.size) n = ByteArray.empty := by
  have e : (10 : UInt8) ∉ (s.extract a s.size).data.toList := by
    have := free_not s a s.size h (Nat.le_refl _)
    rwa [← Lib.extract_data] at this
  obtain ⟨h1, h2⟩ := line_no _ e
  constructor
  · unfold lineB
    rw [if_neg (by omega)]
    show bs (line 0 _) = _
    rw [h1]; rfl
  · intro n hn
    by_cases hl : n < 1
    · exact lineB_low _ _ hl
    · unfold lineB
      rw [if_neg hl]
      obtain ⟨k, hk⟩ : ∃ k : Nat, (n - 1).toNat = k + 1 := ⟨(n - 2).toNat, by omega⟩
      rw [hk, h2]; rfl
end Ln
end Go.Proofs.Ytgjbchkplpdeiaa
