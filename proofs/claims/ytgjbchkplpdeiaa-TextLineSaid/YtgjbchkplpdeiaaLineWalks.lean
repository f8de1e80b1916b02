/-
  text.Line, warderref01.Line: a line of a text, by walks; the law on both.
-/
import Derived.Test.YtgjbchkplpdeiaaLinePlain
namespace Go.Proofs.Ytgjbchkplpdeiaa
open Go.RowKit
set_option linter.unusedVariables false
set_option linter.unusedSimpArgs false

set_option maxHeartbeats 800000 in
theorem sliteIndex_any (s : ByteArray) (w : World) : Calls Try.prog 78 #[.string s, .int .u8 10] w fun e w' => e = .returned (.int .i64 (Lib.indexByte s.data.toList 10)) ∧ w = w' := by
  go_enter Try.func78, Try.ntmps78
  go_wp2
  rw [run_callFunc_extern Try.func90 (by kernel_rfl) (by kernel_rfl) (by kernel_rfl) (e := Extern.BytealgIndexByte.indexByte) (by kernel_rfl), Lib.run_indexByteString]
  simp only [Result.andThen]
  rw [Oper.upon_value]
  go_wp2
  go_ret
  exact ⟨rfl, rfl⟩
set_option maxHeartbeats 800000 in
theorem indexByte_any (s : ByteArray) (w : World) : Calls Try.prog 60 #[.string s, .int .u8 10] w fun e w' => e = .returned (.int .i64 (Lib.indexByte s.data.toList 10)) ∧ w = w' := by
  have H := Lib.hid (fun w => sliteIndex_any s w)
  go_enter Try.func60, Try.ntmps60
  go_wp2_with fail
  refine (H.out _).mono ?_
  rintro e w1 ⟨rfl, rfl⟩
  go_wp2_with fail
  go_ret
  exact ⟨rfl, rfl⟩
def nlB : ByteArray := ⟨#[10]⟩
set_option maxHeartbeats 800000 in
theorem index1_gen (s b : ByteArray) (w : World) (h1 : b.size = 1) (hb : b.toList = [10]) : Calls Try.prog 91 #[.string s, .string b] w fun e w' => e = .returned (.int .i64 (Lib.indexByte s.data.toList 10)) ∧ w = w' := by
  have H := Lib.hid (fun w => sliteIndex_any s w)
  have h0 : 0 < b.size := by omega
  have h10 : (b[0]'h0).toNat = 10 := by
    have e1 : b.data.toList = [10] := by rw [← Lib.toList_data]; exact hb
    have e2 : b[0]'h0 = (10 : UInt8) := by
      have : b.data.toList[0]? = some 10 := by rw [e1]; rfl
      have h3 : b.data.toList[0]? = some (b[0]'h0) := by rw [List.getElem?_eq_getElem (by rw [e1]; simp)]; rfl
      rw [h3] at this
      exact Option.some.inj this
    rw [e2]; rfl
  by_cases he : (b.toList == s.toList) = true
  · have hx : Lib.indexByte s.data.toList 10 = 0 := by
      rw [beq_iff_eq, hb] at he
      rw [← Lib.toList_data, ← he]; rfl
    rw [hx]
    clear hb hx
    go_enter Try.func91, Try.ntmps91
    go_wp2_with fail
    go_ret
    exact ⟨rfl, rfl⟩
  · have he2 : (b.toList == s.toList) = false := by simpa using he
    clear hb he
    go_enter Try.func91, Try.ntmps91
    go_wp2_with fail
    refine (H.out _).mono ?_
    rintro e w1 ⟨rfl, rfl⟩
    go_wp2_with fail
    go_ret
    exact ⟨rfl, rfl⟩
/-- strings.Cut about a newline: only the piece ahead of it is asked. -/
def CutAns (s : ByteArray) (w : World) (e : Ending) (w' : World) : Prop :=
  ∃ (y : ByteArray) (f : Bool), e = .returned (.tuple #[.string (Ln.lineB s 1), .string y, .bool f]) ∧ ∃ n, w' = w.drewN n
set_option maxHeartbeats 800000 in
theorem sliteCut_gen (s b : ByteArray) (w : World) (hs : s.size ≤ 1000000000000) (h1 : b.size = 1) (hb : b.toList = [10]) : Calls Try.prog 79 #[.string s, .string b] w (CutAns s w) := by
  have H := Lib.hid (fun w => index1_gen s b w h1 hb)
  clear hb
  rcases Ln.cases_ s with ⟨hi, hl, hx⟩ | ⟨j, hi, hj, hl, hx⟩ <;> clear hx
  · rw [hi] at H
    have HL := Lib.hid hl
    clear hi hl
    go_enter Try.func79, Try.ntmps79
    go_wp2_with fail
    refine (H.out _).mono ?_
    rintro e w1 ⟨rfl, rfl⟩
    go_wp2_with fail
    go_ret3
    exact ⟨_, _, by rw [HL.out]; rfl, 0, rfl⟩
  · rw [hi] at H
    have HL := Lib.hid hl
    clear hi hl
    have hj1 : ((j : Int) + (b.size : Int)) ≤ (s.size : Int) := by omega
    have hj2 : (j : Int) ≤ (s.size : Int) := by omega
    go_enter Try.func79, Try.ntmps79
    go_wp2_with fail
    refine (H.out _).mono ?_
    rintro e w1 ⟨rfl, rfl⟩
    go_wp2_with fail
    go_quiet (fail)
    go_wp2_with fail
    go_ret3
    exact ⟨_, _, by rw [HL.out]; rfl, _, rfl⟩
set_option maxHeartbeats 800000 in
theorem cut_any (s : ByteArray) (w : World) (hs : s.size ≤ 1000000000000) : Calls Try.prog 61 #[.string s, .string ⟨#[10]⟩] w (CutAns s w) := by
  have H := Lib.hid (fun w => sliteCut_gen s ⟨#[10]⟩ w hs rfl (by rw [Lib.toList_data]))
  go_enter Try.func61, Try.ntmps61
  go_wp2_with fail
  refine (H.out _).mono ?_
  rintro e w1 ⟨y, f, rfl, nd, rfl⟩
  go_wp2_with fail
  go_ret3
  exact ⟨_, _, rfl, nd, rfl⟩
set_option maxHeartbeats 2000000 in
theorem line_any (s : ByteArray) (n : Int) (w : World) (hs : s.size ≤ 1000000000000) (hn : -9223372036854775808 ≤ n ∧ n ≤ 9223372036854775807) :
    Calls Try.prog 21 #[.string s, .int .i64 n] w fun e w' => e = .returned (.string (Ln.lineB s n)) ∧ ∃ m, w' = w.drewN m := by
  go_enter Try.func21, Try.ntmps21
  go_wp2_with fail
  go_loopw [0, 1, 5] (fun v0 v1 v5 wr => ∃ (t : ByteArray) (m : Int), v0 = .string t ∧ v1 = .int .i64 m ∧ t.size ≤ s.size ∧ -9223372036854775808 ≤ m ∧ m ≤ 9223372036854775807 ∧ Ln.lineB t m = Ln.lineB s n ∧ w = wr) (fun _ v1 _ _ => (intOf v1).toNat)
  case atStart => exact ⟨s, n, rfl, rfl, Nat.le_refl _, hn.1, hn.2, rfl, rfl⟩
  case round =>
    obtain ⟨t, m, rfl, rfl, hts, hm1, hm2, hl, rfl⟩ := hrel
    have HL := Lib.hid hl
    clear hl
    by_cases h1 : 1 < m
    · have IX := Lib.hid (fun w => indexByte_any t w)
      rcases Ln.cases_ t with ⟨hi, _, hno⟩ | ⟨j, hi, hj, _, hat⟩
      · rw [hi] at IX
        have hz := hno m (by omega)
        have HZ := Lib.hid hz
        clear hi hno hz
        go_wp2_with fail
        refine (IX.out _).mono ?_
        rintro e w1 ⟨rfl, rfl⟩
        go_wp2_with fail
        go_ret
        exact ⟨by rw [← HL.out, HZ.out]; rfl, 0, rfl⟩
      · rw [hi] at IX
        have hz := hat m (by omega)
        have HZ := Lib.hid hz
        clear hi hat hz
        go_wp2_with fail
        refine (IX.out _).mono ?_
        rintro e w1 ⟨rfl, rfl⟩
        go_wp2_with fail
        go_roundw
        case rel => exact ⟨t.extract (j + 1) t.size, m - 1, rfl, rfl, by simp; omega, by omega, by omega, by rw [← HZ.out]; exact HL.out, trivial⟩
        case measure => simp [intOf]; omega
    · by_cases h2 : m < 1
      · have hz := Ln.lineB_low t m h2
        have HZ := Lib.hid hz
        clear hz
        go_wp2_with fail
        go_ret
        exact ⟨by rw [← HL.out, HZ.out]; rfl, 0, rfl⟩
      · have h3 : m = 1 := by omega
        subst h3
        have CU := Lib.hid (fun w => cut_any t w (by omega))
        go_wp2_with fail
        refine (CU.out _).mono ?_
        rintro e w1 ⟨y, f, rfl, nd, rfl⟩
        go_wp2_with fail
        go_ret
        exact ⟨by rw [← HL.out]; rfl, nd, rfl⟩
set_option maxHeartbeats 2000000 in
theorem rline_any (s : ByteArray) (n : Int) (w : World) (hs : s.size ≤ 1000000000000) (hn : -9223372036854775808 ≤ n ∧ n ≤ 9223372036854775807) :
    Calls Try.prog 22 #[.string s, .int .i64 n] w fun e w' => e = .returned (.string (Ln.lineB s n)) ∧ w = w' := by
  go_enter Try.func22, Try.ntmps22
  go_wp2_with fail
  go_loopw [5, 6, 7] (fun v5 v6 v7 wr => ∃ (a k i : Nat), v5 = .int .i64 a ∧ v6 = .int .i64 k ∧ v7 = .int .i64 i ∧ a ≤ i ∧ i ≤ s.size ∧ 1 ≤ k ∧ k ≤ i + 1 ∧ Ln.Free s a i ∧ Ln.lineB (s.extract a s.size) (n - k + 1) = Ln.lineB s n ∧ wr = w) (fun _ _ v7 _ => s.size - (intOf v7).toNat)
  case atStart => exact ⟨0, 1, 0, rfl, rfl, rfl, Nat.le_refl _, by omega, by omega, by omega, fun j h1 h2 => by omega, by simp, rfl⟩
  case round =>
    obtain ⟨a, k, i, rfl, rfl, rfl, hai, his, hk1, hki, hf, hl, rfl⟩ := hrel
    have HF := Lib.hid hf
    have HL := Lib.hid hl
    clear hf hl
    by_cases hlt : i < s.size
    · have hb : (s[i]'hlt).toNat = byt s i := byt_at s i hlt
      by_cases h10 : byt s i = 10
      · have hra := Ln.rest_at s a i hai hlt HF.out h10
        have HRA := Lib.hid hra
        clear hra
        rw [h10] at hb
        by_cases hkn : (k : Int) = n
        · subst hkn
          clear h10
          go_wp2_with fail
          go_ret
          exact ⟨by rw [← HL.out, show (k : Int) - k + 1 = 1 by omega, (HRA.out).1]; rfl, rfl⟩
        · clear h10
          have hkn2 : ((k : Int) == n) = false := by simp [hkn]
          go_wp2_with fail
          go_roundw
          case rel => exact ⟨i + 1, k + 1, i + 1, by go_num, by go_num, by go_num, by omega, by omega, by omega, by omega, fun j h1 h2 => by omega, by
            rw [← HL.out, (HRA.out).2 _ (by omega)]
            congr 1; omega, trivial⟩
          case measure => simp [intOf]; omega
      · have hne : (byt s i == 10) = false := by simp [h10]
        have H10 := Lib.hid h10
        clear h10
        go_wp2_with fail
        go_roundw
        case rel => exact ⟨a, k, i + 1, rfl, rfl, by go_num, by omega, by omega, by omega, by omega, fun j h1 h2 => by
          by_cases e : j = i
          · rw [e]; exact H10.out
          · exact HF.out j h1 (by omega), HL.out, trivial⟩
        case measure => simp [intOf]; omega
    · have hie : i = s.size := by omega
      subst hie
      have hrn := Ln.rest_no s a hai HF.out
      have HRN := Lib.hid hrn
      clear hrn
      by_cases hkn : (k : Int) = n
      · subst hkn
        go_wp2_with fail
        go_ret
        exact ⟨by rw [← HL.out, show (k : Int) - k + 1 = 1 by omega, (HRN.out).1]; rfl, rfl⟩
      · have hkn2 : ((k : Int) == n) = false := by simp [hkn]
        go_wp2_with fail
        go_ret
        exact ⟨by rw [← HL.out, (HRN.out).2 _ (by omega)]; rfl, rfl⟩
end Go.Proofs.Ytgjbchkplpdeiaa
