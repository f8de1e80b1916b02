/-
  token.Known and the document's Known, by walks.
-/
import Derived.Test.YtbplkphjjfgkmaaDoorTokWords
namespace Go.Proofs.YtbplkphjjfgkmaaDoor
open Go.RowKit
set_option linter.unusedVariables false
set_option linter.unusedSimpArgs false

theorem toList_data (s : ByteArray) : s.toList = s.data.toList := ByteArray.toList_eq s
set_option maxHeartbeats 4000000 in
theorem known_no (s : ByteArray) (w : World) (h : Tk.known s.data.toList = false) : Calls Tryd.prog 28 #[.string s] w fun e w' => e = .returned (.bool false) ∧ w = w' := by
  have hall : ∀ L ∈ Tk.words, (s.toList == L) = false := by
    intro L hL
    rw [toList_data]
    cases e : (s.data.toList == L) with
    | false => rfl
    | true =>
      exfalso
      rw [beq_iff_eq] at e
      unfold Tk.known at h
      rw [e] at h
      have : Tk.words.contains L = true := by simpa using hL
      rw [h] at this; cases this
  have n0 : (s.toList == [97, 116, 116, 114]) = false := hall _ (by decide)
  have n1 : (s.toList == [117, 115, 101, 114]) = false := hall _ (by decide)
  have n2 : (s.toList == [114, 111, 108, 101]) = false := hall _ (by decide)
  have n3 : (s.toList == [115, 116, 97, 103, 101]) = false := hall _ (by decide)
  have n4 : (s.toList == [105, 110]) = false := hall _ (by decide)
  have n5 : (s.toList == [101, 118, 101, 110, 116]) = false := hall _ (by decide)
  have n6 : (s.toList == [98, 121]) = false := hall _ (by decide)
  have n7 : (s.toList == [115, 101, 116, 115]) = false := hall _ (by decide)
  have n8 : (s.toList == [109, 97, 120]) = false := hall _ (by decide)
  have n9 : (s.toList == [111, 110]) = false := hall _ (by decide)
  have n10 : (s.toList == [105, 102]) = false := hall _ (by decide)
  have n11 : (s.toList == [103, 117, 97, 114, 100]) = false := hall _ (by decide)
  have n12 : (s.toList == [109, 105, 108, 101, 115, 116, 111, 110, 101]) = false := hall _ (by decide)
  have n13 : (s.toList == [111, 102]) = false := hall _ (by decide)
  have n14 : (s.toList == [102, 105, 110, 97, 108]) = false := hall _ (by decide)
  have n15 : (s.toList == [115, 111, 100]) = false := hall _ (by decide)
  have n16 : (s.toList == [97, 110, 100]) = false := hall _ (by decide)
  have n17 : (s.toList == [111, 114]) = false := hall _ (by decide)
  have n18 : (s.toList == [110, 111, 116]) = false := hall _ (by decide)
  have n19 : (s.toList == [105, 109, 112, 108, 105, 101, 115]) = false := hall _ (by decide)
  have n20 : (s.toList == [111, 112, 101, 110]) = false := hall _ (by decide)
  have n21 : (s.toList == [100, 111, 110, 101]) = false := hall _ (by decide)
  have n22 : (s.toList == [99, 97, 110]) = false := hall _ (by decide)
  have n23 : (s.toList == [100, 105, 100]) = false := hall _ (by decide)
  have n24 : (s.toList == [99, 111, 109, 112, 108, 101, 116, 101]) = false := hall _ (by decide)
  have n25 : (s.toList == [115, 116, 117, 99, 107]) = false := hall _ (by decide)
  have n26 : (s.toList == [116, 114, 117, 101]) = false := hall _ (by decide)
  have n27 : (s.toList == [102, 97, 108, 115, 101]) = false := hall _ (by decide)
  have n28 : (s.toList == [105, 100, 108, 101]) = false := hall _ (by decide)
  have n29 : (s.toList == [108, 111, 111, 112]) = false := hall _ (by decide)
  have n30 : (s.toList == [65, 88]) = false := hall _ (by decide)
  have n31 : (s.toList == [69, 88]) = false := hall _ (by decide)
  have n32 : (s.toList == [65, 70]) = false := hall _ (by decide)
  have n33 : (s.toList == [69, 70]) = false := hall _ (by decide)
  have n34 : (s.toList == [65, 71]) = false := hall _ (by decide)
  have n35 : (s.toList == [69, 71]) = false := hall _ (by decide)
  have n36 : (s.toList == [65]) = false := hall _ (by decide)
  have n37 : (s.toList == [69]) = false := hall _ (by decide)
  have n38 : (s.toList == [85]) = false := hall _ (by decide)
  clear hall h
  go_enter Tryd.func28, Tryd.ntmps28
  go_wp2
  go_ret
  exact ⟨rfl, rfl⟩
set_option maxHeartbeats 1000000 in
theorem known_0 (w : World) : Calls Tryd.prog 28 #[.string ⟨#[97, 116, 116, 114]⟩] w fun e w' => e = .returned (.bool true) ∧ w = w' := by
  go_enter Tryd.func28, Tryd.ntmps28
  go_wp2
  go_ret
  exact ⟨rfl, rfl⟩
set_option maxHeartbeats 1000000 in
theorem known_1 (w : World) : Calls Tryd.prog 28 #[.string ⟨#[117, 115, 101, 114]⟩] w fun e w' => e = .returned (.bool true) ∧ w = w' := by
  go_enter Tryd.func28, Tryd.ntmps28
  go_wp2
  go_ret
  exact ⟨rfl, rfl⟩
set_option maxHeartbeats 1000000 in
theorem known_2 (w : World) : Calls Tryd.prog 28 #[.string ⟨#[114, 111, 108, 101]⟩] w fun e w' => e = .returned (.bool true) ∧ w = w' := by
  go_enter Tryd.func28, Tryd.ntmps28
  go_wp2
  go_ret
  exact ⟨rfl, rfl⟩
set_option maxHeartbeats 1000000 in
theorem known_3 (w : World) : Calls Tryd.prog 28 #[.string ⟨#[115, 116, 97, 103, 101]⟩] w fun e w' => e = .returned (.bool true) ∧ w = w' := by
  go_enter Tryd.func28, Tryd.ntmps28
  go_wp2
  go_ret
  exact ⟨rfl, rfl⟩
set_option maxHeartbeats 1000000 in
theorem known_4 (w : World) : Calls Tryd.prog 28 #[.string ⟨#[105, 110]⟩] w fun e w' => e = .returned (.bool true) ∧ w = w' := by
  go_enter Tryd.func28, Tryd.ntmps28
  go_wp2
  go_ret
  exact ⟨rfl, rfl⟩
set_option maxHeartbeats 1000000 in
theorem known_5 (w : World) : Calls Tryd.prog 28 #[.string ⟨#[101, 118, 101, 110, 116]⟩] w fun e w' => e = .returned (.bool true) ∧ w = w' := by
  go_enter Tryd.func28, Tryd.ntmps28
  go_wp2
  go_ret
  exact ⟨rfl, rfl⟩
set_option maxHeartbeats 1000000 in
theorem known_6 (w : World) : Calls Tryd.prog 28 #[.string ⟨#[98, 121]⟩] w fun e w' => e = .returned (.bool true) ∧ w = w' := by
  go_enter Tryd.func28, Tryd.ntmps28
  go_wp2
  go_ret
  exact ⟨rfl, rfl⟩
set_option maxHeartbeats 1000000 in
theorem known_7 (w : World) : Calls Tryd.prog 28 #[.string ⟨#[115, 101, 116, 115]⟩] w fun e w' => e = .returned (.bool true) ∧ w = w' := by
  go_enter Tryd.func28, Tryd.ntmps28
  go_wp2
  go_ret
  exact ⟨rfl, rfl⟩
set_option maxHeartbeats 1000000 in
theorem known_8 (w : World) : Calls Tryd.prog 28 #[.string ⟨#[109, 97, 120]⟩] w fun e w' => e = .returned (.bool true) ∧ w = w' := by
  go_enter Tryd.func28, Tryd.ntmps28
  go_wp2
  go_ret
  exact ⟨rfl, rfl⟩
set_option maxHeartbeats 1000000 in
theorem known_9 (w : World) : Calls Tryd.prog 28 #[.string ⟨#[111, 110]⟩] w fun e w' => e = .returned (.bool true) ∧ w = w' := by
  go_enter Tryd.func28, Tryd.ntmps28
  go_wp2
  go_ret
  exact ⟨rfl, rfl⟩
set_option maxHeartbeats 1000000 in
theorem known_10 (w : World) : Calls Tryd.prog 28 #[.string ⟨#[105, 102]⟩] w fun e w' => e = .returned (.bool true) ∧ w = w' := by
  go_enter Tryd.func28, Tryd.ntmps28
  go_wp2
  go_ret
  exact ⟨rfl, rfl⟩
set_option maxHeartbeats 1000000 in
theorem known_11 (w : World) : Calls Tryd.prog 28 #[.string ⟨#[103, 117, 97, 114, 100]⟩] w fun e w' => e = .returned (.bool true) ∧ w = w' := by
  go_enter Tryd.func28, Tryd.ntmps28
  go_wp2
  go_ret
  exact ⟨rfl, rfl⟩
set_option maxHeartbeats 1000000 in
theorem known_12 (w : World) : Calls Tryd.prog 28 #[.string ⟨#[109, 105, 108, 101, 115, 116, 111, 110, 101]⟩] w fun e w' => e = .returned (.bool true) ∧ w = w' := by
  go_enter Tryd.func28, Tryd.ntmps28
  go_wp2
  go_ret
  exact ⟨rfl, rfl⟩
set_option maxHeartbeats 1000000 in
theorem known_13 (w : World) : Calls Tryd.prog 28 #[.string ⟨#[111, 102]⟩] w fun e w' => e = .returned (.bool true) ∧ w = w' := by
  go_enter Tryd.func28, Tryd.ntmps28
  go_wp2
  go_ret
  exact ⟨rfl, rfl⟩
set_option maxHeartbeats 1000000 in
theorem known_14 (w : World) : Calls Tryd.prog 28 #[.string ⟨#[102, 105, 110, 97, 108]⟩] w fun e w' => e = .returned (.bool true) ∧ w = w' := by
  go_enter Tryd.func28, Tryd.ntmps28
  go_wp2
  go_ret
  exact ⟨rfl, rfl⟩
set_option maxHeartbeats 1000000 in
theorem known_15 (w : World) : Calls Tryd.prog 28 #[.string ⟨#[115, 111, 100]⟩] w fun e w' => e = .returned (.bool true) ∧ w = w' := by
  go_enter Tryd.func28, Tryd.ntmps28
  go_wp2
  go_ret
  exact ⟨rfl, rfl⟩
set_option maxHeartbeats 1000000 in
theorem known_16 (w : World) : Calls Tryd.prog 28 #[.string ⟨#[97, 110, 100]⟩] w fun e w' => e = .returned (.bool true) ∧ w = w' := by
  go_enter Tryd.func28, Tryd.ntmps28
  go_wp2
  go_ret
  exact ⟨rfl, rfl⟩
set_option maxHeartbeats 1000000 in
theorem known_17 (w : World) : Calls Tryd.prog 28 #[.string ⟨#[111, 114]⟩] w fun e w' => e = .returned (.bool true) ∧ w = w' := by
  go_enter Tryd.func28, Tryd.ntmps28
  go_wp2
  go_ret
  exact ⟨rfl, rfl⟩
set_option maxHeartbeats 1000000 in
theorem known_18 (w : World) : Calls Tryd.prog 28 #[.string ⟨#[110, 111, 116]⟩] w fun e w' => e = .returned (.bool true) ∧ w = w' := by
  go_enter Tryd.func28, Tryd.ntmps28
  go_wp2
  go_ret
  exact ⟨rfl, rfl⟩
set_option maxHeartbeats 1000000 in
theorem known_19 (w : World) : Calls Tryd.prog 28 #[.string ⟨#[105, 109, 112, 108, 105, 101, 115]⟩] w fun e w' => e = .returned (.bool true) ∧ w = w' := by
  go_enter Tryd.func28, Tryd.ntmps28
  go_wp2
  go_ret
  exact ⟨rfl, rfl⟩
set_option maxHeartbeats 1000000 in
theorem known_20 (w : World) : Calls Tryd.prog 28 #[.string ⟨#[111, 112, 101, 110]⟩] w fun e w' => e = .returned (.bool true) ∧ w = w' := by
  go_enter Tryd.func28, Tryd.ntmps28
  go_wp2
  go_ret
  exact ⟨rfl, rfl⟩
set_option maxHeartbeats 1000000 in
theorem known_21 (w : World) : Calls Tryd.prog 28 #[.string ⟨#[100, 111, 110, 101]⟩] w fun e w' => e = .returned (.bool true) ∧ w = w' := by
  go_enter Tryd.func28, Tryd.ntmps28
  go_wp2
  go_ret
  exact ⟨rfl, rfl⟩
set_option maxHeartbeats 1000000 in
theorem known_22 (w : World) : Calls Tryd.prog 28 #[.string ⟨#[99, 97, 110]⟩] w fun e w' => e = .returned (.bool true) ∧ w = w' := by
  go_enter Tryd.func28, Tryd.ntmps28
  go_wp2
  go_ret
  exact ⟨rfl, rfl⟩
set_option maxHeartbeats 1000000 in
theorem known_23 (w : World) : Calls Tryd.prog 28 #[.string ⟨#[100, 105, 100]⟩] w fun e w' => e = .returned (.bool true) ∧ w = w' := by
  go_enter Tryd.func28, Tryd.ntmps28
  go_wp2
  go_ret
  exact ⟨rfl, rfl⟩
set_option maxHeartbeats 1000000 in
theorem known_24 (w : World) : Calls Tryd.prog 28 #[.string ⟨#[99, 111, 109, 112, 108, 101, 116, 101]⟩] w fun e w' => e = .returned (.bool true) ∧ w = w' := by
  go_enter Tryd.func28, Tryd.ntmps28
  go_wp2
  go_ret
  exact ⟨rfl, rfl⟩
set_option maxHeartbeats 1000000 in
theorem known_25 (w : World) : Calls Tryd.prog 28 #[.string ⟨#[115, 116, 117, 99, 107]⟩] w fun e w' => e = .returned (.bool true) ∧ w = w' := by
  go_enter Tryd.func28, Tryd.ntmps28
  go_wp2
  go_ret
  exact ⟨rfl, rfl⟩
set_option maxHeartbeats 1000000 in
theorem known_26 (w : World) : Calls Tryd.prog 28 #[.string ⟨#[116, 114, 117, 101]⟩] w fun e w' => e = .returned (.bool true) ∧ w = w' := by
  go_enter Tryd.func28, Tryd.ntmps28
  go_wp2
  go_ret
  exact ⟨rfl, rfl⟩
set_option maxHeartbeats 1000000 in
theorem known_27 (w : World) : Calls Tryd.prog 28 #[.string ⟨#[102, 97, 108, 115, 101]⟩] w fun e w' => e = .returned (.bool true) ∧ w = w' := by
  go_enter Tryd.func28, Tryd.ntmps28
  go_wp2
  go_ret
  exact ⟨rfl, rfl⟩
set_option maxHeartbeats 1000000 in
theorem known_28 (w : World) : Calls Tryd.prog 28 #[.string ⟨#[105, 100, 108, 101]⟩] w fun e w' => e = .returned (.bool true) ∧ w = w' := by
  go_enter Tryd.func28, Tryd.ntmps28
  go_wp2
  go_ret
  exact ⟨rfl, rfl⟩
set_option maxHeartbeats 1000000 in
theorem known_29 (w : World) : Calls Tryd.prog 28 #[.string ⟨#[108, 111, 111, 112]⟩] w fun e w' => e = .returned (.bool true) ∧ w = w' := by
  go_enter Tryd.func28, Tryd.ntmps28
  go_wp2
  go_ret
  exact ⟨rfl, rfl⟩
set_option maxHeartbeats 1000000 in
theorem known_30 (w : World) : Calls Tryd.prog 28 #[.string ⟨#[65, 88]⟩] w fun e w' => e = .returned (.bool true) ∧ w = w' := by
  go_enter Tryd.func28, Tryd.ntmps28
  go_wp2
  go_ret
  exact ⟨rfl, rfl⟩
set_option maxHeartbeats 1000000 in
theorem known_31 (w : World) : Calls Tryd.prog 28 #[.string ⟨#[69, 88]⟩] w fun e w' => e = .returned (.bool true) ∧ w = w' := by
  go_enter Tryd.func28, Tryd.ntmps28
  go_wp2
  go_ret
  exact ⟨rfl, rfl⟩
set_option maxHeartbeats 1000000 in
theorem known_32 (w : World) : Calls Tryd.prog 28 #[.string ⟨#[65, 70]⟩] w fun e w' => e = .returned (.bool true) ∧ w = w' := by
  go_enter Tryd.func28, Tryd.ntmps28
  go_wp2
  go_ret
  exact ⟨rfl, rfl⟩
set_option maxHeartbeats 1000000 in
theorem known_33 (w : World) : Calls Tryd.prog 28 #[.string ⟨#[69, 70]⟩] w fun e w' => e = .returned (.bool true) ∧ w = w' := by
  go_enter Tryd.func28, Tryd.ntmps28
  go_wp2
  go_ret
  exact ⟨rfl, rfl⟩
set_option maxHeartbeats 1000000 in
theorem known_34 (w : World) : Calls Tryd.prog 28 #[.string ⟨#[65, 71]⟩] w fun e w' => e = .returned (.bool true) ∧ w = w' := by
  go_enter Tryd.func28, Tryd.ntmps28
  go_wp2
  go_ret
  exact ⟨rfl, rfl⟩
set_option maxHeartbeats 1000000 in
theorem known_35 (w : World) : Calls Tryd.prog 28 #[.string ⟨#[69, 71]⟩] w fun e w' => e = .returned (.bool true) ∧ w = w' := by
  go_enter Tryd.func28, Tryd.ntmps28
  go_wp2
  go_ret
  exact ⟨rfl, rfl⟩
set_option maxHeartbeats 1000000 in
theorem known_36 (w : World) : Calls Tryd.prog 28 #[.string ⟨#[65]⟩] w fun e w' => e = .returned (.bool true) ∧ w = w' := by
  go_enter Tryd.func28, Tryd.ntmps28
  go_wp2
  go_ret
  exact ⟨rfl, rfl⟩
set_option maxHeartbeats 1000000 in
theorem known_37 (w : World) : Calls Tryd.prog 28 #[.string ⟨#[69]⟩] w fun e w' => e = .returned (.bool true) ∧ w = w' := by
  go_enter Tryd.func28, Tryd.ntmps28
  go_wp2
  go_ret
  exact ⟨rfl, rfl⟩
set_option maxHeartbeats 1000000 in
theorem known_38 (w : World) : Calls Tryd.prog 28 #[.string ⟨#[85]⟩] w fun e w' => e = .returned (.bool true) ∧ w = w' := by
  go_enter Tryd.func28, Tryd.ntmps28
  go_wp2
  go_ret
  exact ⟨rfl, rfl⟩
theorem bytes_of (s : ByteArray) {L : List UInt8} (h : s.data.toList = L) : s = ⟨L.toArray⟩ := ByteArray.ext (by rw [← h])
theorem known_any (s : ByteArray) (w : World) : Calls Tryd.prog 28 #[.string s] w fun e w' => e = .returned (.bool (Tk.known s.data.toList)) ∧ w = w' := by
  cases h : Tk.known s.data.toList with
  | false => exact known_no s w h
  | true =>
    have hm : s.data.toList ∈ Tk.words := by simpa [Tk.known] using h
    unfold Tk.words at hm
    simp only [List.mem_cons, List.not_mem_nil, or_false] at hm
    rcases hm with e | e | e | e | e | e | e | e | e | e | e | e | e | e | e | e | e | e | e | e | e | e | e | e | e | e | e | e | e | e | e | e | e | e | e | e | e | e | e
    · rw [bytes_of s e]; exact known_0 w
    · rw [bytes_of s e]; exact known_1 w
    · rw [bytes_of s e]; exact known_2 w
    · rw [bytes_of s e]; exact known_3 w
    · rw [bytes_of s e]; exact known_4 w
    · rw [bytes_of s e]; exact known_5 w
    · rw [bytes_of s e]; exact known_6 w
    · rw [bytes_of s e]; exact known_7 w
    · rw [bytes_of s e]; exact known_8 w
    · rw [bytes_of s e]; exact known_9 w
    · rw [bytes_of s e]; exact known_10 w
    · rw [bytes_of s e]; exact known_11 w
    · rw [bytes_of s e]; exact known_12 w
    · rw [bytes_of s e]; exact known_13 w
    · rw [bytes_of s e]; exact known_14 w
    · rw [bytes_of s e]; exact known_15 w
    · rw [bytes_of s e]; exact known_16 w
    · rw [bytes_of s e]; exact known_17 w
    · rw [bytes_of s e]; exact known_18 w
    · rw [bytes_of s e]; exact known_19 w
    · rw [bytes_of s e]; exact known_20 w
    · rw [bytes_of s e]; exact known_21 w
    · rw [bytes_of s e]; exact known_22 w
    · rw [bytes_of s e]; exact known_23 w
    · rw [bytes_of s e]; exact known_24 w
    · rw [bytes_of s e]; exact known_25 w
    · rw [bytes_of s e]; exact known_26 w
    · rw [bytes_of s e]; exact known_27 w
    · rw [bytes_of s e]; exact known_28 w
    · rw [bytes_of s e]; exact known_29 w
    · rw [bytes_of s e]; exact known_30 w
    · rw [bytes_of s e]; exact known_31 w
    · rw [bytes_of s e]; exact known_32 w
    · rw [bytes_of s e]; exact known_33 w
    · rw [bytes_of s e]; exact known_34 w
    · rw [bytes_of s e]; exact known_35 w
    · rw [bytes_of s e]; exact known_36 w
    · rw [bytes_of s e]; exact known_37 w
    · rw [bytes_of s e]; exact known_38 w
end Go.Proofs.YtbplkphjjfgkmaaDoor
