/-
  The document's small tests on runes, its words; token's likewise: by walks.
-/
import Derived.Test.YtbplkphjjfgkmaaDoorTokWords
import Derived.Test.YtbplkphjjfgkmaaDoorTokKnown
namespace Go.Proofs.YtbplkphjjfgkmaaDoor
open Go.RowKit
set_option linter.unusedVariables false
set_option linter.unusedSimpArgs false

theorem tk_ret {a b : Bool} {w : World} (h : a = b) : (Ending.returned (.bool a) = .returned (.bool b) ∧ w = w) := ⟨by rw [h], rfl⟩
set_option maxHeartbeats 400000 in
theorem tsmall_any (r : Int) (w : World) : Calls Tryd.prog 84 #[.int .i32 r] w fun e w' => e = .returned (.bool (Tk.sm r)) ∧ w = w' := by
  by_cases h1 : 97 ≤ r
  · by_cases h2 : r ≤ 122
    · have e0 : Tk.sm r = true := by unfold Tk.sm; rw [decide_eq_true h1, decide_eq_true h2]; rfl
      rw [e0]; clear e0
      go_enter Tryd.func84, Tryd.ntmps84
      go_wp2
      go_ret
      exact ⟨rfl, rfl⟩
    · have e0 : Tk.sm r = false := by unfold Tk.sm; rw [decide_eq_false h2, Bool.and_false]
      rw [e0]; clear e0
      go_enter Tryd.func84, Tryd.ntmps84
      go_wp2
      go_ret
      exact ⟨by simp, rfl⟩
  · have e0 : Tk.sm r = false := by unfold Tk.sm; rw [decide_eq_false h1, Bool.false_and]
    rw [e0]; clear e0
    go_enter Tryd.func84, Tryd.ntmps84
    go_wp2
    go_ret
    exact ⟨by simp, rfl⟩
set_option maxHeartbeats 400000 in
theorem tgreat_any (r : Int) (w : World) : Calls Tryd.prog 169 #[.int .i32 r] w fun e w' => e = .returned (.bool (Tk.gr r)) ∧ w = w' := by
  by_cases h1 : 65 ≤ r
  · by_cases h2 : r ≤ 90
    · have e0 : Tk.gr r = true := by unfold Tk.gr; rw [decide_eq_true h1, decide_eq_true h2]; rfl
      rw [e0]; clear e0
      go_enter Tryd.func169, Tryd.ntmps169
      go_wp2
      go_ret
      exact ⟨rfl, rfl⟩
    · have e0 : Tk.gr r = false := by unfold Tk.gr; rw [decide_eq_false h2, Bool.and_false]
      rw [e0]; clear e0
      go_enter Tryd.func169, Tryd.ntmps169
      go_wp2
      go_ret
      exact ⟨by simp, rfl⟩
  · have e0 : Tk.gr r = false := by unfold Tk.gr; rw [decide_eq_false h1, Bool.false_and]
    rw [e0]; clear e0
    go_enter Tryd.func169, Tryd.ntmps169
    go_wp2
    go_ret
    exact ⟨by simp, rfl⟩
set_option maxHeartbeats 400000 in
theorem tdigit_any (r : Int) (w : World) : Calls Tryd.prog 85 #[.int .i32 r] w fun e w' => e = .returned (.bool (Tk.dg r)) ∧ w = w' := by
  by_cases h1 : 48 ≤ r
  · by_cases h2 : r ≤ 57
    · have e0 : Tk.dg r = true := by unfold Tk.dg; rw [decide_eq_true h1, decide_eq_true h2]; rfl
      rw [e0]; clear e0
      go_enter Tryd.func85, Tryd.ntmps85
      go_wp2
      go_ret
      exact ⟨rfl, rfl⟩
    · have e0 : Tk.dg r = false := by unfold Tk.dg; rw [decide_eq_false h2, Bool.and_false]
      rw [e0]; clear e0
      go_enter Tryd.func85, Tryd.ntmps85
      go_wp2
      go_ret
      exact ⟨by simp, rfl⟩
  · have e0 : Tk.dg r = false := by unfold Tk.dg; rw [decide_eq_false h1, Bool.false_and]
    rw [e0]; clear e0
    go_enter Tryd.func85, Tryd.ntmps85
    go_wp2
    go_ret
    exact ⟨by simp, rfl⟩
set_option maxHeartbeats 400000 in
theorem rsmall_any (r : Int) (w : World) : Calls Tryd.prog 122 #[.int .i64 r] w fun e w' => e = .returned (.bool (Tk.sm r)) ∧ w = w' := by
  by_cases h1 : 97 ≤ r
  · by_cases h2 : r ≤ 122
    · have e0 : Tk.sm r = true := by unfold Tk.sm; rw [decide_eq_true h1, decide_eq_true h2]; rfl
      rw [e0]; clear e0
      go_enter Tryd.func122, Tryd.ntmps122
      go_wp2
      go_ret
      exact ⟨rfl, rfl⟩
    · have e0 : Tk.sm r = false := by unfold Tk.sm; rw [decide_eq_false h2, Bool.and_false]
      rw [e0]; clear e0
      go_enter Tryd.func122, Tryd.ntmps122
      go_wp2
      go_ret
      exact ⟨by simp, rfl⟩
  · have e0 : Tk.sm r = false := by unfold Tk.sm; rw [decide_eq_false h1, Bool.false_and]
    rw [e0]; clear e0
    go_enter Tryd.func122, Tryd.ntmps122
    go_wp2
    go_ret
    exact ⟨by simp, rfl⟩
set_option maxHeartbeats 400000 in
theorem rgreat_any (r : Int) (w : World) : Calls Tryd.prog 123 #[.int .i64 r] w fun e w' => e = .returned (.bool (Tk.gr r)) ∧ w = w' := by
  by_cases h1 : 65 ≤ r
  · by_cases h2 : r ≤ 90
    · have e0 : Tk.gr r = true := by unfold Tk.gr; rw [decide_eq_true h1, decide_eq_true h2]; rfl
      rw [e0]; clear e0
      go_enter Tryd.func123, Tryd.ntmps123
      go_wp2
      go_ret
      exact ⟨rfl, rfl⟩
    · have e0 : Tk.gr r = false := by unfold Tk.gr; rw [decide_eq_false h2, Bool.and_false]
      rw [e0]; clear e0
      go_enter Tryd.func123, Tryd.ntmps123
      go_wp2
      go_ret
      exact ⟨by simp, rfl⟩
  · have e0 : Tk.gr r = false := by unfold Tk.gr; rw [decide_eq_false h1, Bool.false_and]
    rw [e0]; clear e0
    go_enter Tryd.func123, Tryd.ntmps123
    go_wp2
    go_ret
    exact ⟨by simp, rfl⟩
set_option maxHeartbeats 400000 in
theorem rdigit_any (r : Int) (w : World) : Calls Tryd.prog 125 #[.int .i64 r] w fun e w' => e = .returned (.bool (Tk.dg r)) ∧ w = w' := by
  by_cases h1 : 48 ≤ r
  · by_cases h2 : r ≤ 57
    · have e0 : Tk.dg r = true := by unfold Tk.dg; rw [decide_eq_true h1, decide_eq_true h2]; rfl
      rw [e0]; clear e0
      go_enter Tryd.func125, Tryd.ntmps125
      go_wp2
      go_ret
      exact ⟨rfl, rfl⟩
    · have e0 : Tk.dg r = false := by unfold Tk.dg; rw [decide_eq_false h2, Bool.and_false]
      rw [e0]; clear e0
      go_enter Tryd.func125, Tryd.ntmps125
      go_wp2
      go_ret
      exact ⟨by simp, rfl⟩
  · have e0 : Tk.dg r = false := by unfold Tk.dg; rw [decide_eq_false h1, Bool.false_and]
    rw [e0]; clear e0
    go_enter Tryd.func125, Tryd.ntmps125
    go_wp2
    go_ret
    exact ⟨by simp, rfl⟩
set_option maxHeartbeats 1000000 in
theorem tblank_any (r : Int) (w : World) : Calls Tryd.prog 168 #[.int .i32 r] w fun e w' => e = .returned (.bool (Tk.bl r)) ∧ w = w' := by
  unfold Tk.bl
  cases h1 : (r == 32) <;> cases h2 : (r == 9) <;> cases h3 : (r == 10) <;> cases h4 : (r == 13)
  all_goals
    go_enter Tryd.func168, Tryd.ntmps168
    go_wp2
    go_ret
    exact ⟨rfl, rfl⟩
set_option maxHeartbeats 1000000 in
theorem tletter_any (r : Int) (w : World) : Calls Tryd.prog 114 #[.int .i32 r] w fun e w' => e = .returned (.bool (Tk.sm r || Tk.gr r)) ∧ w = w' := by
  have hs := fun w => tsmall_any r w
  have hg := fun w => tgreat_any r w
  cases h1 : Tk.sm r <;> rw [h1] at hs
  · cases h2 : Tk.gr r <;> rw [h2] at hg
    all_goals
      clear h1 h2
      go_enter Tryd.func114, Tryd.ntmps114
      go_wp2_with (first | (go_at_call 84; refine (hs _).mono ?_; rintro e w' ⟨rfl, rfl⟩) | (go_at_call 169; refine (hg _).mono ?_; rintro e w' ⟨rfl, rfl⟩))
      go_ret
      exact ⟨rfl, rfl⟩
  · clear h1
    go_enter Tryd.func114, Tryd.ntmps114
    go_wp2_with (first | (go_at_call 84; refine (hs _).mono ?_; rintro e w' ⟨rfl, rfl⟩) | (go_at_call 169; refine (hg _).mono ?_; rintro e w' ⟨rfl, rfl⟩))
    go_ret
    exact ⟨rfl, rfl⟩
/-- The words, as cells. -/
def wordsV : List ByteArray := Tk.words.map fun L => ⟨L.toArray⟩
set_option maxHeartbeats 1000000 in
theorem rwords_any (w : World) : Calls Tryd.prog 72 #[] w fun e w' => e = .returned (.slice (some ⟨w.heap.size, 0, none⟩) 39 39) ∧ w' = w.alloc (.cells (wordsV.map Value.string).toArray 9) := by
  go_enter Tryd.func72, Tryd.ntmps72
  go_wp2
  go_ret
  exact ⟨rfl, rfl⟩
theorem wordsV_len : wordsV.length = 39 := rfl
set_option maxHeartbeats 1000000 in
theorem rknown_any (s : ByteArray) (w : World) : Calls Tryd.prog 29 #[.string s] w fun e w' => e = .returned (.bool (Tk.known s.data.toList)) ∧ Below w.heap.size w w' := by
  have hw : ∀ k, (h : k < 39) → (w.alloc (.cells (wordsV.map Value.string).toArray 9)).cell? ⟨w.heap.size, 0 + k, none⟩ = some (.string (wordsV[k]'h)) := by
    intro k h
    rw [World.cell?_alloc_at _ _ _ _ rfl]
    simp [wordsV_len, h]
    rfl
  have hkn : Hid (∀ k, (h : k < 39) → (wordsV[k]'h).toList = s.toList → Tk.known s.data.toList = true) := Lib.hid fun k h e => by
    unfold Tk.known
    rw [List.contains_iff_mem, ← toList_data, ← e, toList_data]
    have : wordsV[k]'h = ⟨(Tk.words[k]'h).toArray⟩ := List.getElem_map _
    rw [this]
    exact List.getElem_mem (l := Tk.words) h
  have hno : Hid ((∀ k, (h : k < 39) → ((wordsV[k]'h).toList == s.toList) = false) → Tk.known s.data.toList = false) := Lib.hid fun h => by
    cases e : Tk.known s.data.toList with
    | false => rfl
    | true =>
      exfalso
      unfold Tk.known at e
      rw [List.contains_iff_mem] at e
      obtain ⟨k, hk, hk2⟩ := List.mem_iff_getElem.1 e
      have h1 := h k hk
      have : wordsV[k]'hk = ⟨(Tk.words[k]'hk).toArray⟩ := List.getElem_map _
      rw [this, toList_data, toList_data, ← hk2] at h1
      simp at h1
  have HW := Lib.hid hw
  clear hw
  have HB : Hid (Below w.heap.size w (w.alloc (.cells (wordsV.map Value.string).toArray 9))) := Lib.hid ((Below.refl _ _).alloc (Nat.le_refl _) _)
  go_enter Tryd.func29, Tryd.ntmps29
  go_wp2_with fail
  refine (rwords_any w).mono ?_
  rintro e w1 ⟨rfl, rfl⟩
  generalize w.alloc (.cells (wordsV.map Value.string).toArray 9) = w1 at *
  go_wp2_with fail
  go_loopw [4] (fun v4 wr => ∃ k : Nat, k ≤ 39 ∧ v4 = .int .i64 k ∧ Hid (∀ j, (h : j < 39) → j < k → ((wordsV[j]'h).toList == s.toList) = false) ∧ wr = w1) (fun v4 _ => 39 - (intOf v4).toNat)
  case atStart => exact ⟨0, by omega, rfl, Lib.hid fun j h hj => by omega, rfl⟩
  case round =>
    obtain ⟨k, hk, rfl, HK, rfl⟩ := hrel
    by_cases hlt : k < 39
    · have hc := HW.out k hlt
      rw [Nat.zero_add] at hc
      cases e : ((wordsV[k]'hlt).toList == s.toList) with
      | false =>
        have HE := Lib.hid e
        generalize wordsV[k]'hlt = x at hc e
        go_wp2
        go_roundw
        case rel => exact ⟨k + 1, by omega, by go_num, Lib.hid fun j h hj => by
          by_cases hjk : j = k
          · subst hjk; exact HE.out
          · exact HK.out j h (by omega), trivial⟩
        case measure => simp [intOf]; omega
      | true =>
        have hT := hkn.out k hlt (by simpa using e)
        have HT := Lib.hid hT
        clear hT
        generalize wordsV[k]'hlt = x at hc e
        go_wp2
        go_ret
        exact ⟨ret_bool HT.out.symm, HB.out⟩
    · have hF := hno.out (fun j h => HK.out j h (by omega))
      have HF := Lib.hid hF
      clear hF
      go_wp2
      go_ret
      exact ⟨ret_bool HF.out.symm, HB.out⟩
end Go.Proofs.YtbplkphjjfgkmaaDoor
