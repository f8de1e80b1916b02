/-
  Both lists of runes are the same; the laws' walks.
-/
import Derived.Test.YtbplkphjjfgkmaaDoorTxAll
namespace Go.Proofs.YtbplkphjjfgkmaaDoor
open Go.RowKit
set_option linter.unusedVariables false

/-- Where the five cells of rune j stand. -/
theorem flat_at (f : Nat → List Value) (k j i : Nat) (hf : ∀ m, (f m).length = 5) (hj : j < k) (hi : i < 5) : ((List.range k).flatMap f)[j * 5 + i]? = (f j)[i]? := by
  induction k with
  | zero => omega
  | succ k ih =>
    have hlen : ∀ n, ((List.range n).flatMap f).length = n * 5 := by
      intro n
      induction n with
      | zero => simp
      | succ n ihn => rw [List.range_succ, List.flatMap_append, List.length_append, ihn]; simp [hf]; omega
    rw [List.range_succ, List.flatMap_append]
    by_cases h : j = k
    · subst h
      rw [List.getElem?_append_right (by rw [hlen]; omega), hlen]
      simp [show j * 5 + i - j * 5 = i by omega]
    · rw [List.getElem?_append_left (by rw [hlen]; omega)]
      exact ih (by omega)
theorem all_at (s : ByteArray) (k j i : Nat) (hj : j < k) (hi : i < 5) : (Rn.all s k)[j * 5 + i]? = (Rn.cells s j)[i]? := flat_at (Rn.cells s) k j i (fun _ => rfl) hj hi
theorem rall_at (s : ByteArray) (k j i : Nat) (hj : j < k) (hi : i < 5) : (Rn.rall s k)[j * 5 + i]? = (Rn.rcells s j)[i]? := flat_at (Rn.rcells s) k j i (fun _ => rfl) hj hi
/-- The reference's Runes: the list, or that there are too many. -/
def RRunesAns (s : ByteArray) (w : World) (e : Ending) (w' : World) : Prop :=
  (∃ k x, Ends s k ∧ k ≤ 16384 ∧ e = .returned (.tuple #[x, .int .i64 0]) ∧ w'.ownsRow w.heap.size 105 5 x k (Rn.rall s k) ∧ Below w.heap.size w w') ∨
  (∃ k, Ends s k ∧ 16384 < k ∧ e = .returned (.tuple #[.slice none 0 0, .int .i64 3]) ∧ Below w.heap.size w w')
set_option maxHeartbeats 800000 in
theorem rrunes_any (s : ByteArray) (w : World) (hs : s.size ≤ 1000000) : Calls Tryd.prog 69 #[.string s] w (RRunesAns s w) := by
  have HALL := Lib.hid (all_any s w hs)
  go_enter Tryd.func69, Tryd.ntmps69
  go_wp2_with fail
  refine (HALL.out).mono ?_
  rintro e w1 ⟨k, x, hk, rfl, hown, hb⟩
  obtain ⟨xa, xc, hx⟩ := own_len hown
  subst hx
  have HK := Lib.hid hk
  have HO := Lib.hid hown
  clear hk hown
  by_cases h : 16384 < k
  · have h1 : (16384 : Int) < (k : Int) := by omega
    go_wp2_with fail
    go_ret2
    exact Or.inr ⟨k, HK.out, h, rfl, hb⟩
  · have h1 : ¬ (16384 : Int) < (k : Int) := by omega
    go_wp2_with fail
    go_ret2
    exact Or.inl ⟨k, _, HK.out, by omega, rfl, HO.out, hb⟩
end Go.Proofs.YtbplkphjjfgkmaaDoor
