/-
  What lies in what, in plain words.
-/
import Derived.Test.YtgjbchkplpdeiaaSame
import Derived.Test.YtgjbchkplpdeiaaGrid
namespace Go.Proofs.Ytgjbchkplpdeiaa
open Go.RowKit
set_option linter.unusedVariables false
set_option linter.unusedSimpArgs false

namespace Ns
def isP (n : Nat) (i : Int) : Bool := decide (0 ≤ i) && decide (i < (n : Int))
theorem isP_iff (n : Nat) (i : Int) : isP n i = true ↔ 0 ≤ i ∧ i < (n : Int) := by unfold isP; simp
def nx (l : List Int) (i : Int) : Int := l.getD i.toNat 0
def up (l : List Int) : Nat → Int → Int
  | 0, i => if isP l.length i then i else -1
  | k + 1, i => if isP l.length i then up l k (nx l i) else -1
theorem up_no (l : List Int) (k : Nat) (i : Int) (h : isP l.length i = false) : up l k i = -1 := by
  cases k <;> simp [up, h]
def chain (l : List Int) : Nat → List Int → Int → List Int
  | 0, _, _ => []
  | f + 1, seen, at_ => if isP l.length at_ = true ∧ at_ ∉ seen then at_ :: chain l f (at_ :: seen) (nx l at_) else []
def aboveL (l : List Int) (i : Int) : List Int := if isP l.length i then chain l l.length [i] (nx l i) else []
theorem chain_stop (l : List Int) (f : Nat) (seen : List Int) (x : Int) (h : ¬ (isP l.length x = true ∧ x ∉ seen)) : chain l f seen x = [] := by
  cases f with
  | zero => rfl
  | succ f => simp only [chain, if_neg h]
theorem chain_go (l : List Int) (f : Nat) (seen : List Int) (x : Int) (h : isP l.length x = true ∧ x ∉ seen) : chain l (f + 1) seen x = x :: chain l f (x :: seen) (nx l x) := by
  simp only [chain, if_pos h]
def is (l : List Int) (above i : Int) : Bool := decide (0 ≤ above) && (List.range l.length).any (fun k => up l (k + 1) i == above)
theorem chain_len (l : List Int) : ∀ (f : Nat) (seen : List Int) (x : Int), (chain l f seen x).length ≤ f
  | 0, _, _ => by simp [chain]
  | f + 1, seen, x => by
    by_cases h : isP l.length x = true ∧ x ∉ seen
    · rw [chain_go l f seen x h]; have := chain_len l f (x :: seen) (nx l x); simp; omega
    · rw [chain_stop l _ seen x h]; simp
theorem above_len (l : List Int) (i : Int) : (aboveL l i).length ≤ l.length := by
  unfold aboveL; split
  · exact chain_len _ _ _ _
  · simp
def wf (l : List Int) : Prop := ∀ x ∈ l, -9223372036854775808 ≤ x ∧ x ≤ 9223372036854775807
theorem nx_wf {l : List Int} (h : wf l) (i : Int) : -9223372036854775808 ≤ nx l i ∧ nx l i ≤ 9223372036854775807 := by
  unfold nx
  by_cases hi : i.toNat < l.length
  · rw [List.getD_eq_getElem?_getD, List.getElem?_eq_getElem hi]; exact h _ (List.getElem_mem hi)
  · rw [List.getD_eq_getElem?_getD, List.getElem?_eq_none (by omega)]; simp
theorem nx_at (l : List Int) (i : Int) (h0 : 0 ≤ i) (h : i.toNat < l.length) : l[i.toNat]'h = nx l i := by
  unfold nx; rw [List.getD_eq_getElem?_getD, List.getElem?_eq_getElem h]; rfl
theorem up_bounds {l : List Int} (hl : l.length ≤ 1000000) : ∀ (k : Nat) (i : Int), -1 ≤ up l k i ∧ up l k i < 1000000
  | 0, i => by
    simp only [up]
    by_cases h : isP l.length i = true
    · rw [if_pos h]; have := (isP_iff _ _).1 h; omega
    · rw [if_neg h]; omega
  | k + 1, i => by
    simp only [up]
    split
    · exact up_bounds hl k _
    · omega
end Ns
theorem int_cell {w : World} {b off : Nat} {xs : List Int} (hc : ∀ j, j < (xs.map (Value.int .i64)).length → w.cell? ⟨b, off + j, none⟩ = (xs.map (Value.int .i64))[j]?) (i : Int) (h0 : 0 ≤ i) (h : i < (xs.length : Int)) :
    w.cell? ⟨b, off + i.toNat, none⟩ = some (.int .i64 (Ns.nx xs i)) := by
  have hk : i.toNat < xs.length := by omega
  rw [Reads.int hc i.toNat hk, Ns.nx_at xs i h0 hk]
set_option maxHeartbeats 400000 in
theorem isPlace_any (a : Option Addr) (n c : Nat) (i : Int) (w : World) (hn : n ≤ 1000000) :
    Calls Try.prog 65 #[.slice a n c, .int .i64 i] w fun e w' => e = .returned (.bool (Ns.isP n i)) ∧ w = w' := by
  have hu : ∀ b : Bool, ¬ (some undef = some (Value.bool b)) := fun b h => by cases h
  unfold Ns.isP
  by_cases h0 : 0 ≤ i
  · by_cases h1 : i < (n : Int)
    · rw [decide_eq_true h0, decide_eq_true h1]
      go_enter Try.func65, Try.ntmps65
      go_wp2
      go_ret
      exact ⟨rfl, rfl⟩
    · rw [decide_eq_true h0, decide_eq_false h1]
      go_enter Try.func65, Try.ntmps65
      go_wp2
      go_ret
      exact ⟨rfl, rfl⟩
  · rw [decide_eq_false h0]
    go_enter Try.func65, Try.ntmps65
    go_wp2
    go_ret
    exact ⟨rfl, rfl⟩
set_option maxHeartbeats 800000 in
theorem up_any (a : Option Addr) (c : Nat) (l : List Int) (i : Int) (k : Nat) (w : World) (hl : Reads w a (l.map (Value.int .i64))) (hn : l.length ≤ 1000000) (hk : k ≤ 1000000) :
    Calls Try.prog 66 #[.slice a l.length c, .int .i64 i, .int .i64 k] w fun e w' => e = .returned (.int .i64 (Ns.up l k i)) ∧ w = w' := by
  have hu : ∀ b : Bool, ¬ (some undef = some (Value.bool b)) := fun b h => by cases h
  go_enter Try.func66, Try.ntmps66
  go_wp2
  go_loopw [1, 7] (fun v1 v7 wr => ∃ (j : Nat) (x : Int), j ≤ k ∧ v7 = .int .i64 j ∧ v1 = .int .i64 x ∧ Ns.up l (k - j) x = Ns.up l k i ∧ w = wr) (fun _ v7 _ => k - (intOf v7).toNat)
  case atStart => exact ⟨0, i, by omega, rfl, rfl, by simp, rfl⟩
  case round =>
    obtain ⟨j, x, hj, rfl, rfl, hup, rfl⟩ := hrel
    have HUP := Lib.hid hup
    clear hup
    by_cases hp : Ns.isP l.length x = true
    · have hp2 := (Ns.isP_iff _ _).1 hp
      obtain ⟨h0, h1⟩ := hp2
      have HP := Lib.hid hp
      clear hp
      by_cases hlt : j < k
      · obtain ⟨b, off, rfl, hc⟩ := hl.at (by simp; omega)
        have hx := int_cell hc x h0 h1
        have hstep : Ns.up l (k - j) x = Ns.up l (k - (j + 1)) (Ns.nx l x) := by
          rw [show k - j = (k - (j + 1)) + 1 by omega, Ns.up, if_pos HP.out]
        have HST := Lib.hid hstep
        have HC := Lib.hid hc
        clear hstep hc
        generalize Ns.nx l x = y at *
        go_wp2
        go_roundw
        case rel => exact ⟨j + 1, y, by omega, by go_num, rfl, by rw [← HST.out]; exact HUP.out, trivial⟩
        case measure => simp [intOf]; omega
      · have hjk : j = k := by omega
        subst hjk
        have hz : Ns.up l 0 x = x := by simp only [Ns.up, if_pos HP.out]
        have HZ := Lib.hid hz
        clear hz
        go_wp2
        go_ret
        exact ⟨by rw [← HUP.out, Nat.sub_self, HZ.out]; rfl, rfl⟩
    · have hpf : Ns.isP l.length x = false := by simpa using hp
      have hz := Ns.up_no l (k - j) x hpf
      have HZ := Lib.hid hz
      clear hz hp
      by_cases h0 : x < 0
      · clear hpf
        by_cases hlt : j < k
        · go_wp2
          go_ret
          exact ⟨by rw [← HUP.out, HZ.out]; rfl, rfl⟩
        · go_wp2
          go_ret
          exact ⟨by rw [← HUP.out, HZ.out]; rfl, rfl⟩
      · have h1 : (l.length : Int) ≤ x := by
          rcases Int.lt_or_le x l.length with h2 | h2
          · rw [(Ns.isP_iff _ _).2 ⟨by omega, h2⟩] at hpf; cases hpf
          · exact h2
        clear hpf
        by_cases hlt : j < k
        · go_wp2
          go_ret
          exact ⟨by rw [← HUP.out, HZ.out]; rfl, rfl⟩
        · go_wp2
          go_ret
          exact ⟨by rw [← HUP.out, HZ.out]; rfl, rfl⟩
end Go.Proofs.Ytgjbchkplpdeiaa
