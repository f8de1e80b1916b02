/-
  warderref01.All, Runes: the reference's runes of a text; and that both lists are the same.
-/
import Derived.Test.YtbplkphjjfgkmaaDoorTextRunes
namespace Go.Proofs.YtbplkphjjfgkmaaDoor
open Go.RowKit
set_option linter.unusedVariables false

namespace Rn
def rcells (s : ByteArray) (k : Nat) : List Value := [.int .i64 (run s (st s k).p), .int .i64 (st s k).p, .int .i64 ((st s k).p + wid s (st s k).p : Nat), .int .i64 (st s k).l, .int .i64 (st s k).c]
def rall (s : ByteArray) (k : Nat) : List Value := (List.range k).flatMap (rcells s)
theorem rall_succ (s : ByteArray) (k : Nat) : rall s (k + 1) = rall s k ++ rcells s k := by unfold rall; rw [List.range_succ, List.flatMap_append]; simp
theorem run_bounds (s : ByteArray) (i : Nat) : -1 ≤ run s i ∧ run s i ≤ 2147483647 := by
  have := decode_le s i
  unfold run
  rw [first_dec]
  unfold fixB
  split <;> simp only <;> omega
end Rn
theorem ends_unique {s : ByteArray} {k k' : Nat} (h : Ends s k) (h' : Ends s k') : k = k' := by
  rcases Nat.lt_trichotomy k k' with h1 | h1 | h1
  · have := h'.1 k h1; have := h.2; omega
  · exact h1
  · have := h.1 k' h1; have := h'.2; omega
theorem Tryd.infoR : (Tryd.prog.info? 105).map (fun i => (i.zero, i.size, i.bytes)) = some (some (.agg #[.int .i64 0, .int .i64 0, .int .i64 0, .int .i64 0, .int .i64 0]), 5, 40) := by kernel_rfl
def AllAns (s : ByteArray) (w : World) (e : Ending) (w' : World) : Prop :=
  ∃ k x, Ends s k ∧ e = .returned x ∧ w'.ownsRow w.heap.size 105 5 x k (Rn.rall s k) ∧ Below w.heap.size w w'
set_option maxHeartbeats 2000000 in
set_option maxRecDepth 1000000 in
theorem all_any (s : ByteArray) (w : World) (hs : s.size ≤ 1000000) : Calls Tryd.prog 121 #[.string s] w (AllAns s w) := by
  go_enter Tryd.func121, Tryd.ntmps121
  go_wp2
  go_loopw [3, 4, 5, 6] (fun v3 v4 v5 v6 wr => ∃ k : Nat, (∀ j, j < k → (Rn.st s j).p < s.size) ∧ v4 = .int .i64 (Rn.st s k).l ∧ v5 = .int .i64 (Rn.st s k).c ∧ v6 = .int .i64 (Rn.st s k).p ∧ wr.ownsRow w.heap.size 105 5 v3 k (Rn.rall s k) ∧ Below w.heap.size w wr) (fun _ _ _ v6 _ => s.size - (intOf v6).toNat)
  case atStart => exact ⟨0, fun j hj => by omega, rfl, rfl, rfl, (by exact World.ownsRow_nil _ _ _ _), Below.refl _ _⟩
  case round =>
    obtain ⟨k, hpre, rfl, rfl, rfl, hown, hnx⟩ := hrel
    obtain ⟨xa, xc, hx⟩ := own_len hown
    subst hx
    have HPRE := Lib.hid hpre
    clear hpre
    have hb := Rn.st_bounds s k
    by_cases hlt : (Rn.st s k).p < s.size
    · have FIRST := Lib.hid (fun w => first_any s (Rn.st s k).p w hlt (by omega))
      have hwp := Rn.wid_pos s (Rn.st s k).p
      have hrb := Rn.run_bounds s (Rn.st s k).p
      have hfa : ∀ e, FirstAns (firstR s (Rn.st s k).p) e → e = .returned (.tuple #[.int .i64 (Rn.run s (Rn.st s k).p), .int .i64 (Rn.wid s (Rn.st s k).p : Nat)]) := fun e he => he
      have HFA := Lib.hid hfa
      clear hfa
      have hp8 : (Rn.st s (k + 1)).p = (Rn.st s k).p + Rn.wid s (Rn.st s k).p := rfl
      have HP8 := Lib.hid hp8
      clear hp8
      have hsz := hnx.size
      by_cases h10 : Rn.run s (Rn.st s k).p = 10
      · have hl8 : (Rn.st s (k + 1)).l = (Rn.st s k).l + 1 := by simp only [Rn.st, Rn.next, if_pos h10]
        have hc8 : (Rn.st s (k + 1)).c = 1 := by simp only [Rn.st, Rn.next, if_pos h10]
        have HL8 := Lib.hid hl8
        have HC8 := Lib.hid hc8
        have HR8 : Hid (Rn.rall s (k + 1) = Rn.rall s k ++ [.int .i64 10, .int .i64 (Rn.st s k).p, .int .i64 ((Rn.st s k).p + Rn.wid s (Rn.st s k).p : Int), .int .i64 (Rn.st s k).l, .int .i64 (Rn.st s k).c]) := Lib.hid (by rw [Rn.rall_succ]; simp [Rn.rcells, h10])
        rw [h10] at HFA
        clear hl8 hc8 h10 hrb
        go_wp2_with (first | (go_at_call 170; refine (FIRST.out _).mono ?_; rintro e w1 ⟨he, rfl⟩; have he2 := HFA.out e he; subst he2; clear he) | (at_builtin; refine append_at (v := .slice xa k xc) rfl _ _ 101 rfl 105 (.agg #[.int .i64 0, .int .i64 0, .int .i64 0, .int .i64 0, .int .i64 0]) 5 40 Tryd.underlying101 Tryd.infoR rfl (by decide) rfl hown hsz _ rfl (by simp [Value.oneCell']) rfl rfl (by decide) (by omega) ?_; intro g cap w5 own5 keep5 where5; have bel5 := hnx.trans (keep5.below (fun j hj => (hown.lt j hj).1) hsz)))
        go_roundw
        case rel => exact ⟨k + 1, fun j hj => by
            by_cases e : j = k
            · rw [e]; exact hlt
            · exact HPRE.out j (by omega), by rw [HL8.out]; go_num, by rw [HC8.out]; rfl, by rw [HP8.out]; go_num, by rw [HR8.out]; exact own5, bel5⟩
        case measure => simp [intOf]; omega
      · have hl8 : (Rn.st s (k + 1)).l = (Rn.st s k).l := by simp only [Rn.st, Rn.next, if_neg h10]
        have hc8 : (Rn.st s (k + 1)).c = (Rn.st s k).c + 1 := by simp only [Rn.st, Rn.next, if_neg h10]
        have HL8 := Lib.hid hl8
        have HC8 := Lib.hid hc8
        have HR8 : Hid (Rn.rall s (k + 1) = Rn.rall s k ++ [.int .i64 (Rn.run s (Rn.st s k).p), .int .i64 (Rn.st s k).p, .int .i64 ((Rn.st s k).p + Rn.wid s (Rn.st s k).p : Int), .int .i64 (Rn.st s k).l, .int .i64 (Rn.st s k).c]) := Lib.hid (by rw [Rn.rall_succ]; simp [Rn.rcells])
        have hne : (Rn.run s (Rn.st s k).p == 10) = false := by simp [h10]
        clear hl8 hc8 h10
        generalize Rn.run s (Rn.st s k).p = r at *
        go_wp2_with (first | (go_at_call 170; refine (FIRST.out _).mono ?_; rintro e w1 ⟨he, rfl⟩; have he2 := HFA.out e he; subst he2; clear he) | (at_builtin; refine append_at (v := .slice xa k xc) rfl _ _ 101 rfl 105 (.agg #[.int .i64 0, .int .i64 0, .int .i64 0, .int .i64 0, .int .i64 0]) 5 40 Tryd.underlying101 Tryd.infoR rfl (by decide) rfl hown hsz _ rfl (by simp [Value.oneCell']) rfl rfl (by decide) (by omega) ?_; intro g cap w5 own5 keep5 where5; have bel5 := hnx.trans (keep5.below (fun j hj => (hown.lt j hj).1) hsz)))
        go_roundw
        case rel => exact ⟨k + 1, fun j hj => by
            by_cases e : j = k
            · rw [e]; exact hlt
            · exact HPRE.out j (by omega), by rw [HL8.out], by rw [HC8.out]; go_num, by rw [HP8.out]; go_num, by rw [HR8.out]; exact own5, bel5⟩
        case measure => simp [intOf]; omega
    · go_wp2
      go_ret
      exact ⟨k, _, ⟨HPRE.out, by omega⟩, rfl, hown, hnx⟩
end Go.Proofs.YtbplkphjjfgkmaaDoor
