/-
  Tables: the texts of numbers; the chapter's examples; what is too much.
-/
import Derived.Test.YtkambjfhhmgniaaTabNew
namespace Go.Proofs.Ytkambjfhhmgniaa
open Go.RowKit SumPlain
set_option linter.unusedVariables false

set_option maxHeartbeats 400000 in
theorem text_nil (n : Int) (w : World) : Calls Try.prog 10 #[.pointer none, .int .i64 n] w fun e w' => e = .returned (.string ByteArray.empty) ∧ w = w' := by
  go_enter Try.func10, Try.ntmps10
  go_wp2
  go_ret
  exact ⟨rfl, rfl⟩
set_option maxHeartbeats 400000 in
theorem text_out (p len cap : Nat) (a : Option Addr) (n : Int) (w : World) (hc : w.cell? ⟨p, 0, none⟩ = some (.slice a len cap)) (h : ¬ (0 ≤ n ∧ n < len)) :
    Calls Try.prog 10 #[.pointer (some ⟨p, 0, none⟩), .int .i64 n] w fun e w' => e = .returned (.string ByteArray.empty) ∧ w = w' := by
  rcases Int.lt_or_le n 0 with h0 | h0
  · clear h
    go_enter Try.func10, Try.ntmps10
    go_wp2
    go_ret
    exact ⟨rfl, rfl⟩
  · have h1 : (len : Int) ≤ n := by omega
    clear h
    go_enter Try.func10, Try.ntmps10
    go_wp2
    go_ret
    exact ⟨rfl, rfl⟩
set_option maxHeartbeats 400000 in
theorem text_in (p g len cap i : Nat) (s : ByteArray) (w : World) (hc : w.cell? ⟨p, 0, none⟩ = some (.slice (some ⟨g, 0, none⟩) len cap)) (hi : i < len) (hs : w.cell? ⟨g, i, none⟩ = some (.string s)) :
    Calls Try.prog 10 #[.pointer (some ⟨p, 0, none⟩), .int .i64 i] w fun e w' => e = .returned (.string s) ∧ w = w' := by
  have h1 : ¬ (len : Int) ≤ (i : Int) := by omega
  have h2 : (i : Int) < (len : Int) := by omega
  go_enter Try.func10, Try.ntmps10
  go_wp2
  go_ret
  exact ⟨rfl, rfl⟩
def aText : ByteArray := ⟨#[97]⟩
theorem fnv_empty : fnv ByteArray.empty.data.toList = 2166136261 := rfl
theorem fnv_a : fnv aText.data.toList = 3826002220 := by
  show SumPlain.step SumPlain.base 97 = _
  rw [SumPlain.base_eq]
  unfold SumPlain.step
  decide +kernel
theorem sum_empty (w : World) : Calls Try.prog 21 #[.string ⟨#[]⟩] w fun e w' => e = .returned (.int .u32 2166136261) ∧ w = w' := by
  have h := sum32_any ByteArray.empty w (by decide)
  rw [fnv_empty] at h
  exact h
theorem sum_a (w : World) : Calls Try.prog 21 #[.string ⟨#[97]⟩] w fun e w' => e = .returned (.int .u32 3826002220) ∧ w = w' := by
  have h := sum32_any aText w (by decide)
  rw [fnv_a] at h
  exact h
set_option maxHeartbeats 1000000 in
theorem awake29_any (w : World) : Calls Try.prog 6 #[] w fun e w' => e = .returned (.bool true) ∧ Below w.heap.size w w' := by
  go_enter Try.func6, Try.ntmps6
  go_wp2_with fail
  refine (new_any 3 w).mono ?_
  rintro e w1 ⟨p, m, vl, rfl, t1, k1⟩
  go_wp2_with fail
  refine (put_new _ p m [] _ _ _ vl aText w1 t1 (by decide) (by decide) (by simp)).mono ?_
  rintro e w2 ⟨ha, vt, vs, va, t2, k2, _⟩
  unfold PutAns at ha
  subst ha
  have b2 : Below w.heap.size w w2 := (k1.below (B := w.heap.size) (fun _ h => h.elim) (Nat.le_refl _)).trans (k2.below (fun k hk => (t1.foot k hk).1) k1.size)
  clear k1 k2 t1
  go_wp2_with fail
  refine (put_old _ p m 0 _ _ _ _ vl aText w2 t2 (by decide) (by decide) rfl).mono ?_
  rintro e w3 ⟨hb, n, rfl⟩
  unfold OldAns at hb
  subst hb
  have t3 : IsTab (w2.drewN n) w.heap.size p m ([] ++ [aText]) vt vs va vl := t2.kept (Keeps.drewN (fun _ => False) w2 n) (fun _ _ hf => hf)
  have b3 : Below w.heap.size w (w2.drewN n) := below_drewN b2 n
  clear t2 b2
  generalize w2.drewN n = w3 at *
  go_wp2_with fail
  refine (sum_empty _).mono ?_
  rintro e w4 ⟨rfl, rfl⟩
  go_wp2_with fail
  refine (sum_a _).mono ?_
  rintro e w4 ⟨rfl, rfl⟩
  go_wp2_with fail
  refine (len_tab t3).mono ?_
  rintro e w4 ⟨rfl, rfl⟩
  go_wp2_with fail
  go_ret
  exact ⟨rfl, b3⟩

def MuchAns (n : Nat) (e : Ending) : Prop := ∃ b, e = .returned (.bool b) ∧ (b = false → n ≤ 200)
set_option maxHeartbeats 400000 in
theorem much_any (a : Option Addr) (c : Nat) (l : List ByteArray) (w : World) (hr : Reads w a (l.map Value.string)) (hl : l.length ≤ 9223372036854775807) (hs : ∀ s ∈ l, s.size ≤ 9223372036854775807) :
    Calls Try.prog 5 #[.slice a l.length c] w fun e w' => MuchAns l.length e ∧ w = w' := by
  by_cases h0 : l.length = 0
  · have e1 : l = [] := List.eq_nil_of_length_eq_zero h0
    subst e1
    go_enter Try.func5, Try.ntmps5
    go_wp2
    refine wp_loop_rounds 1 ?_
    rw [rounds_succ]
    go_wp2
    go_ret
    exact ⟨⟨_, rfl, fun _ => by simp⟩, rfl⟩
  · obtain ⟨b, off, rfl, hc⟩ := hr.at (by simp; omega)
    have HC := Lib.hid (fun k (hk : k < l.length) => show w.cell? ⟨b, off + k, none⟩ = some (.string l[k]) by rw [hc k (by simpa using hk)]; simp [hk])
    have HS := Lib.hid (fun k (hk : k < l.length) => hs l[k] (List.getElem_mem hk))
    clear hc hr hs
    go_enter Try.func5, Try.ntmps5
    go_wp2
    go_loop [3, 4] (fun v3 v4 => ∃ (k : Nat) (n : Int), k ≤ l.length ∧ v4 = .int .i64 k ∧ v3 = .int .i64 n) (fun _ v4 => l.length - (intOf v4).toNat)
    case atStart => exact ⟨0, 0, by omega, rfl, rfl⟩
    case round =>
      obtain ⟨k, n, hk, rfl, rfl⟩ := hrel
      by_cases hlt : k < l.length
      · have hx := HC.out k hlt
        have hsz := HS.out k hlt
        generalize l[k] = x at *
        go_wp2
        all_goals go_round
        all_goals first | exact ⟨k + 1, _, by omega, by go_num, rfl⟩ | (simp [intOf]; omega)
      · by_cases hbig : 200 < l.length
        · have h1 : (200 : Int) < (l.length : Int) := by omega
          go_wp2
          go_ret
          exact ⟨⟨_, rfl, fun h => by simp at h⟩, rfl⟩
        · have h1 : ¬ (200 : Int) < (l.length : Int) := by omega
          go_wp2
          all_goals go_ret
          all_goals exact ⟨⟨_, rfl, fun _ => by omega⟩, rfl⟩

end Go.Proofs.Ytkambjfhhmgniaa
