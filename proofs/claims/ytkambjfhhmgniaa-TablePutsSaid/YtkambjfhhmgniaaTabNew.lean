/-
  Tables: a new one; a text that is there already; how many; the text of a number; tables that no call made.
-/
import Derived.Test.YtkambjfhhmgniaaTabPut
namespace Go.Proofs.Ytkambjfhhmgniaa
open Go.RowKit SumPlain
set_option linter.unusedVariables false

theorem lasts_nil (m : Nat) : Tab.lasts m [] = List.replicate m (Value.int .i64 0) := by
  apply List.ext_getElem
  · simp [Tab.lasts]
  · intro k h1 h2
    simp [Tab.lasts, Tab.prev]
def NewAns (w : World) (e : Ending) (w' : World) : Prop :=
  ∃ p m vl, e = .returned (.pointer (some ⟨p, 0, none⟩)) ∧ IsTab w' w.heap.size p m [] (.slice none 0 0) (.slice none 0 0) (.slice none 0 0) vl ∧ Keeps (fun _ => False) w w'
theorem tab_new {w w1 : World} {m : Nat} {vl : Value} (hown : w1.ownsRow w.heap.size 3 1 vl m (List.replicate m (Value.int .i64 0))) (hk : Keeps (fun _ => False) w w1) (hm : ∃ r, r ≤ 16 ∧ m = 2 ^ r) :
    IsTab (w1.alloc (.cells #[.slice none 0 0, .slice none 0 0, .slice none 0 0, vl] 67)) w.heap.size w1.heap.size m [] (.slice none 0 0) (.slice none 0 0) (.slice none 0 0) vl ∧ Keeps (fun _ => False) w (w1.alloc (.cells #[.slice none 0 0, .slice none 0 0, .slice none 0 0, vl] 67)) :=
  ⟨⟨heap_alloc_new w1 _, hk.size, World.ownsRow_nil _ _ _ _, World.ownsRow_nil _ _ _ _, World.ownsRow_nil _ _ _ _, by rw [lasts_nil]; exact hown.alloc _, fun k e => by simp [Value.ownBlock] at e, hm, List.nodup_nil⟩, hk.trans (Keeps.alloc _ _ _)⟩
set_option maxHeartbeats 400000 in
set_option maxRecDepth 1000000 in
theorem new_any (b : Int) (w : World) : Calls Try.prog 7 #[.int .i64 b] w (NewAns w) := by
  have hpow : ∀ r : Nat, r ≤ 16 → (2 : Nat) ^ r ≤ 65536 := fun r hr => Nat.le_trans (Nat.pow_le_pow_right (by decide) hr) (by decide)
  rcases Int.lt_or_le b 0 with h0 | h0
  · go_enter Try.func7, Try.ntmps7
    go_wp2_with (at_make; refine make_one rfl _ _ 43 rfl 3 (.int .i64 0) 8 Try.underlying43 Try.info3 rfl _ 1 rfl rfl (by decide) (by decide) (by decide) ?_; intro w1 own1 keep1)
    go_ret
    obtain ⟨h1, h2⟩ := tab_new own1 keep1 ⟨0, by decide, rfl⟩
    exact ⟨_, _, _, rfl, h1, h2⟩
  · rcases Int.lt_or_le 16 b with h1 | h1
    · have HR : Hid (∃ q, q ≤ 16 ∧ 65536 = 2 ^ q) := Lib.hid ⟨16, by decide, by decide⟩
      go_enter Try.func7, Try.ntmps7
      go_wp2_with (at_make; refine make_one rfl _ _ 43 rfl 3 (.int .i64 0) 8 Try.underlying43 Try.info3 rfl _ 65536 rfl rfl (by decide) (by decide) (by unfold maxLen; omega) ?_; intro w1 own1 keep1)
      go_ret
      obtain ⟨h1, h2⟩ := tab_new own1 keep1 HR.out
      exact ⟨_, _, _, rfl, h1, h2⟩
    · obtain ⟨r, rfl⟩ := Int.eq_ofNat_of_zero_le h0
      have hr : r ≤ 16 := by omega
      have hp := hpow r hr
      have ew : wrap64 ((2 : Int) ^ r) = ((2 ^ r : Nat) : Int) := BitsPlain.pow_small r (by omega)
      have EW := Lib.hid ew
      have HR : ∃ q, q ≤ 16 ∧ 2 ^ r = 2 ^ q := ⟨r, hr, rfl⟩
      clear ew hpow
      generalize hP : (2 : Nat) ^ r = P at *
      clear hP
      go_enter Try.func7, Try.ntmps7
      go_wp2_with (at_make; refine make_one rfl _ _ 43 rfl 3 (.int .i64 0) 8 Try.underlying43 Try.info3 rfl _ P rfl rfl EW.out (by omega) (by unfold maxLen; omega) ?_; intro w1 own1 keep1)
      all_goals go_ret
      all_goals obtain ⟨h1, h2⟩ := tab_new own1 keep1 HR
      all_goals exact ⟨_, _, _, rfl, h1, h2⟩
set_option maxHeartbeats 400000 in
theorem len_any (p n c : Nat) (a : Option Addr) (w : World) (hc : w.cell? ⟨p, 0, none⟩ = some (.slice a n c)) :
    Calls Try.prog 12 #[.pointer (some ⟨p, 0, none⟩)] w fun e w' => e = .returned (.int .i64 n) ∧ w = w' := by
  go_enter Try.func12, Try.ntmps12
  go_wp2
  go_ret
  exact ⟨rfl, rfl⟩
set_option maxHeartbeats 400000 in
theorem len_nil (w : World) : Calls Try.prog 12 #[.pointer none] w fun e w' => e = .returned (.int .i64 0) ∧ w = w' := by
  go_enter Try.func12, Try.ntmps12
  go_wp2
  go_ret
  exact ⟨rfl, rfl⟩
theorem len_tab {w : World} {B p m : Nat} {texts : List ByteArray} {vt vs va vl : Value} (h : IsTab w B p m texts vt vs va vl) :
    Calls Try.prog 12 #[.pointer (some ⟨p, 0, none⟩)] w fun e w' => e = .returned (.int .i64 texts.length) ∧ w = w' := by
  have h0 := cell_of_cells h.block 0
  simp only [List.getElem?_toArray, List.getElem?_cons_zero, List.getElem?_cons_succ] at h0
  rcases h.otexts.2 with ⟨rfl, hn⟩ | ⟨g, cap, cur, rfl, _⟩
  · have he : texts = [] := List.eq_nil_of_length_eq_zero hn
    subst he
    exact len_any p 0 0 none w h0
  · exact len_any p texts.length cap _ w h0
set_option maxHeartbeats 400000 in
theorem put_nil (s : ByteArray) (w : World) : Calls Try.prog 8 #[.pointer none, .string s] w fun e w' => e = .returned (.tuple #[.int .i64 0, .bool false]) ∧ w = w' := by
  go_enter Try.func8, Try.ntmps8
  go_wp2_with (go_at_call 22; refine (made_nil _).mono ?_; rintro e w1 ⟨rfl, rfl⟩)
  go_ret2
  exact ⟨rfl, rfl⟩
set_option maxHeartbeats 400000 in
theorem find_nil (s : ByteArray) (w : World) : Calls Try.prog 11 #[.pointer none, .string s] w fun e w' => e = .returned (.tuple #[.int .i64 0, .bool false]) ∧ w = w' := by
  go_enter Try.func11, Try.ntmps11
  go_wp2_with (go_at_call 22; refine (made_nil _).mono ?_; rintro e w1 ⟨rfl, rfl⟩)
  go_ret2
  exact ⟨rfl, rfl⟩
set_option maxHeartbeats 400000 in
theorem put_zero (p : Nat) (s : ByteArray) (w : World) (hc : w.cell? ⟨p, 3, none⟩ = some (.slice none 0 0)) : Calls Try.prog 8 #[.pointer (some ⟨p, 0, none⟩), .string s] w fun e w' => e = .returned (.tuple #[.int .i64 0, .bool false]) ∧ w = w' := by
  have hm := made_zero p w hc
  go_enter Try.func8, Try.ntmps8
  go_wp2_with (go_at_call 22; refine hm.mono ?_; rintro e w1 ⟨rfl, rfl⟩)
  go_ret2
  exact ⟨rfl, rfl⟩
set_option maxHeartbeats 400000 in
theorem find_zero (p : Nat) (s : ByteArray) (w : World) (hc : w.cell? ⟨p, 3, none⟩ = some (.slice none 0 0)) : Calls Try.prog 11 #[.pointer (some ⟨p, 0, none⟩), .string s] w fun e w' => e = .returned (.tuple #[.int .i64 0, .bool false]) ∧ w = w' := by
  have hm := made_zero p w hc
  go_enter Try.func11, Try.ntmps11
  go_wp2_with (go_at_call 22; refine hm.mono ?_; rintro e w1 ⟨rfl, rfl⟩)
  go_ret2
  exact ⟨rfl, rfl⟩
/-- A text that is there: its number, and that it is not new. -/
def OldAns (i : Nat) (e : Ending) : Prop := e = .returned (.tuple #[.int .i64 (i : Nat), .bool false])
set_option maxHeartbeats 1000000 in
theorem put_old (B p m i : Nat) (texts : List ByteArray) (vt vs va vl : Value) (s : ByteArray) (w : World) (h : IsTab w B p m texts vt vs va vl) (hs : s.size ≤ 9223372036854775807) (hn : texts.length ≤ 1000000) (hi : texts[i]? = some s) :
    Calls Try.prog 8 #[.pointer (some ⟨p, 0, none⟩), .string s] w fun e w' => OldAns i e ∧ ∃ n, w' = w.drewN n := by
  have hil : i < texts.length := (List.getElem?_eq_some_iff.1 hi).1
  have hgi : texts[i] = s := (List.getElem?_eq_some_iff.1 hi).2
  have hfind := find_any B p m texts vt vs va vl s w h hs hn i (fun _ => by rw [List.getD_eq_getElem?_getD, hi]; rfl) (fun k hk hki he => by
    rw [List.getD_eq_getElem?_getD, List.getElem?_eq_getElem hk] at he
    have he2 : texts[k] = texts[i] := he.trans hgi.symm
    have hpw := List.pairwise_iff_getElem.1 h.uniq
    rcases Nat.lt_or_gt_of_ne hki with h1 | h1
    · exact hpw k i hk hil h1 he2
    · exact hpw i k hil hk h1 he2.symm)
  have hfa : ∀ e, FindAns texts.length i e → e = .returned (.tuple #[.int .i64 i, .bool true]) := fun e he => by unfold FindAns at he; rw [if_pos hil] at he; simpa [hil] using he
  have HFIND := Lib.hid hfind
  have HFA := Lib.hid hfa
  obtain ⟨gl, cl, hvl, hgl, hcl, hcm, hgls⟩ := own_some h.olast h.pos.1
  subst hvl
  have hc := blk_cells h.block
  have hmade := made_any p _ m cl w hc.2.2.2.1 h.pos.1
  have HMADE := Lib.hid hmade
  clear hfind hfa hmade hc h hgi hi
  go_enter Try.func8, Try.ntmps8
  go_wp2_with fail
  refine (HMADE.out).mono ?_
  rintro e w1 ⟨rfl, rfl⟩
  go_wp2_with fail
  refine (HFIND.out).mono ?_
  rintro e w1 ⟨he, n0, rfl⟩
  have he2 := HFA.out e he
  subst he2
  clear he
  go_wp2_with fail
  go_ret2
  exact ⟨rfl, n0, rfl⟩
end Go.Proofs.Ytkambjfhhmgniaa
