/-
  Names: what a table that lies in memory is asked.
-/
import Derived.Test.YtpbgicfoopicbaaNamTab
namespace Go.Proofs.Ytpbgicfoopicbaa
open Go.RowKit Go.Maps
set_option linter.unusedVariables false
set_option linter.unusedSimpArgs false

section
variable {w : World} {B p : Nat} {cs : Array Value} {vn vp : Value} {b1 b2 : Nat} {D1 D2 : Dat} {L : List St}
theorem IsN.cell (h : IsN w B p cs vn vp b1 b2 D1 D2 L) (j : Nat) : w.cell? ⟨p, j, none⟩ = cs[j]? := cell_of_row w p j cs _ _ h.block
theorem IsN.len (h : IsN w B p cs vn vp b1 b2 D1 D2 L) : (Nm.names L).length ≤ 53 := by
  have h1 := h.good.length_le
  have h2 : (Nm.names L).length ≤ L.length := by
    clear h h1
    induction L using Nm.snocInd with
    | h0 => simp [Nm.names, Nm.ents, Nm.entsA]
    | h1 L x ih =>
      rw [Nm.names_snoc, List.length_append, List.length_append, List.length_singleton]
      split <;> simp <;> omega
  omega
theorem Nm.place_wf {L : List St} (hg : Nm.Good L) : ∀ x ∈ Nm.places L, (Lit.int .i64 x.1).wf = true ∧ (Lit.int .i64 (x.2 : Nat)).wf = true ∧ 1 ≤ x.1 ∧ x.1 ≤ 8 ∧ x.2 ≤ 12 := by
  intro x hx
  have h1 := Nm.places_mem (L := L) (k := x.1) (n := x.2) hx
  have h2 := hg.cnt_le x.1
  have h3 := Nm.most_range x.1
  have h4 : 1 ≤ x.1 ∧ x.1 ≤ 8 := by
    by_cases h5 : x.1 < 1 ∨ 8 < x.1
    · have := Nm.most_zero.2 h5; omega
    · omega
  exact ⟨wfI (by omega), wfI (by omega), h4.1, h4.2, by omega⟩
end
set_option maxHeartbeats 400000 in
theorem find_nil (s : ByteArray) (w : World) : Calls Try.prog 65 #[.pointer none, .string s] w fun e w' => e = .returned (.tuple #[.int .i64 0, .int .i64 0, .bool false]) ∧ w = w' := by
  go_enter Try.func65, Try.ntmps65
  go_wp2
  go_ret3
  exact ⟨rfl, rfl⟩
theorem zero_string : ({ data := #[] } : ByteArray) = ByteArray.empty := rfl
section
variable {w : World} {B p : Nat} {cs : Array Value} {vn vp : Value} {b1 b2 : Nat} {D1 D2 : Dat} {L : List St}
theorem IsN.count (h : IsN w B p cs vn vp b1 b2 D1 D2 L) (k : Nat) (hk : k ≤ 8) : cs[4 + k]? = some (.int .i64 (Nm.cnt L k : Nat)) := by
  by_cases h0 : k = 0
  · subst h0
    have h1 := h.good.cnt_le 0
    have h2 : Nm.most 0 = 0 := by decide
    have h3 : Nm.cnt L ((0 : Nat) : Int) = 0 := by simp only [Int.ofNat_zero]; have : ((0 : Nat) : Int) = 0 := rfl; omega
    rw [h3]; exact h.z0
  · exact h.cc k (by omega) hk
set_option maxHeartbeats 400000 in
theorem find_no (s : ByteArray) (hs : s.size ≤ maxLen) (h : IsN w B p cs vn vp b1 b2 D1 D2 L) (hn : s ∉ Nm.names L) : Calls Try.prog 65 #[.pointer (some ⟨p, 0, none⟩), .string s] w fun e w' => e = .returned (.tuple #[.int .i64 0, .int .i64 0, .bool false]) ∧ w = w' := by
  have hkey := keyS s hs
  have hhas := h.n1.no s hn
  have hm1 := h.m1
  have c2 := (h.cell 2).trans h.c2
  clear h hn
  go_enter Try.func65, Try.ntmps65
  go_wp2_with (first | (at_lookup; refine wpList_lookup_own_ok_int _ rfl _ _ 95 rfl 9 3 .i64 lawS Try.underlying95 Try.underlying3 (zeroI _) b1 _ D1 rfl hm1 _ _ rfl hkey ?_; rw [hhas]; intro c hat hwc))
  go_ret3
  exact ⟨rfl, rfl⟩
theorem IsN.place (h : IsN w B p cs vn vp b1 b2 D1 D2 L) {i : Nat} {k : Int} {n : Nat} (hp : (Nm.places L)[i]? = some (k, n)) : ∃ g cap, vp = .slice (some ⟨g, 0, none⟩) (Nm.places L).length cap ∧ i < (Nm.places L).length ∧ w.cell? ⟨g, i * 2, none⟩ = some (.int .i64 k) ∧ w.cell? ⟨g, i * 2 + 1, none⟩ = some (.int .i64 (n : Nat)) := by
  have hi := (List.getElem?_eq_some_iff.1 hp).1
  have hv := (List.getElem?_eq_some_iff.1 hp).2
  obtain ⟨g, cap, rfl, _⟩ := own_some h.op (by omega)
  refine ⟨g, cap, rfl, hi, ?_, ?_⟩
  · have := own_cell Nm.encP_len h.op i 0 hi (by omega)
    rw [Nat.add_zero, hv] at this
    exact this
  · have := own_cell Nm.encP_len h.op i 1 hi (by omega)
    rw [hv] at this
    exact this
theorem IsN.name (h : IsN w B p cs vn vp b1 b2 D1 D2 L) {i : Nat} {s : ByteArray} (hp : (Nm.names L)[i]? = some s) : ∃ g cap, vn = .slice (some ⟨g, 0, none⟩) (Nm.names L).length cap ∧ i < (Nm.names L).length ∧ w.cell? ⟨g, i, none⟩ = some (.string s) := by
  have hi := (List.getElem?_eq_some_iff.1 hp).1
  obtain ⟨g, cap, rfl, _⟩ := own_some h.on (by omega)
  refine ⟨g, cap, rfl, hi, ?_⟩
  rw [h.on.cellAt i (by omega), List.getElem?_map, hp]; rfl
set_option maxHeartbeats 400000 in
theorem find_yes (s : ByteArray) (hs : s.size ≤ maxLen) (h : IsN w B p cs vn vp b1 b2 D1 D2 L) (i : Nat) (k : Int) (n : Nat) (hn : (Nm.names L)[i]? = some s) (hp : (Nm.places L)[i]? = some (k, n)) :
    Calls Try.prog 65 #[.pointer (some ⟨p, 0, none⟩), .string s] w fun e w' => e = .returned (.tuple #[.int .i64 k, .int .i64 (n : Nat), .bool true]) ∧ ∃ m, w' = w.drewN m := by
  have hkey := keyS s hs
  have hhas := h.n1.yes s (List.mem_of_getElem? hn)
  have hat0 := h.n1.at_ i s (i64D 0) hn
  have hm1 := h.m1
  have c2 := (h.cell 2).trans h.c2
  have c1 := (h.cell 1).trans h.c1
  have hl := h.len
  obtain ⟨g, cap, hvp, hi, d0, d1⟩ := h.place hp
  rw [← Nm.len_np] at hvp hi
  subst hvp
  clear h hn hp
  generalize (Nm.names L).length = m at *
  go_enter Try.func65, Try.ntmps65
  go_wp2_with (first | (at_lookup; refine wpList_lookup_own_ok_int _ rfl _ _ 95 rfl 9 3 .i64 lawS Try.underlying95 Try.underlying3 (zeroI _) b1 _ D1 rfl hm1 _ _ rfl hkey ?_; rw [hhas]; intro c hat hwc; obtain rfl : c = (i : Int) := by (have := hat.symm.trans hat0; simpa [i64D] using this)))
  go_quiet (fail)
  go_wp2_with fail
  go_ret3
  exact ⟨rfl, _, rfl⟩
end
end Go.Proofs.Ytpbgicfoopicbaa
