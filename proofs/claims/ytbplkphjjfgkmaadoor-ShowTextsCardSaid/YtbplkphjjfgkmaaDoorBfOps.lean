/-
  tree.Check, Deep, Start: by walks.
-/
import Derived.Test.YtbplkphjjfgkmaaDoorBfGrow
namespace Go.Proofs.YtbplkphjjfgkmaaDoor
open Go.RowKit
set_option linter.unusedVariables false
set_option linter.unusedSimpArgs false

/-- Is a list a formula? -/
def fm (l : List It) : Bool := decide (0 < l.length) && decide (l.length ≤ 64) && Tr.okF (opsOf l)
/-- What is wrong with it. -/
def chk (l : List It) : Int := if l.length = 0 then 12 else if 64 < l.length then 3 else if Tr.okF (opsOf l) = true then 0 else 17
theorem fm_yes {l : List It} (h : fm l = true) : 0 < l.length ∧ l.length ≤ 64 ∧ Tr.okF (opsOf l) = true := by
  unfold fm at h
  simp only [Bool.and_eq_true, decide_eq_true_eq] at h
  exact ⟨h.1.1, h.1.2, h.2⟩
theorem chk_ok {l : List It} (h : fm l = true) : chk l = 0 := by
  obtain ⟨h1, h2, h3⟩ := fm_yes h
  unfold chk
  rw [if_neg (by omega), if_neg (by omega), if_pos h3]
theorem chk_no {l : List It} (h : fm l = false) : chk l = 12 ∨ chk l = 3 ∨ chk l = 17 := by
  unfold chk
  split
  · exact Or.inl rfl
  · split
    · exact Or.inr (Or.inl rfl)
    · split
      · rename_i h1 h2 h3
        unfold fm at h
        rw [h3, decide_eq_true (by omega), decide_eq_true (by omega)] at h
        cases h
      · exact Or.inr (Or.inr rfl)
theorem grow_cases {l : List It} {w w' : World} {e : Ending} (h : GrowAns l w e w') :
    (fm l = true ∧ ∃ x p ps, e = .returned (.tuple #[x, .int .i64 0]) ∧ Tr.run (opsOf l) l.length = some ([p], ps) ∧ w'.ownsRow w.heap.size 187 1 x l.length (ps.map encP) ∧ Below w.heap.size w w') ∨
    (fm l = false ∧ e = .returned (.tuple #[.slice none 0 0, .int .i64 (chk l)]) ∧ Below w.heap.size w w') := by
  rcases h with ⟨h0, h1, h2⟩ | ⟨h0, h1, h2⟩ | ⟨h0, h3, h4, h1, h2⟩ | ⟨h0, h3, h4, x, p, ps, h1, h5, h6, h2⟩
  · exact Or.inr ⟨by unfold fm; rw [h0]; rfl, by rw [h1]; unfold chk; rw [if_pos h0], h2⟩
  · exact Or.inr ⟨by unfold fm; rw [decide_eq_false (show ¬ l.length ≤ 64 by omega)]; simp, by rw [h1]; unfold chk; rw [if_neg (by omega), if_pos h0], h2⟩
  · exact Or.inr ⟨by unfold fm; rw [h4]; simp, by rw [h1]; unfold chk; rw [if_neg (by omega), if_neg (by omega), if_neg (by rw [h4]; decide)], h2⟩
  · exact Or.inl ⟨by unfold fm; rw [h4, decide_eq_true h0, decide_eq_true h3]; rfl, x, p, ps, h1, h5, h6, h2⟩
/-- The part that an item ends. -/
def partAt (l : List It) (j : Nat) : Tr.Pt := match Tr.run (opsOf l) l.length with | some (_, ps) => ps.getD j (.leaf 0) | none => .leaf 0
theorem part_span {l : List It} (hf : fm l = true) {j : Nat} (hj : j < l.length) : ∃ s, Tr.Span (opsOf l) s j (partAt l j) := by
  obtain ⟨h1, h2, h3⟩ := fm_yes hf
  obtain ⟨p, ps, pj, s, h4, h5, h6⟩ := Tr.part_of h3 j (by rw [opsOf_len]; exact hj)
  rw [opsOf_len] at h4
  refine ⟨s, ?_⟩
  unfold partAt
  rw [h4]
  simp only [List.getD_eq_getElem?_getD, h5, Option.getD_some]
  exact h6
/-- Calling grow, by its two outcomes. -/
theorem grow_two (a : Option Addr) (c : Nat) (l : List It) (w : World) (hl : RdI w a l) (hm : l.length ≤ maxLen) :
    (fm l = true ∧ Calls Tryd.prog 76 #[.slice a l.length c] w fun e w' => ∃ g cap, e = .returned (.tuple #[.slice (some ⟨g, 0, none⟩) l.length cap, .int .i64 0]) ∧ (∀ j, j < l.length → w'.cell? ⟨g, j, none⟩ = some (encP (partAt l j))) ∧ g < w'.heap.size ∧ Below w.heap.size w w') ∨
    (fm l = false ∧ Calls Tryd.prog 76 #[.slice a l.length c] w fun e w' => e = .returned (.tuple #[.slice none 0 0, .int .i64 (chk l)]) ∧ Below w.heap.size w w') := by
  cases hf : fm l with
  | true =>
    obtain ⟨h1, h2, h3⟩ := fm_yes hf
    refine Or.inl ⟨rfl, (grow_any a c l w hl hm).mono fun e w' h => ?_⟩
    rcases grow_cases h with ⟨_, x, p', ps', h5, h6, h7, h8⟩ | ⟨h5, _⟩
    · obtain ⟨g, cap, hv, _, _, _, hg⟩ := own_some h7 h1
      subst hv
      refine ⟨g, cap, h5, fun j hj => ?_, hg, h8⟩
      have hran := Tr.ran l.length [p'] ps' (by rw [opsOf_len]; exact Nat.le_refl _) h6
      have hjl : j < ps'.length := by rw [hran.plen]; exact hj
      refine own_cell1 h7 j _ ?_
      rw [List.getElem?_map, List.getElem?_eq_getElem hjl]
      unfold partAt
      rw [h6]
      simp [List.getD_eq_getElem?_getD, hjl]
    · rw [hf] at h5; cases h5
  | false =>
    refine Or.inr ⟨rfl, (grow_any a c l w hl hm).mono fun e w' h => ?_⟩
    rcases grow_cases h with ⟨h5, _⟩ | ⟨_, h5, h6⟩
    · rw [hf] at h5; cases h5
    · exact ⟨h5, h6⟩
theorem check_any (a : Option Addr) (c : Nat) (l : List It) (w : World) (hl : RdI w a l) (hm : l.length ≤ maxLen) :
    Calls Tryd.prog 36 #[.slice a l.length c] w fun e w' => e = .returned (.int .i64 (chk l)) ∧ Below w.heap.size w w' := by
  rcases grow_two a c l w hl hm with ⟨hf, hC⟩ | ⟨hf, hC⟩
  · rw [chk_ok hf]
    have HC := Lib.hid hC
    clear hC hl hm hf
    go_enter Tryd.func36, Tryd.ntmps36
    go_wp2_with fail
    refine HC.out.mono ?_
    rintro e w2 ⟨g, cap, rfl, _, _, hb⟩
    go_wp2_with fail
    go_ret
    exact ⟨rfl, hb⟩
  · have HC := Lib.hid hC
    clear hC hl hm hf
    generalize chk l = z at *
    go_enter Tryd.func36, Tryd.ntmps36
    go_wp2_with fail
    refine HC.out.mono ?_
    rintro e w2 ⟨rfl, hb⟩
    go_wp2_with fail
    go_ret
    exact ⟨rfl, hb⟩
end Go.Proofs.YtbplkphjjfgkmaaDoor
