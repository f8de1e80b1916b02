/-
  Names: the law on names beyond those that there are, by a walk.
-/
import Derived.Test.YtgjbchkplpdeiaaNamAw
namespace Go.Proofs.Ytgjbchkplpdeiaa
open Go.RowKit Go.Maps
set_option linter.unusedVariables false
set_option linter.unusedSimpArgs false

set_option maxHeartbeats 1000000 in
theorem namesFew_walk (a : Option Addr) (c : Nat) (l : List St) (k n : Int) (w : World) (hl : RdS w a l) (hf : ∀ x ∈ l, x.fit) (hm : l.length ≤ maxLen)
    (bk : -9223372036854775808 ≤ k ∧ k ≤ 9223372036854775807) (bn : -9223372036854775808 ≤ n ∧ n ≤ 9223372036854775807) :
    Calls Try.prog 10 #[.slice a l.length c, .int .i64 k, .int .i64 n] w fun e w' => e = .returned (.bool true) ∧ Below w.heap.size w w' := by
  have hm2 : l.length ≤ 9223372036854775807 := by unfold maxLen at hm; omega
  have HAW : Hid (∀ w', Below w.heap.size w w' → Calls Try.prog 27 #[] w' fun e w2 => e = .returned (.bool true) ∧ Below w.heap.size w w2) := Lib.hid fun w' hb => (nawake_any w').mono fun e w2 h => ⟨h.1, hb.trans (h.2.mono hb.size)⟩
  have hu : ∀ b : Bool, ¬ (some undef = some (Value.bool b)) := fun b h => by cases h
  by_cases h80 : (80 : Int) < (l.length : Int)
  · clear hl hf
    go_enter Try.func10, Try.ntmps10
    go_wp2_with fail
    refine (HAW.out w (Below.refl _ _)).mono ?_
    rintro e w2 ⟨rfl, hb⟩
    have HB := Lib.hid hb
    clear hb
    go_wp2_with fail
    go_ret
    exact ⟨rfl, HB.out⟩
  · have HBD := Lib.hid (build_any a c l w hl hf hm2)
    have BK := Lib.hid bk
    have BN := Lib.hid bn
    clear hl hf bk bn
    go_enter Try.func10, Try.ntmps10
    go_wp2_with fail
    refine (HBD.out).mono ?_
    clear HBD
    rintro e w1 (⟨hg, p, cs, vn, vp, b1, b2, D1, D2, rfl, hi, hb⟩ | ⟨i, hi, hg, hne, rfl, hb⟩)
    · have hsz : w.heap.size + 1 ≤ w1.heap.size := by have := lt_of_cell (hi.cell 0 |>.trans hi.c0); have := hi.base; simp only at *; omega
      have HI : Hid (∀ w2, Below w1.heap.size w1 w2 → IsN w2 (w.heap.size + 1) p cs vn vp b1 b2 D1 D2 l ∧ Below w.heap.size w w2) := Lib.hid fun w2 h => ⟨hi.still hsz h, hb.trans (h.mono hb.size)⟩
      have HG := Lib.hid hg
      clear hi hb hg
      by_cases hin : 0 ≤ n ∧ n < (Nm.cnt l k : Int) ∧ Nm.named k = true
      · obtain ⟨m, rfl⟩ := Int.eq_ofNat_of_zero_le hin.1
        have hmem := Nm.places_all (L := l) (k := k) (n := m) hin.2.2 (by omega)
        obtain ⟨i, hi2⟩ := List.getElem?_of_mem hmem
        have hil := (List.getElem?_eq_some_iff.1 hi2).1
        rw [← Nm.len_np] at hil
        obtain ⟨s, hs⟩ : ∃ s, (Nm.names l)[i]? = some s := ⟨_, List.getElem?_eq_getElem hil⟩
        have hss : s.size ≤ maxLen := ((HI.out w1 (Below.refl _ _)).1).sizes s (List.mem_of_getElem? hs)
        have HNM : Hid (∀ w2, Below w1.heap.size w1 w2 → Calls Try.prog 33 #[.pointer (some ⟨p, 0, none⟩), .int .i64 k, .int .i64 (m : Nat)] w2 fun e w3 => e = .returned (.string s) ∧ w2 = w3) := Lib.hid fun w2 h => name_yes (HI.out w2 h).1 i s k m hs hi2
        have HFD : Hid (∀ w2, Below w1.heap.size w1 w2 → Calls Try.prog 30 #[.pointer (some ⟨p, 0, none⟩), .string s] w2 fun e w3 => e = .returned (.tuple #[.int .i64 k, .int .i64 (m : Nat), .bool true]) ∧ ∃ j, w3 = w2.drewN j) := Lib.hid fun w2 h => find_yes s hss (HI.out w2 h).1 i k m hs hi2
        have HCT : Hid (∀ w2, Below w1.heap.size w1 w2 → Calls Try.prog 32 #[.pointer (some ⟨p, 0, none⟩), .int .i64 k] w2 fun e w3 => e = .returned (.int .i64 (Nm.cnt l k : Nat)) ∧ w2 = w3) := Lib.hid fun w2 h => count_any k (HI.out w2 h).1
        have hn0 : ¬ ((m : Int) < 0) := by omega
        have hn1 : ¬ ((Nm.cnt l k : Nat) : Int) ≤ (m : Int) := by omega
        have h6 : (k == 6) = false := by rw [beq_eq_false_iff_ne]; intro e; subst e; exact absurd hin.2.2 (by decide)
        have h8 : (k == 8) = false := by rw [beq_eq_false_iff_ne]; intro e; subst e; exact absurd hin.2.2 (by decide)
        have hkk : (k == k) = true := by simp
        have hmm : (((m : Nat) : Int) == ((m : Nat) : Int)) = true := by simp
        clear hin hmem hi2 hs hil hss
        generalize Nm.cnt l k = ct at *
        go_wp2_with fail
        refine (HNM.out _ (bel_alloc _ _)).mono ?_
        rintro e w2 ⟨rfl, rfl⟩
        go_wp2_with (first | (go_at_call 32; refine (HCT.out _ (bel_alloc _ _)).mono ?_; rintro e w3 ⟨rfl, rfl⟩) | (go_at_call 30; refine (HFD.out _ (bel_alloc _ _)).mono ?_; rintro e w3 ⟨rfl, j, rfl⟩))
        refine (HAW.out _ (nbelow_dn (HI.out _ (bel_alloc _ _)).2 j)).mono ?_
        rintro e w4 ⟨rfl, hb⟩
        have HB := Lib.hid hb
        clear hb
        go_wp2_with fail
        go_ret
        exact ⟨rfl, HB.out⟩
      · have HNM : Hid (∀ w2, Below w1.heap.size w1 w2 → Calls Try.prog 33 #[.pointer (some ⟨p, 0, none⟩), .int .i64 k, .int .i64 n] w2 fun e w3 => e = .returned (.string { data := #[] }) ∧ w2 = w3) := Lib.hid fun w2 h => name_no (HI.out w2 h).1 k n (wfI BK.out) (wfI BN.out) (fun m hm e => hin ⟨by omega, by have := (Nm.places_mem hm).1; omega, (Nm.places_mem hm).2⟩)
        have HCT : Hid (∀ w2, Below w1.heap.size w1 w2 → Calls Try.prog 32 #[.pointer (some ⟨p, 0, none⟩), .int .i64 k] w2 fun e w3 => e = .returned (.int .i64 (Nm.cnt l k : Nat)) ∧ w2 = w3) := Lib.hid fun w2 h => count_any k (HI.out w2 h).1
        have hcase : (n < 0) ∨ (¬ n < 0 ∧ ((Nm.cnt l k : Nat) : Int) ≤ n) ∨ (¬ n < 0 ∧ ¬ ((Nm.cnt l k : Nat) : Int) ≤ n ∧ (k == 6) = true) ∨ (¬ n < 0 ∧ ¬ ((Nm.cnt l k : Nat) : Int) ≤ n ∧ (k == 6) = false ∧ (k == 8) = true) := by
          by_cases h1 : n < 0
          · exact Or.inl h1
          · by_cases h2 : ((Nm.cnt l k : Nat) : Int) ≤ n
            · exact Or.inr (Or.inl ⟨h1, h2⟩)
            · by_cases h3 : k = 6
              · exact Or.inr (Or.inr (Or.inl ⟨h1, h2, by simp [h3]⟩))
              · refine Or.inr (Or.inr (Or.inr ⟨h1, h2, by simp [h3], ?_⟩))
                by_cases h4 : k = 8
                · simp [h4]
                · exact absurd ⟨by omega, by omega, by simp [Nm.named, h3, h4]⟩ hin
        clear hin
        generalize Nm.cnt l k = ct at *
        go_wp2_with fail
        refine (HNM.out _ (bel_alloc _ _)).mono ?_
        rintro e w2 ⟨rfl, rfl⟩
        rcases hcase with h1 | ⟨h1, h2⟩ | ⟨h1, h2, h3⟩ | ⟨h1, h2, h3, h4⟩
        all_goals
          go_wp2_with (first | (go_at_call 32; refine (HCT.out _ (bel_alloc _ _)).mono ?_; rintro e w3 ⟨rfl, rfl⟩))
          refine (HAW.out _ (HI.out _ (bel_alloc _ _)).2).mono ?_
          rintro e w4 ⟨rfl, hb⟩
          have HB := Lib.hid hb
          clear hb
          go_wp2_with fail
          go_ret
          exact ⟨rfl, HB.out⟩
    · have HI : Hid (∀ w2, Below w1.heap.size w1 w2 → Below w.heap.size w w2) := Lib.hid fun w2 h => hb.trans (h.mono hb.size)
      have HNM : Hid (∀ w2, Calls Try.prog 33 #[.pointer none, .int .i64 k, .int .i64 n] w2 fun e w3 => e = .returned (.string { data := #[] }) ∧ w2 = w3) := Lib.hid fun w2 => name_nil k n w2
      have HCT : Hid (∀ w2, Calls Try.prog 32 #[.pointer none, .int .i64 k] w2 fun e w3 => e = .returned (.int .i64 0) ∧ w2 = w3) := Lib.hid fun w2 => count_nil k w2
      clear hb hne hg
      generalize Nm.errOf (l.take i) l[i] = er at *
      generalize l[i] = x at *
      go_wp2_with fail
      refine (HNM.out _).mono ?_
      rintro e w2 ⟨rfl, rfl⟩
      have hcase : n < 0 ∨ (¬ n < 0 ∧ (0 : Int) ≤ n) := by omega
      rcases hcase with h1 | ⟨h1, h2⟩
      all_goals
        go_wp2_with (first | (go_at_call 32; refine (HCT.out _).mono ?_; rintro e w3 ⟨rfl, rfl⟩))
        refine (HAW.out _ (HI.out _ (bel_alloc _ _))).mono ?_
        rintro e w4 ⟨rfl, hb⟩
        have HB := Lib.hid hb
        clear hb
        go_wp2_with fail
        go_ret
        exact ⟨rfl, HB.out⟩
end Go.Proofs.Ytgjbchkplpdeiaa
