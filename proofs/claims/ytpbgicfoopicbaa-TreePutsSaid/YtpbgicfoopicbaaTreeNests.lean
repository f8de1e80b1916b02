/-
  The law of parts within one another: by a walk.
-/
import Derived.Test.YtpbgicfoopicbaaTreeLawC
namespace Go.Proofs.Ytpbgicfoopicbaa
open Go.RowKit
set_option linter.unusedVariables false
set_option linter.unusedSimpArgs false

/-- A part lies within another one, or apart. -/
theorem span_nests {l : List Int} {s' e' : Nat} {q : Tr.Pt} (h : Tr.Span l s' e' q) : ∀ {s e : Nat} {p : Tr.Pt}, Tr.Span l s e p → e ≤ e' → s' ≤ s ∨ e < s' := by
  induction h with
  | leaf i h1 h2 =>
    intro s e p hp hle
    by_cases he : e = i
    · subst he
      have h3 := (Tr.Span.leaf e h1 h2).begin
      have h4 := hp.begin
      omega
    · omega
  | one s1 e1 k h1 h2 h3 ih =>
    intro s e p hp hle
    by_cases he : e = e1 + 1
    · subst he
      have h4 := (Tr.Span.one s1 e1 k h1 h2 h3).begin
      have h5 := hp.begin
      omega
    · exact ih hp (by omega)
  | two s1 m1 e1 a b h1 h2 h3 h4 ih1 ih2 =>
    intro s e p hp hle
    have h6 := h3.le
    by_cases he : e = e1 + 1
    · subst he
      have h7 := (Tr.Span.two s1 m1 e1 a b h1 h2 h3 h4).begin
      have h8 := hp.begin
      omega
    · by_cases hm : e ≤ m1
      · exact ih1 hp hm
      · rcases ih2 hp (by omega) with h7 | h7
        · omega
        · omega
/-- A part of a list is one of a piece of it. -/
theorem span_shift {l l2 : List Int} {s e : Nat} {p : Tr.Pt} (h : Tr.Span l s e p) (d : Nat) : d ≤ s → (∀ i, d ≤ i → i ≤ e → l2.getD (i - d) 0 = l.getD i 0 ∧ i - d < l2.length) → ∃ p', Tr.Span l2 (s - d) (e - d) p' := by
  induction h with
  | leaf i h1 h2 =>
    intro hd hl
    have h3 := hl i hd (Nat.le_refl _)
    exact ⟨_, .leaf (i - d) h3.2 (by rw [h3.1]; exact h2)⟩
  | one s1 e1 k h1 h2 h3 ih =>
    intro hd hl
    have h4 := h3.le
    have h5 := hl (e1 + 1) (by omega) (Nat.le_refl _)
    obtain ⟨p', hp'⟩ := ih hd (fun i hi1 hi2 => hl i hi1 (by omega))
    rw [show e1 + 1 - d = (e1 - d) + 1 by omega] at h5 ⊢
    exact ⟨_, .one (s1 - d) (e1 - d) p' h5.2 (by rw [h5.1]; exact h2) hp'⟩
  | two s1 m1 e1 a b h1 h2 h3 h4 ih1 ih2 =>
    intro hd hl
    have h6 := h3.le
    have h7 := h4.le
    have h5 := hl (e1 + 1) (by omega) (Nat.le_refl _)
    obtain ⟨p1, hp1⟩ := ih1 hd (fun i hi1 hi2 => hl i hi1 (by omega))
    obtain ⟨p2, hp2⟩ := ih2 (by omega) (fun i hi1 hi2 => hl i hi1 (by omega))
    rw [show e1 + 1 - d = (e1 - d) + 1 by omega] at h5 ⊢
    rw [show m1 + 1 - d = (m1 - d) + 1 by omega] at hp2
    exact ⟨_, .two (s1 - d) (m1 - d) (e1 - d) p1 p2 h5.2 (by rw [h5.1]; exact h2) hp1 hp2⟩
theorem fm_piece {l : List It} (hf : fm l = true) {s e : Nat} {p : Tr.Pt} (h : Tr.Span (opsOf l) s e p) : fm ((l.drop s).take (e + 1 - s)) = true := by
  obtain ⟨h1, h2, h3⟩ := fm_yes hf
  have hle := h.le
  rw [opsOf_len] at hle
  have hlen : ((l.drop s).take (e + 1 - s)).length = e + 1 - s := by simp; omega
  obtain ⟨p', hp'⟩ := span_shift (l2 := opsOf ((l.drop s).take (e + 1 - s))) h s (Nat.le_refl _) (fun i hi1 hi2 => by
    rw [opsOf_len, hlen]
    refine ⟨?_, by omega⟩
    rw [opsOf_at (by rw [hlen]; omega), opsOf_at (by omega)]
    congr 1
    rw [List.getElem_take, List.getElem_drop]
    congr 1
    omega)
  rw [Nat.sub_self] at hp'
  have hb := hp'.begin
  unfold fm
  rw [hlen, decide_eq_true (by omega), decide_eq_true (by omega)]
  show (true && true && Tr.okF _) = true
  unfold Tr.okF
  rw [opsOf_len, hlen]
  rw [show e + 1 - s = e - s + 1 by omega] at hb ⊢
  rw [hb]
  rfl
theorem flat_drop {α : Type} {enc : α → List Value} {k : Nat} (hk : ∀ x, (enc x).length = k) : ∀ (l : List α) (p : Nat), Rec.flat enc (l.drop p) = (Rec.flat enc l).drop (p * k)
  | l, 0 => by simp
  | [], p + 1 => by simp [Rec.flat]
  | x :: l, p + 1 => by
    rw [List.drop_succ_cons, flat_drop hk l p, Rec.flat_cons, Nat.add_mul, Nat.one_mul, Nat.add_comm, ← List.drop_drop, List.drop_left' (hk x)]
theorem flat_take {α : Type} {enc : α → List Value} {k : Nat} (hk : ∀ x, (enc x).length = k) : ∀ (l : List α) (p : Nat), Rec.flat enc (l.take p) = (Rec.flat enc l).take (p * k)
  | l, 0 => by simp [Rec.flat]
  | [], p + 1 => by simp [Rec.flat]
  | x :: l, p + 1 => by
    have h1 : (enc x).take (p * k + k) = enc x := List.take_of_length_le (by rw [hk]; omega)
    rw [List.take_succ_cons, Rec.flat_cons, flat_take hk l p, Rec.flat_cons, List.take_append, hk, Nat.add_mul, Nat.one_mul, Nat.add_sub_cancel, h1]
/-- A piece of a list that came in. -/
theorem RdI.piece {w : World} {b off : Nat} {l : List It} (h : RdI w (some ⟨b, off, none⟩) l) (s n : Nat) : RdI w (some ⟨b, off + s * 9, none⟩) ((l.drop s).take n) := by
  unfold RdI at *
  rw [flat_take It.cells_len, flat_drop It.cells_len]
  rcases h with h | ⟨b', off', he, hc⟩
  · rw [h]; exact Or.inl (by simp)
  · simp only [Option.some.injEq, Addr.mk.injEq, and_true] at he
    obtain ⟨rfl, rfl⟩ := he
    refine Or.inr ⟨b, off + s * 9, rfl, fun j hj => ?_⟩
    have hj : j < n * 9 ∧ s * 9 + j < (Rec.flat It.cells l).length := by simp at hj; omega
    rw [List.getElem?_take, if_pos hj.1, List.getElem?_drop, Nat.add_assoc]
    exact hc _ hj.2
theorem start_in {l : List It} (hf : fm l = true) {j : Nat} (hj : j < l.length) : ∃ s : Nat, startOf l j = (s : Int) ∧ s ≤ j ∧ Tr.Span (opsOf l) s j (partAt l j) := by
  obtain ⟨s, hsp⟩ := part_span hf hj
  exact ⟨s, by rw [start_of hf hj, hsp.le.2.2.2], hsp.le.1, hsp⟩
theorem start_all {l : List It} (hf : fm l = true) : startOf l ((l.length : Int) - 1) = 0 := by
  obtain ⟨h1, h2, h3⟩ := fm_yes hf
  have h4 := of_decide_eq_true h3
  rw [opsOf_len] at h4
  unfold startOf
  rw [if_pos ⟨hf, by omega, by omega⟩, show ((l.length : Int) - 1).toNat + 1 = l.length by omega, h4]
set_option maxRecDepth 100000 in
set_option maxHeartbeats 2000000 in
theorem treeNests_walk (a : Option Addr) (c : Nat) (l : List It) (x y : Int) (w : World) (hl : RdI w a l) (hm : l.length ≤ maxLen) (hcap : l.length ≤ c) :
    Calls Try.prog 8 #[.slice a l.length c, .int .i64 x, .int .i64 y] w fun en w' => en = .returned (.bool true) ∧ Below w.heap.size w w' := by
  have hu : ∀ b : Bool, ¬ (some undef = some (Value.bool b)) := fun b h => by cases h
  have hm2 : l.length ≤ 9223372036854775807 := by unfold maxLen at hm; omega
  have C1 : Hid (∀ w', Below w.heap.size w w' → Calls Try.prog 13 #[.slice a l.length c] w' fun e w2 => e = .returned (.int .i64 (chk l)) ∧ Below w'.heap.size w' w2) := Lib.hid (fun w' hb => check_any a c l w' (hl.mono hb (Nat.le_refl _)) hm)
  have C2 : Hid (∀ w', Below w.heap.size w w' → Calls Try.prog 14 #[.slice a l.length c] w' fun e w2 => e = .returned (.int .i64 (chk l)) ∧ w' = w2) := Lib.hid (fun w' hb => rcheck_any a c l w' (hl.mono hb (Nat.le_refl _)) hm)
  by_cases hin : fm l = true ∧ 0 ≤ x ∧ x ≤ y ∧ y < (l.length : Int)
  · obtain ⟨hf, hx, hxy, hy⟩ := hin
    obtain ⟨i, rfl⟩ : ∃ i : Nat, x = (i : Int) := ⟨x.toNat, by omega⟩
    obtain ⟨j, rfl⟩ : ∃ j : Nat, y = (j : Int) := ⟨y.toNat, by omega⟩
    obtain ⟨p, hp1, hp2, hp3⟩ := start_in hf (show i < l.length by omega)
    obtain ⟨q, hq1, hq2, hq3⟩ := start_in hf (show j < l.length by omega)
    have hn := span_nests hq3 hp3 (by omega)
    have hpc := fm_piece hf hp3
    have h64 := (fm_yes hf).2.1
    obtain ⟨b, off, ha, _⟩ := hl.at (by omega)
    subst ha
    have S1 : Hid (∀ w', Below w.heap.size w w' → Calls Try.prog 22 #[.slice (some ⟨b, off, none⟩) l.length c, .int .i64 i] w' fun e w2 => e = .returned (.int .i64 (p : Int)) ∧ Below w'.heap.size w' w2) := Lib.hid (fun w' hb => by
      have h := tstart_any (some ⟨b, off, none⟩) c l i w' (hl.mono hb (Nat.le_refl _)) hm
      rw [hp1] at h; exact h)
    have S2 : Hid (∀ w', Below w.heap.size w w' → Calls Try.prog 22 #[.slice (some ⟨b, off, none⟩) l.length c, .int .i64 j] w' fun e w2 => e = .returned (.int .i64 (q : Int)) ∧ Below w'.heap.size w' w2) := Lib.hid (fun w' hb => by
      have h := tstart_any (some ⟨b, off, none⟩) c l j w' (hl.mono hb (Nat.le_refl _)) hm
      rw [hq1] at h; exact h)
    have S3 : Hid (∀ w', Below w.heap.size w w' → Calls Try.prog 22 #[.slice (some ⟨b, off, none⟩) l.length c, .int .i64 ((l.length : Int) - 1)] w' fun e w2 => e = .returned (.int .i64 0) ∧ Below w'.heap.size w' w2) := Lib.hid (fun w' hb => by
      have h := tstart_any (some ⟨b, off, none⟩) c l ((l.length : Int) - 1) w' (hl.mono hb (Nat.le_refl _)) hm
      rw [start_all hf] at h; exact h)
    have S4 : Hid (∀ w', Below w.heap.size w w' → Calls Try.prog 13 #[.slice (some ⟨b, off + p * 9, none⟩) (i + 1 - p) (c - p)] w' fun e w2 => e = .returned (.int .i64 0) ∧ Below w'.heap.size w' w2) := Lib.hid (fun w' hb => by
      have hlen : ((l.drop p).take (i + 1 - p)).length = i + 1 - p := by simp; omega
      have h := check_any (some ⟨b, off + p * 9, none⟩) (c - p) ((l.drop p).take (i + 1 - p)) w' (RdI.piece (hl.mono hb (Nat.le_refl _)) p (i + 1 - p)) (by rw [hlen]; omega)
      rw [chk_ok hpc, hlen] at h
      exact h)
    rw [chk_ok hf] at C1
    have hij : i ≤ j := by omega
    have hjl : j < l.length := by omega
    have hpcap : p < c := by omega
    have hicap : i + 1 ≤ c := by omega
    have hcne : ¬ c = p := by omega
    clear hl hm hf hp1 hp3 hq1 hq3 hpc hx hxy hy C2
    go_enter Try.func8, Try.ntmps8
    go_wp2_with fail
    refine (C1.out w (Below.refl _ _)).mono ?_
    rintro e w2 ⟨rfl, hb2⟩
    have B2 := Lib.hid hb2
    clear hb2 C1
    go_wp2_with fail
    refine (S1.out w2 B2.out).mono ?_
    rintro e w3 ⟨rfl, hb3⟩
    have B3 := Lib.hid (B2.out.trans (hb3.mono B2.out.size))
    clear hb3
    go_wp2_with fail
    refine (S2.out w3 B3.out).mono ?_
    rintro e w4 ⟨rfl, hb4⟩
    have B4 := Lib.hid (B3.out.trans (hb4.mono B3.out.size))
    clear hb4
    by_cases hqp : q ≤ p
    · go_wp2_with fail
      refine (S3.out w4 B4.out).mono ?_
      rintro e w5 ⟨rfl, hb5⟩
      have B5 := Lib.hid (B4.out.trans (hb5.mono B4.out.size))
      clear hb5
      go_wp2_with fail
      refine (S4.out w5 B5.out).mono ?_
      rintro e w6 ⟨rfl, hb6⟩
      have B6 := Lib.hid (B5.out.trans (hb6.mono B5.out.size))
      clear hb6
      go_wp2_with fail
      refine (awake04_end w w6 B6.out).mono ?_
      rintro e w7 ⟨rfl, hb7⟩
      go_wp2_with fail
      go_ret
      exact ⟨rfl, hb7⟩
    · have hiq : i < q := by omega
      go_wp2_with fail
      refine (S3.out w4 B4.out).mono ?_
      rintro e w5 ⟨rfl, hb5⟩
      have B5 := Lib.hid (B4.out.trans (hb5.mono B4.out.size))
      clear hb5
      go_wp2_with fail
      refine (S4.out w5 B5.out).mono ?_
      rintro e w6 ⟨rfl, hb6⟩
      have B6 := Lib.hid (B5.out.trans (hb6.mono B5.out.size))
      clear hb6
      go_wp2_with fail
      refine (awake04_end w w6 B6.out).mono ?_
      rintro e w7 ⟨rfl, hb7⟩
      go_wp2_with fail
      go_ret
      exact ⟨rfl, hb7⟩
  · cases hf : fm l with
    | false =>
      have hz : (chk l != 0) = true := by rw [bne_iff_ne]; rcases chk_no hf with h | h | h <;> omega
      have hzz : (chk l == chk l) = true := by simp
      clear hl hm hf hin
      generalize chk l = n at *
      go_enter Try.func8, Try.ntmps8
      go_wp2_with fail
      refine (C1.out w (Below.refl _ _)).mono ?_
      rintro e w2 ⟨rfl, hb2⟩
      have B2 := Lib.hid hb2
      clear hb2
      go_wp2_with fail
      refine (C1.out w2 B2.out).mono ?_
      rintro e w3 ⟨rfl, hb3⟩
      have B3 := Lib.hid (B2.out.trans (hb3.mono B2.out.size))
      clear hb3
      go_wp2_with fail
      refine (C2.out w3 B3.out).mono ?_
      rintro e w4 ⟨rfl, rfl⟩
      go_wp2_with fail
      refine (awake04_end w w3 B3.out).mono ?_
      rintro e w7 ⟨rfl, hb7⟩
      go_wp2_with fail
      go_ret
      exact ⟨rfl, hb7⟩
    | true =>
      rw [chk_ok hf] at C1 C2
      by_cases hx : x < 0
      · clear hl hm hf hin
        go_enter Try.func8, Try.ntmps8
        go_wp2_with fail
        refine (C1.out w (Below.refl _ _)).mono ?_
        rintro e w2 ⟨rfl, hb2⟩
        have B2 := Lib.hid hb2
        clear hb2
        go_wp2_with fail
        refine (C1.out w2 B2.out).mono ?_
        rintro e w3 ⟨rfl, hb3⟩
        have B3 := Lib.hid (B2.out.trans (hb3.mono B2.out.size))
        clear hb3
        go_wp2_with fail
        refine (C2.out w3 B3.out).mono ?_
        rintro e w4 ⟨rfl, rfl⟩
        go_wp2_with fail
        refine (awake04_end w w3 B3.out).mono ?_
        rintro e w7 ⟨rfl, hb7⟩
        go_wp2_with fail
        go_ret
        exact ⟨rfl, hb7⟩
      · by_cases hxy : y < x
        · clear hl hm hf hin
          go_enter Try.func8, Try.ntmps8
          go_wp2_with fail
          refine (C1.out w (Below.refl _ _)).mono ?_
          rintro e w2 ⟨rfl, hb2⟩
          have B2 := Lib.hid hb2
          clear hb2
          go_wp2_with fail
          refine (C1.out w2 B2.out).mono ?_
          rintro e w3 ⟨rfl, hb3⟩
          have B3 := Lib.hid (B2.out.trans (hb3.mono B2.out.size))
          clear hb3
          go_wp2_with fail
          refine (C2.out w3 B3.out).mono ?_
          rintro e w4 ⟨rfl, rfl⟩
          go_wp2_with fail
          refine (awake04_end w w3 B3.out).mono ?_
          rintro e w7 ⟨rfl, hb7⟩
          go_wp2_with fail
          go_ret
          exact ⟨rfl, hb7⟩
        · have hy : (l.length : Int) ≤ y := by
            rcases (by omega : (l.length : Int) ≤ y ∨ y < (l.length : Int)) with h | h
            · exact h
            · exact absurd ⟨hf, by omega, by omega, h⟩ hin
          clear hl hm hf hin
          go_enter Try.func8, Try.ntmps8
          go_wp2_with fail
          refine (C1.out w (Below.refl _ _)).mono ?_
          rintro e w2 ⟨rfl, hb2⟩
          have B2 := Lib.hid hb2
          clear hb2
          go_wp2_with fail
          refine (C1.out w2 B2.out).mono ?_
          rintro e w3 ⟨rfl, hb3⟩
          have B3 := Lib.hid (B2.out.trans (hb3.mono B2.out.size))
          clear hb3
          go_wp2_with fail
          refine (C2.out w3 B3.out).mono ?_
          rintro e w4 ⟨rfl, rfl⟩
          go_wp2_with fail
          refine (awake04_end w w3 B3.out).mono ?_
          rintro e w7 ⟨rfl, hb7⟩
          go_wp2_with fail
          go_ret
          exact ⟨rfl, hb7⟩
/-- What lies behind a slice that came in. -/
theorem slice_cap {H : Type} {enc : TypeId × Value → H} {P : Program} {w : World} {t e : TypeId} {a : Option Addr} {len cap : Nat} {d : DataW H} {ps : List MemPlace}
    (ht : P.underlying t = some (.slice e)) (h : DataW.Trod enc P w 0 (fun _ => true) true t (.slice a len cap) d ps) : len ≤ cap := by
  obtain ⟨fuel, hf⟩ := h
  rcases DataW.trod_slice ht hf with ⟨hcs, _⟩ | ⟨x, l, c, _, _, _, _, hcs, _, _, hl, _⟩
  · simp [Value.cells] at hcs
    obtain ⟨_, rfl, rfl⟩ := hcs
    exact Nat.le_refl _
  · simp [Value.cells] at hcs
    obtain ⟨_, rfl, rfl⟩ := hcs
    exact hl
end Go.Proofs.Ytpbgicfoopicbaa
