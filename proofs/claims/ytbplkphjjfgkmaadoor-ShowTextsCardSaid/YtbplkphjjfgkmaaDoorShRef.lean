/-
  ref.tight, ref.word, ref.named: by walks.
-/
import Derived.Test.YtbplkphjjfgkmaaDoorShAtom
import Derived.Test.YtbplkphjjfgkmaaDoorShRnm
import Derived.Test.YtbplkphjjfgkmaaDoorShSgn
namespace Go.Proofs.YtbplkphjjfgkmaaDoor
open Go.RowKit
set_option linter.unusedVariables false
set_option linter.unusedSimpArgs false

theorem rtight_any (op : Int) (w : World) : Calls Tryd.prog 146 #[.int .i64 op] w fun e w' => e = .returned (.int .i64 (Sh.tg op)) ∧ w = w' := by
  have hu : ∀ b : Bool, ¬ (some undef = some (Value.bool b)) := fun b h => by cases h
  by_cases h1 : op = 18
  · subst h1
    go_enter Tryd.func146, Tryd.ntmps146
    go_wp2_with fail
    go_ret
    exact ⟨rfl, rfl⟩
  · by_cases h2 : op = 17
    · subst h2
      go_enter Tryd.func146, Tryd.ntmps146
      go_wp2_with fail
      go_ret
      exact ⟨rfl, rfl⟩
    · by_cases h3 : op = 16
      · subst h3
        go_enter Tryd.func146, Tryd.ntmps146
        go_wp2_with fail
        go_ret
        exact ⟨rfl, rfl⟩
      · have HT : Hid (Sh.tg op = 4) := Lib.hid (by unfold Sh.tg; rw [if_neg h1, if_neg h2, if_neg h3])
        go_enter Tryd.func146, Tryd.ntmps146
        go_wp2_with fail
        go_ret
        exact ⟨by rw [HT.out]; rfl, rfl⟩
theorem rword_any (nm : ByteArray) (v : Int) (w : World) (hv : -9223372036854775808 ≤ v ∧ v ≤ 9223372036854775807) :
    Calls Tryd.prog 147 #[.agg #[.string nm, .int .i64 v]] w fun e w' => e = .returned (.string ⟨(Sh.wordL nm v).toArray⟩) ∧ Below w.heap.size w w' := by
  have hu : ∀ b : Bool, ¬ (some undef = some (Value.bool b)) := fun b h => by cases h
  have HP := Lib.hid (fun W => rprint_any v W hv)
  have HB := Lib.hid (sh_bn w (.cells #[.string nm, .int .i64 v] 52))
  clear hv
  by_cases h0 : nm.size = 0
  · have HL : Hid (Sh.wordL nm v = Lib.itoa v) := Lib.hid (if_pos h0)
    have := size0 h0
    subst this
    clear h0
    go_enter Tryd.func147, Tryd.ntmps147
    go_wp2_with fail
    refine (HP.out _).mono ?_
    rintro e w2 ⟨rfl, hb2⟩
    have HB2 := Lib.hid (HB.out.trans (hb2.mono HB.out.size))
    clear hb2
    go_wp2_with fail
    go_ret
    exact ⟨by rw [HL.out]; rfl, HB2.out⟩
  · have he := ne_empty h0
    have HL : Hid (Sh.wordL nm v = nm.data.toList) := Lib.hid (if_neg h0)
    go_enter Tryd.func147, Tryd.ntmps147
    go_wp2_with fail
    go_ret
    exact ⟨by rw [HL.out]; rfl, HB.out⟩
theorem rnamed_any (x : It) (w : World) :
    Calls Tryd.prog 82 #[.agg #[.int .i64 x.op, .string x.ln, .int .i64 x.lv, .string x.rn, .int .i64 x.rv, .string x.nm, .string x.us, .int .i64 x.line, .int .i64 x.col]] w fun e w' => e = .returned (.bool (Sh.atomOk x)) ∧ Below w.heap.size w w' := by
  have hu : ∀ b : Bool, ¬ (some undef = some (Value.bool b)) := fun b h => by cases h
  have hb1 := sh_bn w (.cells #[.int .i64 x.op, .string x.ln, .int .i64 x.lv, .string x.rn, .int .i64 x.rv, .string x.nm, .string x.us, .int .i64 x.line, .int .i64 x.col] 54)
  obtain ⟨W1, hW1⟩ : ∃ W1 : World, W1 = w.alloc (.cells #[.int .i64 x.op, .string x.ln, .int .i64 x.lv, .string x.rn, .int .i64 x.rv, .string x.nm, .string x.us, .int .i64 x.line, .int .i64 x.col] 54) := ⟨_, rfl⟩
  rw [← hW1] at hb1
  have d1_0 : W1.cell? ⟨w.heap.size, 0, none⟩ = some (.int .i64 x.op) := by rw [hW1, World.cell?_alloc_at _ _ _ _ rfl]; rfl
  have d1_1 : W1.cell? ⟨w.heap.size, 1, none⟩ = some (.string x.ln) := by rw [hW1, World.cell?_alloc_at _ _ _ _ rfl]; rfl
  have d1_3 : W1.cell? ⟨w.heap.size, 3, none⟩ = some (.string x.rn) := by rw [hW1, World.cell?_alloc_at _ _ _ _ rfl]; rfl
  have d1_5 : W1.cell? ⟨w.heap.size, 5, none⟩ = some (.string x.nm) := by rw [hW1, World.cell?_alloc_at _ _ _ _ rfl]; rfl
  have d1_6 : W1.cell? ⟨w.heap.size, 6, none⟩ = some (.string x.us) := by rw [hW1, World.cell?_alloc_at _ _ _ _ rfl]; rfl
  have H1 := Lib.hid hb1
  have HW := Lib.hid hW1
  have HN : Hid (∀ W (s : ByteArray), Calls Tryd.prog 43 #[.string s] W fun e w' => e = .returned (.bool (Sh.nameB s.data.toList)) ∧ Below W.heap.size W w') := Lib.hid fun W s => rname_any s W
  clear hb1 hW1
  go_enter Tryd.func82, Tryd.ntmps82
  go_upto_region 1 with fail
  rw [← HW.out]
  clear HW
  by_cases hA : 3 ≤ x.op ∧ x.op ≤ 8
  · have hA1 : (3 : Int) ≤ x.op := hA.1
    have hA2 : x.op ≤ 8 := hA.2
    have hA3 : ¬ (9 : Int) ≤ x.op := by omega
    have hA4 : ¬ x.op = 12 := by omega
    have HOK : Hid (Sh.atomOk x = (Sh.wordOk x.ln && Sh.wordOk x.rn)) := Lib.hid (by unfold Sh.atomOk; rw [if_neg (by omega), if_neg (by omega), if_pos hA])
    unfold Sh.wordOk at HOK
    by_cases h1 : x.ln.size = 0
    · rw [decide_eq_true h1, Bool.true_or, Bool.true_and] at HOK
      have e1 := size0 h1
      rw [e1] at d1_1
      by_cases h2 : x.rn.size = 0
      · rw [decide_eq_true h2, Bool.true_or] at HOK
        have e2 := size0 h2
        rw [e2] at d1_3
        clear h1 h2 e1 e2 hA
        go_wp2_with fail
        go_ret
        exact ⟨by rw [HOK.out]; rfl, H1.out⟩
      · rw [decide_eq_false h2, Bool.false_or] at HOK
        have e2 := ne_empty h2
        clear h1 h2 e1 hA
        go_wp2_with fail
        refine (HN.out _ x.rn).mono ?_
        rintro e w2 ⟨rfl, hb⟩
        have H2 := Lib.hid (H1.out.trans (hb.mono H1.out.size))
        have d2_0 := sh_mono d1_0 hb (Nat.le_refl _)
        have d2_1 := sh_mono d1_1 hb (Nat.le_refl _)
        have d2_3 := sh_mono d1_3 hb (Nat.le_refl _)
        have d2_5 := sh_mono d1_5 hb (Nat.le_refl _)
        have d2_6 := sh_mono d1_6 hb (Nat.le_refl _)
        clear hb d1_0 d1_1 d1_3 d1_5 d1_6
        go_wp2_with fail
        go_ret
        exact ⟨by rw [HOK.out]; rfl, H2.out⟩
    · rw [decide_eq_false h1, Bool.false_or] at HOK
      have e1 := ne_empty h1
      by_cases h2 : x.rn.size = 0
      · rw [decide_eq_true h2, Bool.true_or, Bool.and_true] at HOK
        have e2 := size0 h2
        rw [e2] at d1_3
        clear h1 h2 e2 hA
        go_wp2_with fail
        refine (HN.out _ x.ln).mono ?_
        rintro e w2 ⟨rfl, hb⟩
        have H2 := Lib.hid (H1.out.trans (hb.mono H1.out.size))
        have d2_0 := sh_mono d1_0 hb (Nat.le_refl _)
        have d2_1 := sh_mono d1_1 hb (Nat.le_refl _)
        have d2_3 := sh_mono d1_3 hb (Nat.le_refl _)
        have d2_5 := sh_mono d1_5 hb (Nat.le_refl _)
        have d2_6 := sh_mono d1_6 hb (Nat.le_refl _)
        clear hb d1_0 d1_1 d1_3 d1_5 d1_6
        generalize Sh.nameB x.ln.data.toList = nb at *
        cases nb
        · go_wp2_with fail
          go_ret
          exact ⟨by rw [HOK.out]; rfl, H2.out⟩
        · go_wp2_with fail
          go_ret
          exact ⟨by rw [HOK.out]; rfl, H2.out⟩
      · rw [decide_eq_false h2, Bool.false_or] at HOK
        have e2 := ne_empty h2
        clear h1 h2 hA
        go_wp2_with fail
        refine (HN.out _ x.ln).mono ?_
        rintro e w2 ⟨rfl, hb⟩
        have H2 := Lib.hid (H1.out.trans (hb.mono H1.out.size))
        have d2_0 := sh_mono d1_0 hb (Nat.le_refl _)
        have d2_1 := sh_mono d1_1 hb (Nat.le_refl _)
        have d2_3 := sh_mono d1_3 hb (Nat.le_refl _)
        have d2_5 := sh_mono d1_5 hb (Nat.le_refl _)
        have d2_6 := sh_mono d1_6 hb (Nat.le_refl _)
        clear hb d1_0 d1_1 d1_3 d1_5 d1_6
        generalize Sh.nameB x.ln.data.toList = nb at *
        cases nb
        · go_wp2_with fail
          go_ret
          exact ⟨by rw [HOK.out]; rfl, H2.out⟩
        · rw [Bool.true_and] at HOK
          go_wp2_with fail
          refine (HN.out _ x.rn).mono ?_
          rintro e w3 ⟨rfl, hb⟩
          have H3 := Lib.hid (H2.out.trans (hb.mono H2.out.size))
          have d3_0 := sh_mono d2_0 hb (Nat.le_refl _)
          have d3_1 := sh_mono d2_1 hb (Nat.le_refl _)
          have d3_3 := sh_mono d2_3 hb (Nat.le_refl _)
          have d3_5 := sh_mono d2_5 hb (Nat.le_refl _)
          have d3_6 := sh_mono d2_6 hb (Nat.le_refl _)
          clear hb d2_0 d2_1 d2_3 d2_5 d2_6
          go_wp2_with fail
          go_ret
          exact ⟨by rw [HOK.out]; rfl, H3.out⟩
  · by_cases hB : 9 ≤ x.op ∧ x.op ≤ 11
    · have hB1 : (3 : Int) ≤ x.op := by omega
      have hB2 : ¬ x.op ≤ 8 := by omega
      have hB3 : (9 : Int) ≤ x.op := hB.1
      have hB4 : x.op ≤ 12 := by omega
      have hB5 : ¬ x.op = 12 := by omega
      have HOK : Hid (Sh.atomOk x = Sh.nameB x.nm.data.toList) := Lib.hid (if_pos hB)
      clear hA hB
      go_wp2_with fail
      refine (HN.out _ x.nm).mono ?_
      rintro e w2 ⟨rfl, hb⟩
      have H2 := Lib.hid (H1.out.trans (hb.mono H1.out.size))
      have d2_0 := sh_mono d1_0 hb (Nat.le_refl _)
      have d2_1 := sh_mono d1_1 hb (Nat.le_refl _)
      have d2_3 := sh_mono d1_3 hb (Nat.le_refl _)
      have d2_5 := sh_mono d1_5 hb (Nat.le_refl _)
      have d2_6 := sh_mono d1_6 hb (Nat.le_refl _)
      clear hb d1_0 d1_1 d1_3 d1_5 d1_6
      go_wp2_with fail
      go_ret
      exact ⟨by rw [HOK.out]; rfl, H2.out⟩
    · by_cases hC : x.op = 12
      · have HOK : Hid (Sh.atomOk x = (Sh.nameB x.us.data.toList && Sh.nameB x.nm.data.toList)) := Lib.hid (by unfold Sh.atomOk; rw [if_neg (by omega), if_pos hC])
        rw [hC] at d1_0
        clear hA hB hC
        go_wp2_with fail
        refine (HN.out _ x.nm).mono ?_
        rintro e w2 ⟨rfl, hb⟩
        have H2 := Lib.hid (H1.out.trans (hb.mono H1.out.size))
        have d2_0 := sh_mono d1_0 hb (Nat.le_refl _)
        have d2_1 := sh_mono d1_1 hb (Nat.le_refl _)
        have d2_3 := sh_mono d1_3 hb (Nat.le_refl _)
        have d2_5 := sh_mono d1_5 hb (Nat.le_refl _)
        have d2_6 := sh_mono d1_6 hb (Nat.le_refl _)
        clear hb d1_0 d1_1 d1_3 d1_5 d1_6
        generalize Sh.nameB x.nm.data.toList = nb at *
        cases nb
        · rw [Bool.and_false] at HOK
          go_wp2_with fail
          go_ret
          exact ⟨by rw [HOK.out]; rfl, H2.out⟩
        · rw [Bool.and_true] at HOK
          go_wp2_with fail
          refine (HN.out _ x.us).mono ?_
          rintro e w3 ⟨rfl, hb⟩
          have H3 := Lib.hid (H2.out.trans (hb.mono H2.out.size))
          have d3_0 := sh_mono d2_0 hb (Nat.le_refl _)
          have d3_1 := sh_mono d2_1 hb (Nat.le_refl _)
          have d3_3 := sh_mono d2_3 hb (Nat.le_refl _)
          have d3_5 := sh_mono d2_5 hb (Nat.le_refl _)
          have d3_6 := sh_mono d2_6 hb (Nat.le_refl _)
          clear hb d2_0 d2_1 d2_3 d2_5 d2_6
          go_wp2_with fail
          go_ret
          exact ⟨by rw [HOK.out]; rfl, H3.out⟩
      · have HOK : Hid (Sh.atomOk x = true) := Lib.hid (by unfold Sh.atomOk; rw [if_neg hB, if_neg hC, if_neg hA])
        by_cases h3 : 3 ≤ x.op
        · have h8 : ¬ x.op ≤ 8 := by omega
          have h9 : (9 : Int) ≤ x.op := by omega
          have h12 : ¬ x.op ≤ 12 := by omega
          clear hA hB
          go_wp2_with fail
          go_ret
          exact ⟨by rw [HOK.out]; rfl, H1.out⟩
        · have h9 : ¬ (9 : Int) ≤ x.op := by omega
          clear hA hB
          go_wp2_with fail
          go_ret
          exact ⟨by rw [HOK.out]; rfl, H1.out⟩
end Go.Proofs.YtbplkphjjfgkmaaDoor
