/-
  Bind: the law on which instructions any items have, by a walk.
-/
import Derived.Test.YtpbgicfoopicbaaBndAw
import Derived.Deep.RegionWith
namespace Go.Proofs.Ytpbgicfoopicbaa
open Go.RowKit Go.Maps
set_option linter.unusedVariables false
set_option linter.unusedSimpArgs false

theorem bchk_bad {l : List St} {i : Nat} (hi : i < l.length) (hg : Nm.Good (l.take i)) (hne : Nm.errOf (l.take i) l[i] ≠ 0) {w w' : World} {e : Ending} (h : ChkAns l w e w') :
    e = .returned (.agg #[.int .i64 (Nm.errOf (l.take i) l[i]), .int .i64 l[i].line, .int .i64 l[i].col]) ∧ Below w.heap.size w w' := by
  rcases h with ⟨h0, _⟩ | ⟨i', hi', hg', hne', h1, h2⟩
  · exact (Nm.good_bad hi h0 hne).elim
  · obtain rfl : i = i' := Nm.bad_one hi hi' hg hg' hne hne'
    exact ⟨h1, h2⟩
set_option maxHeartbeats 2000000 in
theorem bindFormulas_walk (a : Option Addr) (c : Nat) (l : List St) (a1 : Option Addr) (c1 : Nat) (f : List It) (w : World) (hl : RdS w a l) (hf : ∀ x ∈ l, x.fit) (hm : l.length ≤ maxLen) (hl1 : RdI w a1 f) (hf1 : ∀ x ∈ f, x.ok) (hm1 : f.length ≤ maxLen) :
    Calls Try.prog 9 #[.slice a l.length c, .slice a1 f.length c1] w fun e w' => e = .returned (.bool true) ∧ Below w.heap.size w w' := by
  have hm2 : l.length ≤ 9223372036854775807 := by unfold maxLen at hm; omega
  have HAW : Hid (∀ w', Below w.heap.size w w' → Calls Try.prog 30 #[] w' fun e w2 => e = .returned (.bool true) ∧ Below w.heap.size w w2) := Lib.hid fun w' hb => (bawake_any w').mono fun e w2 h => ⟨h.1, hb.trans (h.2.mono hb.size)⟩
  have hu : ∀ b : Bool, ¬ (some undef = some (Value.bool b)) := fun b h => by cases h
  by_cases hbig : (80 : Int) < (l.length : Int) ∨ (¬ (80 : Int) < (l.length : Int) ∧ (100 : Int) < (f.length : Int))
  · clear hl hf hl1 hf1
    rcases hbig with h1 | ⟨h1, h2⟩
    all_goals
      go_enter Try.func9, Try.ntmps9
      go_wp2_with fail
      refine (HAW.out w (Below.refl _ _)).mono ?_
      rintro e w2 ⟨rfl, hb⟩
      have HB := Lib.hid hb
      clear hb
      go_wp2_with fail
      go_ret
      exact ⟨rfl, HB.out⟩
  · have h80 : ¬ (80 : Int) < (l.length : Int) := fun h => hbig (Or.inl h)
    have h100 : ¬ (100 : Int) < (f.length : Int) := fun h => hbig (Or.inr ⟨h80, h⟩)
    have hf100 : f.length ≤ 100 := by omega
    have HBD := Lib.hid (build_any a c l w hl hf hm2)
    have HL := Lib.hid hl
    have HL1 := Lib.hid hl1
    have HF1 := Lib.hid hf1
    have HCK : Hid (∀ w2, Below w.heap.size w w2 → Calls Try.prog 32 #[.slice a l.length c] w2 (ChkAns l w2)) := Lib.hid fun w2 hb => rcheck_any a c l w2 (hl.mono hb (Nat.le_refl _)) hf hm2
    clear hl hf hl1 hf1 hbig
    go_enter Try.func9, Try.ntmps9
    go_wp2_with fail
    refine (HBD.out).mono ?_
    clear HBD
    rintro e w1 (⟨hg, p, cs, vn, vp, b1, b2, D1, D2, rfl, hi, hb⟩ | ⟨i, hi, hg, hne, rfl, hb⟩)
    · have hsz : w.heap.size + 1 ≤ w1.heap.size := by have := lt_of_cell (hi.cell 0 |>.trans hi.c0); have := hi.base; simp only at *; omega
      have HNP : Hid (∀ w2, Below w1.heap.size w1 w2 → NeedP (npOf l) p w2) := Lib.hid fun w2 h => needP_of fun w3 h3 => hi.still hsz (h.trans (h3.mono h.size))
      have HBW : Hid (∀ w2, Below w1.heap.size w1 w2 → Below w.heap.size w w2) := Lib.hid fun w2 h => hb.trans (h.mono hb.size)
      have HNR : Hid (∀ w2, Below w1.heap.size w1 w2 → NeedR (npOf l) a l.length c w2) := Lib.hid fun w2 h => needR_of (HL.out.mono (hb.trans (h.mono hb.size)) (Nat.le_refl _)) hm2
      have HFM : Hid (∀ w2, Below w1.heap.size w1 w2 → Calls Try.prog 33 #[.pointer (some ⟨p, 0, none⟩), .slice a1 f.length c1] w2 (FmAns (npOf l) f w2)) := Lib.hid fun w2 h => formula_any (npOf l) p a1 c1 f w2 (HL1.out.mono (HBW.out w2 h) (Nat.le_refl _)) HF1.out hf100 (HNP.out w2 h)
      have HRF : Hid (∀ w2, Below w1.heap.size w1 w2 → Calls Try.prog 34 #[.slice a l.length c, .slice a1 f.length c1] w2 (FmAns (npOf l) f w2)) := Lib.hid fun w2 h => rformula_any (npOf l) a l.length c a1 c1 f w2 (HL1.out.mono (HBW.out w2 h) (Nat.le_refl _)) HF1.out hf100 (HNR.out w2 h)
      clear hi hb hg HNP HNR
      generalize npOf l = NP at *
      go_wp2_with fail
      have HB1 := Lib.hid (bbel_alloc w1 (.cells #[.int .i64 0, .int .i64 0, .int .i64 0] 48))
      generalize w1.alloc (.cells #[.int .i64 0, .int .i64 0, .int .i64 0] 48) = W1 at *
      refine (HFM.out W1 HB1.out).mono ?_
      rintro e w2 (⟨hok, v, rfl, hown, hb2⟩ | ⟨i, hi, hgo, hne, rfl, hb2⟩)
      · have HB2 := Lib.hid (HB1.out.trans (hb2.mono HB1.out.size))
        obtain ⟨av, cv, hv, rdv⟩ := own_reads hown (by simp)
        subst hv
        have RV := Lib.hid rdv
        have hF2 := heap_alloc_new w2 (.cells #[.int .i64 0, .int .i64 0, .int .i64 0] 48)
        have HB3 := Lib.hid (bbel_alloc w2 (.cells #[.int .i64 0, .int .i64 0, .int .i64 0] 48))
        have HF2 := Lib.hid hF2
        have HOK := Lib.hid hok
        clear hb2 hown rdv hF2 hok
        go_wp2_with fail
        generalize w2.alloc (.cells #[.int .i64 0, .int .i64 0, .int .i64 0] 48) = W2 at *
        refine (HRF.out W2 (HB2.out.trans (HB3.out.mono HB2.out.size))).mono ?_
        rintro e w3 (⟨_, v2, rfl, hown, hb3⟩ | ⟨i, hi, _, hne, _⟩)
        · obtain ⟨av2, cv2, hv2, rdv2⟩ := own_reads hown (by simp)
          subst hv2
          have HB4 := Lib.hid (HB2.out.trans ((HB3.out.trans (hb3.mono HB3.out.size)).mono HB2.out.size))
          obtain ⟨⟨f0, f1, f2⟩, hFl⟩ := cells_later HF2.out hb3
          have HSM : Hid (∀ o, Calls Try.prog 35 #[.slice av f.length cv, .slice av2 f.length cv2] (w3.alloc o) fun e w' => e = .returned (.bool true) ∧ Below (w3.alloc o).heap.size (w3.alloc o) w') := Lib.hid fun o => by
            have := same_any av av2 cv cv2 (f.map (insI NP)) (w3.alloc o) (RV.out.mono ((HB3.out.trans (hb3.mono HB3.out.size)).trans ((bbel_alloc w3 o).mono (by have := HB3.out.size; have := hb3.size; omega))) (Nat.le_refl _)) (rdv2.mono (bbel_alloc w3 o) (Nat.le_refl _)) (by rw [List.length_map]; exact hf100)
            rwa [List.length_map] at this
          have hq : ∀ w, (Op.equalIn 10000 48 (.agg #[.int .i64 0, .int .i64 0, .int .i64 0]) (.agg #[.int .i64 0, .int .i64 0, .int .i64 0])).run Try.prog w = .ok true w := fun w => neqFault 0 0 0 0 0 0 w
          have HF3 := Lib.hid (heap_alloc_new w3 (.cells #[.int .i64 0, .int .i64 0, .int .i64 0] 48))
          have HB5 := Lib.hid (bbel_alloc w3 (.cells #[.int .i64 0, .int .i64 0, .int .i64 0] 48))
          have HF2' : Hid (w3.heap[w2.heap.size]? = some (.cells #[.int .i64 0, .int .i64 0, .int .i64 0] 48 (0, 0))) := Lib.hid ((hb3.block _ (Array.getElem?_eq_some_iff.1 HF2.out).1).trans HF2.out)
          clear hb3 hown rdv2 f0 f1 f2 hFl
          go_wp2_with fail
          refine (HSM.out _).mono ?_
          rintro e w4 ⟨rfl, hb4⟩
          obtain ⟨⟨p0, p1, p2⟩, _⟩ := cells_later ((HB5.out.block _ (Array.getElem?_eq_some_iff.1 HF2'.out).1).trans HF2'.out) hb4
          obtain ⟨⟨q0, q1, q2⟩, _⟩ := cells_later HF3.out hb4
          have HB6 := Lib.hid (HB4.out.trans ((HB5.out.trans (hb4.mono HB5.out.size)).mono HB4.out.size))
          clear hb4
          go_wp2_with fail
          refine (HAW.out _ (HBW.out _ HB6.out)).mono ?_
          rintro e w9 ⟨rfl, hb9⟩
          have HB9 := Lib.hid hb9
          clear hb9
          go_wp2_with fail
          go_ret
          exact ⟨rfl, HB9.out⟩
        · exact absurd (HOK.out i hi) hne
      · have hfix : ∀ (e : Ending) (w3 w4 : World), FmAns NP f w3 e w4 → e = .returned (.tuple #[.slice none 0 0, .agg #[.int .i64 (errI NP f[i]), .int .i64 f[i].line, .int .i64 f[i].col]]) ∧ Below w3.heap.size w3 w4 := by
          rintro e w3 w4 (⟨hok, _⟩ | ⟨i', hi', hgo', hne', h1, h2⟩)
          · exact absurd (hok i hi) hne
          · rcases Nat.lt_trichotomy i i' with h | h | h
            · exact absurd (hgo' i h) hne
            · subst h; exact ⟨h1, h2⟩
            · exact absurd (hgo i' h) hne'
        have HRE : Hid (∀ w2, Below w1.heap.size w1 w2 → Calls Try.prog 34 #[.slice a l.length c, .slice a1 f.length c1] w2 fun e w3 => e = .returned (.tuple #[.slice none 0 0, .agg #[.int .i64 (errI NP f[i]), .int .i64 f[i].line, .int .i64 f[i].col]]) ∧ Below w2.heap.size w2 w3) := Lib.hid fun w2 h => (HRF.out w2 h).mono fun e w3 h3 => hfix e w2 w3 h3
        clear hfix hgo hne HRF
        generalize errI NP f[i] = er at *
        generalize f[i] = x at *
        have HB2 := Lib.hid (HB1.out.trans (hb2.mono HB1.out.size))
        have HF2 := Lib.hid (heap_alloc_new w2 (.cells #[.int .i64 er, .int .i64 x.line, .int .i64 x.col] 48))
        have HB3 := Lib.hid (bbel_alloc w2 (.cells #[.int .i64 er, .int .i64 x.line, .int .i64 x.col] 48))
        clear hb2
        go_wp2_with fail
        generalize w2.alloc (.cells #[.int .i64 er, .int .i64 x.line, .int .i64 x.col] 48) = W2 at *
        refine (HRE.out W2 (HB2.out.trans (HB3.out.mono HB2.out.size))).mono ?_
        rintro e w3 ⟨rfl, hb3⟩
        have HB4 := Lib.hid (HB2.out.trans ((HB3.out.trans (hb3.mono HB3.out.size)).mono HB2.out.size))
        have HSM : Hid (∀ o, Calls Try.prog 35 #[.slice none 0 0, .slice none 0 0] (w3.alloc o) fun e w' => e = .returned (.bool true) ∧ Below (w3.alloc o).heap.size (w3.alloc o) w') := Lib.hid fun o => same_any none none 0 0 [] (w3.alloc o) (Or.inl rfl) (Or.inl rfl) (by simp)
        have hq : ∀ w, (Op.equalIn 10000 48 (.agg #[.int .i64 er, .int .i64 x.line, .int .i64 x.col]) (.agg #[.int .i64 er, .int .i64 x.line, .int .i64 x.col])).run Try.prog w = .ok true w := fun w => by rw [neqFault, sameF_refl]
        have HF3 := Lib.hid (heap_alloc_new w3 (.cells #[.int .i64 er, .int .i64 x.line, .int .i64 x.col] 48))
        have HB5 := Lib.hid (bbel_alloc w3 (.cells #[.int .i64 er, .int .i64 x.line, .int .i64 x.col] 48))
        have HF2' : Hid (w3.heap[w2.heap.size]? = some (.cells #[.int .i64 er, .int .i64 x.line, .int .i64 x.col] 48 (0, 0))) := Lib.hid ((hb3.block _ (Array.getElem?_eq_some_iff.1 HF2.out).1).trans HF2.out)
        clear hb3
        go_wp2_with fail
        refine (HSM.out _).mono ?_
        rintro e w4 ⟨rfl, hb4⟩
        obtain ⟨⟨p0, p1, p2⟩, _⟩ := cells_later ((HB5.out.block _ (Array.getElem?_eq_some_iff.1 HF2'.out).1).trans HF2'.out) hb4
        obtain ⟨⟨q0, q1, q2⟩, _⟩ := cells_later HF3.out hb4
        have HB6 := Lib.hid (HB4.out.trans ((HB5.out.trans (hb4.mono HB5.out.size)).mono HB4.out.size))
        clear hb4
        go_wp2_with fail
        refine (HAW.out _ (HBW.out _ HB6.out)).mono ?_
        rintro e w9 ⟨rfl, hb9⟩
        have HB9 := Lib.hid hb9
        clear hb9
        go_wp2_with fail
        go_ret
        exact ⟨rfl, HB9.out⟩
    · have HI : Hid (∀ w2, Below w1.heap.size w1 w2 → Below w.heap.size w w2) := Lib.hid fun w2 h => hb.trans (h.mono hb.size)
      have HCB : Hid (∀ w2, Below w.heap.size w w2 → Calls Try.prog 32 #[.slice a l.length c] w2 fun e w3 => e = .returned (.agg #[.int .i64 (Nm.errOf (l.take i) l[i]), .int .i64 l[i].line, .int .i64 l[i].col]) ∧ Below w2.heap.size w2 w3) := Lib.hid fun w2 h => (HCK.out w2 h).mono fun e w3 h3 => bchk_bad hi hg hne h3
      have he0 : (Nm.errOf (l.take i) l[i] != 0) = true := by simpa using hne
      clear hb hne hg HCK
      generalize Nm.errOf (l.take i) l[i] = er at *
      generalize l[i] = x at *
      have HW1 := Lib.hid (heap_alloc_new w1 (.cells #[.int .i64 er, .int .i64 x.line, .int .i64 x.col] 48))
      have HB1 := Lib.hid (bbel_alloc w1 (.cells #[.int .i64 er, .int .i64 x.line, .int .i64 x.col] 48))
      go_wp2_with fail
      generalize w1.alloc (.cells #[.int .i64 er, .int .i64 x.line, .int .i64 x.col] 48) = W1 at *
      have hq : ∀ w, (Op.equalIn 10000 48 (.agg #[.int .i64 er, .int .i64 x.line, .int .i64 x.col]) (.agg #[.int .i64 er, .int .i64 x.line, .int .i64 x.col])).run Try.prog w = .ok true w := fun w => by rw [neqFault, sameF_refl]
      obtain ⟨⟨f0, f1, f2⟩, _⟩ := cells_later HW1.out (Below.refl _ _)
      go_region_with (first
        | (go_at_call 32; refine (HCB.out _ (by first | exact HI.out _ HB1.out | exact HI.out _ HB1.out.drew | exact (HI.out _ HB1.out).drew | exact (HI.out _ HB1.out).drew.drew)).mono ?_; rintro e w2 ⟨rfl, hb2⟩; have HB2 : Hid (Below W1.heap.size W1 w2) := Lib.hid ⟨hb2.os, hb2.tape, hb2.output, hb2.size, hb2.block⟩; clear hb2; obtain ⟨⟨g0, g1, g2⟩, _⟩ := cells_later HW1.out HB2.out)
        | (go_at_call 30; refine (HAW.out _ (by first | exact HI.out _ (HB1.out.trans (HB2.out.mono HB1.out.size)) | exact (HI.out _ (HB1.out.trans (HB2.out.mono HB1.out.size))).drew | exact (HI.out _ (HB1.out.trans (HB2.out.mono HB1.out.size))).drew.drew)).mono ?_; rintro e w9 ⟨rfl, hb9⟩; have HB9 := Lib.hid hb9; clear hb9))
      all_goals go_wp2_with fail
      all_goals go_ret
      all_goals exact ⟨rfl, by repeat (first | exact HB9.out | apply bbelow_dn | apply Below.drew)⟩
end Go.Proofs.Ytpbgicfoopicbaa
