/-
  The document's Name: by a walk.
-/
import Derived.Test.YtbplkphjjfgkmaaDoorShNm
import Derived.Test.YtbplkphjjfgkmaaDoorTextRef
namespace Go.Proofs.YtbplkphjjfgkmaaDoor
open Go.RowKit
set_option linter.unusedVariables false
set_option linter.unusedSimpArgs false

theorem byt_get {s : ByteArray} {k : Nat} (h : k < s.size) : byt s k = (s[k]'h).toNat := by
  unfold byt
  simp [h]
set_option maxHeartbeats 4000000 in
theorem rname_any (s : ByteArray) (w : World) : Calls Tryd.prog 43 #[.string s] w fun e w' => e = .returned (.bool (Sh.nameB s.data.toList)) ∧ Below w.heap.size w w' := by
  have hu : ∀ b : Bool, ¬ (some undef = some (Value.bool b)) := fun b h => by cases h
  have HL := Lib.hid (Sh.size_list s)
  by_cases h0 : s.size = 0
  · have := size0 h0
    subst this
    clear h0
    go_enter Tryd.func43, Tryd.ntmps43
    go_wp2
    go_ret
    exact ⟨rfl, Below.refl _ _⟩
  · have he := ne_empty h0
    by_cases h16 : 16 < s.size
    · have HZ : Hid (Sh.nameB s.data.toList = false) := Lib.hid (Sh.name_long (by rw [HL.out]; omega))
      have h16' : (16 : Int) < (s.size : Int) := by omega
      go_enter Tryd.func43, Tryd.ntmps43
      go_wp2
      go_ret
      exact ⟨ret_bool HZ.out.symm, Below.refl _ _⟩
    · have HK := Lib.hid (rknown_any s w)
      cases hk : Tk.known s.data.toList with
      | true =>
        have HZ : Hid (Sh.nameB s.data.toList = false) := Lib.hid (Sh.name_known hk)
        rw [hk] at HK
        clear hk
        go_enter Tryd.func43, Tryd.ntmps43
        go_wp2_with fail
        refine HK.out.mono ?_
        rintro e w2 ⟨rfl, hb⟩
        have HB := Lib.hid hb
        clear hb
        go_wp2_with fail
        go_ret
        exact ⟨ret_bool HZ.out.symm, HB.out⟩
      | false =>
        rw [hk] at HK
        have HYES : Hid ((∀ j, j < s.size → Sh.okc j (s.data.toList.getD j 0) = true) → Sh.nameB s.data.toList = true) := Lib.hid fun h => Sh.name_yes (by rw [HL.out]; omega) (by rw [HL.out]; omega) hk (by rw [HL.out]; exact h)
        have HNO : Hid (∀ j, j < s.size → Sh.okc j (s.data.toList.getD j 0) = false → Sh.nameB s.data.toList = false) := Lib.hid fun j hj h => Sh.name_at (by rw [HL.out]; exact hj) h
        clear hk
        go_enter Tryd.func43, Tryd.ntmps43
        go_wp2_with fail
        refine HK.out.mono ?_
        rintro e w2 ⟨rfl, hb⟩
        have HB := Lib.hid hb
        clear hb
        go_wp2_with fail
        go_loopw [3, 4] (fun v3 v4 wr => ∃ (p4 : Value) (k : Nat), v4 = p4 ∧ k ≤ s.size ∧ v3 = .int .i64 k ∧ Hid (∀ j, j < k → Sh.okc j (s.data.toList.getD j 0) = true) ∧ wr = w2) (fun v3 _ _ => s.size - (intOf v3).toNat)
        case atStart => exact ⟨_, 0, rfl, by omega, rfl, Lib.hid fun j hj => by omega, rfl⟩
        case round =>
          obtain ⟨p4, k, rfl, hk, rfl, HPRE, rfl⟩ := hrel
          by_cases hlt : k < s.size
          · have hb := byt_at s k hlt
            have hbl := byt_lt s k
            have g3 : (k : Int) < (s.size : Int) := by omega
            have HOK : Hid (Sh.okr k (byt s k : Int) = true → ∀ j, j < k + 1 → Sh.okc j (s.data.toList.getD j 0) = true) := Lib.hid fun h j hj => by
              by_cases e : j = k
              · subst e; rw [okc_eq hlt, ← byt_get hlt]; exact h
              · exact HPRE.out j (by omega)
            have HBD : Hid (Sh.okr k (byt s k : Int) = false → Sh.nameB s.data.toList = false) := Lib.hid fun h => HNO.out k hlt (by rw [okc_eq hlt, ← byt_get hlt]; exact h)
            clear HPRE HNO HYES
            generalize byt s k = b at *
            by_cases h1 : 97 ≤ b ∧ b ≤ 122
            · have q1 : (97 : Int) ≤ (b : Int) := by omega
              have q2 : (b : Int) ≤ 122 := by omega
              have HG := Lib.hid (HOK.out (by unfold Sh.okr Tk.sm; rw [decide_eq_true q1, decide_eq_true q2]; rfl))
              clear HOK HBD h1
              go_wp2
              go_roundw
              case rel => exact ⟨_, k + 1, rfl, by omega, by go_num, HG, (by first | rfl | trivial)⟩
              case measure => simp [intOf]; omega
            · have hs : Tk.sm (b : Int) = false := by
                unfold Tk.sm
                by_cases h : 97 ≤ b
                · rw [decide_eq_false (show ¬ (b : Int) ≤ 122 by omega)]; simp
                · rw [decide_eq_false (show ¬ (97 : Int) ≤ (b : Int) by omega)]; simp
              by_cases hk0 : k = 0
              · have HZ := Lib.hid (HBD.out (by unfold Sh.okr; rw [hs, hk0]; rfl))
                subst hk0
                clear hs HOK HBD
                by_cases h97 : 97 ≤ b
                · have q1 : (97 : Int) ≤ (b : Int) := by omega
                  have q2 : ¬ (b : Int) ≤ 122 := by omega
                  clear h1
                  go_wp2
                  go_ret
                  exact ⟨ret_bool HZ.out.symm, HB.out⟩
                · have q1 : ¬ (97 : Int) ≤ (b : Int) := by omega
                  clear h1
                  go_wp2
                  go_ret
                  exact ⟨ret_bool HZ.out.symm, HB.out⟩
              · have hk1 : (0 : Int) < (k : Int) := by omega
                have hk2 : decide (0 < k) = true := decide_eq_true (by omega)
                by_cases h2 : (48 ≤ b ∧ b ≤ 57) ∨ b = 95
                · have HG := Lib.hid (HOK.out (by
                    unfold Sh.okr Tk.dg
                    rw [hk2]
                    rcases h2 with h | h
                    · rw [decide_eq_true (show (48 : Int) ≤ (b : Int) by omega), decide_eq_true (show (b : Int) ≤ 57 by omega)]; simp
                    · rw [decide_eq_true (show (b : Int) = 95 by omega)]; simp))
                  clear hs HOK HBD hk2
                  rcases h2 with ⟨h3, h4⟩ | h3
                  · have q1 : ¬ (97 : Int) ≤ (b : Int) := by omega
                    have q3 : (48 : Int) ≤ (b : Int) := by omega
                    have q4 : (b : Int) ≤ 57 := by omega
                    clear h1
                    go_wp2
                    go_roundw
                    case rel => exact ⟨_, k + 1, rfl, by omega, by go_num, HG, (by first | rfl | trivial)⟩
                    case measure => simp [intOf]; omega
                  · subst h3
                    clear h1
                    go_wp2
                    go_roundw
                    case rel => exact ⟨_, k + 1, rfl, by omega, by go_num, HG, (by first | rfl | trivial)⟩
                    case measure => simp [intOf]; omega
                · have hdg : Tk.dg (b : Int) = false := by
                    unfold Tk.dg
                    by_cases h : 48 ≤ b
                    · rw [decide_eq_false (show ¬ (b : Int) ≤ 57 by omega)]; simp
                    · rw [decide_eq_false (show ¬ (48 : Int) ≤ (b : Int) by omega)]; simp
                  have HZ := Lib.hid (HBD.out (by unfold Sh.okr; rw [hs, hdg, decide_eq_false (show ¬ (b : Int) = 95 by omega)]; simp))
                  have q95 : ((b : Int) == 95) = false := by rw [beq_eq_false_iff_ne]; omega
                  clear hs hdg HOK HBD hk2
                  by_cases h97 : 97 ≤ b
                  · have q1 : (97 : Int) ≤ (b : Int) := by omega
                    have q2 : ¬ (b : Int) ≤ 122 := by omega
                    have q3 : (48 : Int) ≤ (b : Int) := by omega
                    have q4 : ¬ (b : Int) ≤ 57 := by omega
                    clear h1 h2
                    go_wp2
                    go_ret
                    exact ⟨ret_bool HZ.out.symm, HB.out⟩
                  · have q1 : ¬ (97 : Int) ≤ (b : Int) := by omega
                    by_cases h48 : 48 ≤ b
                    · have q3 : (48 : Int) ≤ (b : Int) := by omega
                      have q4 : ¬ (b : Int) ≤ 57 := by omega
                      clear h1 h2
                      go_wp2
                      go_ret
                      exact ⟨ret_bool HZ.out.symm, HB.out⟩
                    · have q3 : ¬ (48 : Int) ≤ (b : Int) := by omega
                      clear h1 h2
                      go_wp2
                      go_ret
                      exact ⟨ret_bool HZ.out.symm, HB.out⟩
          · have HZ := Lib.hid (HYES.out (fun j hj => HPRE.out j (by omega)))
            have hkn : k = s.size := by omega
            subst hkn
            go_wp2
            go_ret
            exact ⟨ret_bool HZ.out.symm, HB.out⟩
end Go.Proofs.YtbplkphjjfgkmaaDoor
