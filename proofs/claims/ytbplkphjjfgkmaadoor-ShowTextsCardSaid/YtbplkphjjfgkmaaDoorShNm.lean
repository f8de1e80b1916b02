/-
  show.Name, and the document's: by walks.
-/
import Derived.Test.YtbplkphjjfgkmaaDoorShName
import Derived.Test.YtbplkphjjfgkmaaDoorTokRef
import Derived.Lib.OthersKept
import Derived.Laws.RangeAny
import Derived.BigQuiet
namespace Go.Proofs.YtbplkphjjfgkmaaDoor
open Go.RowKit
set_option linter.unusedVariables false
set_option linter.unusedSimpArgs false

theorem size0 {s : ByteArray} (h : s.size = 0) : s = ⟨#[]⟩ := by
  have : s.data = #[] := by
    have h2 : s.data.size = 0 := h
    exact Array.eq_empty_of_size_eq_zero h2
  cases s
  simp at this
  rw [this]
theorem ne_empty {s : ByteArray} (h : ¬ s.size = 0) : s.toList.isEmpty = false := by
  have h2 : s.toList = s.data.toList := toList_data s
  rw [h2]
  cases e : s.data.toList with
  | nil => exfalso; apply h; have := Sh.size_list s; rw [e] at this; exact this.symm
  | cons x r => rfl
theorem getD_byte {s : ByteArray} {k : Nat} (h : k < s.size) : s.data.toList.getD k 0 = s[k]'h := by
  rw [List.getD_eq_getElem?_getD, getE s k h]
  rfl
theorem okc_eq {s : ByteArray} {k : Nat} (h : k < s.size) : Sh.okc k (s.data.toList.getD k 0) = Sh.okr k ((s[k]'h).toNat : Int) := by
  rw [getD_byte h]
  rfl
set_option maxHeartbeats 4000000 in
theorem sname_any (s : ByteArray) (w : World) : Calls Tryd.prog 42 #[.string s] w fun e w' => e = .returned (.bool (Sh.nameB s.data.toList)) ∧ Below w.heap.size w w' := by
  have hu : ∀ b : Bool, ¬ (some undef = some (Value.bool b)) := fun b h => by cases h
  have HL := Lib.hid (Sh.size_list s)
  by_cases h0 : s.size = 0
  · have := size0 h0
    subst this
    clear h0
    go_enter Tryd.func42, Tryd.ntmps42
    go_wp2
    go_ret
    exact ⟨rfl, Below.refl _ _⟩
  · have he := ne_empty h0
    by_cases h16 : 16 < s.size
    · have HZ : Hid (Sh.nameB s.data.toList = false) := Lib.hid (Sh.name_long (by rw [HL.out]; omega))
      have h16' : (16 : Int) < (s.size : Int) := by omega
      go_enter Tryd.func42, Tryd.ntmps42
      go_wp2
      go_ret
      exact ⟨ret_bool HZ.out.symm, Below.refl _ _⟩
    · have HK := Lib.hid (known_any s w)
      cases hk : Tk.known s.data.toList with
      | true =>
        have HZ : Hid (Sh.nameB s.data.toList = false) := Lib.hid (Sh.name_known hk)
        rw [hk] at HK
        clear hk
        go_enter Tryd.func42, Tryd.ntmps42
        go_wp2_with fail
        refine HK.out.mono ?_
        rintro e w2 ⟨rfl, rfl⟩
        go_wp2_with fail
        go_ret
        exact ⟨ret_bool HZ.out.symm, Below.refl _ _⟩
      | false =>
        rw [hk] at HK
        have HYES : Hid ((∀ j, j < s.size → Sh.okc j (s.data.toList.getD j 0) = true) → Sh.nameB s.data.toList = true) := Lib.hid fun h => Sh.name_yes (by rw [HL.out]; omega) (by rw [HL.out]; omega) hk (by rw [HL.out]; exact h)
        have HNO : Hid (∀ j, j < s.size → Sh.okc j (s.data.toList.getD j 0) = false → Sh.nameB s.data.toList = false) := Lib.hid fun j hj h => Sh.name_at (by rw [HL.out]; exact hj) h
        have HSM := Lib.hid (fun r W => tsmall_any r W)
        have HDG := Lib.hid (fun r W => tdigit_any r W)
        have HI0 : Hid ((w.iter s 0).heap[w.heap.size]? = some (.stringIter s 0) ∧ Below w.heap.size w (w.iter s 0)) := Lib.hid ⟨heap_alloc_new w (.stringIter s 0), (Below.refl _ _).alloc (Nat.le_refl _) _⟩
        clear hk
        go_enter Tryd.func42, Tryd.ntmps42
        go_wp2_with fail
        refine HK.out.mono ?_
        rintro e w2 ⟨rfl, rfl⟩
        go_wp2_with fail
        generalize (w.iter s 0) = w1 at *
        go_loopw [3, 4] (fun v3 v4 wr => ∃ k : Nat, Hid (∀ j, j < k → Sh.okc j (s.data.toList.getD j 0) = true) ∧ Hid (wr.heap[w.heap.size]? = some (.stringIter s k) ∧ Below w.heap.size w wr)) (fun _ _ wr => s.size - wr.iterPos w.heap.size)
        case atStart => exact ⟨0, Lib.hid fun j hj => by omega, HI0⟩
        case round =>
          obtain ⟨k, HPRE, HR⟩ := hrel
          have hit := HR.out.1
          have HPOS : Hid (wr.iterPos w.heap.size = k) := Lib.hid (by unfold World.iterPos; rw [hit])
          clear HI0
          by_cases hlt : k < s.size
          · by_cases hasc : (s[k]'hlt).toNat < 128
            · have hnext := fun ty => Lib.run_next_ascii_at (P := Tryd.prog) wr w.heap.size s k ty hit hlt hasc
              have HR2 : Hid ((wr.iterAt w.heap.size s (k + 1)).heap[w.heap.size]? = some (.stringIter s (k + 1)) ∧ Below w.heap.size w (wr.iterAt w.heap.size s (k + 1))) := Lib.hid ⟨Lib.iterAt_heap _ _ _ _ _ HR.out.1, Lib.below_iterAt HR.out.2 (by omega) _ _⟩
              have HOK : Hid (Sh.okr k ((s[k]'hlt).toNat : Int) = true → ∀ j, j < k + 1 → Sh.okc j (s.data.toList.getD j 0) = true) := Lib.hid fun h j hj => by
                by_cases e : j = k
                · subst e; rw [okc_eq hlt]; exact h
                · exact HPRE.out j (by omega)
              have HBD : Hid (Sh.okr k ((s[k]'hlt).toNat : Int) = false → Sh.nameB s.data.toList = false) := Lib.hid fun h => HNO.out k hlt (by rw [okc_eq hlt]; exact h)
              clear HPRE HNO HYES
              generalize (s[k]'hlt).toNat = b at *
              have HS := Lib.hid (fun W => HSM.out (b : Int) W)
              have HD := Lib.hid (fun W => HDG.out (b : Int) W)
              cases hs : Tk.sm (b : Int) with
              | true =>
                rw [hs] at HS
                have HG := Lib.hid (HOK.out (by unfold Sh.okr; rw [hs]; rfl))
                clear hs HOK HBD
                go_wp2_with fail
                refine (HS.out _).mono ?_
                rintro e w3 ⟨rfl, rfl⟩
                go_wp2_with fail
                go_roundw
                case rel => exact ⟨k + 1, HG, HR2⟩
                case measure =>
                  have h1 : (wr.iterAt w.heap.size s (k + 1)).iterPos w.heap.size = k + 1 := by unfold World.iterPos; rw [HR2.out.1]
                  rw [h1, HPOS.out]
                  omega
              | false =>
                rw [hs] at HS
                by_cases hk0 : k = 0
                · have HZ := Lib.hid (HBD.out (by unfold Sh.okr; rw [hs, hk0]; rfl))
                  subst hk0
                  clear hs HOK HBD
                  go_wp2_with fail
                  refine (HS.out _).mono ?_
                  rintro e w3 ⟨rfl, rfl⟩
                  go_wp2_with fail
                  go_ret
                  exact ⟨ret_bool HZ.out.symm, HR2.out.2⟩
                · have hk1 : ((k : Int) == 0) = false := by rw [beq_eq_false_iff_ne]; omega
                  have hk2 : decide (0 < k) = true := decide_eq_true (by omega)
                  cases hd : Tk.dg (b : Int) with
                  | true =>
                    rw [hd] at HD
                    have HG := Lib.hid (HOK.out (by unfold Sh.okr; rw [hd, hk2]; simp))
                    clear hs hd HOK HBD hk2
                    go_wp2_with fail
                    refine (HS.out _).mono ?_
                    rintro e w3 ⟨rfl, rfl⟩
                    go_wp2_with fail
                    refine (HD.out _).mono ?_
                    rintro e w3 ⟨rfl, rfl⟩
                    go_wp2_with fail
                    go_roundw
                    case rel => exact ⟨k + 1, HG, HR2⟩
                    case measure =>
                      have h1 : (wr.iterAt w.heap.size s (k + 1)).iterPos w.heap.size = k + 1 := by unfold World.iterPos; rw [HR2.out.1]
                      rw [h1, HPOS.out]
                      omega
                  | false =>
                    rw [hd] at HD
                    by_cases h95 : b = 95
                    · subst h95
                      have HG := Lib.hid (HOK.out (by unfold Sh.okr; rw [hk2]; simp))
                      clear hs hd HOK HBD hk2
                      go_wp2_with fail
                      refine (HS.out _).mono ?_
                      rintro e w3 ⟨rfl, rfl⟩
                      go_wp2_with fail
                      refine (HD.out _).mono ?_
                      rintro e w3 ⟨rfl, rfl⟩
                      go_wp2_with fail
                      go_roundw
                      case rel => exact ⟨k + 1, HG, HR2⟩
                      case measure =>
                        have h1 : (wr.iterAt w.heap.size s (k + 1)).iterPos w.heap.size = k + 1 := by unfold World.iterPos; rw [HR2.out.1]
                        rw [h1, HPOS.out]
                        omega
                    · have HZ := Lib.hid (HBD.out (by unfold Sh.okr; rw [hs, hd, decide_eq_false (show ¬ (b : Int) = 95 by omega)]; simp))
                      have h95' : ((b : Int) != 95) = true := by simp; omega
                      clear hs hd HOK HBD hk2
                      go_wp2_with fail
                      refine (HS.out _).mono ?_
                      rintro e w3 ⟨rfl, rfl⟩
                      go_wp2_with fail
                      refine (HD.out _).mono ?_
                      rintro e w3 ⟨rfl, rfl⟩
                      go_wp2_with fail
                      go_ret
                      exact ⟨ret_bool HZ.out.symm, HR2.out.2⟩
            · have hnext := fun ty => Lib.run_next_any_at (P := Tryd.prog) wr w.heap.size s k ty hit hlt
              obtain ⟨hr, hn⟩ := decode_high s k hlt (by omega)
              have HZ := Lib.hid (HNO.out k hlt (by rw [okc_eq hlt]; exact Sh.okr_high (by omega)))
              have hsm : Tk.sm ((Utf8.decode s k).1 : Int) = false := by unfold Tk.sm; rw [decide_eq_false (show ¬ ((Utf8.decode s k).1 : Int) ≤ 122 by omega)]; simp
              have hdg : Tk.dg ((Utf8.decode s k).1 : Int) = false := by unfold Tk.dg; rw [decide_eq_false (show ¬ ((Utf8.decode s k).1 : Int) ≤ 57 by omega)]; simp
              have HR2 : Hid (Below w.heap.size w (wr.iterAt w.heap.size s (k + (Utf8.decode s k).2))) := Lib.hid (Lib.below_iterAt HR.out.2 (by omega) _ _)
              have HS := Lib.hid (fun W => HSM.out ((Utf8.decode s k).1 : Int) W)
              have HD := Lib.hid (fun W => HDG.out ((Utf8.decode s k).1 : Int) W)
              rw [hsm] at HS
              rw [hdg] at HD
              clear hsm hdg HNO HYES HPRE
              generalize (Utf8.decode s k).1 = r at *
              generalize (Utf8.decode s k).2 = n at *
              have h95' : ((r : Int) != 95) = true := by simp; omega
              by_cases hk0 : k = 0
              · subst hk0
                go_wp2_with fail
                refine (HS.out _).mono ?_
                rintro e w3 ⟨rfl, rfl⟩
                go_wp2_with fail
                go_ret
                exact ⟨ret_bool HZ.out.symm, by have := HR2.out; rwa [Nat.zero_add] at this⟩
              · have hk1 : ((k : Int) == 0) = false := by rw [beq_eq_false_iff_ne]; omega
                go_wp2_with fail
                refine (HS.out _).mono ?_
                rintro e w3 ⟨rfl, rfl⟩
                go_wp2_with fail
                refine (HD.out _).mono ?_
                rintro e w3 ⟨rfl, rfl⟩
                go_wp2_with fail
                go_ret
                exact ⟨ret_bool HZ.out.symm, HR2.out⟩
          · have hnext := fun ty => Lib.run_next_end_at (P := Tryd.prog) wr w.heap.size s k ty hit hlt
            have HZ := Lib.hid (HYES.out (fun j hj => HPRE.out j (by omega)))
            go_wp2
            go_ret
            exact ⟨ret_bool HZ.out.symm, HR.out.2⟩
end Go.Proofs.YtbplkphjjfgkmaaDoor
