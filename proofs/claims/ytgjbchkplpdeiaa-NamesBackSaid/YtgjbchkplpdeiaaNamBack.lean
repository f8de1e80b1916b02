/-
  Names: the law on names that lead back, by a walk.
-/
import Derived.Test.YtgjbchkplpdeiaaNamAw
namespace Go.Proofs.Ytgjbchkplpdeiaa
open Go.RowKit Go.Maps
set_option linter.unusedVariables false
set_option linter.unusedSimpArgs false

set_option maxHeartbeats 1000000 in
theorem namesBack_walk (a : Option Addr) (c : Nat) (l : List St) (w : World) (hl : RdS w a l) (hf : ∀ x ∈ l, x.fit) (hm : l.length ≤ maxLen) :
    Calls Try.prog 9 #[.slice a l.length c] w fun e w' => e = .returned (.bool true) ∧ Below w.heap.size w w' := by
  have hm2 : l.length ≤ 9223372036854775807 := by unfold maxLen at hm; omega
  have HAW : Hid (∀ w', Below w.heap.size w w' → Calls Try.prog 27 #[] w' fun e w2 => e = .returned (.bool true) ∧ Below w.heap.size w w2) := Lib.hid fun w' hb => (nawake_any w').mono fun e w2 h => ⟨h.1, hb.trans (h.2.mono hb.size)⟩
  have hu : ∀ b : Bool, ¬ (some undef = some (Value.bool b)) := fun b h => by cases h
  by_cases h80 : (80 : Int) < (l.length : Int)
  · clear hl hf
    go_enter Try.func9, Try.ntmps9
    go_wp2_with fail
    refine (HAW.out w (Below.refl _ _)).mono ?_
    rintro e w2 ⟨rfl, hb⟩
    have HB := Lib.hid hb
    clear hb
    go_wp2_with fail
    go_ret
    exact ⟨rfl, HB.out⟩
  · have HBD := Lib.hid (build_any a c l w hl hf hm2)
    have HL := Lib.hid hl
    have HFIT := Lib.hid hf
    clear hl hf
    go_enter Try.func9, Try.ntmps9
    go_wp2_with fail
    refine (HBD.out).mono ?_
    clear HBD
    rintro e w1 (⟨hg, p, cs, vn, vp, b1, b2, D1, D2, rfl, hi, hb⟩ | ⟨i, hi, hg, hne, rfl, hb⟩)
    · have hsz : w.heap.size + 1 ≤ w1.heap.size := by have := lt_of_cell (hi.cell 0 |>.trans hi.c0); have := hi.base; simp only at *; omega
      have HI : Hid (∀ w2, Below w1.heap.size w1 w2 → IsN w2 (w.heap.size + 1) p cs vn vp b1 b2 D1 D2 l ∧ Below w.heap.size w w2) := Lib.hid fun w2 h => ⟨hi.still hsz h, hb.trans (h.mono hb.size)⟩
      have HG := Lib.hid hg
      clear hi hb hg
      go_wp2_with fail
      have HB0 := Lib.hid (bel_alloc w1 (.cells #[.int .i64 0, .int .i64 0, .int .i64 0] 43))
      generalize w1.alloc (.cells #[.int .i64 0, .int .i64 0, .int .i64 0] 43) = W0 at *
      go_loopw [5] (fun v5 wr => ∃ i : Nat, i ≤ l.length ∧ v5 = .int .i64 i ∧ Hid (Below w1.heap.size w1 wr)) (fun v5 _ => l.length - (intOf v5).toNat)
      case atStart => exact ⟨0, by omega, rfl, HB0⟩
      case round =>
        obtain ⟨i, hi, rfl, HB⟩ := hrel
        clear HB0
        by_cases hlt : i < l.length
        · obtain ⟨b, off, ha, hrg⟩ := (HL.out.mono ((HI.out wr HB.out).2) (Nat.le_refl _)).at (by omega)
          subst ha
          have k0 : wr.cell? ⟨b, off + i * 12, none⟩ = some (.int .i64 l[i].kind) := by have := hrg i hlt 0 _ rfl; simpa using this
          have k1 : wr.cell? ⟨b, off + i * 12 + 1, none⟩ = some (.string l[i].name) := hrg i hlt 1 _ rfl
          have hfx := (HFIT.out l[i] (List.getElem_mem hlt)).name
          have hpl := Nm.place_of i hlt
          clear hrg
          generalize l[i] = x at *
          by_cases h68 : x.kind = 6 ∨ x.kind = 8
          · have hcase : (x.kind == 6) = true ∨ ((x.kind == 6) = false ∧ (x.kind == 8) = true) := by
              rcases h68 with e | e
              · exact Or.inl (by simp [e])
              · exact Or.inr ⟨by simp [e], by simp [e]⟩
            clear h68 hpl hfx
            rcases hcase with h6 | ⟨h6, h8⟩
            all_goals
              go_wp2_with fail
              go_roundw
              case rel => exact ⟨i + 1, by omega, by go_num, HB⟩
              case measure => simp [intOf] <;> omega
          · obtain ⟨j, n, hn, hp, hnc, hne0⟩ := hpl (by simp [Nm.named]; omega)
            clear hne0
            have HFD : Hid (Calls Try.prog 30 #[.pointer (some ⟨p, 0, none⟩), .string x.name] wr fun e w3 => e = .returned (.tuple #[.int .i64 x.kind, .int .i64 (n : Nat), .bool true]) ∧ ∃ j, w3 = wr.drewN j) := Lib.hid (find_yes x.name hfx (HI.out wr HB.out).1 j x.kind n hn hp)
            have HNM : Hid (∀ w2, Below w1.heap.size w1 w2 → ∀ w3, (∃ d, w3 = w2.drewN d) → Calls Try.prog 33 #[.pointer (some ⟨p, 0, none⟩), .int .i64 x.kind, .int .i64 (n : Nat)] w3 fun e w4 => e = .returned (.string x.name) ∧ w3 = w4) := Lib.hid fun w2 hb w3 h => by
              obtain ⟨d, rfl⟩ := h
              exact name_yes (HI.out _ (nbelow_dn hb d)).1 j x.name x.kind n hn hp
            have HCT : Hid (∀ w2, Below w1.heap.size w1 w2 → ∀ w3, (∃ d, w3 = w2.drewN d) → Calls Try.prog 32 #[.pointer (some ⟨p, 0, none⟩), .int .i64 x.kind] w3 fun e w4 => e = .returned (.int .i64 (Nm.cnt l x.kind : Nat)) ∧ w3 = w4) := Lib.hid fun w2 hb w3 h => by
              obtain ⟨d, rfl⟩ := h
              exact count_any x.kind (HI.out _ (nbelow_dn hb d)).1
            have h6 : (x.kind == 6) = false := by rw [beq_eq_false_iff_ne]; omega
            have h8 : (x.kind == 8) = false := by rw [beq_eq_false_iff_ne]; omega
            have hkk : (x.kind != x.kind) = false := by simp
            have hss : (x.name.toList != x.name.toList) = false := by simp
            have hn0 : decide (((n : Nat) : Int) < 0) = false := by simp
            have hn1 : decide (((Nm.cnt l x.kind : Nat) : Int) ≤ ((n : Nat) : Int)) = false := by simp; omega
            have hn2 : decide (Nm.cnt l x.kind ≤ n) = false := by simp; omega
            have hn3 : ¬ Nm.cnt l x.kind ≤ n := by omega
            have hn4 : ¬ ((Nm.cnt l x.kind : Nat) : Int) ≤ (n : Int) := by omega
            clear h68 hpl hn hp hnc hfx
            generalize Nm.cnt l x.kind = ct at *
            go_wp2_with fail
            refine HFD.out.mono ?_
            rintro e w2 ⟨rfl, d, hd⟩
            have HB2 := Lib.hid (hd ▸ nbelow_dn HB.out d : Below w1.heap.size w1 w2)
            have k0' : w2.cell? ⟨b, off + i * 12, none⟩ = some (.int .i64 x.kind) := by rw [hd]; exact k0
            have k1' : w2.cell? ⟨b, off + i * 12 + 1, none⟩ = some (.string x.name) := by rw [hd]; exact k1
            have HNM2 := Lib.hid (HNM.out w2 HB2.out)
            have HCT2 := Lib.hid (HCT.out w2 HB2.out)
            clear hd k0 k1 HNM HCT HFD
            go_wp2_with fail
            go_quiet ((first | (go_at_call 32; with_reducible exact Calls.quiet_of_same ((HCT2.out _ ⟨_, rfl⟩).mono (fun _ _ hq => ⟨hq.1, hq.2.symm⟩))) | (go_at_call 33; exact Calls.quiet_of_same ((HNM2.out _ ⟨_, rfl⟩).mono (fun _ _ hq => ⟨hq.1, hq.2.symm⟩)))))
            go_wp2_with fail
            go_roundw
            case rel => exact ⟨i + 1, by omega, by go_num, Lib.hid (by repeat (first | exact HB2.out | apply nbelow_dn | apply Below.drew))⟩
            case measure => simp [intOf] <;> omega
        · have hie : i = l.length := by omega
          subst hie
          go_wp2_with fail
          refine (HAW.out _ (HI.out _ HB.out).2).mono ?_
          rintro e w4 ⟨rfl, hb⟩
          have HB4 := Lib.hid hb
          clear hb
          go_wp2_with fail
          go_ret
          exact ⟨rfl, HB4.out⟩
    · have HI : Hid (∀ w2, Below w1.heap.size w1 w2 → Below w.heap.size w w2) := Lib.hid fun w2 h => hb.trans (h.mono hb.size)
      have hne2 : (Nm.errOf (l.take i) l[i] != 0) = true := by simpa using hne
      clear hb hne hg
      generalize Nm.errOf (l.take i) l[i] = er at *
      generalize l[i] = x at *
      go_wp2_with fail
      refine (HAW.out _ (HI.out _ (bel_alloc _ _))).mono ?_
      rintro e w4 ⟨rfl, hb⟩
      have HB := Lib.hid hb
      clear hb
      go_wp2_with fail
      go_ret
      exact ⟨rfl, HB.out⟩
end Go.Proofs.Ytgjbchkplpdeiaa
