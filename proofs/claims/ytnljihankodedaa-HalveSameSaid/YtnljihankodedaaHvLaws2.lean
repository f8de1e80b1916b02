/-
  HalveSplits, HalveSame: by walks.
-/
import Derived.Test.YtnljihankodedaaHvLaws
namespace Go.Proofs.Ytnljihankodedaa
open Go.RowKit
set_option linter.unusedVariables false
set_option linter.unusedSimpArgs false

namespace Hv
theorem clip_clip (n : Nat) (r : Int) : clip ((clip (n : Int) r : Nat) : Int) r = clip (n : Int) r := by unfold clip; omega
theorem same_mem (n : Nat) (r : Int) (hr : 1 ≤ r ∧ r ≤ 6) (hn : 1 ≤ n) (p : Nat × Nat) : p ∈ splits ((clip (n : Int) r : Nat) : Int) r ↔ p ∈ tru (cap (r - 1)) n n := by
  have hcs := cap_step (r - 1) (by omega) (by omega)
  rw [show r - 1 + 1 = r by omega] at hcs
  have hcl : clip (n : Int) r = min n (cap r) := by unfold clip; rw [Int.toNat_natCast]
  obtain ⟨a, b⟩ := p
  unfold splits oth
  rw [if_neg (by omega), clip_clip, sp_mem, tru_mem, mem_inS]
  unfold inS
  split <;> omega
theorem splits_nodup (g r : Int) : (splits g r).Nodup := by
  unfold splits
  split
  · simp
  · exact sp_nodup _ _
theorem same_len (n : Nat) (r : Int) (hr : 1 ≤ r ∧ r ≤ 6) : (splits ((clip (n : Int) r : Nat) : Int) r).length = (tru (cap (r - 1)) n n).length := by
  by_cases hn : 1 ≤ n
  · have h1 := sub_len _ _ (splits_nodup ((clip (n : Int) r : Nat) : Int) r) (fun p hp => (same_mem n r hr hn p).1 hp)
    have h2 := sub_len _ _ (tru_nodup (cap (r - 1)) n n) (fun p hp => (same_mem n r hr hn p).2 hp)
    omega
  · have : n = 0 := by omega
    subst this
    have hc : clip ((0 : Nat) : Int) r = 0 := by unfold clip; simp
    unfold splits
    rw [hc, if_pos (Or.inr (by omega))]; rfl
theorem same_in (n : Nat) (r : Int) (hr : 1 ≤ r ∧ r ≤ 6) (p : Nat × Nat) (hp : p ∈ splits ((clip (n : Int) r : Nat) : Int) r) : p ∈ tru (cap (r - 1)) n n := by
  by_cases hn : 1 ≤ n
  · exact (same_mem n r hr hn p).1 hp
  · have : n = 0 := by omega
    subst this
    have hc : clip ((0 : Nat) : Int) r = 0 := by unfold clip; simp
    unfold splits at hp
    rw [hc, if_pos (Or.inr (by omega))] at hp
    simp at hp
end Hv
theorem outerL_low (r : Int) (h : r < 1) : outerL r = [] := by unfold outerL; rw [if_pos h]
set_option maxHeartbeats 2000000 in
theorem halveSplits_walk (g r : Int) (w : World) (hg : -9223372036854775808 ≤ g ∧ g ≤ 9223372036854775807) (hr2 : -9223372036854775808 ≤ r ∧ r ≤ 9223372036854775807) :
    Calls Try.prog 8 #[.int .i64 g, .int .i64 r] w fun e w' => e = .returned (.bool true) ∧ Below w.heap.size w w' := by
  have hu : ∀ b : Bool, ¬ (some undef = some (Value.bool b)) := fun b h => by cases h
  by_cases h6 : 6 < r
  · go_enter Try.func8, Try.ntmps8
    go_wp2_with fail
    refine (awake21_any w).mono ?_
    rintro e w3 ⟨rfl, hb3⟩
    go_wp2_with fail
    go_ret
    exact ⟨rfl, hb3⟩
  · have hr : r ≤ 6 := by omega
    have SP := Lib.hid (fun w => splits_any g r w hg hr)
    have RS := Lib.hid (fun w => rsplits_any g r w hg hr hr2.1)
    have OU := Lib.hid (fun w => outer_any r w hr hr2.1)
    have RM := Lib.hid (fun w => rcap_any (r - 1) w)
    have hle := Hv.cap_le (r - 1)
    have hsl : (Hv.splits g r).length ≤ 1000000 := by
      unfold Hv.splits
      split
      · simp
      · have h1 := Hv.sp_len (Hv.cap (r - 1)) (Hv.oth g r)
        have h2 : Hv.oth g r ≤ 3000 := by
          have h2 := Hv.cap_step (r - 1) (by omega) (by omega)
          rw [show r - 1 + 1 = r by omega] at h2
          have h3 : Hv.clip g r ≤ Hv.cap r := by unfold Hv.clip; omega
          have h4 : Hv.cap (r - 1) ≤ 31 := by
            rcases (show r = 1 ∨ r = 2 ∨ r = 3 ∨ r = 4 ∨ r = 5 ∨ r = 6 by omega) with rfl | rfl | rfl | rfl | rfl | rfl <;> decide
          unfold Hv.oth
          split <;> omega
        omega
    have HSL := Lib.hid hsl
    clear hsl
    have end_ : ∀ (wr : World) (v5 : Value) (c : Nat), wr.ownsRow w.heap.size 3 1 v5 (outerL r).length ((outerL r).map (Value.int .i64)) → Below w.heap.size w wr → True := fun _ _ _ _ _ => trivial
    clear end_
    by_cases h1 : 1 ≤ r
    · have hoL : outerL r = (List.range (Hv.cap (r - 1) + 1)).map (fun k : Nat => (k : Int)) := by unfold outerL; rw [if_neg (by omega)]
      have HOL := Lib.hid hoL
      clear hoL
      generalize Hv.cap (r - 1) = m at *
      go_enter Try.func8, Try.ntmps8
      go_wp2_with fail
      go_loopw [5, 6] (fun v5 v6 wr => ∃ (k : Nat) (O : List Int), k ≤ m + 1 ∧ v6 = .int .i64 k ∧ O = (List.range k).map (fun k : Nat => (k : Int)) ∧ O.length = k ∧ wr.ownsRow w.heap.size 3 1 v5 O.length (O.map (Value.int .i64)) ∧ Below w.heap.size w wr) (fun _ v6 _ => m + 1 - (intOf v6).toNat)
      case atStart => exact ⟨0, [], by omega, rfl, rfl, rfl, (by exact World.ownsRow_nil _ _ _ _), Below.refl _ _⟩
      case round =>
        obtain ⟨k, O, hk, rfl, hO, hOl, hown, hnx⟩ := hrel
        obtain ⟨xa, xc, hx⟩ := own_len hown
        subst hx
        have HO := Lib.hid hO
        clear hO
        by_cases hlt : k < m + 1
        · have hkm : (k : Int) ≤ (m : Int) := by omega
          have hsz := hnx.size
          have hOb : O.length ≤ 1048576 := by omega
          have HOLN := Lib.hid hOl
          clear hOl
          go_wp2_with fail
          refine (RM.out _).mono ?_
          rintro e w2 ⟨rfl, rfl⟩
          go_wp2_with (at_builtin; refine append_at (v := .slice xa O.length xc) rfl _ _ 26 rfl 3 (.int .i64 0) 1 8 Try.underlying26 Try.info3 rfl (by decide) rfl hown hsz _ rfl (by simp [Value.oneCell']) rfl (by simp) (by decide) (by omega) ?_; intro g cap w5 own5 keep5 where5; have bel5 := hnx.trans (keep5.below (fun j hj => (hown.lt j hj).1) hsz))
          go_roundw
          case rel => exact ⟨k + 1, O ++ [(k : Int)], by omega, by go_num, by rw [List.range_succ, List.map_append, ← HO.out]; rfl, by rw [List.length_append, HOLN.out]; rfl, by have := own5; rw [List.length_append, List.map_append]; exact this, bel5⟩
          case measure => simp [intOf]; omega
        · have hkm : ¬ (k : Int) ≤ (m : Int) := by omega
          have hke : k = m + 1 := by omega
          have hOe : O = outerL r := by rw [HOL.out, HO.out, hke]
          have HH := Lib.hid (And.intro hown (And.intro hnx hOe))
          have HOLN := Lib.hid hOl
          clear hown hnx hOl hOe
          go_wp2_with fail
          refine (RM.out _).mono ?_
          rintro e w2 ⟨rfl, rfl⟩
          go_wp2_with fail
          refine (SP.out _).mono ?_
          rintro e w3 ⟨x3, rfl, hO3, hB3⟩
          have P3 := Lib.hid (And.intro (PR.of hO3) ((HH.out).2.1.trans (hB3.mono (HH.out).2.1.size)))
          clear hO3
          go_wp2_with fail
          refine (RS.out _).mono ?_
          rintro e w4 ⟨x4, rfl, hO4, hB4⟩
          have b4 := (P3.out).2.trans (hB4.mono (P3.out).2.size)
          have SM := Lib.hid (psame_any ((P3.out).1.mono hB4) (PR.of hO4) (by rw [List.length_map]; exact HSL.out))
          have B4 := Lib.hid b4
          have o4 : Reads w4 xa (O.map (Value.int .i64)) := by
            obtain ⟨a', c', e1, e2⟩ := Reads.of_ints (HH.out).1
            simp only [Value.slice.injEq] at e1
            rw [e1.1]
            exact (e2.mono hB3 (Nat.le_refl _)).mono hB4 (Nat.le_refl _)
          have O4 := Lib.hid o4
          clear hO4 hB4 hB3 b4 o4 P3
          go_wp2_with fail
          refine (SM.out).mono ?_
          rintro e w5 ⟨rfl, n5, rfl⟩
          have B5 := Lib.hid (below_drewN B4.out n5)
          have O5 := Lib.hid ((O4.out).mono (below_drewN (Below.refl w4.heap.size w4) n5) (Nat.le_refl _))
          generalize w4.drewN n5 = w5 at *
          clear SM B4 O4
          go_wp2_with fail
          refine (OU.out _).mono ?_
          rintro e w6 ⟨x6, rfl, hO6, hB6⟩
          have b6 := (B5.out).trans (hB6.mono (B5.out).size)
          obtain ⟨a6, c6, e6, r6⟩ := Reads.of_ints hO6
          subst e6
          have SS := Lib.hid (same_any a6 xa c6 xc (outerL r) O w6 r6 ((O5.out).mono hB6 (Nat.le_refl _)) (by rw [← (HH.out).2.2, HOLN.out]; omega))
          rw [decide_eq_true (HH.out).2.2.symm] at SS
          have B6 := Lib.hid b6
          clear hO6 hB6 b6 r6
          go_wp2_with fail
          refine (SS.out).mono ?_
          rintro e w7 ⟨rfl, n7, rfl⟩
          have b7 := below_drewN B6.out n7
          generalize w6.drewN n7 = w7 at *
          clear SS B6
          go_wp2_with fail
          refine (awake21_end w w7 b7).mono ?_
          rintro e w8 ⟨rfl, hb8⟩
          go_wp2_with fail
          go_ret
          exact ⟨rfl, hb8⟩
    · have hoL := outerL_low r (by omega)
      rw [hoL] at OU
      clear hoL
      go_enter Try.func8, Try.ntmps8
      go_wp2_with fail
      refine wp_loop_rounds 1 ?_
      rw [rounds_succ]
      go_wp2_with fail
      refine (SP.out _).mono ?_
      rintro e w3 ⟨x3, rfl, hO3, hB3⟩
      have P3 := Lib.hid (And.intro (PR.of hO3) hB3)
      clear hO3
      go_wp2_with fail
      refine (RS.out _).mono ?_
      rintro e w4 ⟨x4, rfl, hO4, hB4⟩
      have b4 := (P3.out).2.trans (hB4.mono (P3.out).2.size)
      have SM := Lib.hid (psame_any ((P3.out).1.mono hB4) (PR.of hO4) (by rw [List.length_map]; exact HSL.out))
      have B4 := Lib.hid b4
      clear hO4 hB4 hB3 b4 P3
      go_wp2_with fail
      refine (SM.out).mono ?_
      rintro e w5 ⟨rfl, n5, rfl⟩
      have B5 := Lib.hid (below_drewN B4.out n5)
      generalize w4.drewN n5 = w5 at *
      clear SM B4
      go_wp2_with fail
      refine (OU.out _).mono ?_
      rintro e w6 ⟨x6, rfl, hO6, hB6⟩
      have b6 := (B5.out).trans (hB6.mono (B5.out).size)
      obtain ⟨a6, c6, e6, r6⟩ := Reads.of_ints hO6
      subst e6
      have SS := Lib.hid (same_self a6 none c6 0 [] w6 (Or.inl rfl) (Or.inl rfl) (by simp))
      have B6 := Lib.hid b6
      clear hO6 hB6 b6 r6
      go_wp2_with fail
      refine (SS.out).mono ?_
      rintro e w7 ⟨rfl, n7, rfl⟩
      have b7 := below_drewN B6.out n7
      generalize w6.drewN n7 = w7 at *
      clear SS B6
      go_wp2_with fail
      refine (awake21_end w w7 b7).mono ?_
      rintro e w8 ⟨rfl, hb8⟩
      go_wp2_with fail
      go_ret
      exact ⟨rfl, hb8⟩
theorem own_drewN {w : World} {B n size : Nat} {e : TypeId} {v : Value} {xs : List Value} (h : w.ownsRow B e size v n xs) (m : Nat) : (w.drewN m).ownsRow B e size v n xs := (Keeps.drewN (fun _ => False) w m).own h (fun _ _ hf => hf)
set_option maxHeartbeats 2000000 in
theorem halveSame_walk (g r : Int) (w : World) (hg : -9223372036854775808 ≤ g ∧ g ≤ 9223372036854775807) (hr2 : -9223372036854775808 ≤ r ∧ r ≤ 9223372036854775807) :
    Calls Try.prog 9 #[.int .i64 g, .int .i64 r] w fun e w' => e = .returned (.bool true) ∧ Below w.heap.size w w' := by
  have hu : ∀ b : Bool, ¬ (some undef = some (Value.bool b)) := fun b h => by cases h
  have hcases : r < 1 ∨ (1 ≤ r ∧ 6 < r) ∨ (1 ≤ r ∧ r ≤ 6 ∧ g < 0) ∨ (1 ≤ r ∧ r ≤ 6 ∧ 0 ≤ g ∧ 400 < g) ∨ (1 ≤ r ∧ r ≤ 6 ∧ 0 ≤ g ∧ g ≤ 400) := by omega
  rcases hcases with h1 | ⟨h1, h2⟩ | ⟨h1, h2, h3⟩ | ⟨h1, h2, h3, h4⟩ | ⟨h1, h2, h3, h4⟩
  case inr.inr.inr.inr =>
    obtain ⟨n, rfl⟩ : ∃ n : Nat, g = (n : Int) := ⟨g.toNat, by omega⟩
    have hcl := Hv.clip_le (n : Int) r
    have RC := Lib.hid (fun w => rclip_any (n : Int) r w hg)
    have SP := Lib.hid (fun w => splits_any ((Hv.clip (n : Int) r : Nat) : Int) r w (by omega) h2)
    have TR := Lib.hid (fun w => true_any n r w (by omega) (by omega))
    have hsl := Hv.same_len n r ⟨h1, h2⟩
    have hsi := Hv.same_in n r ⟨h1, h2⟩
    have htl := Hv.tru_len (Hv.cap (r - 1)) n n
    generalize hLs : Hv.splits ((Hv.clip (n : Int) r : Nat) : Int) r = Ls at *
    generalize hLt : Hv.tru (Hv.cap (r - 1)) n n = Lt at *
    clear hLs hLt
    have hz : ∀ p ∈ Ls.map Hv.zi, p ∈ Lt.map Hv.zi := fun p hp => by
      obtain ⟨q, hq, rfl⟩ := List.mem_map.1 hp
      exact List.mem_map.2 ⟨q, hsi q hq, rfl⟩
    have hzl : (Ls.map Hv.zi).length = (Lt.map Hv.zi).length := by rw [List.length_map, List.length_map, hsl]
    have hzb : (Lt.map Hv.zi).length ≤ 400 := by rw [List.length_map]; omega
    clear hsi hsl htl
    generalize Ls.map Hv.zi = L at *
    generalize Lt.map Hv.zi = M at *
    have HZ := Lib.hid hz
    clear hz
    generalize Hv.clip (n : Int) r = z at *
    go_enter Try.func9, Try.ntmps9
    go_wp2_with fail
    refine (RC.out _).mono ?_
    rintro e w1 ⟨rfl, rfl⟩
    go_wp2_with fail
    refine (SP.out _).mono ?_
    rintro e w1 ⟨x1, rfl, hO1, hB1⟩
    have H1 := Lib.hid (And.intro (PR.of hO1) hB1)
    obtain ⟨xa, xc, hx⟩ := own_len hO1
    subst hx
    clear hO1 hB1
    go_wp2_with fail
    refine (TR.out _).mono ?_
    rintro e w2 ⟨x2, rfl, hO2, hB2⟩
    have H2 := Lib.hid (And.intro hO2 (And.intro ((H1.out).1.mono hB2) ((H1.out).2.trans (hB2.mono (H1.out).2.size))))
    obtain ⟨ya, yc, hy⟩ := own_len hO2
    subst hy
    clear hO2 hB2 H1
    go_wp2_with fail
    go_loopw [7] (fun v7 wr => ∃ k : Nat, k ≤ L.length ∧ v7 = .int .i64 k ∧ ∃ m, wr = w2.drewN m) (fun v7 _ => L.length - (intOf v7).toNat)
    case atStart => exact ⟨0, by omega, rfl, 0, rfl⟩
    case round =>
      obtain ⟨k, hk, rfl, m, hwr⟩ := hrel
      have bd := below_drewN (H2.out).2.2 m
      have pr := (H2.out).2.1.mono (below_drewN (Below.refl w2.heap.size w2) m)
      have ow := own_drewN (H2.out).1 m
      rw [← hwr] at bd pr ow
      have HWR := Lib.hid hwr
      clear hwr
      by_cases hlt : k < L.length
      · obtain ⟨a', c', e1, h5⟩ := pr
        simp only [Value.slice.injEq] at e1
        obtain ⟨rfl, _, rfl⟩ := e1
        obtain ⟨gb, rfl, hcp⟩ := h5.resolve_left (fun h => by rw [h] at hlt; simp at hlt)
        obtain ⟨c0, c1⟩ := hcp k hlt
        have hin := HZ.out L[k] (List.getElem_mem hlt)
        have HAS := Lib.hid (fun w' (hw : ∃ n, w' = wr.drewN n) => phas_any (w := w') (B := w1.heap.size) (x := .slice ya M.length yc) (L := M) (by obtain ⟨n, rfl⟩ := hw; exact own_drewN ow n) (by omega) L[k].1 L[k].2)
        rw [decide_eq_true (show (L[k].1, L[k].2) ∈ M from hin)] at HAS
        clear hcp h5 hin ow bd
        generalize L[k] = p at *
        go_wp2_with fail
        go_quiet ((go_at_call 43; with_reducible exact Calls.quiet_of_same ((HAS.out _ ⟨_, rfl⟩).mono (fun _ _ hq => ⟨hq.1, hq.2.symm⟩))))
        go_wp2_with fail
        go_roundw
        case rel => exact ⟨k + 1, by omega, by go_num, by rw [HWR.out]; simp only [World.drewN_drewN]; exact ⟨_, rfl⟩⟩
        case measure => simp [intOf]; omega
      · have hlm : ((L.length : Int) == (M.length : Int)) = true := by simp [hzl]
        go_wp2_with fail
        refine (awake21_end w _ bd).mono ?_
        rintro e w8 ⟨rfl, hb8⟩
        go_wp2_with fail
        go_ret
        exact ⟨rfl, hb8⟩
  all_goals
    go_enter Try.func9, Try.ntmps9
    go_wp2_with fail
    refine (awake21_any w).mono ?_
    rintro e w3 ⟨rfl, hb3⟩
    go_wp2_with fail
    go_ret
    exact ⟨rfl, hb3⟩
end Go.Proofs.Ytnljihankodedaa
