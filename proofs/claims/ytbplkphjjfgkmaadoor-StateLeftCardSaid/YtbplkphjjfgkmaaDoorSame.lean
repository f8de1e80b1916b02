/-
  warderref10.Same: are two lists of ints the same?
-/
import Derived.Test.YtbplkphjjfgkmaaDoorKit
namespace Go.Proofs.YtbplkphjjfgkmaaDoor
open Go.RowKit
set_option linter.unusedVariables false

theorem same_pre (xs ys : List Int) (h : xs.length = ys.length) (hall : ∀ j, j < xs.length → xs[j]? = ys[j]?) : xs = ys := by
  apply List.ext_getElem? ; intro i
  by_cases hi : i < xs.length
  · exact hall i hi
  · rw [List.getElem?_eq_none (by omega), List.getElem?_eq_none (by omega)]

set_option maxHeartbeats 400000 in
theorem same_any (a b : Option Addr) (c d : Nat) (xs ys : List Int) (w : World) (ha : Reads w a (xs.map (Value.int .i64))) (hb : Reads w b (ys.map (Value.int .i64))) (hm : xs.length ≤ 4611686018427387904) :
    Calls Tryd.prog 98 #[.slice a xs.length c, .slice b ys.length d] w fun e w' => e = .returned (.bool (decide (xs = ys))) ∧ ∃ n, w' = w.drewN n := by
  by_cases hl : xs.length = ys.length
  · by_cases h0 : xs.length = 0
    · have e1 : xs = [] := List.eq_nil_of_length_eq_zero h0
      have e2 : ys = [] := List.eq_nil_of_length_eq_zero (by omega)
      subst e1 e2
      go_enter Tryd.func98, Tryd.ntmps98
      go_wp2
      refine wp_loop_rounds 1 ?_
      rw [rounds_succ]
      go_wp2
      go_ret
      exact ⟨rfl, 0, rfl⟩
    · obtain ⟨ba, oa, rfl, hca⟩ := ha.at (by simp; omega)
      obtain ⟨bb, ob, rfl, hcb⟩ := hb.at (by simp; omega)
      have HCA := Lib.hid (Reads.int hca)
      have HCB := Lib.hid (Reads.int hcb)
      clear hca hcb ha hb
      have HL := Lib.hid hl
      have hle : ((xs.length : Int) != (ys.length : Int)) = false := by rw [hl]; simp
      clear hl
      go_enter Tryd.func98, Tryd.ntmps98
      go_wp2
      go_loopw [5] (fun v5 wr => ∃ k : Nat, k ≤ xs.length ∧ v5 = .int .i64 k ∧ (∀ j, j < k → xs[j]? = ys[j]?) ∧ ∃ n, wr = w.drewN n) (fun v5 _ => xs.length - (intOf v5).toNat)
      case atStart => exact ⟨0, by omega, rfl, fun j hj => by omega, 0, rfl⟩
      case round =>
        obtain ⟨k, hk, rfl, hall, n, rfl⟩ := hrel
        have HALL := Lib.hid hall
        clear hall
        by_cases hlt : k < xs.length
        · have hky : k < ys.length := by rw [← HL.out]; exact hlt
          have hx := HCA.out k hlt
          have hy := HCB.out k hky
          have hgx : xs[k]? = some xs[k] := List.getElem?_eq_getElem hlt
          have hgy : ys[k]? = some ys[k] := List.getElem?_eq_getElem hky
          have HGX := Lib.hid hgx
          have HGY := Lib.hid hgy
          clear hgx hgy
          generalize hX : xs[k] = x at *
          generalize hY : ys[k] = y at *
          clear hX hY
          by_cases hxy : x = y
          · have hne : (x != y) = false := by simp [hxy]
            have HXY := Lib.hid hxy
            clear hxy
            go_wp2
            go_quiet (fail)
            go_wp2
            go_roundw
            case rel => exact ⟨k + 1, by omega, by go_num, fun j hj => by
              by_cases h : j = k
              · subst h; rw [HGX.out, HGY.out, HXY.out]
              · exact HALL.out j (by omega), by first | exact ⟨_, rfl⟩ | (simp only [World.drewN_drewN]; exact ⟨_, rfl⟩)⟩
            case measure => simp [intOf]; omega
          · have hne : (x != y) = true := by simp [hxy]
            have HXY := Lib.hid hxy
            clear hxy
            go_wp2
            go_quiet (fail)
            go_wp2
            go_ret
            exact ⟨ret_bool (by symm; rw [decide_eq_false_iff_not]; intro h; subst h; have := HGX.out.symm.trans HGY.out; exact HXY.out (by simpa using this)), by first | exact ⟨_, rfl⟩ | (simp only [World.drewN_drewN]; exact ⟨_, rfl⟩)⟩
        · have hkn : k = xs.length := by omega
          have hfin : xs = ys := same_pre xs ys HL.out (fun j hj => HALL.out j (by omega))
          have HF := Lib.hid hfin
          clear hfin
          go_wp2
          go_ret
          exact ⟨ret_bool (by rw [decide_eq_true HF.out]), n, rfl⟩
  · have hne : ((xs.length : Int) != (ys.length : Int)) = true := by rw [bne_iff_ne]; omega
    have HL := Lib.hid hl
    clear hl
    go_enter Tryd.func98, Tryd.ntmps98
    go_wp2
    go_ret
    exact ⟨ret_bool (by symm; rw [decide_eq_false_iff_not]; intro h; exact HL.out (by rw [h])), 0, rfl⟩
theorem same_self (a b : Option Addr) (c d : Nat) (xs : List Int) (w : World) (ha : Reads w a (xs.map (Value.int .i64))) (hb : Reads w b (xs.map (Value.int .i64))) (hm : xs.length ≤ 4611686018427387904) :
    Calls Tryd.prog 98 #[.slice a xs.length c, .slice b xs.length d] w fun e w' => e = .returned (.bool true) ∧ ∃ n, w' = w.drewN n := by
  have h := same_any a b c d xs xs w ha hb hm
  rwa [decide_eq_true (rfl : xs = xs)] at h
end Go.Proofs.YtbplkphjjfgkmaaDoor
