/-
  The document's value of a text of digits.
-/
import Derived.Test.YtbplkphjjfgkmaaDoorRfAt
namespace Go.Proofs.YtbplkphjjfgkmaaDoor
open Go.RowKit
set_option linter.unusedVariables false
set_option linter.unusedSimpArgs false

def valV (p : Int × Int) : Value := .tuple #[.int .i64 p.1, .bool (decide (p.2 = 0))]
set_option maxHeartbeats 4000000 in
theorem rvalue_0 (s : ByteArray) (w : World) (hs : s.size ≤ 1000000) (h00 : 0 < s.size) (h45 : ¬ (s[0]'h00).toNat = 45) (hbo : Nm.body s.data.toList ≠ []) (hall : (Nm.body s.data.toList).all Nm.dig = true) (hF : Nm.from_ s.data.toList = 0) :
    Calls Tryd.prog 129 #[.string s] w fun e w' => e = .returned (valV (Nm.told s.data.toList)) ∧ w' = w := by
  have hlen : s.data.toList.length = s.size := by simp
  have hbody := Nm.body_drop s.data.toList
  rw [hF] at hbody
  have hget : ∀ k (h : k < s.size), s.data.toList[k]? = some (s[k]'h) := fun k h => getE s k h
  have hh : (s.data.toList.head? == some 45) = false := by
    rw [List.head?_eq_getElem?, hget 0 h00]
    have h5 : (s[0]'h00) ≠ 45 := fun e => h45 (by rw [e]; rfl)
    simp [h5]
  have htold : Nm.told s.data.toList = Nm.told2 false (Nm.val 0 (s.data.toList.drop 0)) := by rw [Nm.told_digits _ hbo hall, hbody, hh]
  have HDG : Hid (∀ k (h : k < s.size), 0 ≤ k → 48 ≤ (s[k]'h).toNat ∧ (s[k]'h).toNat ≤ 57) := Lib.hid fun k h hk => by
    rw [hbody, List.all_eq_true] at hall
    have hm : (s[k]'h) ∈ s.data.toList.drop 0 := List.mem_of_getElem? (i := k - 0) (by rw [List.getElem?_drop, show 0 + (k - 0) = k by omega]; exact hget k h)
    have := hall _ hm
    simpa [Nm.dig] using this
  have hstep : Hid (∀ k (h : k < s.size), 0 ≤ k → Nm.upTo s.data.toList 0 (k + 1) = Nm.upTo s.data.toList 0 k * 10 + Nm.dg (s[k]'h)) := Lib.hid (fun k h hk => Nm.upTo_step _ _ _ hk _ (hget k h))
  have hz : Hid (Nm.upTo s.data.toList 0 0 = 0) := Lib.hid (Nm.upTo_zero _ _)
  have hzz : Hid (Nm.upTo s.data.toList 0 0 = 0) := Lib.hid (by unfold Nm.upTo; rw [Nat.zero_sub, List.take_zero]; rfl)
  have hend : Hid (Nm.upTo s.data.toList 0 s.size = Nm.val 0 (s.data.toList.drop 0)) := Lib.hid (by rw [← hlen]; exact Nm.upTo_all _ _)
  have hle : Hid (∀ k, Nm.upTo s.data.toList 0 k ≤ Nm.val 0 (s.data.toList.drop 0)) := Lib.hid (fun k => Nm.upTo_le _ _ k)
  rw [htold]
  clear hbody hget hlen hF htold hh hbo hall
  generalize Nm.val 0 (s.data.toList.drop 0) = V at *
  generalize hL : s.data.toList = L at *
  clear hL
  have HTOO : Hid (9223372036854775807 < V → Nm.told2 false V = (0, 2)) := Lib.hid fun h => by
    unfold Nm.told2
    rw [if_neg (by omega), if_neg (by intro c; exact absurd c.1 (by decide))]
  have HFIT : Hid (V ≤ 9223372036854775807 → Nm.told2 false V = ((V : Int), 0)) := Lib.hid fun h => by
    unfold Nm.told2
    rw [if_pos (by omega)]; rfl
  have hb0 : (((s[0]'h00).toNat : Int) == 45) = false := by simp; omega
  go_enter Tryd.func129, Tryd.ntmps129
  go_wp2
  go_loopw [5, 6, 7] (fun v5 v6 _ wr => ∃ k : Nat, k ≤ s.size ∧ v6 = .int .i64 k ∧ v5 = .int .i64 ((Nm.upTo L 0 k : Nat) : Int) ∧ Nm.upTo L 0 k ≤ 9223372036854775807 ∧ wr = w) (fun _ v6 _ _ => s.size - (intOf v6).toNat)
  case atStart => exact ⟨0, by omega, rfl, by rw [hzz.out]; rfl, by rw [hzz.out]; omega, rfl⟩
  case round =>
    obtain ⟨k, hk, rfl, rfl, hcap, rfl⟩ := hrel
    by_cases hlt : k < s.size
    · skip
      have hd := HDG.out k hlt (by omega)
      have hst := hstep.out k hlt (by omega)
      have hl1 := hle.out (k + 1)
      have hb45 : (((s[k]'hlt).toNat : Int) == 45) = false := by simp; omega
      unfold Nm.dg at hst
      generalize Nm.upTo L 0 k = v at *
      obtain ⟨hd1, hd2⟩ := hd
      by_cases hbigv : 922337203685477580 < v
      · have hg1 : 922337203685477580 < (v : Int) := by omega
        have HF := Lib.hid (HTOO.out (by omega))
        clear hst hl1
        go_wp2
        go_ret2
        exact ⟨by rw [HF.out]; rfl, rfl⟩
      · have hg1 : ¬ 922337203685477580 < (v : Int) := by omega
        by_cases hev : v = 922337203685477580
        · have hg2 : ((v : Int) == 922337203685477580) = true := by simp; omega
          by_cases hld : 7 < (s[k]'hlt).toNat - 48
          · have hg3 : (7 : Int) < ((s[k]'hlt).toNat : Int) - 48 := by omega
            have HF := Lib.hid (HTOO.out (by omega))
            clear hst hl1 hev hbigv hld
            go_wp2
            go_ret2
            exact ⟨by rw [HF.out]; rfl, rfl⟩
          · have hg3 : ¬ (7 : Int) < ((s[k]'hlt).toNat : Int) - 48 := by omega
            have HN : Hid (Nm.upTo L 0 (k + 1) = v * 10 + ((s[k]'hlt).toNat - 48) ∧ Nm.upTo L 0 (k + 1) ≤ 9223372036854775807) := Lib.hid ⟨hst, by omega⟩
            have hv10 : v ≤ 922337203685477580 := by omega
            clear hst hl1 hev hbigv hld
            go_wp2
            go_roundw
            case rel => exact ⟨k + 1, by omega, by go_num, by rw [HN.out.1]; congr 1; omega, HN.out.2, (by first | rfl | trivial)⟩
            case measure => simp [intOf]; omega
        · have hg2 : ((v : Int) == 922337203685477580) = false := by simp; omega
          have HN : Hid (Nm.upTo L 0 (k + 1) = v * 10 + ((s[k]'hlt).toNat - 48) ∧ Nm.upTo L 0 (k + 1) ≤ 9223372036854775807) := Lib.hid ⟨hst, by omega⟩
          have hv10 : v < 922337203685477580 := by omega
          clear hst hl1 hev hbigv
          go_wp2
          go_roundw
          case rel => exact ⟨k + 1, by omega, by go_num, by rw [HN.out.1]; congr 1; omega, HN.out.2, (by first | rfl | trivial)⟩
          case measure => simp [intOf]; omega
    · have hkn : k = s.size := by omega
      subst hkn
      have HF := Lib.hid (HFIT.out (by rw [← hend.out]; exact hcap))
      have HE : Hid (Nm.upTo L 0 s.size = V) := hend
      go_wp2
      go_ret2
      exact ⟨by rw [HF.out, HE.out]; rfl, rfl⟩
set_option maxHeartbeats 4000000 in
theorem rvalue_1 (s : ByteArray) (w : World) (hs : s.size ≤ 1000000) (h00 : 0 < s.size) (h45 : (s[0]'h00).toNat = 45) (hbo : Nm.body s.data.toList ≠ []) (hall : (Nm.body s.data.toList).all Nm.dig = true) (hF : Nm.from_ s.data.toList = 1) :
    Calls Tryd.prog 129 #[.string s] w fun e w' => e = .returned (valV (Nm.told s.data.toList)) ∧ w' = w := by
  have hlen : s.data.toList.length = s.size := by simp
  have hbody := Nm.body_drop s.data.toList
  rw [hF] at hbody
  have hget : ∀ k (h : k < s.size), s.data.toList[k]? = some (s[k]'h) := fun k h => getE s k h
  have hh : (s.data.toList.head? == some 45) = true := by
    rw [List.head?_eq_getElem?, hget 0 h00]
    have h5 : (s[0]'h00) = 45 := UInt8.toNat_inj.1 (by rw [h45]; rfl)
    rw [h5]; rfl
  have htold : Nm.told s.data.toList = Nm.told2 true (Nm.val 0 (s.data.toList.drop 1)) := by rw [Nm.told_digits _ hbo hall, hbody, hh]
  have HDG : Hid (∀ k (h : k < s.size), 1 ≤ k → 48 ≤ (s[k]'h).toNat ∧ (s[k]'h).toNat ≤ 57) := Lib.hid fun k h hk => by
    rw [hbody, List.all_eq_true] at hall
    have hm : (s[k]'h) ∈ s.data.toList.drop 1 := List.mem_of_getElem? (i := k - 1) (by rw [List.getElem?_drop, show 1 + (k - 1) = k by omega]; exact hget k h)
    have := hall _ hm
    simpa [Nm.dig] using this
  have hstep : Hid (∀ k (h : k < s.size), 1 ≤ k → Nm.upTo s.data.toList 1 (k + 1) = Nm.upTo s.data.toList 1 k * 10 + Nm.dg (s[k]'h)) := Lib.hid (fun k h hk => Nm.upTo_step _ _ _ hk _ (hget k h))
  have hz : Hid (Nm.upTo s.data.toList 1 1 = 0) := Lib.hid (Nm.upTo_zero _ _)
  have hzz : Hid (Nm.upTo s.data.toList 1 0 = 0) := Lib.hid (by unfold Nm.upTo; rw [Nat.zero_sub, List.take_zero]; rfl)
  have hend : Hid (Nm.upTo s.data.toList 1 s.size = Nm.val 0 (s.data.toList.drop 1)) := Lib.hid (by rw [← hlen]; exact Nm.upTo_all _ _)
  have hle : Hid (∀ k, Nm.upTo s.data.toList 1 k ≤ Nm.val 0 (s.data.toList.drop 1)) := Lib.hid (fun k => Nm.upTo_le _ _ k)
  rw [htold]
  clear hbody hget hlen hF htold hh hbo hall
  generalize Nm.val 0 (s.data.toList.drop 1) = V at *
  generalize hL : s.data.toList = L at *
  clear hL
  have HTOO : Hid (9223372036854775808 < V → Nm.told2 true V = (0, 2)) := Lib.hid fun h => by
    unfold Nm.told2
    rw [if_neg (by omega), if_neg (by intro c; have := c.2; omega)]
  have HFIT : Hid (V ≤ 9223372036854775808 → Nm.told2 true V = (-(V : Int), 0)) := Lib.hid fun h => by
    unfold Nm.told2
    by_cases c : V < 9223372036854775808
    · rw [if_pos c]; rfl
    · rw [if_neg c, if_pos ⟨rfl, by omega⟩]
  have hb0 : (((s[0]'h00).toNat : Int) == 45) = true := by simp; omega
  go_enter Tryd.func129, Tryd.ntmps129
  go_wp2
  go_loopw [5, 6, 7] (fun v5 v6 _ wr => ∃ k : Nat, k ≤ s.size ∧ v6 = .int .i64 k ∧ v5 = .int .i64 (-((Nm.upTo L 1 k : Nat) : Int)) ∧ Nm.upTo L 1 k ≤ 9223372036854775808 ∧ wr = w) (fun _ v6 _ _ => s.size - (intOf v6).toNat)
  case atStart => exact ⟨0, by omega, rfl, by rw [hzz.out]; rfl, by rw [hzz.out]; omega, rfl⟩
  case round =>
    obtain ⟨k, hk, rfl, rfl, hcap, rfl⟩ := hrel
    by_cases hlt : k < s.size
    · skip
      by_cases hk0 : k = 0
      · subst hk0
        have hb45 : (((s[0]'hlt).toNat : Int) == 45) = true := by simp; omega
        have HU : Hid (Nm.upTo L 1 0 = 0) := hzz
        go_wp2
        go_roundw
        case rel => exact ⟨1, by omega, rfl, by rw [hz.out, HU.out], by rw [hz.out]; omega, (by first | rfl | trivial)⟩
        case measure => simp [intOf]; omega
      · have hk0 : 1 ≤ k := by omega
        have hd := HDG.out k hlt hk0
        have hst := hstep.out k hlt hk0
        have hl1 := hle.out (k + 1)
        have hb45 : (((s[k]'hlt).toNat : Int) == 45) = false := by simp; omega
        unfold Nm.dg at hst
        generalize Nm.upTo L 1 k = v at *
        obtain ⟨hd1, hd2⟩ := hd
        by_cases hbigv : 922337203685477580 < v
        · have hg1 : -(v : Int) < (-922337203685477580) := by omega
          have HF := Lib.hid (HTOO.out (by omega))
          clear hst hl1
          go_wp2
          go_ret2
          exact ⟨by rw [HF.out]; rfl, rfl⟩
        · have hg1 : ¬ -(v : Int) < (-922337203685477580) := by omega
          by_cases hev : v = 922337203685477580
          · have hg2 : (-(v : Int) == (-922337203685477580)) = true := by simp; omega
            by_cases hld : 8 < (s[k]'hlt).toNat - 48
            · have hg3 : (8 : Int) < ((s[k]'hlt).toNat : Int) - 48 := by omega
              have HF := Lib.hid (HTOO.out (by omega))
              clear hst hl1 hev hbigv hld
              go_wp2
              go_ret2
              exact ⟨by rw [HF.out]; rfl, rfl⟩
            · have hg3 : ¬ (8 : Int) < ((s[k]'hlt).toNat : Int) - 48 := by omega
              have HN : Hid (Nm.upTo L 1 (k + 1) = v * 10 + ((s[k]'hlt).toNat - 48) ∧ Nm.upTo L 1 (k + 1) ≤ 9223372036854775808) := Lib.hid ⟨hst, by omega⟩
              have hv10 : v ≤ 922337203685477580 := by omega
              clear hst hl1 hev hbigv hld
              go_wp2
              go_roundw
              case rel => exact ⟨k + 1, by omega, by go_num, by rw [HN.out.1]; congr 1; omega, HN.out.2, (by first | rfl | trivial)⟩
              case measure => simp [intOf]; omega
          · have hg2 : (-(v : Int) == (-922337203685477580)) = false := by simp; omega
            have HN : Hid (Nm.upTo L 1 (k + 1) = v * 10 + ((s[k]'hlt).toNat - 48) ∧ Nm.upTo L 1 (k + 1) ≤ 9223372036854775808) := Lib.hid ⟨hst, by omega⟩
            have hv10 : v < 922337203685477580 := by omega
            clear hst hl1 hev hbigv
            go_wp2
            go_roundw
            case rel => exact ⟨k + 1, by omega, by go_num, by rw [HN.out.1]; congr 1; omega, HN.out.2, (by first | rfl | trivial)⟩
            case measure => simp [intOf]; omega
    · have hkn : k = s.size := by omega
      subst hkn
      have HF := Lib.hid (HFIT.out (by rw [← hend.out]; exact hcap))
      have HE : Hid (Nm.upTo L 1 s.size = V) := hend
      go_wp2
      go_ret2
      exact ⟨by rw [HF.out, HE.out]; rfl, rfl⟩
theorem rvalue_any (s : ByteArray) (w : World) (hs : s.size ≤ 1000000) (hbo : Nm.body s.data.toList ≠ []) (hall : (Nm.body s.data.toList).all Nm.dig = true) :
    Calls Tryd.prog 129 #[.string s] w fun e w' => e = .returned (valV (Nm.told s.data.toList)) ∧ w' = w := by
  have h00 : 0 < s.size := by
    cases h : s.data.toList with
    | nil => rw [h] at hbo; exact absurd rfl hbo
    | cons c r =>
      have : s.data.toList.length = s.size := by simp
      rw [h] at this
      simp at this
      omega
  have hh : s.data.toList.head? = some (s[0]'h00) := by rw [List.head?_eq_getElem?]; exact getE s 0 h00
  by_cases h45 : (s[0]'h00).toNat = 45
  · exact rvalue_1 s w hs h00 h45 hbo hall (by unfold Nm.from_; rw [hh, if_pos (by congr 1; exact UInt8.toNat_inj.1 (by rw [h45]; rfl))])
  · exact rvalue_0 s w hs h00 h45 hbo hall (by unfold Nm.from_; rw [hh, if_neg (by intro e; injection e with e; exact h45 (by rw [e]; rfl))])
end Go.Proofs.YtbplkphjjfgkmaaDoor
