/-
  The reference's Read, by a walk: first without, then behind a minus.
-/
import Derived.Test.YtlmecpghlgndnaaDoorNumRef
namespace Go.Proofs.YtlmecpghlgndnaaDoor
open Go.RowKit
set_option linter.unusedVariables false
set_option linter.unusedSimpArgs false

set_option maxHeartbeats 1000000 in
theorem rread_0 (s : ByteArray) (w : World) (hs : s.size ≤ 281474976710656) (h0 : 0 < s.size) (h00 : 0 < s.size) (h45 : ¬ (s[0]'h00).toNat = 45) (hF : Nm.from_ s.data.toList = 0) :
    Calls Tryd.prog 9 #[.string s] w fun e w' => e = .returned (Nm.tup (Nm.told s.data.toList)) ∧ w = w' := by
  have hu : ∀ b : Bool, ¬ (some undef = some (Value.bool b)) := fun b h => by cases h
  have hlen : s.data.toList.length = s.size := by simp
  have hbody := Nm.body_drop s.data.toList
  rw [hF] at hbody
  have hne : Nm.body s.data.toList ≠ [] := by
    rw [hbody]
    intro h
    have := congrArg List.length h
    simp only [List.length_drop, List.length_nil] at this
    omega
  have hget : ∀ k (h : k < s.size), s.data.toList[k]? = some (s[k]'h) := fun k h => getE s k h
  have hbad : Hid (∀ k (h : k < s.size), 0 ≤ k → Nm.dig (s[k]'h) = false → Nm.told s.data.toList = (0, 17)) := Lib.hid (fun k h hk hf => by
    refine Nm.told_form (Or.inr ?_)
    cases hc : (Nm.body s.data.toList).all Nm.dig with
    | false => rfl
    | true =>
      exfalso
      rw [hbody, List.all_eq_true] at hc
      have hm : (s[k]'h) ∈ s.data.toList.drop 0 := List.mem_of_getElem? (i := k - 0) (by rw [List.getElem?_drop, show 0 + (k - 0) = k by omega]; exact hget k h)
      have := hc _ hm
      rw [hf] at this
      cases this)
  have hall : Hid ((∀ k (h : k < s.size), 0 ≤ k → Nm.dig (s[k]'h) = true) → Nm.told s.data.toList = Nm.told2 false (Nm.val 0 (s.data.toList.drop 0))) := Lib.hid (fun h => by
    have hA : (Nm.body s.data.toList).all Nm.dig = true := by
      rw [hbody, List.all_eq_true]
      intro x hx
      obtain ⟨k, hk, rfl⟩ := List.mem_iff_getElem.1 hx
      have hk2 : 0 + k < s.size := by simp at hk; omega
      rw [List.getElem_drop]
      exact h (0 + k) hk2 (by omega)
    rw [Nm.told_digits _ hne hA, hbody]
    congr 1
    have hh : s.data.toList.head? = some (s[0]'h00) := by rw [List.head?_eq_getElem?]; exact hget 0 h00
    rw [hh]
    have h5 : (s[0]'h00) ≠ 45 := fun e => h45 (by rw [e]; rfl)
    simp [h5])
  have hstep : Hid (∀ k (h : k < s.size), 0 ≤ k → Nm.upTo s.data.toList 0 (k + 1) = Nm.upTo s.data.toList 0 k * 10 + Nm.dg (s[k]'h)) := Lib.hid (fun k h hk => Nm.upTo_step _ _ _ hk _ (hget k h))
  have hz : Hid (Nm.upTo s.data.toList 0 0 = 0) := Lib.hid (Nm.upTo_zero _ _)
  have hend : Hid (Nm.upTo s.data.toList 0 s.size = Nm.val 0 (s.data.toList.drop 0)) := Lib.hid (by rw [← hlen]; exact Nm.upTo_all _ _)
  have hle : Hid (∀ k, Nm.upTo s.data.toList 0 k ≤ Nm.val 0 (s.data.toList.drop 0)) := Lib.hid (fun k => Nm.upTo_le _ _ k)
  clear hbody hne hget hlen hF
  generalize Nm.val 0 (s.data.toList.drop 0) = V at *
  generalize hL : s.data.toList = L at *
  clear hL
  have hb1 : (((s[0]'h00).toNat : Int) == 45) = false := by simp; omega
  have hb2 : ((0 : Int) == (s.size : Int)) = false := by simp; omega
  go_enter Tryd.func9, Tryd.ntmps9
  go_wp2
  go_loopw [5] (fun v5 wr => ∃ k : Nat, Hid (0 ≤ k) ∧ k ≤ s.size ∧ v5 = .int .i64 k ∧ Hid (∀ j (h : j < s.size), 0 ≤ j → j < k → Nm.dig (s[j]'h) = true) ∧ w = wr) (fun v5 _ => s.size - (intOf v5).toNat)
  case atStart => exact ⟨0, Lib.hid (Nat.le_refl _), by omega, rfl, Lib.hid (fun j h h1 hj => by omega), rfl⟩
  case round =>
    obtain ⟨k, HK0, hk, rfl, HK, rfl⟩ := hrel
    have hk0 := HK0.out
    by_cases hlt : k < s.size
    · by_cases h1 : (s[k]'hlt).toNat < 48
      · have HT0 := Lib.hid (hbad.out k hlt hk0 (by unfold Nm.dig; rw [decide_eq_false (by omega)]; rfl))
        clear hbad hall
        go_wp2
        go_ret2
        exact ⟨by rw [HT0.out]; rfl, rfl⟩
      · by_cases h2 : 57 < (s[k]'hlt).toNat
        · have HT0 := Lib.hid (hbad.out k hlt hk0 (by unfold Nm.dig; rw [decide_eq_false (p := (s[k]'hlt).toNat ≤ 57) (by omega), Bool.and_false]))
          clear hbad hall
          go_wp2
          go_ret2
          exact ⟨by rw [HT0.out]; rfl, rfl⟩
        · have hdk : Hid (Nm.dig (s[k]'hlt) = true) := Lib.hid (by unfold Nm.dig; rw [decide_eq_true (by omega), decide_eq_true (by omega)]; rfl)
          go_wp2
          go_roundw
          case rel => exact ⟨k + 1, Lib.hid (by omega), by omega, by go_num, Lib.hid (fun j h h1 hj => by
            by_cases hjk : j = k
            · subst hjk; exact hdk.out
            · exact HK.out j h h1 (by omega)), trivial⟩
          case measure => simp [intOf]; omega
    · have HT := Lib.hid (hall.out (fun j h h1 => HK.out j h h1 (by omega)))
      have HDG : Hid (∀ j (h : j < s.size), 0 ≤ j → 48 ≤ (s[j]'h).toNat ∧ (s[j]'h).toNat ≤ 57) := Lib.hid (fun j h h1 => by
        have := HK.out j h h1 (by omega)
        simpa [Nm.dig] using this)
      clear hall hbad HK
      go_wp2
      go_loopw [6, 7, 8] (fun v6 v7 _ wr => ∃ k : Nat, Hid (0 ≤ k) ∧ k ≤ s.size ∧ v7 = .int .i64 k ∧ v6 = .int .i64 (-((Nm.upTo L 0 k : Nat) : Int)) ∧ Nm.upTo L 0 k ≤ 9223372036854775808 ∧ w = wr) (fun _ v7 _ _ => s.size - (intOf v7).toNat)
      case atStart => exact ⟨0, Lib.hid (Nat.le_refl _), by omega, rfl, by rw [hz.out]; rfl, by rw [hz.out]; omega, rfl⟩
      case round =>
        obtain ⟨k, HK0, hk, rfl, rfl, hcap, rfl⟩ := hrel
        have hk0 := HK0.out
        by_cases hlt : k < s.size
        · have hst := hstep.out k hlt hk0
          have hd := HDG.out k hlt hk0
          have hl1 := hle.out (k + 1)
          unfold Nm.dg at hst
          generalize Nm.upTo L 0 k = v at *
          have hq : Int.tdiv (-9223372036854775808 + (((s[k]'hlt).toNat : Int) - 48)) 10 = -((9223372036854775808 - (((s[k]'hlt).toNat : Int) - 48)) / 10) := by
            rw [show (-9223372036854775808 + (((s[k]'hlt).toNat : Int) - 48)) = -(9223372036854775808 - (((s[k]'hlt).toNat : Int) - 48)) by omega, Int.neg_tdiv, Int.tdiv_eq_ediv_of_nonneg (by omega)]
          by_cases hc2 : v * 10 + ((s[k]'hlt).toNat - 48) ≤ 9223372036854775808
          · have hg : ¬ (-(v : Int) < -((9223372036854775808 - (((s[k]'hlt).toNat : Int) - 48)) / 10)) := by omega
            have HST := Lib.hid hst
            clear hst hl1
            go_wp2
            go_roundw
            case rel => exact ⟨k + 1, Lib.hid (by omega), by omega, by go_num, by
              rw [HST.out]
              refine congrArg _ ?_
              omega, by rw [HST.out]; exact hc2, trivial⟩
            case measure => simp [intOf]; omega
          · have hg : (-(v : Int) < -((9223372036854775808 - (((s[k]'hlt).toNat : Int) - 48)) / 10)) := by omega
            have hT0 : Nm.told2 false V = (0, 2) := by
              unfold Nm.told2
              rw [if_neg (by omega), if_neg (by omega)]
            have HT0 := Lib.hid hT0
            clear hst hl1 hT0
            go_wp2
            go_ret2
            exact ⟨by rw [HT.out, HT0.out]; rfl, rfl⟩
        · obtain rfl : k = s.size := by omega
          have he := hend.out
          rw [he] at hcap ⊢
          by_cases hv : V = 9223372036854775808
          · have hT0 : Nm.told2 false V = (0, 2) := by
              unfold Nm.told2
              rw [if_neg (by omega), if_neg (by simp)]
            have HT0 := Lib.hid hT0
            clear hT0
            have hvb : (-(V : Int) == -9223372036854775808) = true := by simp; omega
            go_wp2
            go_ret2
            exact ⟨by rw [HT.out, HT0.out]; rfl, rfl⟩
          · have hT0 : Nm.told2 false V = ((V : Int), 0) := by
              unfold Nm.told2
              rw [if_pos (by omega), if_neg (by simp)]
            have HT0 := Lib.hid hT0
            clear hT0
            have hvb : (-(V : Int) == -9223372036854775808) = false := by simp; omega
            have hw : wrap64 (V : Int) = V := by unfold wrap64; omega
            go_wp2
            go_ret2
            exact ⟨by rw [HT.out, HT0.out]; rfl, rfl⟩

set_option maxHeartbeats 1000000 in
theorem rread_1 (s : ByteArray) (w : World) (hs : s.size ≤ 281474976710656) (h0 : 1 < s.size) (h00 : 0 < s.size) (h45 : (s[0]'h00).toNat = 45) (hF : Nm.from_ s.data.toList = 1) :
    Calls Tryd.prog 9 #[.string s] w fun e w' => e = .returned (Nm.tup (Nm.told s.data.toList)) ∧ w = w' := by
  have hu : ∀ b : Bool, ¬ (some undef = some (Value.bool b)) := fun b h => by cases h
  have hlen : s.data.toList.length = s.size := by simp
  have hbody := Nm.body_drop s.data.toList
  rw [hF] at hbody
  have hne : Nm.body s.data.toList ≠ [] := by
    rw [hbody]
    intro h
    have := congrArg List.length h
    simp only [List.length_drop, List.length_nil] at this
    omega
  have hget : ∀ k (h : k < s.size), s.data.toList[k]? = some (s[k]'h) := fun k h => getE s k h
  have hbad : Hid (∀ k (h : k < s.size), 1 ≤ k → Nm.dig (s[k]'h) = false → Nm.told s.data.toList = (0, 17)) := Lib.hid (fun k h hk hf => by
    refine Nm.told_form (Or.inr ?_)
    cases hc : (Nm.body s.data.toList).all Nm.dig with
    | false => rfl
    | true =>
      exfalso
      rw [hbody, List.all_eq_true] at hc
      have hm : (s[k]'h) ∈ s.data.toList.drop 1 := List.mem_of_getElem? (i := k - 1) (by rw [List.getElem?_drop, show 1 + (k - 1) = k by omega]; exact hget k h)
      have := hc _ hm
      rw [hf] at this
      cases this)
  have hall : Hid ((∀ k (h : k < s.size), 1 ≤ k → Nm.dig (s[k]'h) = true) → Nm.told s.data.toList = Nm.told2 true (Nm.val 0 (s.data.toList.drop 1))) := Lib.hid (fun h => by
    have hA : (Nm.body s.data.toList).all Nm.dig = true := by
      rw [hbody, List.all_eq_true]
      intro x hx
      obtain ⟨k, hk, rfl⟩ := List.mem_iff_getElem.1 hx
      have hk2 : 1 + k < s.size := by simp at hk; omega
      rw [List.getElem_drop]
      exact h (1 + k) hk2 (by omega)
    rw [Nm.told_digits _ hne hA, hbody]
    congr 1
    have hh : s.data.toList.head? = some (s[0]'h00) := by rw [List.head?_eq_getElem?]; exact hget 0 h00
    rw [hh]
    have h5 : (s[0]'h00) = 45 := UInt8.toNat_inj.1 h45
    simp [h5])
  have hstep : Hid (∀ k (h : k < s.size), 1 ≤ k → Nm.upTo s.data.toList 1 (k + 1) = Nm.upTo s.data.toList 1 k * 10 + Nm.dg (s[k]'h)) := Lib.hid (fun k h hk => Nm.upTo_step _ _ _ hk _ (hget k h))
  have hz : Hid (Nm.upTo s.data.toList 1 1 = 0) := Lib.hid (Nm.upTo_zero _ _)
  have hend : Hid (Nm.upTo s.data.toList 1 s.size = Nm.val 0 (s.data.toList.drop 1)) := Lib.hid (by rw [← hlen]; exact Nm.upTo_all _ _)
  have hle : Hid (∀ k, Nm.upTo s.data.toList 1 k ≤ Nm.val 0 (s.data.toList.drop 1)) := Lib.hid (fun k => Nm.upTo_le _ _ k)
  clear hbody hne hget hlen hF
  generalize Nm.val 0 (s.data.toList.drop 1) = V at *
  generalize hL : s.data.toList = L at *
  clear hL
  have hb1 : (((s[0]'h00).toNat : Int) == 45) = true := by simp; omega
  have hb2 : ((1 : Int) == (s.size : Int)) = false := by simp; omega
  go_enter Tryd.func9, Tryd.ntmps9
  go_wp2
  go_loopw [5] (fun v5 wr => ∃ k : Nat, Hid (1 ≤ k) ∧ k ≤ s.size ∧ v5 = .int .i64 k ∧ Hid (∀ j (h : j < s.size), 1 ≤ j → j < k → Nm.dig (s[j]'h) = true) ∧ w = wr) (fun v5 _ => s.size - (intOf v5).toNat)
  case atStart => exact ⟨1, Lib.hid (Nat.le_refl _), by omega, rfl, Lib.hid (fun j h h1 hj => by omega), rfl⟩
  case round =>
    obtain ⟨k, HK0, hk, rfl, HK, rfl⟩ := hrel
    have hk0 := HK0.out
    by_cases hlt : k < s.size
    · by_cases h1 : (s[k]'hlt).toNat < 48
      · have HT0 := Lib.hid (hbad.out k hlt hk0 (by unfold Nm.dig; rw [decide_eq_false (by omega)]; rfl))
        clear hbad hall
        go_wp2
        go_ret2
        exact ⟨by rw [HT0.out]; rfl, rfl⟩
      · by_cases h2 : 57 < (s[k]'hlt).toNat
        · have HT0 := Lib.hid (hbad.out k hlt hk0 (by unfold Nm.dig; rw [decide_eq_false (p := (s[k]'hlt).toNat ≤ 57) (by omega), Bool.and_false]))
          clear hbad hall
          go_wp2
          go_ret2
          exact ⟨by rw [HT0.out]; rfl, rfl⟩
        · have hdk : Hid (Nm.dig (s[k]'hlt) = true) := Lib.hid (by unfold Nm.dig; rw [decide_eq_true (by omega), decide_eq_true (by omega)]; rfl)
          go_wp2
          go_roundw
          case rel => exact ⟨k + 1, Lib.hid (by omega), by omega, by go_num, Lib.hid (fun j h h1 hj => by
            by_cases hjk : j = k
            · subst hjk; exact hdk.out
            · exact HK.out j h h1 (by omega)), trivial⟩
          case measure => simp [intOf]; omega
    · have HT := Lib.hid (hall.out (fun j h h1 => HK.out j h h1 (by omega)))
      have HDG : Hid (∀ j (h : j < s.size), 1 ≤ j → 48 ≤ (s[j]'h).toNat ∧ (s[j]'h).toNat ≤ 57) := Lib.hid (fun j h h1 => by
        have := HK.out j h h1 (by omega)
        simpa [Nm.dig] using this)
      clear hall hbad HK
      go_wp2
      go_loopw [6, 7, 8] (fun v6 v7 _ wr => ∃ k : Nat, Hid (1 ≤ k) ∧ k ≤ s.size ∧ v7 = .int .i64 k ∧ v6 = .int .i64 (-((Nm.upTo L 1 k : Nat) : Int)) ∧ Nm.upTo L 1 k ≤ 9223372036854775808 ∧ w = wr) (fun _ v7 _ _ => s.size - (intOf v7).toNat)
      case atStart => exact ⟨1, Lib.hid (Nat.le_refl _), by omega, rfl, by rw [hz.out]; rfl, by rw [hz.out]; omega, rfl⟩
      case round =>
        obtain ⟨k, HK0, hk, rfl, rfl, hcap, rfl⟩ := hrel
        have hk0 := HK0.out
        by_cases hlt : k < s.size
        · have hst := hstep.out k hlt hk0
          have hd := HDG.out k hlt hk0
          have hl1 := hle.out (k + 1)
          unfold Nm.dg at hst
          generalize Nm.upTo L 1 k = v at *
          have hq : Int.tdiv (-9223372036854775808 + (((s[k]'hlt).toNat : Int) - 48)) 10 = -((9223372036854775808 - (((s[k]'hlt).toNat : Int) - 48)) / 10) := by
            rw [show (-9223372036854775808 + (((s[k]'hlt).toNat : Int) - 48)) = -(9223372036854775808 - (((s[k]'hlt).toNat : Int) - 48)) by omega, Int.neg_tdiv, Int.tdiv_eq_ediv_of_nonneg (by omega)]
          by_cases hc2 : v * 10 + ((s[k]'hlt).toNat - 48) ≤ 9223372036854775808
          · have hg : ¬ (-(v : Int) < -((9223372036854775808 - (((s[k]'hlt).toNat : Int) - 48)) / 10)) := by omega
            have HST := Lib.hid hst
            clear hst hl1
            go_wp2
            go_roundw
            case rel => exact ⟨k + 1, Lib.hid (by omega), by omega, by go_num, by
              rw [HST.out]
              refine congrArg _ ?_
              omega, by rw [HST.out]; exact hc2, trivial⟩
            case measure => simp [intOf]; omega
          · have hg : (-(v : Int) < -((9223372036854775808 - (((s[k]'hlt).toNat : Int) - 48)) / 10)) := by omega
            have hT0 : Nm.told2 true V = (0, 2) := by
              unfold Nm.told2
              rw [if_neg (by omega), if_neg (by omega)]
            have HT0 := Lib.hid hT0
            clear hst hl1 hT0
            go_wp2
            go_ret2
            exact ⟨by rw [HT.out, HT0.out]; rfl, rfl⟩
        · obtain rfl : k = s.size := by omega
          have he := hend.out
          rw [he] at hcap ⊢
          have hT0 : Nm.told2 true V = (-(V : Int), 0) := by
            unfold Nm.told2
            by_cases h : V < 9223372036854775808
            · rw [if_pos h, if_pos rfl]
            · rw [if_neg h, if_pos ⟨rfl, by omega⟩]
          have HT0 := Lib.hid hT0
          clear hT0
          go_wp2
          go_ret2
          exact ⟨by rw [HT.out, HT0.out]; rfl, rfl⟩

set_option maxHeartbeats 1000000 in
theorem rread_any (s : ByteArray) (w : World) (hs : s.size ≤ 281474976710656) :
    Calls Tryd.prog 9 #[.string s] w fun e w' => e = .returned (Nm.tup (Nm.told s.data.toList)) ∧ w = w' := by
  have hlen : s.data.toList.length = s.size := by simp
  by_cases h0 : 0 < s.size
  · have hh : s.data.toList.head? = some (s[0]'h0) := by rw [List.head?_eq_getElem?]; exact getE s 0 h0
    by_cases h45 : (s[0]'h0).toNat = 45
    · have h5 : (s[0]'h0) = 45 := UInt8.toNat_inj.1 h45
      have hF : Nm.from_ s.data.toList = 1 := by unfold Nm.from_; rw [hh, h5, if_pos rfl]
      by_cases h1 : 1 < s.size
      · exact rread_1 s w hs h1 h0 h45 hF
      · have hb := Nm.body_drop s.data.toList
        rw [hF] at hb
        have HT0 := Lib.hid (Nm.told_form (L := s.data.toList) (Or.inl (by rw [hb]; exact List.drop_eq_nil_of_le (by omega))))
        have hsz : s.size = 1 := by omega
        have hu : ∀ b : Bool, ¬ (some undef = some (Value.bool b)) := fun b h => by cases h
        have hb1 : (((s[0]'h0).toNat : Int) == 45) = true := by simp; omega
        have hb2 : ((1 : Int) == (s.size : Int)) = true := by simp; omega
        clear hb hF hlen hh h5 hsz
        generalize s.data.toList = L at *
        go_enter Tryd.func9, Tryd.ntmps9
        go_wp2
        go_ret2
        exact ⟨by rw [HT0.out]; rfl, rfl⟩
    · have h5 : (s[0]'h0) ≠ 45 := fun e => h45 (by rw [e]; rfl)
      have hF : Nm.from_ s.data.toList = 0 := by unfold Nm.from_; rw [hh, if_neg (by simpa using h5)]
      exact rread_0 s w hs h0 h0 h45 hF
  · have hn : s.data.toList = [] := List.eq_nil_of_length_eq_zero (by omega)
    have HT0 := Lib.hid (Nm.told_form (L := s.data.toList) (Or.inl (by rw [hn]; rfl)))
    have hu : ∀ b : Bool, ¬ (some undef = some (Value.bool b)) := fun b h => by cases h
    have hsz : s.size = 0 := by omega
    clear hn hlen
    generalize s.data.toList = L at *
    go_enter Tryd.func9, Tryd.ntmps9
    go_wp2
    go_ret2
    exact ⟨by rw [HT0.out]; rfl, rfl⟩

set_option maxHeartbeats 1000000 in
theorem reads_any (s : ByteArray) (w : World) (hs : s.size ≤ 281474976710656) (hn : NumIs w) :
    Calls Tryd.prog 3 #[.string s] w fun e w' => e = .returned (.bool true) ∧ Below w.heap.size w w' := by
  have hu : ∀ b : Bool, ¬ (some undef = some (Value.bool b)) := fun b h => by cases h
  have HR := Lib.hid (read_is s w hs hn)
  have HF : Hid (∀ w', Calls Tryd.prog 9 #[.string s] w' fun e w2 => e = .returned (Nm.tup (Nm.told s.data.toList)) ∧ w' = w2) := Lib.hid (fun w' => rread_any s w' hs)
  have HW : Hid (∀ w', Below w.heap.size w w' → Calls Tryd.prog 10 #[] w' fun e w2 => e = .returned (.bool true) ∧ Below w.heap.size w w2) := Lib.hid (fun w' hb => by
    refine (awake_any w' (hn.below hb)).mono ?_
    rintro e w2 ⟨rfl, hb2⟩
    exact ⟨rfl, hb.trans (hb2.mono hb.size)⟩)
  unfold Nm.tup at HR HF
  clear hn
  generalize (Nm.told s.data.toList).1 = t1 at *
  generalize (Nm.told s.data.toList).2 = t2 at *
  go_enter Tryd.func3, Tryd.ntmps3
  go_wp2_with (first | (go_at_call 8; refine HR.out.mono ?_; rintro e w2 ⟨rfl, hb2⟩) | (go_at_call 9; refine (HF.out _).mono ?_; rintro e w3 ⟨rfl, rfl⟩) | (go_at_call 10; refine (HW.out _ hb2).mono ?_; rintro e w5 ⟨rfl, hb5⟩))
  all_goals go_ret
  all_goals exact ⟨rfl, hb5⟩
end Go.Proofs.YtlmecpghlgndnaaDoor
