/-
  num.Print's text: it is read again, and the reference's Print tells it too.
-/
import Derived.Test.YtbplkphjjfgkmaaDoorNmRef
import Derived.Lib.ItoaMem
import Derived.Laws.IdiomStrings
import Derived.Lib.ItoaLen
namespace Go.Proofs.YtbplkphjjfgkmaaDoor
open Go.RowKit
set_option linter.unusedVariables false
set_option linter.unusedSimpArgs false

namespace Nm
theorem dec_small {u : Nat} (h : u < 10) : Lib.decDigits u = [UInt8.ofNat (48 + u)] := Lib.decDigits_one h
theorem dec_big {u : Nat} (h : ¬ u < 10) : Lib.decDigits u = Lib.decDigits (u / 10) ++ [UInt8.ofNat (48 + u % 10)] := by
  rw [Lib.decDigits, dif_neg h]
theorem byte_of {r : Nat} (h : r < 10) : (UInt8.ofNat (48 + r)).toNat = 48 + r := by
  rw [UInt8.toNat_ofNat']
  omega
theorem dec_ne (u : Nat) : Lib.decDigits u ≠ [] := by
  by_cases h : u < 10
  · rw [dec_small h]; simp
  · rw [dec_big h]; simp
theorem dec_dig (u : Nat) : (Lib.decDigits u).all dig = true := by
  induction u using Nat.strongRecOn with
  | _ u ih =>
    by_cases h : u < 10
    · rw [dec_small h, List.all_cons, List.all_nil, Bool.and_true]
      unfold dig
      rw [byte_of h, decide_eq_true (by omega), decide_eq_true (by omega)]
      rfl
    · rw [dec_big h, List.all_append, ih (u / 10) (by omega), List.all_cons, List.all_nil, Bool.and_true, Bool.true_and]
      unfold dig
      rw [byte_of (Nat.mod_lt _ (by omega)), decide_eq_true (by omega), decide_eq_true (by omega)]
      rfl
theorem dec_val (u : Nat) : val 0 (Lib.decDigits u) = u := by
  induction u using Nat.strongRecOn with
  | _ u ih =>
    by_cases h : u < 10
    · rw [dec_small h]
      show 0 * 10 + dg (UInt8.ofNat (48 + u)) = u
      unfold dg
      rw [byte_of h]
      omega
    · rw [dec_big h, val_snoc, ih (u / 10) (by omega)]
      unfold dg
      rw [byte_of (Nat.mod_lt _ (by omega))]
      omega
theorem dec_head (u : Nat) : body (Lib.decDigits u) = Lib.decDigits u ∧ ((Lib.decDigits u).head? == some 45) = false := by
  have h1 := dec_ne u
  have h2 := dec_dig u
  cases h : Lib.decDigits u with
  | nil => exact absurd h h1
  | cons c r =>
    rw [h, List.all_cons, Bool.and_eq_true] at h2
    have h3 : 48 ≤ c.toNat ∧ c.toNat ≤ 57 := by simpa [dig] using h2.1
    have h4 : c ≠ 45 := fun e => by rw [e] at h3; exact absurd h3.1 (by decide)
    exact ⟨by unfold body; simp [h4], by simp [h4]⟩
theorem told_itoa (n : Int) (h : -9223372036854775808 ≤ n ∧ n ≤ 9223372036854775807) : told (Lib.itoa n) = (n, 0) := by
  unfold Lib.itoa
  by_cases hn : n < 0
  · rw [if_pos hn]
    have hb : body (45 :: Lib.decDigits n.natAbs) = Lib.decDigits n.natAbs := by unfold body; simp
    rw [told_digits _ (by rw [hb]; exact dec_ne _) (by rw [hb]; exact dec_dig _), hb, dec_val]
    rw [show ((45 :: Lib.decDigits n.natAbs).head? == some (45 : UInt8)) = true by simp]
    unfold told2
    by_cases h1 : n.natAbs < 9223372036854775808
    · rw [if_pos h1, if_pos rfl]
      exact Prod.ext (by show -((n.natAbs : Nat) : Int) = n; omega) rfl
    · rw [if_neg h1, if_pos ⟨rfl, by omega⟩]
      exact Prod.ext (by show -((n.natAbs : Nat) : Int) = n; omega) rfl
  · rw [if_neg hn]
    obtain ⟨hb, hh⟩ := dec_head n.toNat
    rw [told_digits _ (by rw [hb]; exact dec_ne _) (by rw [hb]; exact dec_dig _), hb, dec_val, hh]
    unfold told2
    rw [if_pos (by omega), if_neg (by decide)]
    exact Prod.ext (by show ((n.toNat : Nat) : Int) = n; omega) rfl
/-- The digits still to come, and those that stand. -/
def rest (t : Nat) : List UInt8 := if t = 0 then [] else Lib.decDigits t
theorem rest_step (t : Nat) (h : t ≠ 0) : rest t = rest (t / 10) ++ [UInt8.ofNat (48 + t % 10)] := by
  unfold rest
  rw [if_neg h]
  by_cases h1 : t < 10
  · rw [dec_small h1, if_pos (by omega), show t % 10 = t by omega]
    rfl
  · rw [dec_big h1, if_neg (by omega)]
end Nm

set_option maxRecDepth 10000 in
set_option maxHeartbeats 1000000 in
theorem rprint_pos (T : Nat) (w : World) (h1 : 0 < T) (h2 : T ≤ 9223372036854775807) :
    Calls Tryd.prog 93 #[.int .i64 (T : Int)] w fun e w' => (∃ S : ByteArray, e = .returned (.string S) ∧ S.data.toList = Lib.decDigits T) ∧ Below w.heap.size w w' := by
  have hu : ∀ b : Bool, ¬ (some undef = some (Value.bool b)) := fun b h => by cases h
  have h0 : ((T : Int) == 0) = false := by simp; omega
  have hR : Hid (Nm.rest T = Lib.decDigits T) := Lib.hid (by unfold Nm.rest; rw [if_neg (by omega)])
  have hD : Hid ((Lib.decDigits T).length ≤ 30) := Lib.hid (by
    have := Lib.itoa_length_le (T : Int) (by omega) (by omega)
    rw [Lib.itoa_nonneg] at this
    omega)
  generalize Lib.decDigits T = D at *
  go_enter Tryd.func93, Tryd.ntmps93
  go_wp2
  go_loopw [0, 3, 5] (fun v0 v3 _ wr => ∃ (t : Nat) (S : ByteArray), t ≤ 9223372036854775807 ∧ v0 = .int .i64 (t : Int) ∧ v3 = .string S ∧ Hid (Nm.rest t ++ S.data.toList = D) ∧ Below w.heap.size w wr) (fun v0 _ _ _ => (intOf v0).toNat)
  case atStart => exact ⟨T, ⟨#[]⟩, h2, rfl, rfl, Lib.hid (by rw [hR.out]; simp), Below.refl _ _⟩
  case round =>
    obtain ⟨t, S, ht, rfl, rfl, HS, hb⟩ := hrel
    have hss : S.size ≤ 30 := by
      have h1 := congrArg List.length HS.out
      rw [List.length_append] at h1
      have h2 : S.data.toList.length = S.size := by simp
      have h3 := hD.out
      omega
    by_cases hz : t = 0
    · subst hz
      have hS : S.data.toList = D := by
        have h5 := HS.out
        unfold Nm.rest at h5
        rw [if_pos rfl, List.nil_append] at h5
        exact h5
      clear HS hR hD
      go_wp2
      go_ret
      refine ⟨⟨_, rfl, ?_⟩, hb⟩
      rw [← hS]
      simp [ByteArray.data_append]
    · obtain ⟨q, hq⟩ : ∃ q, q = t / 10 := ⟨_, rfl⟩
      obtain ⟨r, hr⟩ : ∃ r, r = t % 10 := ⟨_, rfl⟩
      have hr10 : r < 10 := by omega
      have hne : ((t : Int) == 0) = false := by simp; omega
      have hm : Int.tmod (t : Int) 10 = (r : Int) := by rw [Int.tmod_eq_emod_of_nonneg (by omega)]; omega
      have hd : Int.tdiv (t : Int) 10 = (q : Int) := by rw [Int.tdiv_eq_ediv_of_nonneg (by omega)]; omega
      have HST := Lib.hid (Nm.rest_step t hz)
      rw [← hq, ← hr] at HST
      have HQ := Lib.hid hq
      have HRR := Lib.hid hr
      clear hq hr
      have hw : IntKind.u8.wrap (48 + (r : Int)) = 48 + (r : Int) := by simp only [IntKind.wrap_u8]; omega
      obtain ⟨c, hc⟩ : ∃ c, c = UInt8.ofNat (48 + r) := ⟨_, rfl⟩
      have hcn : c.toNat = 48 + r := by rw [hc]; exact Nm.byte_of hr10
      rw [← hc] at HST
      clear hc
      have hcv : ∀ tag, (convert 141 9 (.slice (some ⟨wr.heap.size, 0, none⟩) 1 1)).run Tryd.prog (wr.alloc (.cells #[.int .u8 (48 + (r : Int))] tag)) = .ok (.string ⟨[c].toArray⟩) (wr.alloc (.cells #[.int .u8 (48 + (r : Int))] tag)) := fun tag => run_convert_bytes_back (P := Tryd.prog) _ 141 9 5 ⟨wr.heap.size, 0, none⟩ 1 [c] Tryd.underlying141 Tryd.underlying5 Tryd.underlying9 (fun j hj => by
        have : j = 0 := by simpa using hj
        subst this
        have e : ((([c])[0]'hj).toNat : Int) = 48 + (r : Int) := by
          show ((c.toNat : Nat) : Int) = _
          rw [hcn]
          omega
        rw [e]
        simp [Addr.add])
      have hwq : wrap64 (q : Int) = q := by
        have := HQ.out
        unfold wrap64
        omega
      go_wp2
      go_roundw
      case rel => exact ⟨q, _, by have := HQ.out; omega, by rw [hwq], rfl, Lib.hid (by
        rw [← HS.out, HST.out]
        simp [ByteArray.data_append]), hb.alloc hb.size _⟩
      case measure =>
        have h5 := HQ.out
        rw [hwq]
        show (q : Int).toNat < (t : Int).toNat
        omega
set_option maxRecDepth 10000 in
set_option maxHeartbeats 1000000 in
theorem rprint_neg (T : Nat) (w : World) (h1 : 0 < T) (h2 : T ≤ 9223372036854775808) :
    Calls Tryd.prog 93 #[.int .i64 (-(T : Int))] w fun e w' => (∃ S : ByteArray, e = .returned (.string S) ∧ S.data.toList = 45 :: Lib.decDigits T) ∧ Below w.heap.size w w' := by
  have hu : ∀ b : Bool, ¬ (some undef = some (Value.bool b)) := fun b h => by cases h
  have h0 : (-(T : Int) == 0) = false := by simp; omega
  have hR : Hid (Nm.rest T = Lib.decDigits T) := Lib.hid (by unfold Nm.rest; rw [if_neg (by omega)])
  have hD : Hid ((Lib.decDigits T).length ≤ 30) := Lib.hid (by
    have := Lib.itoa_length_le (-(T : Int)) (by omega) (by omega)
    rw [Lib.itoa_neg T (by omega), List.length_cons] at this
    omega)
  generalize Lib.decDigits T = D at *
  go_enter Tryd.func93, Tryd.ntmps93
  go_wp2
  go_loopw [0, 3, 5] (fun v0 v3 _ wr => ∃ (t : Nat) (S : ByteArray), t ≤ 9223372036854775808 ∧ v0 = .int .i64 (-(t : Int)) ∧ v3 = .string S ∧ Hid (Nm.rest t ++ S.data.toList = D) ∧ Below w.heap.size w wr) (fun v0 _ _ _ => (-(intOf v0)).toNat)
  case atStart => exact ⟨T, ⟨#[]⟩, h2, rfl, rfl, Lib.hid (by rw [hR.out]; simp), Below.refl _ _⟩
  case round =>
    obtain ⟨t, S, ht, rfl, rfl, HS, hb⟩ := hrel
    have hss : S.size ≤ 30 := by
      have h1 := congrArg List.length HS.out
      rw [List.length_append] at h1
      have h2 : S.data.toList.length = S.size := by simp
      have h3 := hD.out
      omega
    by_cases hz : t = 0
    · subst hz
      have hS : S.data.toList = D := by
        have h5 := HS.out
        unfold Nm.rest at h5
        rw [if_pos rfl, List.nil_append] at h5
        exact h5
      clear HS hR hD
      go_wp2
      go_ret
      refine ⟨⟨_, rfl, ?_⟩, hb⟩
      rw [← hS]
      simp [ByteArray.data_append]
    · obtain ⟨q, hq⟩ : ∃ q, q = t / 10 := ⟨_, rfl⟩
      obtain ⟨r, hr⟩ : ∃ r, r = t % 10 := ⟨_, rfl⟩
      have hr10 : r < 10 := by omega
      have hne : (-(t : Int) == 0) = false := by simp; omega
      have hm0 : Int.tmod (-(t : Int)) 10 = -(r : Int) := by rw [Int.neg_tmod, Int.tmod_eq_emod_of_nonneg (by omega)]; omega
      have hd : Int.tdiv (-(t : Int)) 10 = -(q : Int) := by rw [Int.neg_tdiv, Int.tdiv_eq_ediv_of_nonneg (by omega)]; omega
      have HST := Lib.hid (Nm.rest_step t hz)
      rw [← hq, ← hr] at HST
      have HQ := Lib.hid hq
      have HRR := Lib.hid hr
      clear hq hr
      have hw : IntKind.u8.wrap (48 + (r : Int)) = 48 + (r : Int) := by simp only [IntKind.wrap_u8]; omega
      obtain ⟨c, hc⟩ : ∃ c, c = UInt8.ofNat (48 + r) := ⟨_, rfl⟩
      have hcn : c.toNat = 48 + r := by rw [hc]; exact Nm.byte_of hr10
      rw [← hc] at HST
      clear hc
      have hcv : ∀ tag, (convert 141 9 (.slice (some ⟨wr.heap.size, 0, none⟩) 1 1)).run Tryd.prog (wr.alloc (.cells #[.int .u8 (48 + (r : Int))] tag)) = .ok (.string ⟨[c].toArray⟩) (wr.alloc (.cells #[.int .u8 (48 + (r : Int))] tag)) := fun tag => run_convert_bytes_back (P := Tryd.prog) _ 141 9 5 ⟨wr.heap.size, 0, none⟩ 1 [c] Tryd.underlying141 Tryd.underlying5 Tryd.underlying9 (fun j hj => by
        have : j = 0 := by simpa using hj
        subst this
        have e : ((([c])[0]'hj).toNat : Int) = 48 + (r : Int) := by
          show ((c.toNat : Nat) : Int) = _
          rw [hcn]
          omega
        rw [e]
        simp [Addr.add])
      by_cases hr0 : r = 0
      · have hm : Int.tmod (-(t : Int)) 10 = (r : Int) := by rw [hm0]; omega
        have hnn : ¬ ((r : Int) < 0) := by omega
        clear hm0 hr0
        have hwq : wrap64 (-(q : Int)) = -(q : Int) := by
          have := HQ.out
          unfold wrap64
          omega
        go_wp2
        go_roundw
        case rel => exact ⟨q, _, by have := HQ.out; omega, by rw [hwq], rfl, Lib.hid (by
          rw [← HS.out, HST.out]
          simp [ByteArray.data_append]), hb.alloc hb.size _⟩
        case measure =>
          have h5 := HQ.out
          rw [hwq]
          show (-(-(q : Int))).toNat < (-(-(t : Int))).toNat
          omega
      · have hneg : -(r : Int) < 0 := by omega
        have hwr : wrap64 (r : Int) = r := by unfold wrap64; omega
        have hwq : wrap64 (-(q : Int)) = -(q : Int) := by
          have := HQ.out
          unfold wrap64
          omega
        go_wp2
        go_roundw
        case rel => exact ⟨q, _, by have := HQ.out; omega, by rw [hwq], rfl, Lib.hid (by
          rw [← HS.out, HST.out]
          simp [ByteArray.data_append]), hb.alloc hb.size _⟩
        case measure =>
          have h5 := HQ.out
          rw [hwq]
          show (-(-(q : Int))).toNat < (-(-(t : Int))).toNat
          omega
end Go.Proofs.YtbplkphjjfgkmaaDoor
