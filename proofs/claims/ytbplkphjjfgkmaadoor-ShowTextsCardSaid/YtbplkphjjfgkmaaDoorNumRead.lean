/-
  num.Read: which number a text tells, by a walk.
-/
import Derived.Test.YtbplkphjjfgkmaaDoorKit
import Derived.Test.YtbplkphjjfgkmaaDoorNumShelf
import Derived.Lib.ParseIntBCases
namespace Go.Proofs.YtbplkphjjfgkmaaDoor
open Go.RowKit
set_option linter.unusedVariables false
set_option linter.unusedSimpArgs false

namespace Nm
/-- A digit. -/
def dig (c : UInt8) : Bool := decide (48 ≤ c.toNat) && decide (c.toNat ≤ 57)
/-- What stands behind a minus, if one stands there. -/
def body : List UInt8 → List UInt8
  | [] => []
  | c :: r => if c = 45 then r else c :: r
theorem body_trim (L : List UInt8) : Lib.trimPrefix L [45] = body L := by
  unfold Lib.trimPrefix body
  cases L with
  | nil => simp
  | cons c r =>
    by_cases h : c = 45
    · subst h
      simp [Lib.hasPrefix]
    · have h' : ¬ (45 = c) := fun e => h e.symm
      simp [Lib.hasPrefix, h, h', List.isPrefixOf]
theorem uintM_digits (M acc : Nat) (L : List UInt8) (h : L.all dig = true) : (∃ u, Lib.parseUintM M acc L = .ok u) ∨ Lib.parseUintM M acc L = .range := by
  induction L generalizing acc with
  | nil => exact Or.inl ⟨acc, rfl⟩
  | cons c r ih =>
    rw [List.all_cons, Bool.and_eq_true] at h
    have hd : 48 ≤ c.toNat ∧ c.toNat ≤ 57 := by simpa [dig] using h.1
    unfold Lib.parseUintM
    rw [if_pos hd]
    split
    · exact Or.inr rfl
    · split
      · exact Or.inr rfl
      · exact ih _ h.2
/-- What a text tells: a number and an error's number. -/
def told (L : List UInt8) : Int × Int :=
  if body L = [] then (0, 17) else if (body L).all dig = false then (0, 17)
  else match Lib.parseIntB 64 L with
    | .ok v => (v, 0)
    | _ => (0, 2)
theorem told_form {L : List UInt8} (h : body L = [] ∨ (body L).all dig = false) : told L = (0, 17) := by
  unfold told
  split
  · rfl
  · rw [if_pos (by rcases h with h | h; · contradiction
                   · exact h)]
theorem told_parse {L : List UInt8} (h : body L ≠ []) (h2 : (body L).all dig = true) : told L = match Lib.parseIntB 64 L with
    | .ok v => (v, 0)
    | _ => (0, 2) := by
  unfold told
  rw [if_neg h, if_neg (by rw [h2]; decide)]
theorem parse_digits {L : List UInt8} (h : body L ≠ []) (h2 : (body L).all dig = true) : (∃ v, Lib.parseIntB 64 L = .ok v) ∨ Lib.parseIntB 64 L = .range := by
  cases L with
  | nil => exact absurd rfl h
  | cons c r =>
    by_cases hc : c = 45
    · subst hc
      have hb : body (45 :: r) = r := by simp [body]
      rw [hb] at h h2
      rw [Lib.parseIntB_minus]
      unfold Lib.parseUintB
      rw [if_neg h]
      rcases uintM_digits (2 ^ 64 - 1) 0 r h2 with ⟨u, hu⟩ | hu
      · rw [hu]
        unfold Lib.signedC
        simp only
        split
        · exact Or.inr rfl
        · exact Or.inl ⟨_, rfl⟩
      · rw [hu]
        exact Or.inr rfl
    · have hb : body (c :: r) = c :: r := by simp [body, hc]
      rw [hb] at h h2
      have hd : 48 ≤ c.toNat ∧ c.toNat ≤ 57 := by
        rw [List.all_cons, Bool.and_eq_true] at h2
        simpa [dig] using h2.1
      rw [Lib.parseIntB_plain _ _ _ (by omega) (by omega)]
      unfold Lib.parseUintB
      rw [if_neg h]
      rcases uintM_digits (2 ^ 64 - 1) 0 _ h2 with ⟨u, hu⟩ | hu
      · rw [hu]
        unfold Lib.signlessC
        simp only
        split
        · exact Or.inr rfl
        · exact Or.inl ⟨_, rfl⟩
      · rw [hu]
        exact Or.inr rfl
theorem body_len (L : List UInt8) : (body L).length ≤ L.length := by
  unfold body
  split
  · exact Nat.le_refl _
  · split
    · simp
    · exact Nat.le_refl _
/-- The tuple of a pair. -/
def tup (p : Int × Int) : Value := .tuple #[.int .i64 p.1, .int .i64 p.2]
end Nm

theorem getE (d : ByteArray) (k : Nat) (h : k < d.size) : d.data.toList[k]? = some (d[k]'h) := by
  rw [List.getElem?_eq_getElem (by simpa using h)]
  rfl
set_option maxHeartbeats 1000000 in
theorem read_any (s : ByteArray) (w : World) (tp : TypeId) (p : Value) (hs : s.size ≤ 281474976710656) (hvar : w.var? Tryd.prog "strconv.ErrRange" = some #[.iface tp p]) :
    Calls Tryd.prog 56 #[.string s] w fun e w' => e = .returned (Nm.tup (Nm.told s.data.toList)) ∧ Below w.heap.size w w' := by
  have hu : ∀ b : Bool, ¬ (some undef = some (Value.bool b)) := fun b h => by cases h
  have HT := Lib.hid (Tryd.strings_TrimPrefix s ⟨#[45]⟩ w)
  have HP : Hid (Nm.body s.data.toList ≠ [] → (Nm.body s.data.toList).all Nm.dig = true → Calls Tryd.prog 102 #[.string s, .int .i64 10, .int .i64 64] w fun e w' => ((∃ v, e = .returned (.tuple #[.int .i64 v, .nilIface]) ∧ Nm.told s.data.toList = (v, 0)) ∨ (∃ v t q, e = .returned (.tuple #[.int .i64 v, .iface t q]) ∧ Nm.told s.data.toList = (0, 2))) ∧ Below w.heap.size w w') := Lib.hid (by
    intro h1 h2
    have h3 := Nm.parse_digits h1 h2
    have h4 := Nm.told_parse h1 h2
    rcases h3 with ⟨v, hp⟩ | hp
    · rw [hp] at h4
      refine (Tryd.strconv_ParseInt_10_at64_ok s (by omega) v hp w).mono ?_
      rintro e w' ⟨rfl, hw⟩
      refine ⟨Or.inl ⟨v, rfl, h4⟩, ?_⟩
      rcases hw with rfl | ⟨t, rfl⟩
      · exact Below.refl _ _
      · exact Lib.bytesWorld_below _ _ _
    · rw [hp] at h4
      refine (Tryd.strconv_ParseInt_10_at64_range_var s hs hp tp p w hvar).mono ?_
      rintro e w' ⟨N, rfl, _, _, hb⟩
      exact ⟨Or.inr ⟨_, _, _, rfl, h4⟩, hb⟩)
  have HD : Hid ((⟨(Lib.trimPrefix s.data.toList (ByteArray.mk #[45]).data.toList).toArray⟩ : ByteArray).data.toList = Nm.body s.data.toList) := Lib.hid (by simp [Nm.body_trim])
  clear hvar
  generalize hd : (⟨(Lib.trimPrefix s.data.toList (ByteArray.mk #[45]).data.toList).toArray⟩ : ByteArray) = d at *
  clear hd
  by_cases he : Nm.body s.data.toList = []
  · have hT0 := Nm.told_form (Or.inl he)
    rw [hT0]
    have hd0 : d = ⟨#[]⟩ := by
      have := HD.out
      rw [he] at this
      exact ByteArray.ext (by simpa using this)
    subst hd0
    clear HP HD he hT0 hs
    go_enter Tryd.func56, Tryd.ntmps56
    go_wp2_with (go_at_call 101; refine HT.out.mono ?_; rintro e w' ⟨rfl, rfl⟩)
    go_ret2
    exact ⟨rfl, Below.refl _ _⟩
  · have hpos : 0 < d.size := by
      rcases Nat.eq_zero_or_pos d.size with h | h
      · exfalso
        apply he
        rw [← HD.out]
        exact List.eq_nil_of_length_eq_zero (by simpa using h)
      · exact h
    have hds : d.size ≤ 9223372036854775807 := by
      have h1 : d.size = (Nm.body s.data.toList).length := by rw [← HD.out]; simp
      have h2 := Nm.body_len s.data.toList
      have h3 : s.data.toList.length = s.size := by simp
      omega
    have hie : d.toList.isEmpty = false := by
      cases h : d.toList.isEmpty with
      | false => rfl
      | true =>
        exfalso
        have h1 : d = ⟨#[]⟩ := ByteArray.ext (by rw [ByteArray.toList_eq] at h; simpa using h)
        subst h1
        exact absurd hpos (by decide)
    have hall : Hid ((∀ k (h : k < d.size), Nm.dig (d[k]'h) = true) → (Nm.body s.data.toList).all Nm.dig = true) := Lib.hid (fun h => by
      rw [← HD.out, List.all_eq_true]
      intro x hx
      obtain ⟨k, hk, rfl⟩ := List.mem_iff_getElem.1 hx
      exact h k (by simpa using hk))
    have hbad : Hid (∀ k (h : k < d.size), Nm.dig (d[k]'h) = false → Nm.told s.data.toList = (0, 17)) := Lib.hid (fun k h hf => by
      refine Nm.told_form (Or.inr ?_)
      cases hc : (Nm.body s.data.toList).all Nm.dig with
      | false => rfl
      | true =>
        exfalso
        rw [← HD.out, List.all_eq_true] at hc
        have := hc (d[k]'h) (List.mem_of_getElem? (getE d k h))
        rw [hf] at this
        cases this)
    have HE := Lib.hid he
    clear he HD
    generalize s.data.toList = L at *
    go_enter Tryd.func56, Tryd.ntmps56
    go_wp2_with (go_at_call 101; refine HT.out.mono ?_; rintro e w' ⟨rfl, rfl⟩)
    go_loopw [5, 14] (fun _ v14 wr => ∃ k : Nat, k ≤ d.size ∧ v14 = .int .i64 k ∧ Hid (∀ j (h : j < d.size), j < k → Nm.dig (d[j]'h) = true) ∧ wr = w') (fun _ v14 _ => d.size - (intOf v14).toNat)
    case atStart => exact ⟨0, by omega, rfl, Lib.hid (fun j h hj => by omega), rfl⟩
    case round =>
      obtain ⟨k, hk, rfl, HK, rfl⟩ := hrel
      by_cases hlt : k < d.size
      · by_cases h1 : (d[k]'hlt).toNat < 48
        · have hT0 := hbad.out k hlt (by unfold Nm.dig; rw [decide_eq_false (by omega)]; rfl)
          have HT0 := Lib.hid hT0
          clear hT0 hbad hall
          go_wp2
          go_ret2
          exact ⟨by rw [HT0.out]; rfl, Below.refl _ _⟩
        · by_cases h2 : 57 < (d[k]'hlt).toNat
          · have hT0 := hbad.out k hlt (by unfold Nm.dig; rw [decide_eq_false (p := (d[k]'hlt).toNat ≤ 57) (by omega), Bool.and_false])
            have HT0 := Lib.hid hT0
            clear hT0 hbad hall
            go_wp2
            go_ret2
            exact ⟨by rw [HT0.out]; rfl, Below.refl _ _⟩
          · have hdk : Hid (Nm.dig (d[k]'hlt) = true) := Lib.hid (by unfold Nm.dig; rw [decide_eq_true (by omega), decide_eq_true (by omega)]; rfl)
            go_wp2
            go_roundw
            case rel => exact ⟨k + 1, by omega, by go_num, Lib.hid (fun j h hj => by
              by_cases hjk : j = k
              · subst hjk; exact hdk.out
              · exact HK.out j h (by omega)), trivial⟩
            case measure => simp [intOf]; omega
      · have hA := hall.out (fun j h => HK.out j h (by omega))
        have HC := Lib.hid (HP.out HE.out hA)
        clear HP hall hbad HK
        go_wp2_with (go_at_call 102; refine HC.out.mono ?_; rintro e w2 ⟨hc, hb⟩; rcases hc with ⟨v, rfl, hT0⟩ | ⟨v, t, q, rfl, hT0⟩ <;> have HT0 := Lib.hid hT0 <;> clear hT0)
        all_goals go_wp2
        all_goals go_ret2
        all_goals exact ⟨by rw [HT0.out]; rfl, hb⟩
end Go.Proofs.YtbplkphjjfgkmaaDoor
