/-
  Names: which number a name has that must be of a kind: the program's answer, and the document's.
-/
import Derived.Test.YtpbgicfoopicbaaNamRef
import Derived.Test.YtpbgicfoopicbaaNamAsk
namespace Go.Proofs.Ytpbgicfoopicbaa
open Go.RowKit Go.Maps
set_option linter.unusedVariables false
set_option linter.unusedSimpArgs false

theorem Nm.fnd_one {l : List St} {m : Nat} {s : ByteArray} {r r' : Int} (h : Nm.FndAt l m s r) (h' : Nm.FndAt l m s r') : r = r' := by
  rcases h with ⟨e, h⟩ | ⟨i, e, hi, ha, hf⟩ <;> rcases h' with ⟨e', h'⟩ | ⟨i', e', hi', ha', hf'⟩
  · rw [e, e']
  · exact absurd ha' (h i' hi')
  · exact absurd ha (h' i hi)
  · rcases Nat.lt_trichotomy i i' with hh | hh | hh
    · exact absurd ha (hf' i hh)
    · rw [e, e', hh]
    · exact absurd ha' (hf i' hh)
theorem Nm.fnd_some (l : List St) (s : ByteArray) : ∀ m, ∃ r, Nm.FndAt l m s r
  | 0 => ⟨-1, Or.inl ⟨rfl, fun j hj => by omega⟩⟩
  | m + 1 => by
    obtain ⟨r, h⟩ := Nm.fnd_some l s m
    rcases h with ⟨e, h⟩ | ⟨i, e, hi, ha, hf⟩
    · by_cases hm : Nm.isAt l s m
      · exact ⟨m, Or.inr ⟨m, rfl, by omega, hm, h⟩⟩
      · refine ⟨-1, Or.inl ⟨rfl, fun j hj => ?_⟩⟩
        rcases Nat.lt_or_ge j m with hh | hh
        · exact h j hh
        · have : j = m := by omega
          rw [this]; exact hm
    · exact ⟨r, Or.inr ⟨i, e, by omega, ha, hf⟩⟩
theorem rfind_is (a : Option Addr) (c : Nat) (l : List St) (m : Nat) (s : ByteArray) (w : World) (hl : RdS w a l) (hm : m ≤ l.length) (hm2 : l.length ≤ 9223372036854775807) (r : Int) (hr : Nm.FndAt l m s r) :
    Calls Try.prog 51 #[.slice a l.length c, .int .i64 (m : Nat), .string s] w fun e w' => e = .returned (.int .i64 r) ∧ Below w.heap.size w w' :=
  (rfind_any a c l m s w hl hm hm2).mono fun e w' ⟨r', h1, h2, h3⟩ => ⟨by rw [h1, Nm.fnd_one h2 hr], h3⟩
/-- What Need answers, of the first statement that has the name. -/
noncomputable def Nm.needOf (l : List St) (k : Int) (r : Int) : Int × Int := if r < 0 then (0, 7) else if (l[r.toNat]?.map (·.kind)) = some k then ((Nm.cnt (l.take r.toNat) k : Nat), 0) else (0, 8)
set_option maxHeartbeats 800000 in
theorem rneed_any (a : Option Addr) (c : Nat) (l : List St) (s : ByteArray) (k : Int) (w : World) (hl : RdS w a l) (hm2 : l.length ≤ 9223372036854775807) (r : Int) (hr : Nm.FndAt l l.length s r) :
    Calls Try.prog 69 #[.slice a l.length c, .string s, .int .i64 k] w fun e w' => e = .returned (.tuple #[.int .i64 (Nm.needOf l k r).1, .int .i64 (Nm.needOf l k r).2]) ∧ Below w.heap.size w w' := by
  have HF := Lib.hid (rfind_is a c l l.length s w hl (Nat.le_refl _) hm2 r hr)
  rcases hr with ⟨rfl, _⟩ | ⟨i, rfl, hi, _, _⟩
  · have HN : Hid (Nm.needOf l k (-1) = (0, 7)) := Lib.hid rfl
    clear hl
    go_enter Try.func69, Try.ntmps69
    go_wp2_with fail
    refine HF.out.mono ?_
    rintro e w2 ⟨rfl, hb⟩
    have HB := Lib.hid hb
    clear hb
    go_wp2_with fail
    go_ret2
    rw [HN.out]
    exact ⟨rfl, HB.out⟩
  · have HL := Lib.hid hl
    have hi0 : ¬ (((i : Nat) : Int) < 0) := by omega
    by_cases hk : l[i].kind = k
    · have HN : Hid (Nm.needOf l k (i : Nat) = (((Nm.cnt (l.take i) k : Nat) : Int), 0)) := Lib.hid (by
        unfold Nm.needOf
        rw [if_neg (by omega), if_pos (by simp [hi, hk])]
        rfl)
      have HA : Hid (∀ w2, Below w.heap.size w w2 → Calls Try.prog 48 #[.slice a l.length c, .int .i64 (i : Nat), .int .i64 k] w2 fun e w' => e = .returned (.int .i64 (Nm.cnt (l.take i) k : Nat)) ∧ w2 = w') := Lib.hid fun w2 hb => ahead_any a c l i k w2 (HL.out.mono hb (Nat.le_refl _)) (by omega) hm2
      have HK : Hid (∀ w2, Below w.heap.size w w2 → ∃ b off, a = some ⟨b, off, none⟩ ∧ w2.cell? ⟨b, off + i * 12, none⟩ = some (.int .i64 k)) := Lib.hid fun w2 hb => by
        obtain ⟨b, off, ha, hrg⟩ := (HL.out.mono hb (Nat.le_refl _)).at (by omega)
        refine ⟨b, off, ha, ?_⟩
        have := hrg i hi 0 _ rfl
        rw [← hk]; simpa using this
      have hkk : (k != k) = false := by simp
      clear hl HL hk
      go_enter Try.func69, Try.ntmps69
      go_wp2_with fail
      refine HF.out.mono ?_
      rintro e w2 ⟨rfl, hb⟩
      obtain ⟨b, off, rfl, c0⟩ := HK.out w2 hb
      have HB := Lib.hid hb
      clear hb
      go_wp2_with fail
      refine (HA.out _ HB.out).mono ?_
      rintro e w3 ⟨rfl, rfl⟩
      go_wp2_with fail
      go_ret2
      rw [HN.out]
      exact ⟨rfl, HB.out⟩
    · have HN : Hid (Nm.needOf l k (i : Nat) = (0, 8)) := Lib.hid (by
        unfold Nm.needOf
        rw [if_neg (by omega), if_neg (by simp [hi, hk])])
      have HK : Hid (∀ w2, Below w.heap.size w w2 → ∃ b off, a = some ⟨b, off, none⟩ ∧ w2.cell? ⟨b, off + i * 12, none⟩ = some (.int .i64 l[i].kind)) := Lib.hid fun w2 hb => by
        obtain ⟨b, off, ha, hrg⟩ := (HL.out.mono hb (Nat.le_refl _)).at (by omega)
        refine ⟨b, off, ha, ?_⟩
        have := hrg i hi 0 _ rfl
        simpa using this
      have hkk : (l[i].kind != k) = true := by simpa using hk
      clear hl HL hk
      generalize l[i].kind = ki at *
      go_enter Try.func69, Try.ntmps69
      go_wp2_with fail
      refine HF.out.mono ?_
      rintro e w2 ⟨rfl, hb⟩
      obtain ⟨b, off, rfl, c0⟩ := HK.out w2 hb
      have HB := Lib.hid hb
      clear hb
      go_wp2_with fail
      go_ret2
      rw [HN.out]
      exact ⟨rfl, HB.out⟩
set_option maxHeartbeats 400000 in
theorem need_nil (s : ByteArray) (k : Int) (w : World) : Calls Try.prog 52 #[.pointer none, .string s, .int .i64 k] w fun e w' => e = .returned (.tuple #[.int .i64 0, .int .i64 7]) ∧ w = w' := by
  have HF := Lib.hid (find_nil s w)
  go_enter Try.func52, Try.ntmps52
  go_wp2_with fail
  refine HF.out.mono ?_
  rintro e w2 ⟨rfl, rfl⟩
  go_wp2_with fail
  go_ret2
  exact ⟨rfl, rfl⟩
section
variable {w : World} {B p : Nat} {cs : Array Value} {vn vp : Value} {b1 b2 : Nat} {D1 D2 : Dat} {L : List St}
set_option maxHeartbeats 400000 in
theorem need_no (s : ByteArray) (k : Int) (hs : s.size ≤ maxLen) (h : IsN w B p cs vn vp b1 b2 D1 D2 L) (hn : s ∉ Nm.names L) :
    Calls Try.prog 52 #[.pointer (some ⟨p, 0, none⟩), .string s, .int .i64 k] w fun e w' => e = .returned (.tuple #[.int .i64 0, .int .i64 7]) ∧ w = w' := by
  have HF := Lib.hid (find_no s hs h hn)
  clear h hn
  go_enter Try.func52, Try.ntmps52
  go_wp2_with fail
  refine HF.out.mono ?_
  rintro e w2 ⟨rfl, rfl⟩
  go_wp2_with fail
  go_ret2
  exact ⟨rfl, rfl⟩
set_option maxHeartbeats 400000 in
theorem need_yes (s : ByteArray) (k : Int) (hs : s.size ≤ maxLen) (h : IsN w B p cs vn vp b1 b2 D1 D2 L) (i : Nat) (ki : Int) (n : Nat) (hn : (Nm.names L)[i]? = some s) (hp : (Nm.places L)[i]? = some (ki, n)) :
    Calls Try.prog 52 #[.pointer (some ⟨p, 0, none⟩), .string s, .int .i64 k] w fun e w' => e = .returned (.tuple #[.int .i64 (if ki = k then (n : Int) else 0), .int .i64 (if ki = k then 0 else 8)]) ∧ ∃ m, w' = w.drewN m := by
  have HF := Lib.hid (find_yes s hs h i ki n hn hp)
  clear h hn hp
  by_cases hk : ki = k
  · have hkk : (ki != k) = false := by simpa using hk
    have HK := Lib.hid hk
    clear hk
    go_enter Try.func52, Try.ntmps52
    go_wp2_with fail
    refine HF.out.mono ?_
    rintro e w2 ⟨rfl, m, rfl⟩
    go_wp2_with fail
    go_ret2
    exact ⟨rfl, _, rfl⟩
  · have hkk : (ki != k) = true := by simpa using hk
    have HK := Lib.hid hk
    clear hk
    go_enter Try.func52, Try.ntmps52
    go_wp2_with fail
    refine HF.out.mono ?_
    rintro e w2 ⟨rfl, m, rfl⟩
    go_wp2_with fail
    go_ret2
    exact ⟨rfl, _, rfl⟩
end
end Go.Proofs.Ytpbgicfoopicbaa
