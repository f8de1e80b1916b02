/-
  Tables: the texts of numbers; the chapter's examples; the walks of the laws of layer 29.
-/
import Derived.Test.YtnljihankodedaaTabNew
namespace Go.Proofs.Ytnljihankodedaa
open Go.RowKit SumPlain
set_option linter.unusedVariables false

set_option maxHeartbeats 400000 in
theorem text_nil (n : Int) (w : World) : Calls Try.prog 52 #[.pointer none, .int .i64 n] w fun e w' => e = .returned (.string ByteArray.empty) ∧ w = w' := by
  go_enter Try.func52, Try.ntmps52
  go_wp2
  go_ret
  exact ⟨rfl, rfl⟩
set_option maxHeartbeats 400000 in
theorem text_out (p len cap : Nat) (a : Option Addr) (n : Int) (w : World) (hc : w.cell? ⟨p, 0, none⟩ = some (.slice a len cap)) (h : ¬ (0 ≤ n ∧ n < len)) :
    Calls Try.prog 52 #[.pointer (some ⟨p, 0, none⟩), .int .i64 n] w fun e w' => e = .returned (.string ByteArray.empty) ∧ w = w' := by
  rcases Int.lt_or_le n 0 with h0 | h0
  · clear h
    go_enter Try.func52, Try.ntmps52
    go_wp2
    go_ret
    exact ⟨rfl, rfl⟩
  · have h1 : (len : Int) ≤ n := by omega
    clear h
    go_enter Try.func52, Try.ntmps52
    go_wp2
    go_ret
    exact ⟨rfl, rfl⟩
set_option maxHeartbeats 400000 in
theorem text_in (p g len cap i : Nat) (s : ByteArray) (w : World) (hc : w.cell? ⟨p, 0, none⟩ = some (.slice (some ⟨g, 0, none⟩) len cap)) (hi : i < len) (hs : w.cell? ⟨g, i, none⟩ = some (.string s)) :
    Calls Try.prog 52 #[.pointer (some ⟨p, 0, none⟩), .int .i64 i] w fun e w' => e = .returned (.string s) ∧ w = w' := by
  have h1 : ¬ (len : Int) ≤ (i : Int) := by omega
  have h2 : (i : Int) < (len : Int) := by omega
  go_enter Try.func52, Try.ntmps52
  go_wp2
  go_ret
  exact ⟨rfl, rfl⟩
def aText : ByteArray := ⟨#[97]⟩
theorem fnv_empty : fnv ByteArray.empty.data.toList = 2166136261 := rfl
theorem fnv_a : fnv aText.data.toList = 3826002220 := by
  show SumPlain.step SumPlain.base 97 = _
  rw [SumPlain.base_eq]
  unfold SumPlain.step
  decide +kernel
theorem sum_empty (w : World) : Calls Try.prog 45 #[.string ⟨#[]⟩] w fun e w' => e = .returned (.int .u32 2166136261) ∧ w = w' := by
  have h := sum32_any ByteArray.empty w (by decide)
  rw [fnv_empty] at h
  exact h
theorem sum_a (w : World) : Calls Try.prog 45 #[.string ⟨#[97]⟩] w fun e w' => e = .returned (.int .u32 3826002220) ∧ w = w' := by
  have h := sum32_any aText w (by decide)
  rw [fnv_a] at h
  exact h
set_option maxHeartbeats 1000000 in
theorem awake29_any (w : World) : Calls Try.prog 44 #[] w fun e w' => e = .returned (.bool true) ∧ Below w.heap.size w w' := by
  go_enter Try.func44, Try.ntmps44
  go_wp2_with fail
  refine (new_any 3 w).mono ?_
  rintro e w1 ⟨p, m, vl, rfl, t1, k1⟩
  go_wp2_with fail
  refine (put_new _ p m [] _ _ _ vl aText w1 t1 (by decide) (by decide) (by simp)).mono ?_
  rintro e w2 ⟨ha, vt, vs, va, t2, k2, _⟩
  unfold PutAns at ha
  subst ha
  have b2 : Below w.heap.size w w2 := (k1.below (B := w.heap.size) (fun _ h => h.elim) (Nat.le_refl _)).trans (k2.below (fun k hk => (t1.foot k hk).1) k1.size)
  clear k1 k2 t1
  go_wp2_with fail
  refine (put_old _ p m 0 _ _ _ _ vl aText w2 t2 (by decide) (by decide) rfl).mono ?_
  rintro e w3 ⟨hb, n, rfl⟩
  unfold OldAns at hb
  subst hb
  have t3 : IsTab (w2.drewN n) w.heap.size p m ([] ++ [aText]) vt vs va vl := t2.kept (Keeps.drewN (fun _ => False) w2 n) (fun _ _ hf => hf)
  have b3 : Below w.heap.size w (w2.drewN n) := below_drewN b2 n
  clear t2 b2
  generalize w2.drewN n = w3 at *
  go_wp2_with fail
  refine (sum_empty _).mono ?_
  rintro e w4 ⟨rfl, rfl⟩
  go_wp2_with fail
  refine (sum_a _).mono ?_
  rintro e w4 ⟨rfl, rfl⟩
  go_wp2_with fail
  refine (len_tab t3).mono ?_
  rintro e w4 ⟨rfl, rfl⟩
  go_wp2_with fail
  go_ret
  exact ⟨rfl, b3⟩

set_option maxHeartbeats 400000 in
theorem tableSums_walk (s : ByteArray) (hs : s.size ≤ 9223372036854775807) (w : World) :
    Calls Try.prog 10 #[.string s] w fun e w' => e = .returned (.bool true) ∧ Below w.heap.size w w' := by
  by_cases hbig : 3000 < s.size
  · have h1 : (3000 : Int) < (s.size : Int) := by omega
    go_enter Try.func10, Try.ntmps10
    go_wp2_with fail
    refine (awake29_any _).mono ?_
    rintro e w3 ⟨rfl, hb3⟩
    go_wp2_with fail
    go_ret
    exact ⟨rfl, hb3⟩
  · have HS := Lib.hid (fun w => sum32_any s w hs)
    have HR := Lib.hid (fun w => rsum_any s w hs)
    have hl := fnv_lt s.data.toList
    generalize fnv s.data.toList = x at *
    go_enter Try.func10, Try.ntmps10
    go_wp2_with fail
    refine (HS.out _).mono ?_
    rintro e w1 ⟨rfl, rfl⟩
    go_wp2_with fail
    refine (HR.out _).mono ?_
    rintro e w1 ⟨rfl, rfl⟩
    go_wp2_with fail
    refine (awake29_any _).mono ?_
    rintro e w3 ⟨rfl, hb3⟩
    go_wp2_with fail
    go_ret
    exact ⟨rfl, hb3⟩
set_option maxHeartbeats 1000000 in
theorem tableNone_walk (s : ByteArray) (n : Int) (w : World) :
    Calls Try.prog 12 #[.string s, .int .i64 n] w fun e w' => e = .returned (.bool true) ∧ Below w.heap.size w w' := by
  have hc : ∀ j, (w.alloc (.cells #[.slice none 0 0, .slice none 0 0, .slice none 0 0, .slice none 0 0] 54)).cell? ⟨w.heap.size, j, none⟩ = (#[Value.slice none 0 0, .slice none 0 0, .slice none 0 0, .slice none 0 0] : Array Value)[j]? := fun j => World.cell?_alloc_at _ _ _ _ rfl
  have h0 := hc 0
  have h3 := hc 3
  simp only [List.getElem?_toArray, List.getElem?_cons_zero, List.getElem?_cons_succ] at h0 h3
  have HP := Lib.hid (put_zero w.heap.size s _ h3)
  have HF := Lib.hid (find_zero w.heap.size s _ h3)
  have HL := Lib.hid (len_any w.heap.size 0 0 none _ h0)
  have HT := Lib.hid (text_out w.heap.size 0 0 none n _ h0 (by omega))
  have hb : Below w.heap.size w (w.alloc (.cells #[.slice none 0 0, .slice none 0 0, .slice none 0 0, .slice none 0 0] 54)) := (Below.refl _ _).alloc (Nat.le_refl _) _
  clear hc h0 h3
  go_enter Try.func12, Try.ntmps12
  go_wp2_with fail
  refine (put_nil s _).mono ?_
  rintro e w1 ⟨rfl, rfl⟩
  go_wp2_with fail
  refine (HP.out).mono ?_
  rintro e w1 ⟨rfl, rfl⟩
  go_wp2_with fail
  refine (find_nil s _).mono ?_
  rintro e w1 ⟨rfl, rfl⟩
  go_wp2_with fail
  refine (HF.out).mono ?_
  rintro e w1 ⟨rfl, rfl⟩
  go_wp2_with fail
  refine (len_nil _).mono ?_
  rintro e w1 ⟨rfl, rfl⟩
  go_wp2_with fail
  refine (HL.out).mono ?_
  rintro e w1 ⟨rfl, rfl⟩
  go_wp2_with fail
  refine (text_nil n _).mono ?_
  rintro e w1 ⟨rfl, rfl⟩
  go_wp2_with fail
  refine (HT.out).mono ?_
  rintro e w1 ⟨rfl, rfl⟩
  go_wp2_with fail
  refine (awake29_any _).mono ?_
  rintro e w3 ⟨rfl, hb3⟩
  go_wp2_with fail
  go_ret
  exact ⟨rfl, hb.trans (hb3.mono (by simp))⟩

def MuchAns (n : Nat) (e : Ending) : Prop := ∃ b, e = .returned (.bool b) ∧ (b = false → n ≤ 200)
set_option maxHeartbeats 400000 in
theorem much_any (a : Option Addr) (c : Nat) (l : List ByteArray) (w : World) (hr : Reads w a (l.map Value.string)) (hl : l.length ≤ 9223372036854775807) (hs : ∀ s ∈ l, s.size ≤ 9223372036854775807) :
    Calls Try.prog 47 #[.slice a l.length c] w fun e w' => MuchAns l.length e ∧ w = w' := by
  by_cases h0 : l.length = 0
  · have e1 : l = [] := List.eq_nil_of_length_eq_zero h0
    subst e1
    go_enter Try.func47, Try.ntmps47
    go_wp2
    refine wp_loop_rounds 1 ?_
    rw [rounds_succ]
    go_wp2
    go_ret
    exact ⟨⟨_, rfl, fun _ => by simp⟩, rfl⟩
  · obtain ⟨b, off, rfl, hc⟩ := hr.at (by simp; omega)
    have HC := Lib.hid (fun k (hk : k < l.length) => show w.cell? ⟨b, off + k, none⟩ = some (.string l[k]) by rw [hc k (by simpa using hk)]; simp [hk])
    have HS := Lib.hid (fun k (hk : k < l.length) => hs l[k] (List.getElem_mem hk))
    clear hc hr hs
    go_enter Try.func47, Try.ntmps47
    go_wp2
    go_loop [3, 4] (fun v3 v4 => ∃ (k : Nat) (n : Int), k ≤ l.length ∧ v4 = .int .i64 k ∧ v3 = .int .i64 n) (fun _ v4 => l.length - (intOf v4).toNat)
    case atStart => exact ⟨0, 0, by omega, rfl, rfl⟩
    case round =>
      obtain ⟨k, n, hk, rfl, rfl⟩ := hrel
      by_cases hlt : k < l.length
      · have hx := HC.out k hlt
        have hsz := HS.out k hlt
        generalize l[k] = x at *
        go_wp2
        all_goals go_round
        all_goals first | exact ⟨k + 1, _, by omega, by go_num, rfl⟩ | (simp [intOf]; omega)
      · by_cases hbig : 200 < l.length
        · have h1 : (200 : Int) < (l.length : Int) := by omega
          go_wp2
          go_ret
          exact ⟨⟨_, rfl, fun h => by simp at h⟩, rfl⟩
        · have h1 : ¬ (200 : Int) < (l.length : Int) := by omega
          go_wp2
          all_goals go_ret
          all_goals exact ⟨⟨_, rfl, fun _ => by omega⟩, rfl⟩

/-- Two tables that hold the same texts, and lie apart. -/
def TwoTabs (w : World) (pt pu k : Nat) (T : List ByteArray) (wr : World) : Prop :=
  ∃ Bt mt vt vs va vl Bu mu ut us ua ul, IsTab wr Bt pt mt T vt vs va vl ∧ IsTab wr Bu pu mu T ut us ua ul ∧ (∀ j, Foot pt vt vs va vl j → ¬ Foot pu ut us ua ul j) ∧ w.heap.size ≤ Bt ∧ w.heap.size ≤ Bu ∧ T.length ≤ k ∧ Below w.heap.size w wr
theorem TwoTabs.drewN {w wr : World} {pt pu k : Nat} {T : List ByteArray} (h : TwoTabs w pt pu k T wr) (n : Nat) : TwoTabs w pt pu k T (wr.drewN n) := by
  obtain ⟨Bt, mt, vt, vs, va, vl, Bu, mu, ut, us, ua, ul, h1, h2, h3, h4, h5, h6, h7⟩ := h
  exact ⟨Bt, mt, vt, vs, va, vl, Bu, mu, ut, us, ua, ul, h1.kept (Keeps.drewN (fun _ => False) _ n) (fun _ _ hf => hf), h2.kept (Keeps.drewN (fun _ => False) _ n) (fun _ _ hf => hf), h3, h4, h5, h6, below_drewN h7 n⟩
/-- Both are told of one text: the same answer. -/
def BothPut (w : World) (pt pu k : Nat) (T : List ByteArray) (s : ByteArray) (wr : World) : Prop :=
  ∃ n b, Calls Try.prog 49 #[.pointer (some ⟨pt, 0, none⟩), .string s] wr fun e w1 => e = .returned (.tuple #[.int .i64 n, .bool b]) ∧ Below w.heap.size w w1 ∧
    Calls Try.prog 49 #[.pointer (some ⟨pu, 0, none⟩), .string s] w1 fun e w2 => e = .returned (.tuple #[.int .i64 n, .bool b]) ∧ ∃ T', TwoTabs w pt pu (k + 1) T' w2
theorem both_put {w wr : World} {pt pu k : Nat} {T : List ByteArray} {s : ByteArray} (h : TwoTabs w pt pu k T wr) (hs : s.size ≤ 9223372036854775807) (hk : k ≤ 1000000) : BothPut w pt pu k T s wr := by
  obtain ⟨Bt, mt, vt, vs, va, vl, Bu, mu, ut, us, ua, ul, h1, h2, h3, h4, h5, h6, h7⟩ := h
  by_cases hin : s ∈ T
  · obtain ⟨i, hi, hgi⟩ := List.getElem_of_mem hin
    have hgi' : T[i]? = some s := by rw [List.getElem?_eq_getElem hi, hgi]
    refine ⟨(i : Int), false, (put_old Bt pt mt i T vt vs va vl s wr h1 hs (by omega) hgi').mono ?_⟩
    rintro e w1 ⟨he, n, rfl⟩
    refine ⟨he, below_drewN h7 n, (put_old Bu pu mu i T ut us ua ul s _ (h2.kept (Keeps.drewN (fun _ => False) _ n) (fun _ _ hf => hf)) hs (by omega) hgi').mono ?_⟩
    rintro e w2 ⟨he2, n2, rfl⟩
    refine ⟨he2, T, ?_⟩
    have t : TwoTabs w pt pu (k + 1) T wr := ⟨Bt, mt, vt, vs, va, vl, Bu, mu, ut, us, ua, ul, h1, h2, h3, h4, h5, by omega, h7⟩
    exact (t.drewN n).drewN n2
  · refine ⟨(T.length : Int), true, (put_new Bt pt mt T vt vs va vl s wr h1 hs (by omega) hin).mono ?_⟩
    rintro e w1 ⟨he, vt', vs', va', t1, k1, f1⟩
    have u1 : IsTab w1 Bu pu mu T ut us ua ul := h2.kept k1 (fun j hj hf => h3 j hf hj)
    refine ⟨he, h7.trans (k1.below (fun j hj => by have := (h1.foot j hj).1; omega) h7.size), (put_new Bu pu mu T ut us ua ul s w1 u1 hs (by omega) hin).mono ?_⟩
    rintro e w2 ⟨he2, ut', us', ua', u2, k2, f2⟩
    have hd1 : ∀ j, Foot pt vt' vs' va' vl j → ¬ Foot pu ut us ua ul j := fun j hj hf => (f1 j hj).elim (fun h => h3 j h hf) (fun h => by have := (h2.foot j hf).2; omega)
    have hd2 : ∀ j, Foot pt vt' vs' va' vl j → ¬ Foot pu ut' us' ua' ul j := fun j hj hf => (f2 j hf).elim (fun h => hd1 j hj h) (fun h => by have := (t1.foot j hj).2; omega)
    refine ⟨he2, T ++ [s], Bt, mt, vt', vs', va', vl, Bu, mu, ut', us', ua', ul, t1.kept k2 (fun j hj hf => hd1 j hj hf), u2, hd2, h4, h5, by simp; omega, ?_⟩
    have z0 := h7.size
    have z1 := k1.size
    exact (h7.trans (k1.below (fun j hj => by have := (h1.foot j hj).1; omega) z0)).trans (k2.below (fun j hj => by have := (u1.foot j hj).1; omega) (by omega))
set_option maxHeartbeats 1000000 in
theorem tableBits_walk (a0 : Option Addr) (c0 : Nat) (l : List ByteArray) (a b : Int) (w : World) (hr : Reads w a0 (l.map Value.string)) (hl : l.length ≤ 9223372036854775807) (hs : ∀ s ∈ l, s.size ≤ 9223372036854775807) :
    Calls Try.prog 11 #[.slice a0 l.length c0, .int .i64 a, .int .i64 b] w fun e w' => e = .returned (.bool true) ∧ Below w.heap.size w w' := by
  have hmuch := much_any a0 c0 l w hr hl hs
  have HM := Lib.hid hmuch
  clear hmuch
  go_enter Try.func11, Try.ntmps11
  go_wp2_with fail
  refine (HM.out).mono ?_
  rintro e w1 ⟨⟨much, rfl, hn⟩, rfl⟩
  have HN := Lib.hid hn
  clear hn
  cases much with
  | true =>
    go_wp2_with fail
    refine (awake29_any _).mono ?_
    rintro e w3 ⟨rfl, hb3⟩
    go_wp2_with fail
    go_ret
    exact ⟨rfl, hb3⟩
  | false =>
    have hn := HN.out rfl
    go_wp2_with fail
    refine (new_any a w).mono ?_
    rintro e w1 ⟨pt, mt, vl, rfl, t1, k1⟩
    go_wp2_with fail
    refine (new_any b w1).mono ?_
    rintro e w2 ⟨pu, mu, ul, rfl, u2, k2⟩
    have t2 : IsTab w2 w.heap.size pt mt [] _ _ _ vl := t1.kept k2 (fun _ _ hf => hf)
    have z1 := k1.size
    have two : TwoTabs w pt pu 0 [] w2 := ⟨_, _, _, _, _, _, _, _, _, _, _, _, t2, u2, fun j hj hf => by have h1 := (t1.foot j hj).2; have h2 := (u2.foot j hf).1; omega, Nat.le_refl _, z1, Nat.le_refl _,
      (k1.below (fun _ h => h.elim) (Nat.le_refl _)).trans (k2.below (fun _ h => h.elim) z1)⟩
    have TWO := Lib.hid two
    have HR := Lib.hid hr
    have HS := Lib.hid hs
    clear t1 k1 u2 k2 t2 two hr hs
    go_wp2
    go_loopw [9] (fun v9 wr => ∃ k : Nat, k ≤ l.length ∧ v9 = .int .i64 k ∧ ∃ T, TwoTabs w pt pu k T wr) (fun v9 _ => l.length - (intOf v9).toNat)
    case atStart => exact ⟨0, by omega, rfl, [], TWO.out⟩
    case round =>
      obtain ⟨k, hk, rfl, T, hT⟩ := hrel
      have HT := Lib.hid hT
      clear hT
      by_cases hlt : k < l.length
      · have hbel : Below w.heap.size w wr := by obtain ⟨_, _, _, _, _, _, _, _, _, _, _, _, _, _, _, _, _, _, h7⟩ := HT.out; exact h7
        have hr1 := (HR.out).mono hbel (Nat.le_refl _)
        obtain ⟨b0, o0, ha, hc⟩ := hr1.at (by rw [List.length_map]; omega)
        have hx : wr.cell? ⟨b0, o0 + k, none⟩ = some (.string l[k]) := by rw [hc k (by simpa using hlt)]; simp [hlt]
        have hsz := HS.out l[k] (List.getElem_mem hlt)
        subst ha
        clear hr1 hc hbel
        obtain ⟨n, bb, hcall⟩ := both_put HT.out hsz (by omega)
        have HCALL := Lib.hid hcall
        clear hcall
        generalize hX : l[k] = x at *
        have HX := Lib.hid hX
        clear hX
        go_wp2_with fail
        refine (HCALL.out).mono ?_
        rintro e w3 ⟨rfl, hb3, hcall2⟩
        have HCALL2 := Lib.hid hcall2
        have hr3 := (HR.out).mono hb3 (Nat.le_refl _)
        have hx3 : w3.cell? ⟨b0, o0 + k, none⟩ = some (.string x) := by
          obtain ⟨b1, o1, ha1, hc1⟩ := hr3.at (by rw [List.length_map]; omega)
          simp only [Option.some.injEq, Addr.mk.injEq, and_true] at ha1
          obtain ⟨rfl, rfl⟩ := ha1
          rw [hc1 k (by simpa using hlt)]; simp [hlt, HX.out]
        clear hcall2 hr3 hb3
        go_wp2_with fail
        refine (HCALL2.out).mono ?_
        rintro e w4 ⟨rfl, T', hT'⟩
        have HT' := Lib.hid hT'
        clear hT'
        go_wp2_with fail
        go_roundw
        case rel => exact ⟨k + 1, by omega, by go_num, T', HT'.out⟩
        case measure => simp [intOf]; omega
      · obtain ⟨Bt, mt, vt, vs, va, vl, Bu, mu, ut, us, ua, ul, h1, h2, h3, h4, h5, h6, h7⟩ := HT.out
        have HL1 := Lib.hid (len_tab h1)
        have HL2 := Lib.hid (len_tab h2)
        clear h1 h2 h3 h4 h5 h6
        go_wp2_with fail
        refine (HL1.out).mono ?_
        rintro e w3 ⟨rfl, rfl⟩
        go_wp2_with fail
        refine (HL2.out).mono ?_
        rintro e w3 ⟨rfl, rfl⟩
        go_wp2_with fail
        refine (awake29_any _).mono ?_
        rintro e w3 ⟨rfl, hb3⟩
        go_wp2_with fail
        go_ret
        exact ⟨rfl, h7.trans (hb3.mono h7.size)⟩
end Go.Proofs.Ytnljihankodedaa
