/-
  warderref21.Has, True, Splits, Same; halve.Outer: by walks.
-/
import Derived.Test.YtnljihankodedaaHvParts
namespace Go.Proofs.Ytnljihankodedaa
open Go.RowKit
set_option linter.unusedVariables false
set_option linter.unusedSimpArgs false

namespace Hv
theorem encs_len (L : List (Int × Int)) : (encs L).length = L.length * 2 := by
  induction L with
  | nil => rfl
  | cons p L ih => unfold encs at ih ⊢; rw [List.flatMap_cons, List.length_append, ih]; simp [enc]; omega
theorem encs_at (L : List (Int × Int)) (j : Nat) (hj : j < L.length) : (encs L)[j * 2]? = some (.int .i64 L[j].1) ∧ (encs L)[j * 2 + 1]? = some (.int .i64 L[j].2) := by
  induction L generalizing j with
  | nil => simp at hj
  | cons p L ih =>
    have he : encs (p :: L) = .int .i64 p.1 :: .int .i64 p.2 :: encs L := rfl
    rw [he]
    cases j with
    | zero => simp
    | succ j =>
      have := ih j (by simpa using hj)
      rw [show (j + 1) * 2 = j * 2 + 1 + 1 by omega]
      simpa using this
theorem zi_mem {p : Nat × Nat} {L : List (Nat × Nat)} : zi p ∈ L.map zi ↔ p ∈ L := by
  rw [List.mem_map]
  constructor
  · rintro ⟨q, hq, e⟩
    unfold zi at e
    simp only [Prod.mk.injEq] at e
    have : q = p := by
      obtain ⟨a, b⟩ := q
      obtain ⟨c, d⟩ := p
      simp only [Prod.mk.injEq]
      simp only at e
      omega
    rw [← this]; exact hq
  · intro h; exact ⟨p, h, rfl⟩
end Hv
/-- The cells of pair j. -/
theorem pair_cells {w : World} {B : Nat} {g cap : Nat} {L : List (Int × Int)} {e : TypeId} (h : w.ownsRow B e 2 (.slice (some ⟨g, 0, none⟩) L.length cap) L.length (Hv.encs L)) (j : Nat) (hj : j < L.length) :
    w.cell? ⟨g, j * 2, none⟩ = some (.int .i64 L[j].1) ∧ w.cell? ⟨g, j * 2 + 1, none⟩ = some (.int .i64 L[j].2) :=
  ⟨(h.cellAt (j * 2) (by omega)).trans (Hv.encs_at L j hj).1, (h.cellAt (j * 2 + 1) (by omega)).trans (Hv.encs_at L j hj).2⟩
set_option maxHeartbeats 400000 in
theorem phas_any {w : World} {B : Nat} {x : Value} {L : List (Int × Int)} (h : w.ownsRow B 39 2 x L.length (Hv.encs L)) (hm : L.length ≤ 1000000) (a b : Int) :
    Calls Try.prog 43 #[x, .int .i64 a, .int .i64 b] w fun e w' => e = .returned (.bool (decide ((a, b) ∈ L))) ∧ w = w' := by
  obtain ⟨xa, xc, rfl⟩ := own_len h
  have HH := Lib.hid h
  clear h
  go_enter Try.func43, Try.ntmps43
  go_wp2
  go_loopw [7] (fun v7 wr => ∃ j : Nat, j ≤ L.length ∧ v7 = .int .i64 j ∧ (a, b) ∉ L.take j ∧ w = wr) (fun v7 _ => L.length - (intOf v7).toNat)
  case atStart => exact ⟨0, by omega, rfl, by simp, rfl⟩
  case round =>
    obtain ⟨j, hj, rfl, hno, rfl⟩ := hrel
    have HNO := Lib.hid hno
    clear hno
    by_cases hlt : j < L.length
    · obtain ⟨g, cap, hx, _, hc7, hcm7, hgs7⟩ := own_some HH.out (by omega)
      simp only [Value.slice.injEq] at hx
      obtain ⟨rfl, _, rfl⟩ := hx
      obtain ⟨c0, c1⟩ := pair_cells HH.out j hlt
      have ht : L.take (j + 1) = L.take j ++ [L[j]] := List.take_succ_eq_append_getElem hlt
      have hmem : L[j] ∈ L := List.getElem_mem hlt
      have HT := Lib.hid (And.intro ht hmem)
      clear ht hmem
      generalize L[j] = p at *
      obtain ⟨p1, p2⟩ := p
      simp only at c0 c1
      by_cases h1 : p1 = a
      · have hb1 : (p1 == a) = true := by simp [h1]
        by_cases h2 : p2 = b
        · have hb2 : (p2 == b) = true := by simp [h2]
          have HX := Lib.hid (And.intro h1 h2)
          clear h1 h2
          go_wp2
          go_ret
          exact ⟨ret_bool (by rw [decide_eq_true (show (a, b) ∈ L by rw [← (HX.out).1, ← (HX.out).2]; exact (HT.out).2)]), rfl⟩
        · have hb2 : (p2 == b) = false := by simp [h2]
          have HX := Lib.hid (And.intro h1 h2)
          clear h1 h2
          go_wp2
          go_roundw
          case rel => exact ⟨j + 1, by omega, by go_num, by rw [(HT.out).1]; simp only [List.mem_append, List.mem_singleton, Prod.mk.injEq]; exact fun h => h.elim HNO.out (fun e => (HX.out).2 e.2.symm), trivial⟩
          case measure => simp [intOf]; omega
      · have hb1 : (p1 == a) = false := by simp [h1]
        have HX := Lib.hid h1
        clear h1
        go_wp2
        go_roundw
        case rel => exact ⟨j + 1, by omega, by go_num, by rw [(HT.out).1]; simp only [List.mem_append, List.mem_singleton, Prod.mk.injEq]; exact fun h => h.elim HNO.out (fun e => HX.out e.1.symm), trivial⟩
        case measure => simp [intOf]; omega
    · have hno2 : (a, b) ∉ L := by have := HNO.out; rwa [List.take_of_length_le (by omega)] at this
      have HN2 := Lib.hid hno2
      clear hno2
      go_wp2
      go_ret
      exact ⟨ret_bool (by rw [decide_eq_false HN2.out]), rfl⟩
set_option maxHeartbeats 1000000 in
theorem true_any (n : Nat) (r : Int) (w : World) (hn : n ≤ 1000000) (hr : -9223372036854775000 ≤ r ∧ r ≤ 9223372036854775807) :
    Calls Try.prog 42 #[.int .i64 n, .int .i64 r] w (PairsAns ((Hv.tru (Hv.cap (r - 1)) n n).map Hv.zi) w) := by
  have hu : ∀ b : Bool, ¬ (some undef = some (Value.bool b)) := fun b h => by cases h
  have RC := Lib.hid (fun g w hg => rclip_any g (r - 1) w hg)
  have hcl : ∀ k : Nat, Hv.clip (k : Int) (r - 1) = min k (Hv.cap (r - 1)) := fun k => by unfold Hv.clip; rw [Int.toNat_natCast]
  have HCL := Lib.hid hcl
  have hcap := Hv.cap_le (r - 1)
  clear hcl
  generalize hm : Hv.cap (r - 1) = m at *
  have HM := Lib.hid hm
  clear hm
  go_enter Try.func42, Try.ntmps42
  go_wp2_with fail
  go_loopw [5, 6, 7, 8] (fun v5 v6 _ _ wr => ∃ k : Nat, k ≤ n ∧ v6 = .int .i64 k ∧ wr.ownsRow w.heap.size 39 2 v5 ((Hv.tru m n k).map Hv.zi).length (Hv.encs ((Hv.tru m n k).map Hv.zi)) ∧ Below w.heap.size w wr) (fun _ v6 _ _ _ => n - (intOf v6).toNat)
  case atStart => exact ⟨0, by omega, rfl, World.ownsRow_nil _ _ _ _, Below.refl _ _⟩
  case round =>
    obtain ⟨k, hk, rfl, hown, hnx⟩ := hrel
    have hll := Hv.tru_len m n k
    by_cases hlt : k < n
    · have hst : Hv.tru m n (k + 1) = if Hv.pr m n k ∈ Hv.tru m n k then Hv.tru m n k else Hv.tru m n k ++ [Hv.pr m n k] := rfl
      have hmem := Hv.zi_mem (p := Hv.pr m n k) (L := Hv.tru m n k)
      have e1 : (Hv.zi (Hv.pr m n k)) = (((min k m : Nat) : Int), ((min (n - 1 - k) m : Nat) : Int)) := rfl
      have e2 : Hv.clip ((n : Int) - 1 - (k : Int)) (r - 1) = min (n - 1 - k) m := by
        rw [show (n : Int) - 1 - (k : Int) = ((n - 1 - k : Nat) : Int) by omega, HCL.out]
      have RC1 := Lib.hid (fun w => RC.out (k : Int) w (by omega))
      have RC2 := Lib.hid (fun w => RC.out ((n : Int) - 1 - (k : Int)) w (by omega))
      rw [HCL.out] at RC1
      rw [e2] at RC2
      obtain ⟨xa, xc, hx⟩ := own_len hown
      subst hx
      have hl1 : ((Hv.tru m n k).map Hv.zi).length ≤ n := by rw [List.length_map]; omega
      have HAS := Lib.hid (fun a b => phas_any hown (by omega) a b)
      rw [e1] at hmem
      have HST := Lib.hid (And.intro hst (And.intro hmem e1))
      have hsz := hnx.size
      clear hst hmem e1 e2
      generalize hL : (Hv.tru m n k).map Hv.zi = L at *
      have HL := Lib.hid hL
      clear hL
      obtain ⟨x, hxx⟩ : ∃ x : Nat, x = min k m := ⟨_, rfl⟩
      obtain ⟨y, hyy⟩ : ∃ y : Nat, y = min (n - 1 - k) m := ⟨_, rfl⟩
      rw [← hxx] at RC1 HST
      rw [← hyy] at RC2 HST
      have hxb : x ≤ 1048575 := by omega
      have hyb : y ≤ 1048575 := by omega
      clear hxx hyy
      by_cases hin : ((x : Int), (y : Int)) ∈ L
      · have HIN := Lib.hid hin
        clear hin
        go_wp2_with fail
        refine (RC1.out _).mono ?_
        rintro e w1 ⟨rfl, rfl⟩
        go_wp2_with fail
        refine (RC2.out _).mono ?_
        rintro e w1 ⟨rfl, rfl⟩
        go_wp2_with fail
        refine (HAS.out _ _).mono ?_
        rintro e w1 ⟨rfl, rfl⟩
        rw [decide_eq_true HIN.out]
        go_wp2_with fail
        go_roundw
        case rel => exact ⟨k + 1, by omega, by go_num, by
          have h2 : Hv.tru m n (k + 1) = Hv.tru m n k := by rw [(HST.out).1, if_pos ((HST.out).2.1.1 HIN.out)]
          rw [h2, HL.out]; exact hown, hnx⟩
        case measure => simp [intOf]; omega
      · have HIN := Lib.hid hin
        clear hin
        go_wp2_with fail
        refine (RC1.out _).mono ?_
        rintro e w1 ⟨rfl, rfl⟩
        go_wp2_with fail
        refine (RC2.out _).mono ?_
        rintro e w1 ⟨rfl, rfl⟩
        go_wp2_with fail
        refine (HAS.out _ _).mono ?_
        rintro e w1 ⟨rfl, rfl⟩
        rw [decide_eq_false HIN.out]
        go_wp2_with (at_builtin; refine append_at (v := .slice xa L.length xc) rfl _ _ 36 rfl 39 (.agg #[.int .i64 0, .int .i64 0]) 2 16 Try.underlying36 Try.infoP rfl (by decide) rfl hown hsz [.int .i64 x, .int .i64 y] rfl (by simp [Value.oneCell']) rfl (by simp) (by decide) (by omega) ?_; intro g cap w5 own5 keep5 where5; have bel5 := hnx.trans (keep5.below (fun j hj => (hown.lt j hj).1) hsz))
        go_roundw
        case rel => exact ⟨k + 1, by omega, by go_num, by
          have h2 : (Hv.tru m n (k + 1)).map Hv.zi = L ++ [((x : Int), (y : Int))] := by rw [(HST.out).1, if_neg (fun h => HIN.out ((HST.out).2.1.2 h)), List.map_append, HL.out, List.map_singleton, (HST.out).2.2]
          rw [h2, Hv.encs_snoc, List.length_append]; exact own5, bel5⟩
        case measure => simp [intOf]; omega
    · have hkn : k = n := by omega
      subst hkn
      obtain ⟨xa, xc, hx⟩ := own_len hown
      subst hx
      have HO := Lib.hid (And.intro hown hnx)
      clear hown hnx
      go_wp2_with fail
      go_ret
      exact ⟨_, rfl, (HO.out).1, (HO.out).2⟩
end Go.Proofs.Ytnljihankodedaa
