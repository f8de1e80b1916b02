/-
  Package bits: sets of lists, what is put, the chapter's example; and the three laws' walks.
-/
import Derived.Test.YtnljihankodedaaBitsWalks2
import Derived.Test.YtnljihankodedaaSame
namespace Go.Proofs.Ytnljihankodedaa
open Go.RowKit BitsPlain
set_option linter.unusedVariables false

theorem take_more (xs : List Int) (k : Nat) (h : k < xs.length) : xs.take (k + 1) = xs.take k ++ [xs[k]] := by
  rw [List.take_succ_eq_append_getElem h]
set_option maxHeartbeats 400000 in
theorem of_any (a : Option Addr) (c : Nat) (xs : List Int) (w : World) (ha : Reads w a (xs.map (Value.int .i64))) (hm : xs.length ≤ 4611686018427387904) :
    Calls Try.prog 27 #[.slice a xs.length c] w fun e w' => e = .returned (.int .i64 (ofBits (memB xs) 31)) ∧ w = w' := by
  by_cases h0 : xs.length = 0
  · have e1 : xs = [] := List.eq_nil_of_length_eq_zero h0
    subst e1
    go_enter Try.func27, Try.ntmps27
    go_wp2
    refine wp_loop_rounds 1 ?_
    rw [rounds_succ]
    go_wp2
    go_ret
    exact ⟨rfl, rfl⟩
  · obtain ⟨ba, oa, rfl, hca⟩ := ha.at (by simp; omega)
    have HCA := Lib.hid (Reads.int hca)
    clear hca ha
    go_enter Try.func27, Try.ntmps27
    go_wp2
    go_loop [3, 8] (fun v3 v8 => ∃ k : Nat, k ≤ xs.length ∧ v8 = .int .i64 k ∧ v3 = .int .i64 ((ofBits (memB (xs.take k)) 31 : Nat) : Int)) (fun _ v8 => xs.length - (intOf v8).toNat)
    case atStart => exact ⟨0, by omega, rfl, rfl⟩
    case round =>
      obtain ⟨k, hk, rfl, rfl⟩ := hrel
      by_cases hlt : k < xs.length
      · have hx := HCA.out k hlt
        have hcall := fun w => with_any ((ofBits (memB (xs.take k)) 31 : Nat) : Int) (xs[k]) w
        rw [putB_mem, ← take_more xs k hlt] at hcall
        have HCALL := Lib.hid hcall
        clear hcall
        generalize hX : xs[k] = x at *
        clear hX
        generalize hO : ofBits (memB (xs.take k)) 31 = y at *
        clear hO
        go_wp2_with (go_at_call 17; refine (HCALL.out _).mono ?_; rintro e w' ⟨rfl, rfl⟩)
        go_round
        case rel => exact ⟨k + 1, by omega, by go_num, rfl⟩
        case measure => simp [intOf]; omega
      · have hkn : k = xs.length := by omega
        have hf : xs.take k = xs := by rw [hkn]; exact List.take_length
        have HF := Lib.hid hf
        clear hf hkn
        go_wp2
        go_ret
        exact ⟨ret_int (by rw [HF.out]), rfl⟩

set_option maxHeartbeats 400000 in
set_option maxRecDepth 1000000 in
theorem put_any (s i : Int) (t : Bool) (w : World) (hs1 : -9223372036854775808 ≤ s) (hs2 : s ≤ 9223372036854775807) :
    Calls Try.prog 18 #[.int .i64 s, .int .i64 i, .bool t] w fun e w' => e = .returned (.int .i64 (putB s i t)) ∧ Below w.heap.size w w' := by
  by_cases h : 0 ≤ i ∧ i < 31
  · obtain ⟨n, rfl⟩ := Int.eq_ofNat_of_zero_le h.1
    have hn : n < 31 := by omega
    have g1 : (n : Int) ≤ 30 := by omega
    clear h
    go_enter Try.func18, Try.ntmps18
    go_wp2_with fail
    refine (in_any s _ hs1 hs2).mono ?_
    rintro e w1 ⟨v, rfl, hown, hnx⟩
    obtain ⟨g, cap, hv, hg, hcap, hcm, hgs⟩ := own_some hown (by omega)
    subst hv
    have hcell := hown.cellAt n (by omega)
    rw [bools_at _ _ _ hn] at hcell
    have hfr := hown.frozenAt n
    obtain ⟨hst, hgr⟩ := hown.stored n (.bool t)
    have hsum := sum_any g 0 cap (fun k => if k = n then t else bit s k) (w1.setCell ⟨g, n, none⟩ (.bool t)) (fun k hk => by
      have h1 := hst.cellAt k (by omega)
      rw [Nat.zero_add, h1, List.getElem?_set, bools_length]
      by_cases hkn : n = k
      · subst hkn; simp [hk]
      · rw [if_neg hkn, bools_at _ _ _ hk, if_neg (by omega)])
    have HS := Lib.hid hsum
    have HP := Lib.hid (putB_in s n t)
    have hbel : Below w.heap.size w (w1.setCell ⟨g, n, none⟩ (.bool t)) := hnx.setCell hg _
    clear hsum hst hgr hown
    go_wp2_with fail
    refine (HS.out).mono ?_
    rintro e w2 ⟨rfl, rfl⟩
    go_wp2_with fail
    go_ret
    exact ⟨ret_int (by rw [HP.out]), hbel⟩
  · have hp := putB_out s i t h
    have HP := Lib.hid hp
    clear hp
    have hd : (decide (0 ≤ i) && decide (i ≤ 30)) = false := by simp; omega
    rcases Int.lt_or_le i 0 with h0 | h0
    · clear h hd
      go_enter Try.func18, Try.ntmps18
      go_wp2_with fail
      refine (in_any s _ hs1 hs2).mono ?_
      rintro e w1 ⟨v, rfl, hown, hnx⟩
      obtain ⟨g, cap, hv, hg, hcap, hcm, hgs⟩ := own_some hown (by omega)
      subst hv
      have hsum := sum_any g 0 cap (bit s) w1 (fun k hk => by
        have h1 := hown.cellAt k (by omega)
        rw [Nat.zero_add, h1, bools_at _ _ _ hk])
      have HS := Lib.hid hsum
      clear hsum hown
      go_wp2_with fail
      refine (HS.out).mono ?_
      rintro e w2 ⟨rfl, rfl⟩
      go_wp2_with fail
      go_ret
      exact ⟨ret_int (by rw [HP.out]), hnx⟩
    · have h1 : 30 < i := by omega
      clear h hd
      go_enter Try.func18, Try.ntmps18
      go_wp2_with fail
      refine (in_any s _ hs1 hs2).mono ?_
      rintro e w1 ⟨v, rfl, hown, hnx⟩
      obtain ⟨g, cap, hv, hg, hcap, hcm, hgs⟩ := own_some hown (by omega)
      subst hv
      have hsum := sum_any g 0 cap (bit s) w1 (fun k hk => by
        have h1 := hown.cellAt k (by omega)
        rw [Nat.zero_add, h1, bools_at _ _ _ hk])
      have HS := Lib.hid hsum
      clear hsum hown
      go_wp2_with fail
      refine (HS.out).mono ?_
      rintro e w2 ⟨rfl, rfl⟩
      go_wp2_with fail
      go_ret
      exact ⟨ret_int (by rw [HP.out]), hnx⟩

/-- A new block of ints reads as it was laid. -/
theorem reads_new (w : World) (xs : List Int) (e : TypeId) : Reads (w.alloc (.cells (xs.map (Value.int .i64)).toArray e)) (some ⟨w.heap.size, 0, none⟩) (xs.map (Value.int .i64)) := by
  refine Or.inr ⟨_, _, rfl, fun j hj => ?_⟩
  rw [World.cell?_alloc_at _ _ _ _ rfl]
  simp
theorem of02 (w : World) : Calls Try.prog 27 #[.slice (some ⟨w.heap.size, 0, none⟩) 2 2] (w.alloc (.cells #[.int .i64 0, .int .i64 2] 3)) fun e w' => e = .returned (.int .i64 5) ∧ w.alloc (.cells #[.int .i64 0, .int .i64 2] 3) = w' := by
  have h := of_any (some ⟨w.heap.size, 0, none⟩) 2 [0, 2] (w.alloc (.cells #[.int .i64 0, .int .i64 2] 3)) (reads_new w [0, 2] 3) (by decide)
  have e : ((ofBits (memB [0, 2]) 31 : Nat) : Int) = 5 := by decide
  rw [e] at h
  exact h
theorem list5 (w : World) : Calls Try.prog 22 #[.int .i64 5] w (GivesInts [0, 2] w) := by
  have h := list_any 5 w
  have e : lst (bit 5) 31 = [0, 2] := by decide
  rwa [e] at h
theorem first3 (w : World) : Calls Try.prog 28 #[.int .i64 3] w fun e w' => e = .returned (.int .i64 7) ∧ w = w' := by
  have h := first_any 3 w
  have e : ((2 ^ top 3 - 1 : Nat) : Int) = 7 := by decide
  rwa [e] at h
set_option maxHeartbeats 400000 in
set_option maxRecDepth 1000000 in
theorem awake_any (w : World) : Calls Try.prog 20 #[] w fun e w' => e = .returned (.bool true) ∧ Below w.heap.size w w' := by
  go_enter Try.func20, Try.ntmps20
  go_wp2_with fail
  refine (of02 w).mono ?_
  rintro e w1 ⟨rfl, rfl⟩
  go_wp2_with fail
  refine (list5 _).mono ?_
  rintro e w2 ⟨v, rfl, hown, hnx⟩
  obtain ⟨a, cap, hv, hr⟩ := Reads.of_ints hown
  subst hv
  have hsz := hnx.size
  have hb0 : Below w.heap.size w (w.alloc (.cells #[.int .i64 0, .int .i64 2] 3)) := (Below.refl _ _).alloc (Nat.le_refl _) _
  have hb1 : Below w.heap.size w w2 := hb0.trans (hnx.mono (by simp))
  have hle : w.heap.size ≤ w2.heap.size := hb1.size
  have hb2 : Below w.heap.size w (w2.alloc (.cells #[.int .i64 0, .int .i64 2] 3)) := hb1.alloc hle _
  have hr2 : Reads (w2.alloc (.cells #[.int .i64 0, .int .i64 2] 3)) a (([0, 2] : List Int).map (Value.int .i64)) := hr.mono ((Below.refl w2.heap.size _).alloc (Nat.le_refl _) _) (Nat.le_refl _)
  have hs := same_any a (some ⟨w2.heap.size, 0, none⟩) cap 2 [0, 2] [0, 2] _ hr2 (reads_new w2 [0, 2] 3) (by decide)
  have HS := Lib.hid hs
  clear hs hr hr2 hown hnx hsz
  go_wp2_with fail
  refine (HS.out).mono ?_
  rintro e w3 ⟨rfl, n, rfl⟩
  go_wp2_with fail
  refine (first3 _).mono ?_
  rintro e w4 ⟨rfl, rfl⟩
  go_wp2_with fail
  go_ret
  exact ⟨rfl, below_drewN hb2 n⟩
end Go.Proofs.Ytnljihankodedaa
