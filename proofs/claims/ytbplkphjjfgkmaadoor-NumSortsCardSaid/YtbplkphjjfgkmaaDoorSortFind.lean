/-
  num.Find, and the document's Below, Has, by walks.
-/
import Derived.Test.YtbplkphjjfgkmaaDoorSortWalk
import Derived.Test.YtbplkphjjfgkmaaDoorSame3
namespace Go.Proofs.YtbplkphjjfgkmaaDoor
open Go.RowKit
set_option linter.unusedVariables false
set_option linter.unusedSimpArgs false

theorem sbel_dn {B : Nat} {a w : World} (h : Below B a w) (n : Nat) : Below B a (w.drewN n) := ⟨h.os, h.tape, h.output, h.size, h.block⟩
set_option maxHeartbeats 1000000 in
theorem find1_any (bx b off c : Nat) (xs : List Int) (n : Int) (W : World) (c0 : W.cell? ⟨bx, 0, none⟩ = some (.slice (some ⟨b, off, none⟩) xs.length c)) (c1 : W.cell? ⟨bx + 1, 0, none⟩ = some (.int .i64 n))
    (hc : ∀ k (h : k < xs.length), W.cell? ⟨b, off + k, none⟩ = some (.int .i64 xs[k])) (i : Nat) (hi : i < xs.length) :
    Calls Tryd.prog 63 #[.int .i64 i, .pointer (some ⟨bx, 0, none⟩), .pointer (some ⟨bx + 1, 0, none⟩)] W fun e w' => e = .returned (.bool (decide (n ≤ xs[i]))) ∧ Below W.heap.size W w' := by
  have h1 := hc i hi
  generalize xs[i] = x at *
  clear hc
  go_enter Tryd.func63, Tryd.ntmps63
  go_wp2
  go_quiet (fail)
  go_wp2
  go_ret
  exact ⟨rfl, sbel_dn (Below.refl _ _) _⟩
theorem contains_any (a : Option Addr) (c : Nat) (xs : List Int) (n : Int) (w : World) (ha : Reads w a (xs.map (Value.int .i64))) (hm : xs.length ≤ 1000000) :
    Calls Tryd.prog 64 #[.slice a xs.length c, .int .i64 n] w fun e w' => e = .returned (.bool (xs.contains n)) ∧ w = w' := by
  by_cases h0 : xs = []
  · subst h0
    refine (Tryd.slices_Contains_int_empty a c n w).mono ?_
    rintro e w' ⟨rfl, rfl⟩
    exact ⟨rfl, rfl⟩
  · have hp : 0 < xs.length := List.length_pos_iff.2 h0
    obtain ⟨b, off, rfl, hc⟩ := ha.at (by simpa using hp)
    refine (Tryd.slices_Contains_int b off xs.length c xs n w (Nat.le_refl _) (by omega) (reads_getD hc)).mono ?_
    rintro e w' ⟨rfl, rfl⟩
    exact ⟨by rw [List.take_length], rfl⟩
/-- What Find answers. -/
def FindR (w : World) (xs : List Int) (n : Int) (e : Ending) (w' : World) : Prop :=
  ∃ k : Nat, e = .returned (.tuple #[.int .i64 k, .bool (xs.contains n)]) ∧ k ≤ xs.length ∧ (∀ (j : Nat) (h : j < xs.length), j + 1 = k → xs[j] < n) ∧ (∀ h : k < xs.length, n ≤ xs[k]) ∧ Below w.heap.size w w'
set_option maxHeartbeats 4000000 in
theorem find_any (a : Option Addr) (c : Nat) (xs : List Int) (n : Int) (w : World) (ha : Reads w a (xs.map (Value.int .i64))) (hm : xs.length ≤ 1000000) :
    Calls Tryd.prog 21 #[.slice a xs.length c, .int .i64 n] w (FindR w xs n) := by
  have HB0 : Hid (Below w.heap.size w ((w.alloc (.cells #[.slice a xs.length c] 22)).alloc (.cells #[.int .i64 n] 2))) := Lib.hid (((Below.refl _ _).alloc (Nat.le_refl _) _).alloc (by simp) _)
  have hsz : ((w.alloc (.cells #[.slice a xs.length c] 22)).alloc (.cells #[.int .i64 n] 2)).heap.size = w.heap.size + 1 + 1 := by simp
  have c0 : ((w.alloc (.cells #[.slice a xs.length c] 22)).alloc (.cells #[.int .i64 n] 2)).cell? ⟨w.heap.size, 0, none⟩ = some (.slice a xs.length c) := by simp [World.cell?_alloc_at]
  have c1 : ((w.alloc (.cells #[.slice a xs.length c] 22)).alloc (.cells #[.int .i64 n] 2)).cell? ⟨w.heap.size + 1, 0, none⟩ = some (.int .i64 n) := by rw [World.cell?_alloc_at _ _ _ _ (by simp)]; rfl
  have hr := ha.mono HB0.out (Nat.le_refl _)
  have HSE : Hid (Calls Tryd.prog 62 #[.int .i64 xs.length, .func (.func 63) #[] #[.pointer (some ⟨w.heap.size, 0, none⟩), .pointer (some ⟨w.heap.size + 1, 0, none⟩)]] ((w.alloc (.cells #[.slice a xs.length c] 22)).alloc (.cells #[.int .i64 n] 2)) fun e w' => ∃ k : Nat, e = .returned (.int .i64 k) ∧ k ≤ xs.length ∧ (∀ j, j + 1 = k → (if h : j < xs.length then decide (n ≤ xs[j]) else false) = false) ∧ (k < xs.length → (if h : k < xs.length then decide (n ≤ xs[k]) else false) = true) ∧ Below ((w.alloc (.cells #[.slice a xs.length c] 22)).alloc (.cells #[.int .i64 n] 2)).heap.size ((w.alloc (.cells #[.slice a xs.length c] 22)).alloc (.cells #[.int .i64 n] 2)) w') := Lib.hid (by
    refine search_any 63 _ xs.length (fun j => if h : j < xs.length then decide (n ≤ xs[j]) else false) _ (enters_of Tryd.func63 (by kernel_rfl) rfl) (by omega) ?_
    intro W hW i hi
    have hrW := hr.mono hW (Nat.le_refl _)
    obtain ⟨b, off, rfl, hc⟩ := hrW.at (by simp; omega)
    have hf := find1_any w.heap.size b off c xs n W ((hW.cell (p := ⟨w.heap.size, 0, none⟩) (lt_of_cell c0)).trans c0) ((hW.cell (p := ⟨w.heap.size + 1, 0, none⟩) (lt_of_cell c1)).trans c1) (Reads.int hc) i hi
    refine hf.mono ?_
    rintro e w' ⟨rfl, hb⟩
    exact ⟨by rw [dif_pos hi], hb⟩)
  have HALL : Hid (∀ w1, Below ((w.alloc (.cells #[.slice a xs.length c] 22)).alloc (.cells #[.int .i64 n] 2)).heap.size ((w.alloc (.cells #[.slice a xs.length c] 22)).alloc (.cells #[.int .i64 n] 2)) w1 → w1.cell? ⟨w.heap.size, 0, none⟩ = some (.slice a xs.length c) ∧ w1.cell? ⟨w.heap.size + 1, 0, none⟩ = some (.int .i64 n) ∧ Reads w1 a (xs.map (Value.int .i64)) ∧ Below w.heap.size w w1) := Lib.hid fun w1 h =>
    ⟨(h.cell (p := ⟨w.heap.size, 0, none⟩) (lt_of_cell c0)).trans c0, (h.cell (p := ⟨w.heap.size + 1, 0, none⟩) (lt_of_cell c1)).trans c1, hr.mono h (Nat.le_refl _), HB0.out.trans (h.mono HB0.out.size)⟩
  clear hsz c0 c1 hr HB0 ha
  go_enter Tryd.func21, Tryd.ntmps21
  go_wp2_with fail
  refine HSE.out.mono ?_
  rintro e w1 ⟨k, rfl, hk, h1, h2, hb⟩
  obtain ⟨d0, d1, hrd, hbel⟩ := HALL.out w1 hb
  have H1 : Hid (∀ (j : Nat) (h : j < xs.length), j + 1 = k → xs[j] < n) := Lib.hid fun j h e => by
    have := h1 j e
    rw [dif_pos h] at this
    simpa using this
  have H2 : Hid (∀ h : k < xs.length, n ≤ xs[k]) := Lib.hid fun h => by
    have := h2 h
    rw [dif_pos h] at this
    simpa using this
  have HRD := Lib.hid hrd
  have HBE := Lib.hid hbel
  clear h1 h2 hb hrd hbel HSE HALL
  have HC : Hid (∀ m, Calls Tryd.prog 64 #[.slice a xs.length c, .int .i64 n] (w1.drewN m) fun e w' => e = .returned (.bool (xs.contains n)) ∧ w1.drewN m = w') := Lib.hid fun m => contains_any a c xs n _ (HRD.out.mono (sbel_dn (Below.refl w1.heap.size w1) m) (Nat.le_refl _)) hm
  obtain ⟨q, hq⟩ : ∃ q, q = xs.contains n := ⟨_, rfl⟩
  rw [← hq] at HC
  have HQ := Lib.hid hq
  clear hq
  by_cases hlt : k < xs.length
  · obtain ⟨b, off, rfl, hc⟩ := HRD.out.at (by simp; omega)
    have hck := Reads.int hc k hlt
    have hin : Hid (xs[k] ∈ xs) := Lib.hid (List.getElem_mem _)
    have hd : decide ((k : Int) < (xs.length : Int)) = true := decide_eq_true (by omega)
    have hd2 : decide (k < xs.length) = true := decide_eq_true hlt
    clear hc
    by_cases hx : xs[k] = n
    · have hcon : xs.contains n = true := by rw [List.contains_iff_mem, ← hx]; exact hin.out
      have hxx : (xs[k] == n) = true := by simpa using hx
      have HCON := Lib.hid hcon
      clear hcon hx
      generalize xs[k] = x at hck hxx
      go_wp2
      go_quiet (fail)
      go_wp2
      go_ret2
      exact ⟨k, by rw [HCON.out]; rfl, hk, H1.out, H2.out, sbel_dn HBE.out _⟩
    · have hxx : (xs[k] == n) = false := by simpa using hx
      clear hx
      generalize xs[k] = x at hck hxx
      go_wp2
      go_quiet (fail)
      go_wp2_with fail
      refine (HC.out _).mono ?_
      rintro e w2 ⟨rfl, rfl⟩
      go_wp2_with fail
      go_ret2
      exact ⟨k, by rw [← HQ.out]; rfl, hk, H1.out, H2.out, sbel_dn HBE.out _⟩
  · have hd : decide ((k : Int) < (xs.length : Int)) = false := decide_eq_false (by omega)
    have hd2 : decide (k < xs.length) = false := decide_eq_false hlt
    go_wp2
    go_quiet (fail)
    go_wp2_with fail
    refine (HC.out _).mono ?_
    rintro e w2 ⟨rfl, rfl⟩
    go_wp2_with fail
    go_ret2
    exact ⟨k, by rw [← HQ.out]; rfl, hk, H1.out, H2.out, sbel_dn HBE.out _⟩
set_option maxHeartbeats 1000000 in
theorem rbelow_any (a : Option Addr) (c : Nat) (xs : List Int) (n : Int) (w : World) (ha : Reads w a (xs.map (Value.int .i64))) (hm : xs.length ≤ 1000000) :
    Calls Tryd.prog 22 #[.slice a xs.length c, .int .i64 n] w fun e w' => e = .returned (.int .i64 (Sr.below n xs : Nat)) ∧ w = w' := by
  have HA := Lib.hid ha
  clear ha
  go_enter Tryd.func22, Tryd.ntmps22
  go_wp2
  go_loopw [5, 6] (fun v5 v6 wr => ∃ k : Nat, k ≤ xs.length ∧ v6 = .int .i64 k ∧ v5 = .int .i64 (Sr.below n (xs.take k) : Nat) ∧ wr = w) (fun _ v6 _ => xs.length - (intOf v6).toNat)
  case atStart => exact ⟨0, by omega, rfl, rfl, rfl⟩
  case round =>
    obtain ⟨k, hk, rfl, rfl, rfl⟩ := hrel
    have hle := Sr.below_le n (xs.take k)
    have hl : (xs.take k).length ≤ k := List.length_take_le _ _
    by_cases hlt : k < xs.length
    · obtain ⟨b, off, rfl, hc⟩ := HA.out.at (by simp; omega)
      have hck := Reads.int hc k hlt
      have hs : Hid (Sr.below n (xs.take (k + 1)) = Sr.below n (xs.take k) + (if xs[k] < n then 1 else 0)) := Lib.hid (by rw [List.take_succ_eq_append_getElem hlt, Sr.below_snoc])
      clear hc
      by_cases hx : xs[k] < n
      · have HS : Hid (Sr.below n (xs.take (k + 1)) = Sr.below n (xs.take k) + 1) := Lib.hid (by rw [hs.out, if_pos hx])
        clear hs
        generalize xs[k] = x at *
        generalize Sr.below n (xs.take k) = q at *
        go_wp2
        go_roundw
        case rel => exact ⟨k + 1, by omega, by go_num, by rw [HS.out]; go_num, trivial⟩
        case measure => simp [intOf]; omega
      · have HS : Hid (Sr.below n (xs.take (k + 1)) = Sr.below n (xs.take k)) := Lib.hid (by rw [hs.out, if_neg hx, Nat.add_zero])
        clear hs
        generalize xs[k] = x at *
        generalize Sr.below n (xs.take k) = q at *
        go_wp2
        go_roundw
        case rel => exact ⟨k + 1, by omega, by go_num, by rw [HS.out], trivial⟩
        case measure => simp [intOf]; omega
    · have e : k = xs.length := by omega
      have HE : Hid (xs.take k = xs) := Lib.hid (by rw [e, List.take_length])
      clear e
      go_wp2
      go_ret
      exact ⟨ret_int (by rw [HE.out]), rfl⟩
set_option maxHeartbeats 1000000 in
theorem rhas_any (a : Option Addr) (c : Nat) (xs : List Int) (n : Int) (w : World) (ha : Reads w a (xs.map (Value.int .i64))) (hm : xs.length ≤ 1000000) :
    Calls Tryd.prog 23 #[.slice a xs.length c, .int .i64 n] w fun e w' => e = .returned (.bool (xs.contains n)) ∧ w = w' := by
  have HA := Lib.hid ha
  clear ha
  go_enter Tryd.func23, Tryd.ntmps23
  go_wp2
  go_loopw [5] (fun v5 wr => ∃ k : Nat, k ≤ xs.length ∧ v5 = .int .i64 k ∧ Hid (∀ (j : Nat) (h : j < xs.length), j < k → xs[j] ≠ n) ∧ wr = w) (fun v5 _ => xs.length - (intOf v5).toNat)
  case atStart => exact ⟨0, by omega, rfl, Lib.hid fun j h hj => by omega, rfl⟩
  case round =>
    obtain ⟨k, hk, rfl, HK, rfl⟩ := hrel
    by_cases hlt : k < xs.length
    · obtain ⟨b, off, rfl, hc⟩ := HA.out.at (by simp; omega)
      have hck := Reads.int hc k hlt
      clear hc
      by_cases hx : xs[k] = n
      · have HT : Hid (xs.contains n = true) := Lib.hid (by rw [List.contains_iff_mem, ← hx]; exact List.getElem_mem _)
        have hxx : (xs[k] == n) = true := by simpa using hx
        clear hx
        generalize xs[k] = x at hck hxx
        go_wp2
        go_ret
        exact ⟨ret_bool HT.out.symm, rfl⟩
      · have hxx : (xs[k] == n) = false := by simpa using hx
        have HX := Lib.hid hx
        clear hx
        have hckg : ∃ x, x = xs[k] := ⟨_, rfl⟩
        obtain ⟨x, hxe⟩ := hckg
        rw [← hxe] at hck hxx
        clear hxe
        go_wp2
        go_roundw
        case rel => exact ⟨k + 1, by omega, by go_num, Lib.hid fun j h hj => by
          by_cases e : j = k
          · subst e; exact HX.out
          · exact HK.out j h (by omega), trivial⟩
        case measure => simp [intOf]; omega
    · have HF : Hid (xs.contains n = false) := Lib.hid (by
        cases e : xs.contains n with
        | false => rfl
        | true =>
          rw [List.contains_iff_mem] at e
          obtain ⟨j, hj, hj2⟩ := List.mem_iff_getElem.1 e
          exact absurd hj2 (HK.out j hj (by omega)))
      go_wp2
      go_ret
      exact ⟨ret_bool HF.out.symm, rfl⟩
end Go.Proofs.YtbplkphjjfgkmaaDoor
