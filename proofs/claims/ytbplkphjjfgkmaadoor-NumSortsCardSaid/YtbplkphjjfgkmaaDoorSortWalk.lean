/-
  num.Sorted and num.Find, and the document's, by walks.
-/
import Derived.Test.YtbplkphjjfgkmaaDoorSrtPlain
import Derived.Test.YtbplkphjjfgkmaaDoorSortShelf
import Derived.Test.YtbplkphjjfgkmaaDoorNmAwake
import Derived.Lib.OwnBridge
import Derived.Sort.OwnSortedInts
import Derived.Deep.LoopGhost
namespace Go.Proofs.YtbplkphjjfgkmaaDoor
open Go.RowKit
set_option linter.unusedVariables false
set_option linter.unusedSimpArgs false

theorem srt_len (l : List Int) : (Sr.srt l).length ≤ l.length := by
  unfold Sr.srt Lib.compact Lib.compactUpTo
  rw [List.length_map]
  have := List.length_filter_le (Lib.keeps (l.mergeSort fun x y => decide (x ≤ y)).toArray) (List.range (l.mergeSort fun x y => decide (x ≤ y)).length)
  simpa using this
theorem reads_getD {w : World} {b off : Nat} {xs : List Int} (hc : ∀ j, j < (xs.map (Value.int .i64)).length → w.cell? ⟨b, off + j, none⟩ = (xs.map (Value.int .i64))[j]?) : ∀ j, j < xs.length → w.cell? ⟨b, off + j, none⟩ = some (.int .i64 (xs.getD j 0)) := by
  intro j hj
  rw [hc j (by simpa using hj)]
  simp [List.getElem?_eq_getElem hj]
/-- A slice that the call made, of so many numbers. -/
def OwnR (w : World) (xs : List Int) (e : Ending) (w' : World) : Prop := ∃ v, e = .returned v ∧ w'.ownsRow w.heap.size 2 1 v xs.length (xs.map (Value.int .i64)) ∧ Below w.heap.size w w'
theorem clone_any (a : Option Addr) (c : Nat) (xs : List Int) (w : World) (ha : Reads w a (xs.map (Value.int .i64))) (hm : xs.length * 8 ≤ 140737488355328) :
    Calls Tryd.prog 59 #[.slice a xs.length c] w fun e w' => ∃ v, e = .returned v ∧ w'.ownsRow w.heap.size 2 1 v xs.length (xs.map (Value.int .i64)) ∧ Below w.heap.size w w' ∧ (xs ≠ [] → v ≠ .slice none 0 0) := by
  by_cases h0 : xs = []
  · subst h0
    cases a with
    | none =>
      refine (Tryd.slices_Clone_int_nil 0 c w).mono ?_
      rintro e w' ⟨rfl, rfl⟩
      exact ⟨_, rfl, World.ownsRow_nil _ _ _ _, Below.refl _ _, fun h => absurd rfl h⟩
    | some a =>
      refine (Tryd.slices_Clone_int_zero a c w).mono ?_
      rintro e w' ⟨v, rfl, ho, hv, hb⟩
      exact ⟨v, rfl, ho, hb, fun _ => hv⟩
  · have hp : 0 < xs.length := List.length_pos_iff.2 h0
    obtain ⟨b, off, rfl, hc⟩ := ha.at (by simpa using hp)
    refine (Tryd.slices_Clone_int b off xs.length c xs w (Nat.le_refl _) hm (reads_getD hc)).mono ?_
    rintro e w' ⟨v, rfl, ho, hv, hb⟩
    rw [List.take_length] at ho
    exact ⟨v, rfl, ho, hb, fun _ => hv⟩
theorem sorted_any (a : Option Addr) (c : Nat) (xs : List Int) (w : World) (ha : Reads w a (xs.map (Value.int .i64))) (hm : xs.length ≤ 1000000) :
    Calls Tryd.prog 18 #[.slice a xs.length c] w (OwnR w (Sr.srt xs)) := by
  have HC := Lib.hid (clone_any a c xs w ha (by omega))
  by_cases h0 : xs = []
  · subst h0
    clear ha hm
    go_enter Tryd.func18, Tryd.ntmps18
    go_wp2_with fail
    refine HC.out.mono ?_
    rintro e w1 ⟨v, rfl, ho, hb, -⟩
    obtain ⟨va, vc, rfl⟩ := own_len ho
    have HO := Lib.hid ho
    have HB := Lib.hid hb
    clear ho hb HC
    go_wp2_with fail
    refine (Tryd.slices_Sort_int_none va vc _).mono ?_
    rintro e w2 ⟨rfl, rfl⟩
    go_wp2_with fail
    refine (Tryd.slices_Compact_int_empty va vc _).mono ?_
    rintro e w3 ⟨rfl, rfl⟩
    go_wp2_with fail
    go_ret
    have e0 : Sr.srt [] = [] := by simp [Sr.srt, Lib.compact, Lib.compactUpTo]
    exact ⟨_, rfl, by rw [e0]; exact HO.out, HB.out⟩
  · have hlen : xs.length ≠ 0 := fun h => h0 (List.eq_nil_of_length_eq_zero h)
    have H0 := Lib.hid h0
    clear ha h0
    go_enter Tryd.func18, Tryd.ntmps18
    go_wp2_with fail
    refine HC.out.mono ?_
    rintro e w1 ⟨v, rfl, ho, hb, hv⟩
    have HB := Lib.hid hb
    obtain ⟨g, cap, rfl, hg, hlt, hn, hcm, -, hH⟩ := Lib.holds_of_ownsRow ho (hv H0.out)
    have HO := Lib.hid ho
    have HH := Lib.hid hH
    clear ho hb HC hv hH
    have hlen2 : (xs.mergeSort fun x y => decide (x ≤ y)).length = xs.length := List.length_mergeSort xs
    have HL2 := Lib.hid hlen2
    clear hlen2
    go_wp2_with fail
    refine (Tryd.slices_Sort_int g 0 cap xs w1 HH.out hlt (by omega)).mono ?_
    rintro e w2 ⟨rfl, nq, os, rfl⟩
    have ho2 : (Sort.grow (Sort.putRow (Value.int .i64) (Sort.ahead w1 nq) g 0 (xs.mergeSort fun x y => decide (x ≤ y)).toArray) os).ownsRow w.heap.size 2 1 (.slice (some ⟨g, 0, none⟩) xs.length cap) xs.length ((xs.mergeSort fun x y => decide (x ≤ y)).map (Value.int .i64)) := by
      rcases HO.out.2 with ⟨e0, _⟩ | ⟨g', cap', cur, e0, hb', hgg, hn', hm', hs', ht'⟩
      · cases e0
      · cases e0
        exact ownsRow_sortedI HL2.out hb' hgg hn' hm' hs'
    have hb2 : Below w.heap.size w (Sort.grow (Sort.putRow (Value.int .i64) (Sort.ahead w1 nq) g 0 (xs.mergeSort fun x y => decide (x ≤ y)).toArray) os) := HB.out.grown (grownBy_sortedI _) HB.out.size (fun j hj => by cases hj; exact hg)
    have HSRT : Hid (Sr.srt xs = Lib.compact (xs.mergeSort fun x y => decide (x ≤ y))) := Lib.hid rfl
    have HO2 := Lib.hid ho2
    have HB2 := Lib.hid hb2
    clear ho2 hb2 HO HB HH
    generalize Sort.grow (Sort.putRow (Value.int .i64) (Sort.ahead w1 nq) g 0 (xs.mergeSort fun x y => decide (x ≤ y)).toArray) os = w2 at *
    generalize (xs.mergeSort fun x y => decide (x ≤ y)) = ys at *
    obtain ⟨g2, cap2, e2, -, hlt2, hn2, -, hyl, hH2⟩ := Lib.holds_of_ownsRow HO2.out (by simp)
    cases e2
    have hyl2 := HL2.out
    have HC2 := Lib.hid (Tryd.slices_Compact_int g 0 cap ys w2 hH2 (by omega) (by omega))
    rw [hyl2] at HC2
    have hcl : (Lib.compact ys).length ≤ xs.length := by
      rw [← hyl2]
      unfold Lib.compact Lib.compactUpTo
      rw [List.length_map]
      have := List.length_filter_le (Lib.keeps ys.toArray) (List.range ys.length)
      simpa using this
    clear hH2 hyl hyl2
    go_wp2_with fail
    refine HC2.out.mono ?_
    rintro e w3 ⟨rfl, q, rfl⟩
    go_wp2_with fail
    go_ret
    refine ⟨_, rfl, ?_, Lib.below_putRow HB2.out hg⟩
    rw [HSRT.out]
    have := Lib.ownsRow_putRow (q := q) (k := (Lib.compact ys).length) (ys := Lib.compact ys ++ List.replicate (xs.length - (Lib.compact ys).length) 0) HO2.out (by simp; omega) (by omega)
    rw [List.take_left] at this
    exact this
/-- A search by halves: where it ends. -/
theorem search_any (g : Nat) (cb : Array Value) (n : Nat) (p : Nat → Bool) (w : World) (eg : ∀ args w, (callFunc g args).run Tryd.prog w = .ok (.enter g args) w) (hsz : n < 4611686018427387904)
    (hf : ∀ W, Below w.heap.size w W → ∀ i : Nat, i < n → Calls Tryd.prog g (#[.int .i64 i] ++ cb) W fun e w' => e = .returned (.bool (p i)) ∧ Below W.heap.size W w') :
    Calls Tryd.prog 62 #[.int .i64 n, .func (.func g) #[] cb] w fun e w' => ∃ k : Nat, e = .returned (.int .i64 k) ∧ k ≤ n ∧ (∀ j, j + 1 = k → p j = false) ∧ (k < n → p k = true) ∧ Below w.heap.size w w' := by
  have HF := Lib.hid hf
  clear hf
  go_enter Tryd.func62, Tryd.ntmps62
  go_wp2
  go_loopg [5, 6] n (fun kx s5 s6 wr => ∃ (lo hi : Nat), s5 = .int .i64 lo ∧ s6 = .int .i64 hi ∧ lo ≤ hi ∧ hi ≤ n ∧ hi - lo ≤ kx ∧ Below w.heap.size w wr ∧ Hid ((∀ j, j + 1 = lo → p j = false) ∧ (hi < n → p hi = true)))
  case atStart => exact ⟨0, n, rfl, rfl, Nat.zero_le _, Nat.le_refl _, by omega, Below.refl _ _, Lib.hid ⟨fun j hj => by omega, fun h => by omega⟩⟩
  case round =>
    obtain ⟨lo, hi, rfl, rfl, hlh, hin, hg, hb, I⟩ := hrel
    have HB := Lib.hid hb
    clear hb
    by_cases hlt : lo < hi
    · have hc := HF.out wr HB.out ((lo + hi) / 2) (by omega)
      rw [show (((lo + hi) / 2 : Nat) : Int) = ((lo : Int) + (hi : Int)) / 2 by omega] at hc
      cases hp : p ((lo + hi) / 2) <;> rw [hp] at hc
      · have HP := Lib.hid hp
        clear hp
        go_wp2_with (go_at_fn g; refine hc.mono ?_; rintro e w' ⟨rfl, hb'⟩)
        go_roundg (hi - ((lo + hi) / 2 + 1))
        case measure => omega
        case rel =>
          exact ⟨(lo + hi) / 2 + 1, hi, by rw [show ((lo : Int) + (hi : Int)) / 2 + 1 = (((lo + hi) / 2 + 1 : Nat) : Int) by omega], rfl, by omega, hin, Nat.le_refl _, HB.out.trans (hb'.mono HB.out.size), Lib.hid ⟨fun j hj => by rw [show j = (lo + hi) / 2 by omega]; exact HP.out, I.out.2⟩⟩
      · have HP := Lib.hid hp
        clear hp
        go_wp2_with (go_at_fn g; refine hc.mono ?_; rintro e w' ⟨rfl, hb'⟩)
        go_roundg ((lo + hi) / 2 - lo)
        case measure => omega
        case rel =>
          exact ⟨lo, (lo + hi) / 2, rfl, by rw [show ((lo : Int) + (hi : Int)) / 2 = (((lo + hi) / 2 : Nat) : Int) by omega], by omega, by omega, Nat.le_refl _, HB.out.trans (hb'.mono HB.out.size), Lib.hid ⟨I.out.1, fun _ => HP.out⟩⟩
    · obtain rfl : hi = lo := by omega
      go_wp2
      go_ret
      exact ⟨hi, rfl, hin, I.out.1, I.out.2, HB.out⟩
end Go.Proofs.YtbplkphjjfgkmaaDoor
