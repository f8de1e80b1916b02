/-
  nest.Below, warderref10.Below: by walks.
-/
import Derived.Test.YtgjbchkplpdeiaaNestReach
import Derived.Deep.LoopGhost
namespace Go.Proofs.Ytgjbchkplpdeiaa
open Go.RowKit
set_option linter.unusedVariables false
set_option linter.unusedSimpArgs false

theorem Try.infoRow : (Try.prog.info? 63).map (fun i => (i.zero, i.size, i.bytes)) = some (some (.slice none 0 0), 1, 24) := by kernel_rfl
set_option maxHeartbeats 2000000 in
theorem rbelow_any (a : Option Addr) (c : Nat) (l : List Int) (i : Int) (w : World) (hl : Reads w a (l.map (Value.int .i64))) (hm : l.length ≤ 1000000) :
    Calls Try.prog 43 #[.slice a l.length c, .int .i64 i] w (ListAns (Ns.belowL l i) w) := by
  have hu : ∀ b : Bool, ¬ (some undef = some (Value.bool b)) := fun b h => by cases h
  have IS := Lib.hid (fun x i w hl => is_any a c l x i w hl hm)
  have HL := Lib.hid hl
  clear hl
  go_enter Try.func43, Try.ntmps43
  go_wp2
  go_loopw [5, 6] (fun v5 v6 wr => ∃ (k : Nat) (O : List Int), k ≤ l.length ∧ v6 = .int .i64 k ∧ O = ((List.range k).map (fun k : Nat => (k : Int))).filter (fun k => decide (k ≠ i) && Ns.is l i k) ∧ O.length ≤ k ∧ wr.ownsRow w.heap.size 3 1 v5 O.length (O.map (Value.int .i64)) ∧ Below w.heap.size w wr) (fun _ v6 _ => l.length - (intOf v6).toNat)
  case atStart => exact ⟨0, [], by omega, rfl, rfl, by simp, (by exact World.ownsRow_nil _ _ _ _), Below.refl _ _⟩
  case round =>
    obtain ⟨k, O, hk, rfl, hO, hOl, hown, hnx⟩ := hrel
    obtain ⟨xa, xc, hx⟩ := own_len hown
    subst hx
    have HO := Lib.hid hO
    clear hO
    by_cases hlt : k < l.length
    · have hlr := (HL.out).mono hnx (Nat.le_refl _)
      have HLR := Lib.hid hlr
      clear hlr
      have hO2 : ((List.range (k + 1)).map (fun k : Nat => (k : Int))).filter (fun k => decide (k ≠ i) && Ns.is l i k) = O ++ if (decide ((k : Int) ≠ i) && Ns.is l i k) = true then [(k : Int)] else [] := by
        rw [List.range_succ, List.map_append, List.filter_append, ← HO.out]
        congr 1
        by_cases h : (decide ((k : Int) ≠ i) && Ns.is l i k) = true
        · rw [if_pos h]; exact List.filter_cons_of_pos h
        · rw [if_neg h]; exact List.filter_cons_of_neg h
      have HO2 := Lib.hid hO2
      clear hO2
      have hsz := hnx.size
      by_cases hki : (k : Int) = i
      · have hb : ((k : Int) != i) = false := by simp [hki]
        have hz : (decide ((k : Int) ≠ i) && Ns.is l i k) = false := by simp [hki]
        have HZ := Lib.hid (And.intro hz hki)
        clear hki hz
        go_wp2_with fail
        go_roundw
        case rel => exact ⟨k + 1, O, by omega, by go_num, by rw [HO2.out, (HZ.out).1]; simp, by omega, hown, hnx⟩
        case measure => simp [intOf]; omega
      · have hb : ((k : Int) != i) = true := by simp [hki]
        have hd : decide ((k : Int) ≠ i) = true := decide_eq_true hki
        have HZ := Lib.hid (And.intro hd hki)
        clear hki hd
        go_wp2_with fail
        refine (IS.out i k _ HLR.out).mono ?_
        rintro e w1 ⟨rfl, rfl⟩
        by_cases his : Ns.is l i k = true
        · have hz : (decide ((k : Int) ≠ i) && Ns.is l i k) = true := by rw [(HZ.out).1, his]; rfl
          have HW := Lib.hid hz
          rw [his]
          clear his hz
          go_wp2_with (at_builtin; refine append_at (v := .slice xa O.length xc) rfl _ _ 63 rfl 3 (.int .i64 0) 1 8 Try.underlying63 Try.info3 rfl (by decide) rfl hown hsz _ rfl (by simp [Value.oneCell']) rfl (by simp) (by decide) (by omega) ?_; intro g cap w5 own5 keep5 where5; have bel5 := hnx.trans (keep5.below (fun j hj => (hown.lt j hj).1) hsz))
          go_roundw
          case rel => exact ⟨k + 1, O ++ [(k : Int)], by omega, by go_num, by rw [HO2.out, if_pos HW.out], by simp; omega, by have := own5; rw [List.length_append, List.map_append]; exact this, bel5⟩
          case measure => simp [intOf]; omega
        · have hf : Ns.is l i k = false := by simpa using his
          have hz : (decide ((k : Int) ≠ i) && Ns.is l i k) = false := by rw [hf]; simp
          have HW := Lib.hid hz
          rw [hf]
          clear his hz hf
          go_wp2_with fail
          go_roundw
          case rel => exact ⟨k + 1, O, by omega, by go_num, by rw [HO2.out, HW.out]; simp, by omega, hown, hnx⟩
          case measure => simp [intOf]; omega
    · have hkl : k = l.length := by omega
      subst hkl
      have hfin : Ns.belowL l i = O := by unfold Ns.belowL; rw [HO.out]
      have HF := Lib.hid hfin
      clear hfin
      go_wp2_with fail
      go_ret
      exact ⟨_, rfl, by rw [HF.out]; exact hown, hnx⟩
/-- The rows of who lies where, being gathered. -/
structure Within (w : World) (l : List Int) (g k : Nat) (vs : List Value) (wr : World) : Prop where
  grid : Grid wr w.heap.size 63 3 g l.length vs (Ns.rowsV l l.length k)
  below : Below w.heap.size w wr
theorem own_base {w : World} {B B' n size : Nat} {e : TypeId} {v : Value} {xs : List Value} (h : w.ownsRow B e size v n xs) (hb : B' ≤ B) : w.ownsRow B' e size v n xs := by
  refine ⟨h.1, ?_⟩
  rcases h.2 with hn | ⟨g, cap, cur, h1, h2, rest⟩
  · exact Or.inl hn
  · exact Or.inr ⟨g, cap, cur, h1, by omega, rest⟩
theorem own_cut {w : World} {B g n cap : Nat} {e : TypeId} {xs : List Value} (h : w.ownsRow B e 1 (.slice (some ⟨g, 0, none⟩) n cap) n xs) (m : Nat) (hm : m ≤ n) : w.ownsRow B e 1 (.slice (some ⟨g, 0, none⟩) m cap) m (xs.take m) := by
  obtain ⟨h1, h2⟩ := h
  refine ⟨by simp; omega, Or.inr ?_⟩
  rcases h2 with ⟨h3, _⟩ | ⟨g', cap', cur, h3, hb, hg, hn, hc, hs, ht⟩
  · simp at h3
  · simp only [Value.slice.injEq, Option.some.injEq, Addr.mk.injEq, and_true, true_and] at h3
    obtain ⟨rfl, rfl⟩ := h3
    refine ⟨g, cap, cur, rfl, hb, hg, by omega, hc, hs, ?_⟩
    rw [← ht, List.take_take]
    congr 1
    omega
/-- What lies in memory while those below are sought: the rows, the marks, the stack. -/
structure Dfs (w : World) (l : List Int) (i : Int) (gW gF : Nat) (vs : List Value) (F : List Bool) (St : List Int) (v9 : Value) (wr : World) : Prop where
  grid : Grid wr w.heap.size 63 3 gW l.length vs (Ns.rowsV l l.length l.length)
  found : wr.ownsRow w.heap.size 4 1 (.slice (some ⟨gF, 0, none⟩) l.length l.length) l.length (F.map Value.bool)
  stack : wr.ownsRow w.heap.size 3 1 v9 St.length (St.map (Value.int .i64))
  apart : ∀ j, v9.ownBlock = some j → ¬ GridIn gW vs j
  below : Below w.heap.size w wr
  marked : ∀ x ∈ St, Ns.isP l.length x = true ∧ F[x.toNat]? = some true
  sound : ∀ k : Nat, F[k]? = some true → Ns.R l i k
  start : F[i.toNat]? = some true
  few : 2 * (l.length - trues F) + St.length ≤ 2 * l.length + 1
section
variable {w wr w5 : World} {l : List Int} {i : Int} {gW gF g5 c5 : Nat} {vs : List Value} {F : List Bool} {St : List Int} {v9 : Value}
theorem Dfs.fne (h : Dfs w l i gW gF vs F St v9 wr) (j : Nat) (hj : GridIn gW vs j) : j ≠ gF := by
  intro e
  subst e
  rcases hj with e | ⟨p, x, hp, hx⟩
  · exact lie_apart h.grid.outer h.found (by decide) j (by rw [e]; rfl) rfl
  · have hl : p < (Ns.rowsV l l.length l.length).length := by rw [h.grid.len, ← h.grid.vlen]; exact (List.getElem?_eq_some_iff.1 hp).1
    exact lie_apart (h.grid.row p x _ hp (List.getElem?_eq_getElem hl)) h.found (by decide) j hx rfl
theorem Dfs.stored (h : Dfs w l i gW gF vs F St v9 wr) (k : Nat) (b : Bool) : (wr.setCell ⟨gF, k, none⟩ (.bool b)).ownsRow w.heap.size 3 1 v9 St.length (St.map (Value.int .i64)) :=
  (Keeps.setCell (S := fun j => j = gF) wr ⟨gF, k, none⟩ (.bool b) rfl).own h.stack (fun j hj e => lie_apart h.stack h.found (by decide) j hj (by rw [e]; rfl))
theorem Dfs.flen (h : Dfs w l i gW gF vs F St v9 wr) : F.length = l.length := by have := h.found.1; simpa using this
theorem Dfs.push (h : Dfs w l i gW gF vs F St v9 wr) (y : Int) (hp : Ns.isP l.length y = true) (hF : F[y.toNat]? = some false) (hR : Ns.R l i y)
    (k5 : Keeps (fun j => v9.ownBlock = some j) (wr.setCell ⟨gF, y.toNat, none⟩ (.bool true)) w5) (own5 : w5.ownsRow w.heap.size 3 1 (.slice (some ⟨g5, 0, none⟩) (St.length + 1) c5) (St.length + 1) (St.map (Value.int .i64) ++ [.int .i64 y])) (where5 : v9.ownBlock = some g5 ∨ (wr.setCell ⟨gF, y.toNat, none⟩ (.bool true)).heap.size ≤ g5) :
    Dfs w l i gW gF vs (F.set y.toNat true) (St ++ [y]) (.slice (some ⟨g5, 0, none⟩) (St.length + 1) c5) w5 := by
  have hy := (Ns.isP_iff _ _).1 hp
  have hkF : Keeps (fun j => j = gF) wr (wr.setCell ⟨gF, y.toNat, none⟩ (.bool true)) := Keeps.setCell _ _ _ rfl
  have g1 := h.grid.keeps hkF (fun j hj e => h.fne j hj e)
  have g2 := g1.keeps k5 (fun j hj e => h.apart j e hj)
  have f1 := (h.found.stored y.toNat (.bool true)).1
  rw [← List.map_set] at f1
  have f2 := k5.own f1 (fun j hj e => lie_apart h.stack h.found (by decide) j e (by simpa [Value.ownBlock] using hj))
  have hfl := h.found.lt gF rfl
  have b1 : Below w.heap.size w (wr.setCell ⟨gF, y.toNat, none⟩ (.bool true)) := h.below.trans (hkF.below (fun j e => by omega) h.below.size)
  have hyl : y.toNat < F.length := by rw [h.flen]; omega
  refine ⟨g2, f2, by rw [List.length_append, List.map_append]; exact own5, fun j hj hg => ?_, b1.trans (k5.below (fun j hj => (h.stack.lt j hj).1) b1.size), fun x hx => ?_, fun k hk => ?_, ?_, ?_⟩
  · simp [Value.ownBlock] at hj
    subst hj
    rcases where5 with h1 | h1
    · exact h.apart _ h1 hg
    · have := (h.grid.in_lt _ hg).2
      simp at h1
      omega
  · rcases List.mem_append.1 hx with h1 | h1
    · refine ⟨(h.marked x h1).1, ?_⟩
      have h2 := (h.marked x h1).2
      rw [List.getElem?_set_ne (fun e => by rw [e, h2] at hF; cases hF)]
      exact h2
    · rw [List.mem_singleton.1 h1]
      exact ⟨hp, by rw [List.getElem?_set_self hyl]⟩
  · by_cases e : k = y.toNat
    · subst e
      rw [show ((y.toNat : Nat) : Int) = y by omega]
      exact hR
    · rw [List.getElem?_set_ne (fun e2 => e e2.symm)] at hk
      exact h.sound k hk
  · by_cases e : i.toNat = y.toNat
    · rw [e, List.getElem?_set_self hyl]
    · rw [List.getElem?_set_ne (fun e2 => e e2.symm)]; exact h.start
  · rw [trues_set _ _ hF]
    have := h.few
    have := trues_lt _ _ hF
    have := h.flen
    simp only [List.length_append, List.length_singleton]
    omega
theorem Dfs.pop {x : Int} {g9 c9 : Nat} (h : Dfs w l i gW gF vs F (St ++ [x]) (.slice (some ⟨g9, 0, none⟩) (St.length + 1) c9) wr) : Dfs w l i gW gF vs F St (.slice (some ⟨g9, 0, none⟩) St.length c9) wr := by
  have st := h.stack
  rw [List.length_append, List.map_append] at st
  have st2 := own_cut st St.length (by simp)
  rw [List.take_left' (by simp)] at st2
  refine ⟨h.grid, h.found, st2, fun j hj hg => h.apart j hj hg, h.below, fun y hy => h.marked y (List.mem_append.2 (Or.inl hy)), h.sound, h.start, ?_⟩
  have := h.few
  simp only [List.length_append, List.length_singleton] at this
  omega
end
/-- All that lie in a marked place are marked, but for those of the stack. -/
def Shut (l : List Int) (F : List Bool) (St : List Int) : Prop := ∀ p : Nat, F[p]? = some true → (p : Int) ∉ St → ∀ x ∈ Ns.kids l l.length p, F[x.toNat]? = some true
/-- The same, but for one place, of which so many are looked at. -/
def ShutBut (l : List Int) (F : List Bool) (St : List Int) (q j : Nat) : Prop := (∀ p : Nat, p ≠ q → F[p]? = some true → (p : Int) ∉ St → ∀ x ∈ Ns.kids l l.length p, F[x.toNat]? = some true) ∧ ∀ x ∈ (Ns.kids l l.length q).take j, F[x.toNat]? = some true
theorem shut_all {l : List Int} {i : Int} {F : List Bool} (h : Shut l F []) (hs : F[i.toNat]? = some true) : ∀ k : Int, Ns.R l i k → F[k.toNat]? = some true := by
  intro k hk
  induction hk with
  | base _ => exact hs
  | step k hp hR ih =>
    have h1 := (Ns.isP_iff _ _).1 hR.place
    have h2 := (Ns.isP_iff _ _).1 hp
    refine h (Ns.nx l k).toNat ih (by simp) k ((Ns.kids_mem _ _ _ _).2 ⟨k.toNat, by omega, by omega, ?_⟩)
    rw [show (((Ns.nx l k).toNat : Nat) : Int) = Ns.nx l k by omega]; rfl
theorem below_is {l : List Int} {i : Int} {F : List Bool} (h : ∀ k : Nat, k < l.length → (F[k]? = some true ↔ Ns.R l i k)) : Ns.belowL l i = ((List.range l.length).map (fun k : Nat => (k : Int))).filter (fun k => decide (k ≠ i) && (F[k.toNat]? == some true)) := by
  unfold Ns.belowL
  apply List.filter_congr
  intro x hx
  obtain ⟨k, hk, rfl⟩ := List.mem_map.1 hx
  have hk := List.mem_range.1 hk
  by_cases e : (k : Int) = i
  · simp [e]
  · have h1 := Ns.is_iff (l := l) (i := i) e
    have h2 := h k hk
    rw [decide_eq_true e, Bool.true_and, Bool.true_and, Bool.eq_iff_iff, h1, ← h2]
    simp
/-- The stack has lost its last place. -/
theorem shut_pop {l : List Int} {F : List Bool} {St : List Int} {x : Int} (h : Shut l F (St ++ [x])) (h0 : 0 ≤ x) : ShutBut l F St x.toNat 0 :=
  ⟨fun p hp hf hn y hy => h p hf (fun hm => by
    rcases List.mem_append.1 hm with h1 | h1
    · exact hn h1
    · have := List.mem_singleton.1 h1; omega) y hy, fun y hy => by simp at hy⟩
theorem shut_done {l : List Int} {F : List Bool} {St : List Int} {q j : Nat} (h : ShutBut l F St q j) (hj : (Ns.kids l l.length q).length ≤ j) : Shut l F St := fun p hf hn y hy => by
  by_cases e : p = q
  · subst e
    have h2 := h.2
    rw [List.take_of_length_le hj] at h2
    exact h2 y hy
  · exact h.1 p e hf hn y hy
theorem shut_old {l : List Int} {F : List Bool} {St : List Int} {q j : Nat} (h : ShutBut l F St q j) (y : Int) (hj : (Ns.kids l l.length q)[j]? = some y) (hy : F[y.toNat]? = some true) : ShutBut l F St q (j + 1) := by
  refine ⟨h.1, fun x hx => ?_⟩
  obtain ⟨hlt, he⟩ := List.getElem?_eq_some_iff.1 hj
  rw [List.take_succ_eq_append_getElem hlt] at hx
  rcases List.mem_append.1 hx with h1 | h1
  · exact h.2 x h1
  · rw [List.mem_singleton.1 h1, he]; exact hy
theorem shut_new {l : List Int} {F : List Bool} {St : List Int} {q j : Nat} (h : ShutBut l F St q j) (y : Int) (hj : (Ns.kids l l.length q)[j]? = some y) (hy : F[y.toNat]? = some false) (h0 : 0 ≤ y) : ShutBut l (F.set y.toNat true) (St ++ [y]) q (j + 1) := by
  have hset : ∀ p : Nat, F[p]? = some true → (F.set y.toNat true)[p]? = some true := fun p hp => by
    rw [List.getElem?_set_ne (fun e => by rw [e, hp] at hy; cases hy)]; exact hp
  have hset2 : (F.set y.toNat true)[y.toNat]? = some true := by rw [List.getElem?_set_self (List.getElem?_eq_some_iff.1 hy).1]
  obtain ⟨hlt, he⟩ := List.getElem?_eq_some_iff.1 hj
  constructor
  · intro p hp hf hn x hx
    have hpy : p ≠ y.toNat := fun e => hn (List.mem_append.2 (Or.inr (List.mem_singleton.2 (by omega))))
    rw [List.getElem?_set_ne (fun e => hpy e.symm)] at hf
    exact hset _ (h.1 p hp hf (fun h1 => hn (List.mem_append.2 (Or.inl h1))) x hx)
  · intro x hx
    rw [List.take_succ_eq_append_getElem hlt] at hx
    rcases List.mem_append.1 hx with h1 | h1
    · exact hset _ (h.2 x h1)
    · rw [List.mem_singleton.1 h1, he]; exact hset2
set_option maxHeartbeats 4000000 in
theorem below_any (a : Option Addr) (c : Nat) (l : List Int) (i : Int) (w : World) (hl : Reads w a (l.map (Value.int .i64))) (hm : l.length ≤ 1000000) :
    Calls Try.prog 42 #[.slice a l.length c, .int .i64 i] w (ListAns (Ns.belowL l i) w) := by
  have hu : ∀ b : Bool, ¬ (some undef = some (Value.bool b)) := fun b h => by cases h
  have PL := Lib.hid (fun a c i w => isPlace_any a l.length c i w hm)
  have HL := Lib.hid hl
  clear hl
  by_cases hp : Ns.isP l.length i = true
  · have hpx := (Ns.isP_iff _ _).1 hp
    obtain ⟨hp0, hp1⟩ := hpx
    have HP := Lib.hid hp
    clear hp
    go_enter Try.func42, Try.ntmps42
    go_wp2_with fail
    refine (PL.out _ _ _ _).mono ?_
    rintro e w1 ⟨rfl, rfl⟩
    rw [HP.out]
    go_wp2_with (at_make; refine make_one rfl _ _ 98 rfl 63 (.slice none 0 0) 24 Try.underlying98 Try.infoRow rfl _ l.length rfl rfl rfl (by omega) (by unfold maxLen; omega) ?_; intro w1 own1 keep1)
    have wi0 : Within w l w.heap.size 0 (List.replicate l.length (.slice none 0 0)) w1 := ⟨by rw [Ns.rowsV_zero]; exact grid_made (by decide) own1, keep1.below (fun _ hf => hf.elim) (Nat.le_refl _)⟩
    have WI0 := Lib.hid wi0
    have hgw : w.heap.size < w1.heap.size := wi0.grid.base.2
    clear wi0 own1 keep1
    go_loopw [6, 7, 25] (fun _ _ v25 wr => ∃ (k : Nat) (vs : List Value), k ≤ l.length ∧ v25 = .int .i64 k ∧ Within w l w.heap.size k vs wr) (fun _ _ v25 _ => l.length - (intOf v25).toNat)
    case atStart => exact ⟨0, _, by omega, rfl, WI0.out⟩
    case round =>
      obtain ⟨k, vs, hk, rfl, hW⟩ := hrel
      by_cases hlt : k < l.length
      · have hlr := (HL.out).mono hW.below (Nat.le_refl _)
        obtain ⟨b, off, rfl, hc⟩ := hlr.at (by simp; omega)
        have hx := Reads.int hc k hlt
        have hgd : l.getD k 0 = l[k] := by rw [List.getD_eq_getElem?_getD, List.getElem?_eq_getElem hlt]; rfl
        have HGD := Lib.hid hgd
        clear hc hlr hgd
        generalize l[k] = y at *
        have HW := Lib.hid hW
        clear hW
        by_cases hpy : Ns.isP l.length y = true
        · obtain ⟨hy0, hy1⟩ := (Ns.isP_iff _ _).1 hpy
          have HPY := Lib.hid hpy
          obtain ⟨x, r, hvx, hrx, hcx, hox⟩ := (HW.out).grid.cell y.toNat (by omega)
          have hrx2 := Ns.rowsV_at l l.length k y.toNat (by omega)
          rw [hrx] at hrx2
          have hr : r = (Ns.kids l k y.toNat).map (Value.int .i64) := Option.some.inj hrx2
          have hrl : r.length ≤ k := by rw [hr, List.length_map]; exact Ns.kids_len _ _ _
          obtain ⟨xa, xc, hxe⟩ := own_len hox
          subst hxe
          have hfz := (HW.out).grid.outer.frozenAt y.toNat
          have hsz := (HW.out).below.size
          have HR := Lib.hid (And.intro hr (And.intro hvx hrx))
          clear hr hvx hrx hrx2 hpy
          go_wp2_with fail
          refine (PL.out _ _ _ _).mono ?_
          rintro e w2 ⟨rfl, rfl⟩
          rw [HPY.out]
          go_wp2_with (at_builtin; refine append_at (v := .slice xa r.length xc) rfl _ _ 63 rfl 3 (.int .i64 0) 1 8 Try.underlying63 Try.info3 rfl (by decide) rfl hox hsz _ rfl (by simp [Value.oneCell']) rfl (by simp) (by decide) (by omega) ?_; intro g5 cap5 w5 own5 keep5 where5; have out5 := (HW.out).grid.stands _ _ _ (HR.out).2.1 (HR.out).2.2 keep5; have hc5 := out5.cellAt y.toNat (by omega); rw [(HR.out).2.1] at hc5; have hf5 := out5.frozenAt y.toNat; have hs5 := (out5.lt w.heap.size rfl).2; have app5 := (HW.out).grid.append _ _ _ (HR.out).2.1 (HR.out).2.2 (.int .i64 k) keep5 own5 where5; have APP5 := Lib.hid app5; clear app5 out5 own5 keep5 where5)
          go_roundw
          case rel => exact ⟨k + 1, _, by omega, by go_num, ⟨by rw [Ns.rowsV_set l l.length k y HGD.out hy0 hy1, ← (HR.out).1]; exact (APP5.out).1, (HW.out).below.trans ((APP5.out).2.1.below (fun j hj => ((HW.out).grid.in_lt j hj).1) hsz)⟩⟩
          case measure => simp [intOf]; omega
        · have hpf : Ns.isP l.length y = false := by simpa using hpy
          have HPF := Lib.hid hpf
          clear hpy hpf
          go_wp2_with fail
          refine (PL.out _ _ _ _).mono ?_
          rintro e w2 ⟨rfl, rfl⟩
          rw [HPF.out]
          go_wp2_with fail
          go_roundw
          case rel => exact ⟨k + 1, vs, by omega, by go_num, ⟨by rw [Ns.rowsV_same l l.length k (by rw [HGD.out]; exact HPF.out)]; exact (HW.out).grid, (HW.out).below⟩⟩
          case measure => simp [intOf]; omega
      · have hkl : k = l.length := by omega
        subst hkl
        have HW := Lib.hid hW
        have hsz := hW.below.size
        have hgW := hW.grid.base.2
        clear hW
        go_wp2_with (at_make; refine make_one rfl _ _ 96 rfl 4 (.bool false) 1 Try.underlying96 Try.infoB rfl _ l.length rfl rfl rfl (by omega) (by unfold maxLen; omega) ?_; intro w2 own2 keep2; rw [show List.replicate l.length (Value.bool false) = (List.replicate l.length false).map Value.bool by rw [List.map_replicate]] at own2; have hcF := own2.cellAt i.toNat (by omega); have hfF := own2.frozenAt i.toNat; have hgF := (own2.lt wr.heap.size rfl).2; have OWN2 := Lib.hid own2; have KEEP2 := Lib.hid keep2; clear own2 keep2)
        have hd0 : Dfs w l i w.heap.size wr.heap.size vs ((List.replicate l.length false).set i.toNat true) [i] (.slice (some ⟨w2.heap.size, 0, none⟩) 1 1) ((w2.setCell ⟨wr.heap.size, i.toNat, none⟩ (.bool true)).alloc (.cells #[.int .i64 i] 3)) := by
          have st := ((OWN2.out).stored i.toNat (.bool true)).1
          rw [← List.map_set] at st
          have hkF : Keeps (fun j => j = wr.heap.size) w2 (w2.setCell ⟨wr.heap.size, i.toNat, none⟩ (.bool true)) := Keeps.setCell _ _ _ rfl
          have hkA : Keeps (fun _ => False) (w2.setCell ⟨wr.heap.size, i.toNat, none⟩ (.bool true)) ((w2.setCell ⟨wr.heap.size, i.toNat, none⟩ (.bool true)).alloc (.cells #[.int .i64 i] 3)) := Keeps.alloc _ _ _
          have g2 := (HW.out).grid.keeps KEEP2.out (fun _ _ hf => hf)
          have gl : ∀ j, GridIn w.heap.size vs j → j < wr.heap.size := fun j hj => ((HW.out).grid.in_lt j hj).2
          have g3 := (g2.keeps hkF (fun j hj e => by have := gl j hj; omega)).keeps hkA (fun _ _ hf => hf)
          have hs2 := (KEEP2.out).size
          refine ⟨g3, hkA.own (own_base st (by omega)) (fun _ _ hf => hf), ?_, fun j hj hg => ?_, ?_, ?_, ?_, ?_, ?_⟩
          · refine ⟨by simp, Or.inr ⟨w2.heap.size, 1, #[.int .i64 i], rfl, by omega, ?_, by simp, by decide, by simp, by simp⟩⟩
            have := heap_alloc_new (w2.setCell ⟨wr.heap.size, i.toNat, none⟩ (.bool true)) (.cells #[.int .i64 i] 3)
            simpa using this
          · simp [Value.ownBlock] at hj
            subst hj
            have := gl _ hg
            omega
          · exact (HW.out).below.trans (((KEEP2.out).below (fun _ hf => hf.elim) hsz).trans ((hkF.below (fun j hj => by omega) (by omega)).trans (hkA.below (fun _ hf => hf.elim) (by simp; omega))))
          · intro x hx
            have := List.mem_singleton.1 hx
            subst this
            exact ⟨HP.out, by rw [List.getElem?_set_self (by simp; omega)]⟩
          · intro k hk
            by_cases e : k = i.toNat
            · subst e
              rw [show ((i.toNat : Nat) : Int) = i by omega]
              exact Ns.R.base HP.out
            · rw [List.getElem?_set_ne (fun e2 => e e2.symm), List.getElem?_replicate] at hk
              split at hk <;> simp at hk
          · rw [List.getElem?_set_self (by simp; omega)]
          · rw [trues_set _ _ (by rw [List.getElem?_replicate, if_pos (by omega)]), trues_rep]
            simp
            omega
        have hsh0 : Shut l ((List.replicate l.length false).set i.toNat true) [i] := fun p hp hn => by
          by_cases e : p = i.toNat
          · exact absurd (List.mem_singleton.2 (by omega)) hn
          · rw [List.getElem?_set_ne (fun e2 => e e2.symm), List.getElem?_replicate] at hp
            split at hp <;> simp at hp
        have HD0 := Lib.hid (And.intro hd0 hsh0)
        clear hd0 hsh0 hcF hfF hgF
        generalize ((w2.setCell ⟨wr.heap.size, i.toNat, none⟩ (.bool true)).alloc (.cells #[.int .i64 i] 3)) = w3 at *
        generalize wr.heap.size = gF at *
        generalize w2.heap.size = gR at *
        go_loopg [9, 10, 12, 71] (2 * l.length - 1) (fun gk v9 _ _ _ wr => ∃ (F : List Bool) (St : List Int), Dfs w l i w.heap.size gF vs F St v9 wr ∧ Shut l F St ∧ 2 * (l.length - trues F) + St.length = gk)
        case atStart => exact ⟨_, [i], (HD0.out).1, (HD0.out).2, by
          rw [trues_set _ _ (by rw [List.getElem?_replicate, if_pos (by omega)]), trues_rep]
          simp
          omega⟩
        case round =>
          obtain ⟨F, St, hd, hsh, hgk⟩ := hrel
          rcases List.eq_nil_or_concat St with rfl | ⟨S2, x, rfl⟩
          · obtain ⟨xa, xc, hx⟩ := own_len hd.stack
            simp only [List.length_nil] at hx
            subst hx
            have hall : ∀ k : Nat, k < l.length → (F[k]? = some true ↔ Ns.R l i k) := fun k _ => ⟨hd.sound k, fun h => by have := shut_all hsh hd.start k h; simpa using this⟩
            have hbl := below_is hall
            have hfl := hd.flen
            have HD := Lib.hid (And.intro hd hbl)
            have hsz4 := hd.below.size
            clear hd hsh hall hbl
            go_wp2_with fail
            go_loopw [13, 14, 15, 90] (fun v13 _ _ v90 wn => ∃ (k : Nat) (O : List Int), k ≤ l.length ∧ v90 = .int .i64 k ∧ O = ((List.range k).map (fun k : Nat => (k : Int))).filter (fun k => decide (k ≠ i) && (F[k.toNat]? == some true)) ∧ O.length ≤ k ∧ wn.ownsRow w.heap.size 3 1 v13 O.length (O.map (Value.int .i64)) ∧ wn.ownsRow w.heap.size 4 1 (.slice (some ⟨gF, 0, none⟩) l.length l.length) l.length (F.map Value.bool) ∧ Below w.heap.size w wn) (fun _ _ _ v90 _ => l.length - (intOf v90).toNat)
            case atStart => exact ⟨0, [], by omega, rfl, rfl, by simp, (by exact World.ownsRow_nil _ _ _ _), (HD.out).1.found, (HD.out).1.below⟩
            case round =>
              obtain ⟨k, O, hk, rfl, hO, hOl, hown, hfd, hnx⟩ := hrel
              obtain ⟨ya, yc, hy⟩ := own_len hown
              subst hy
              have HO := Lib.hid hO
              clear hO
              by_cases hkl : k < l.length
              · obtain ⟨bb, hbb⟩ : ∃ bb, F[k]? = some bb := ⟨_, List.getElem?_eq_getElem (by omega)⟩
                have hcb := hfd.cellAt k (by omega)
                rw [List.getElem?_map, hbb] at hcb
                simp only [Option.map_some] at hcb
                have hO2 : ((List.range (k + 1)).map (fun k : Nat => (k : Int))).filter (fun k => decide (k ≠ i) && (F[k.toNat]? == some true)) = O ++ if (decide ((k : Int) ≠ i) && bb) = true then [(k : Int)] else [] := by
                  rw [List.range_succ, List.map_append, List.filter_append, ← HO.out]
                  congr 1
                  have e1 : (decide ((k : Int) ≠ i) && (F[((k : Int)).toNat]? == some true)) = (decide ((k : Int) ≠ i) && bb) := by
                    rw [show ((k : Int)).toNat = k by omega, hbb]
                    cases bb <;> rfl
                  by_cases h : (decide ((k : Int) ≠ i) && bb) = true
                  · rw [if_pos h]; exact List.filter_cons_of_pos (by rw [e1]; exact h)
                  · rw [if_neg h]; exact List.filter_cons_of_neg (by rw [e1]; exact h)
                have HO2 := Lib.hid hO2
                have hszn := hnx.size
                clear hO2 hbb
                cases bb with
                | false =>
                  go_wp2_with fail
                  go_roundw
                  case rel => exact ⟨k + 1, O, by omega, by go_num, by rw [HO2.out]; simp, by omega, hown, hfd, hnx⟩
                  case measure => simp [intOf]; omega
                | true =>
                  by_cases hki : (k : Int) = i
                  · have hb : ((k : Int) != i) = false := by simp [hki]
                    have HK := Lib.hid hki
                    clear hki
                    go_wp2_with fail
                    go_roundw
                    case rel => exact ⟨k + 1, O, by omega, by go_num, by rw [HO2.out, if_neg (by rw [HK.out]; simp), List.append_nil], by omega, hown, hfd, hnx⟩
                    case measure => simp [intOf]; omega
                  · have hb : ((k : Int) != i) = true := by simp [hki]
                    have HK := Lib.hid hki
                    clear hki
                    go_wp2_with (at_builtin; refine append_at (v := .slice ya O.length yc) rfl _ _ 63 rfl 3 (.int .i64 0) 1 8 Try.underlying63 Try.info3 rfl (by decide) rfl hown hszn _ rfl (by simp [Value.oneCell']) rfl (by simp) (by decide) (by omega) ?_; intro g cap w5 own5 keep5 where5; have bel5 := hnx.trans (keep5.below (fun j hj => (hown.lt j hj).1) hszn); have fd5 := keep5.own hfd (fun j hj e => lie_apart hown hfd (by decide) j e hj))
                    go_roundw
                    case rel => exact ⟨k + 1, O ++ [(k : Int)], by omega, by go_num, by rw [HO2.out, if_pos (by simp [HK.out])], by simp; omega, by have := own5; rw [List.length_append, List.map_append]; exact this, fd5, bel5⟩
                    case measure => simp [intOf]; omega
              · have hkn : k = l.length := by omega
                subst hkn
                have hfin : Ns.belowL l i = O := by rw [(HD.out).2, HO.out]
                have HF := Lib.hid hfin
                clear hfin
                go_wp2_with fail
                go_ret
                exact ⟨_, rfl, by rw [HF.out]; exact hown, hnx⟩
          · rw [List.concat_eq_append] at hd hsh hgk
            have hst := hd.stack
            simp only [List.length_append, List.length_singleton, List.map_append] at hst
            obtain ⟨g9, c9, hv, hg9, hc9, hcm9, hgs9⟩ := own_some hst (by simp)
            subst hv
            have hSl : S2.length ≤ 2 * l.length := by have := hd.few; simp only [List.length_append, List.length_singleton] at this; omega
            have hcx := hst.cellAt S2.length (by simp)
            rw [List.getElem?_append_right (by simp)] at hcx
            simp at hcx
            obtain ⟨hpx, hFx⟩ := hd.marked x (by simp)
            obtain ⟨hx0, hx1⟩ := (Ns.isP_iff _ _).1 hpx
            obtain ⟨xv, r, hvx, hrx, hcr, hor⟩ := hd.grid.cell x.toNat (by omega)
            have hrx2 := Ns.rowsV_at l l.length l.length x.toNat (by omega)
            rw [hrx] at hrx2
            have hr : r = (Ns.kids l l.length x.toNat).map (Value.int .i64) := Option.some.inj hrx2
            have hrl : r.length ≤ l.length := by rw [hr, List.length_map]; exact Ns.kids_len _ _ _
            obtain ⟨ra, rc, hre⟩ := own_len hor
            subst hre
            have HD := Lib.hid (And.intro hd hsh)
            have HX := Lib.hid (And.intro hpx (And.intro hFx (And.intro hvx (And.intro hrx hr))))
            clear hd hsh hst hpx hFx hvx hrx hrx2 hr hor
            go_wp2_with fail
            go_loopw [9, 12, 71] (fun v9 _ v71 wn => ∃ (j : Nat) (F2 : List Bool) (S3 : List Int), j ≤ r.length ∧ v71 = .int .i64 j ∧ Dfs w l i w.heap.size gF vs F2 S3 v9 wn ∧ ShutBut l F2 S3 x.toNat j ∧ 2 * (l.length - trues F2) + S3.length < gk ∧ F2[x.toNat]? = some true) (fun _ _ v71 _ => r.length - (intOf v71).toNat)
            case atStart => exact ⟨0, F, S2, by omega, rfl, ((HD.out).1).pop, shut_pop (HD.out).2 hx0, by simp at hgk; omega, (HX.out).2.1⟩
            case round =>
              obtain ⟨j, F2, S3, hj, rfl, hd2, hsb, hlt2, hFx2⟩ := hrel
              obtain ⟨xa, xc, hxe⟩ := own_len hd2.stack
              subst hxe
              by_cases hjl : j < r.length
              · have hor2 := hd2.grid.row x.toNat _ r (HX.out).2.2.1 (HX.out).2.2.2.1
                obtain ⟨g7, c7, hv7, _, hc7, hcm7, hgs7⟩ := own_some hor2 (by omega)
                simp only [Value.slice.injEq] at hv7
                obtain ⟨rfl, _, rfl⟩ := hv7
                have hcy := hor2.cellAt j (by omega)
                have hr := (HX.out).2.2.2.2
                have hkl : j < (Ns.kids l l.length x.toNat).length := by rw [hr, List.length_map] at hjl; exact hjl
                rw [hr, List.getElem?_map, List.getElem?_eq_getElem hkl] at hcy
                have hky : (Ns.kids l l.length x.toNat)[j]? = some (Ns.kids l l.length x.toNat)[j] := List.getElem?_eq_getElem hkl
                have hmem : (Ns.kids l l.length x.toNat)[j] ∈ Ns.kids l l.length x.toNat := List.getElem_mem hkl
                generalize (Ns.kids l l.length x.toNat)[j] = y at *
                obtain ⟨yy, hyy, hyl, hyx⟩ := (Ns.kids_mem _ _ _ _).1 hmem
                have hpy : Ns.isP l.length y = true := (Ns.isP_iff _ _).2 ⟨by omega, by omega⟩
                have hRy : Ns.R l i y := by
                  refine Ns.R.step y hpy ?_
                  have h1 := hd2.sound _ hFx2
                  have h2 : Ns.nx l y = x := by unfold Ns.nx; rw [hyy]; simpa [show ((x.toNat : Nat) : Int) = x by omega] using hyx
                  rw [h2]
                  rwa [show ((x.toNat : Nat) : Int) = x by omega] at h1
                have hfl := hd2.flen
                obtain ⟨bb, hbb⟩ : ∃ bb, F2[y.toNat]? = some bb := ⟨_, List.getElem?_eq_getElem (by omega)⟩
                have hcb := hd2.found.cellAt y.toNat (by omega)
                rw [List.getElem?_map, hbb] at hcb
                have hfz := hd2.found.frozenAt y.toNat
                have hgF := (hd2.found.lt gF rfl).2
                have hsz2 := hd2.below.size
                have hst2 := hd2.stored y.toNat true
                have hS3 : S3.length ≤ 2 * l.length + 1 := by have := hd2.few; omega
                have hy0 : 0 ≤ y := by omega
                have hy1 : y < (l.length : Int) := by omega
                simp only [Option.map_some] at hcy hcb
                have HD2 := Lib.hid (And.intro hd2 hsb)
                have HY := Lib.hid (And.intro hky (And.intro hpy (And.intro hRy hbb)))
                have HFX := Lib.hid hFx2
                clear hd2 hsb hor2 hr hky hmem hyx hyy hyl hpy hRy hbb hFx2 hfl
                cases bb with
                | true =>
                  go_wp2_with fail
                  go_roundw
                  case rel => exact ⟨j + 1, F2, S3, by omega, by go_num, (HD2.out).1, shut_old (HD2.out).2 y (HY.out).1 (HY.out).2.2.2, hlt2, HFX.out⟩
                  case measure => simp [intOf]; omega
                | false =>
                  go_wp2_with (at_builtin; refine append_at (v := .slice xa S3.length xc) rfl _ _ 63 rfl 3 (.int .i64 0) 1 8 Try.underlying63 Try.info3 rfl (by decide) rfl hst2 (by simpa using hsz2) _ rfl (by simp [Value.oneCell']) rfl (by simp) (by decide) (by omega) ?_; intro g5 cap5 w5 own5 keep5 where5; have PUSH := Lib.hid ((HD2.out).1.push y (HY.out).2.1 (HY.out).2.2.2 (HY.out).2.2.1 keep5 own5 where5); clear own5 keep5 where5)
                  go_roundw
                  case rel => exact ⟨j + 1, F2.set y.toNat true, S3 ++ [y], by omega, by go_num, PUSH.out, shut_new (HD2.out).2 y (HY.out).1 (HY.out).2.2.2 hy0, by
                    have h1 := trues_set _ _ (HY.out).2.2.2
                    have h2 := trues_lt _ _ (HY.out).2.2.2
                    have h3 := (HD2.out).1.flen
                    rw [h1]; simp; omega, by
                    rw [List.getElem?_set_ne (fun e => by have := (HY.out).2.2.2; rw [e, HFX.out] at this; cases this)]; exact HFX.out⟩
                  case measure => simp [intOf]; omega
              · have hkl : (Ns.kids l l.length x.toNat).length ≤ j := by have := (HX.out).2.2.2.2; rw [this, List.length_map] at hjl; omega
                have HD2 := Lib.hid (And.intro hd2 (shut_done hsb hkl))
                clear hd2 hsb
                go_wp2_with fail
                go_roundg (2 * (l.length - trues F2) + S3.length)
                case measure => exact hlt2
                case rel => exact ⟨F2, S3, (HD2.out).1, (HD2.out).2, rfl⟩
  · have hpf : Ns.isP l.length i = false := by simpa using hp
    have hz : Ns.belowL l i = [] := by
      unfold Ns.belowL
      rw [List.filter_eq_nil_iff]
      intro k hk
      simp only [Bool.and_eq_true, decide_eq_true_eq, not_and]
      intro hne his
      have hR := Ns.is_R his
      have : ∀ x, Ns.R l i x → Ns.isP l.length i = true := fun x hx => by
        induction hx with
        | base h => exact h
        | step _ _ _ ih => exact ih
      exact hp (this _ hR)
    have HZ := Lib.hid hz
    have HPF := Lib.hid hpf
    clear hz hp hpf
    go_enter Try.func42, Try.ntmps42
    go_wp2_with fail
    refine (PL.out _ _ _ _).mono ?_
    rintro e w1 ⟨rfl, rfl⟩
    rw [HPF.out]
    go_wp2_with fail
    go_ret
    exact ⟨_, rfl, by rw [HZ.out]; exact World.ownsRow_nil _ _ _ _, Below.refl _ _⟩
end Go.Proofs.Ytgjbchkplpdeiaa
