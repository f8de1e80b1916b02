/-
  state.Text: the walk.
-/
import Derived.Test.YtbplkphjjfgkmaaDoorStText
import Derived.Deep.Cut
namespace Go.Proofs.YtbplkphjjfgkmaaDoor
open Go.RowKit
set_option linter.unusedVariables false
set_option linter.unusedSimpArgs false

def svCells (s : Sv) : List Value := [.slice s.vala s.vals.length s.valc, .int .i64 s.op, .int .i64 s.dn, .slice s.dida s.did.length s.didc, .slice s.cnta s.cnt.length s.cntc]
/-- A box that holds a state. -/
structure SvAt (w : World) (p : Nat) (s : Sv) : Prop where
  c0 : w.cell? ⟨p, 0, none⟩ = some (.slice s.vala s.vals.length s.valc)
  c1 : w.cell? ⟨p, 1, none⟩ = some (.int .i64 s.op)
  c2 : w.cell? ⟨p, 2, none⟩ = some (.int .i64 s.dn)
  c3 : w.cell? ⟨p, 3, none⟩ = some (.slice s.dida s.did.length s.didc)
  c4 : w.cell? ⟨p, 4, none⟩ = some (.slice s.cnta s.cnt.length s.cntc)
theorem SvAt.mono {w w2 : World} {B p : Nat} {s : Sv} (h : SvAt w p s) (hb : Below B w w2) (hp : p < B) : SvAt w2 p s :=
  ⟨(hb.cell (p := ⟨p, 0, none⟩) hp).trans h.c0, (hb.cell (p := ⟨p, 1, none⟩) hp).trans h.c1, (hb.cell (p := ⟨p, 2, none⟩) hp).trans h.c2, (hb.cell (p := ⟨p, 3, none⟩) hp).trans h.c3, (hb.cell (p := ⟨p, 4, none⟩) hp).trans h.c4⟩
theorem sv_new (w : World) (s : Sv) : SvAt (w.alloc (.cells #[.slice s.vala s.vals.length s.valc, .int .i64 s.op, .int .i64 s.dn, .slice s.dida s.did.length s.didc, .slice s.cnta s.cnt.length s.cntc] 78)) w.heap.size s :=
  ⟨by rw [World.cell?_alloc_at _ _ _ _ rfl]; rfl, by rw [World.cell?_alloc_at _ _ _ _ rfl]; rfl, by rw [World.cell?_alloc_at _ _ _ _ rfl]; rfl, by rw [World.cell?_alloc_at _ _ _ _ rfl]; rfl, by rw [World.cell?_alloc_at _ _ _ _ rfl]; rfl⟩
theorem st_below_alloc {B : Nat} {w w' : World} (h : Below B w w') (hB : B ≤ w'.heap.size) (o : Obj) : Below B w (w'.alloc o) := h.trans ((st_below_new w' o).mono hB)
theorem st_grow {W1 w' : World} {B n : Nat} {e : TypeId} {v : Value} {xs : List Value} {o : Obj} (ho : (W1.alloc o).ownsRow B e 1 v n xs) (k : Keeps (fun j => v.ownBlock = some j) (W1.alloc o) w') (hB : B ≤ W1.heap.size) : Below B W1 w' ∧ B ≤ w'.heap.size := by
  have h1 : Below B W1 (W1.alloc o) := (st_below_new W1 o).mono hB
  have h2 := k.below (fun j hj => (ho.lt j hj).1) (Nat.le_trans hB h1.size)
  exact ⟨h1.trans h2, Nat.le_trans hB (h1.trans h2).size⟩
theorem st_base {W : World} {o : Obj} {B : Nat} (h : B ≤ W.heap.size) : B ≤ (W.alloc o).heap.size := by simp; omega
def Str (w : World) (l : List UInt8) (e : Ending) (w' : World) : Prop := e = .returned (.string ⟨l.toArray⟩) ∧ Below w.heap.size w w'
theorem acc_len (s : Sv) (h1 : s.vals.length ≤ 150) (h2 : s.did.length ≤ 150) (h3 : s.cnt.length ≤ 150) (i : Nat) : (St.acc s.vals s.op s.dn s.did s.cnt i).length ≤ 460 := by
  match i with
  | 0 => simp [St.acc]; omega
  | 1 => simp [St.acc]; omega
  | n + 2 => simp [St.acc, St.nums]; omega
set_option maxHeartbeats 8000000 in
theorem text_any (s : Sv) (w : World) (hs : RdSv w s) (h1 : s.vals.length ≤ 150) (h2 : s.did.length ≤ 150) (h3 : s.cnt.length ≤ 150) (ht : Tab10 w) :
    Calls Tryd.prog 51 #[s.val] w (Str w (St.jn (St.nums s.vals s.op s.dn s.did s.cnt))) := by
  have HS := Lib.hid hs
  have HT := Lib.hid ht
  obtain ⟨N, hN⟩ : ∃ N, N = St.nums s.vals s.op s.dn s.did s.cnt := ⟨_, rfl⟩
  have HNN : Hid (St.acc s.vals s.op s.dn s.did s.cnt 2 = N) := Lib.hid (by rw [hN]; rfl)
  rw [← hN]
  have HFT : Hid (∀ x ∈ N, St.ft x) := Lib.hid (by rw [hN]; exact St.nums_ft hs.valk hs.op hs.dn hs.didk hs.cntk (by omega) (by omega) (by omega))
  clear hN
  have hq0 := Lib.hid (sv_new w s)
  have HB1 := Lib.hid (st_below_new w (.cells #[.slice s.vala s.vals.length s.valc, .int .i64 s.op, .int .i64 s.dn, .slice s.dida s.did.length s.didc, .slice s.cnta s.cnt.length s.cntc] 78))
  have hz1 : (w.alloc (.cells #[.slice s.vala s.vals.length s.valc, .int .i64 s.op, .int .i64 s.dn, .slice s.dida s.did.length s.didc, .slice s.cnta s.cnt.length s.cntc] 78)).heap.size = w.heap.size + 1 := by simp
  clear hs ht
  have c0 := hq0.out.c0
  have c0b := ((st_below_new (w.alloc (.cells #[.slice s.vala s.vals.length s.valc, .int .i64 s.op, .int .i64 s.dn, .slice s.dida s.did.length s.didc, .slice s.cnta s.cnt.length s.cntc] 78)) (.cells #[.int .i64 (s.vals.length : Nat)] 2)).cell (p := ⟨w.heap.size, 0, none⟩) (by simp)).trans c0
  unfold Sv.val
  go_enter Tryd.func51, Tryd.ntmps51
  go_upto_region 1 with fail
  generalize (w.alloc (.cells #[.slice s.vala s.vals.length s.valc, .int .i64 s.op, .int .i64 s.dn, .slice s.dida s.did.length s.didc, .slice s.cnta s.cnt.length s.cntc] 78)) = W1 at *
  have HO1 : Hid ((W1.alloc (.cells #[.int .i64 (s.vals.length : Nat)] 2)).ownsRow (w.heap.size + 1) 2 1 (.slice (some ⟨w.heap.size + 1, 0, none⟩) 1 1) 1 [.int .i64 (s.vals.length : Nat)]) := Lib.hid (st_own_new W1 (w.heap.size + 1) (w.heap.size + 1) [.int .i64 (s.vals.length : Nat)] 2 hz1 (by omega) (by simp [maxLen]))
  have hBW : w.heap.size + 1 ≤ W1.heap.size := by omega
  have hwB : w.heap.size < w.heap.size + 1 := by omega
  have HR0 : Hid (Reads (W1.alloc (.cells #[.int .i64 (s.vals.length : Nat)] 2)) s.vala (s.vals.map (Value.int .i64))) := Lib.hid ((HS.out.vals.mono HB1.out (Nat.le_refl _)).mono (st_below_new W1 _) (Nat.le_refl _))
  have hl0 : (s.vals.map (Value.int .i64)).length = s.vals.length * 1 := by simp
  have hby0 : (1 + s.vals.length) * 8 ≤ 140737488355328 := by omega
  have hby1 : (1 + s.vals.length + 2) * 8 ≤ 140737488355328 := by omega
  have hone1 : ∀ u ∈ [Value.int .i64 s.op, .int .i64 s.dn], u.oneCell' = true := fun u hu => by simp at hu; rcases hu with rfl | rfl <;> rfl
  go_wp2_with (first
    | (at_builtin; refine append_any (v := .slice (some ⟨w.heap.size + 1, 0, none⟩) 1 1) rfl (.tmp 14) (.tmp 16) 22 rfl 2 _ 1 8 Tryd.underlying22 info64 rfl (by decide) rfl HO1.out (st_base hBW) s.vala s.vals.length s.valc (s.vals.map (Value.int .i64)) rfl hl0 HR0.out (ints_one _) (by decide) hby0 ?_; intro v6 w6 own6 keep6 where6; have HB6 := Lib.hid (st_grow HO1.out keep6 hBW); have HO6 := Lib.hid own6; have b1 := (hq0.out.mono HB6.out.1 hwB).c1; have b2 := (hq0.out.mono HB6.out.1 hwB).c2; clear own6 keep6 where6 c0 c0b)
    | (at_builtin; refine append_any (v := v6) rfl (.tmp 18) (.tmp 23) 22 rfl 2 _ 1 8 Tryd.underlying22 info64 rfl (by decide) rfl (HO6.out.alloc _) (st_base HB6.out.2) (some ⟨w6.heap.size, 0, none⟩) 2 2 [.int .i64 s.op, .int .i64 s.dn] rfl rfl (st_reads_new w6 _ _ _ rfl) hone1 (by decide) hby1 ?_; intro v7 w7 own7 keep7 where7; have HB7 := Lib.hid (st_grow (HO6.out.alloc _) keep7 HB6.out.2); have HO7 := Lib.hid own7; have HC7 := Lib.hid (HB6.out.1.trans HB7.out.1); have b3 := (hq0.out.mono HC7.out hwB).c3; have b4 := (hq0.out.mono HC7.out hwB).c4; clear own7 keep7 where7 b1 b2))
  have HX0 : Hid (TxO W1 (w.heap.size + 1) w7.heap.size (.slice s.dida s.did.length s.didc) (.slice s.cnta s.cnt.length s.cntc) v7 (St.acc s.vals s.op s.dn s.did s.cnt 0) (w7.alloc (.cells #[.slice s.dida s.did.length s.didc, .slice s.cnta s.cnt.length s.cntc] 71))) := Lib.hid (by
    have h := HO7.out.alloc (.cells #[.slice s.dida s.did.length s.didc, .slice s.cnta s.cnt.length s.cntc] 71)
    have e1 : (St.acc s.vals s.op s.dn s.did s.cnt 0).length = 1 + s.vals.length + 2 := by simp [St.acc]; omega
    have e2 : (St.acc s.vals s.op s.dn s.did s.cnt 0).map (Value.int .i64) = [Value.int .i64 (s.vals.length : Nat)] ++ s.vals.map (Value.int .i64) ++ [Value.int .i64 s.op, .int .i64 s.dn] := by simp [St.acc]
    refine ⟨by rw [e1, e2]; exact h, HC7.out.trans ((st_below_new w7 _).mono HB7.out.2), by rw [World.cell?_alloc_at _ _ _ _ rfl]; rfl, by rw [World.cell?_alloc_at _ _ _ _ rfl]; rfl, fun e => ?_, by simp, st_base HB7.out.2⟩
    have := (HO7.out.lt _ e).2
    omega)
  clear HB6 HO6 HB7 HO7 HC7 b3 b4 HR0 HO1 hl0 hby0 hby1 hone1
  generalize (w7.alloc (.cells #[.slice s.dida s.did.length s.didc, .slice s.cnta s.cnt.length s.cntc] 71)) = W8 at *
  generalize w7.heap.size = bb at *
  go_loopw [3, 31] (fun v3 v31 wr => ∃ i : Nat, i ≤ 2 ∧ v31 = .int .i64 i ∧ Hid (TxO W1 (w.heap.size + 1) bb (.slice s.dida s.did.length s.didc) (.slice s.cnta s.cnt.length s.cntc) v3 (St.acc s.vals s.op s.dn s.did s.cnt i) wr)) (fun _ v31 _ => 2 - (intOf v31).toNat)
  case atStart => exact ⟨0, by omega, rfl, HX0⟩
  case round =>
    obtain ⟨i, hi, rfl, HX⟩ := hrel
    clear HX0
    by_cases hi2 : i < 2
    · obtain ⟨a, c, xs, hcell, hreads, hlen, hacc⟩ : ∃ (a : Option Addr) (c : Nat) (xs : List Int), wr.cell? ⟨bb, i, none⟩ = some (.slice a xs.length c) ∧ Hid (Reads W1 a (xs.map (Value.int .i64))) ∧ xs.length ≤ 150 ∧ Hid (St.acc s.vals s.op s.dn s.did s.cnt (i + 1) = St.acc s.vals s.op s.dn s.did s.cnt i ++ [((xs.length : Nat) : Int)] ++ xs) := by
        have : i = 0 ∨ i = 1 := by omega
        rcases this with rfl | rfl
        · exact ⟨_, _, _, HX.out.c0, Lib.hid (HS.out.did.mono HB1.out (Nat.le_refl _)), h2, Lib.hid (St.acc1 _ _ _ _ _)⟩
        · exact ⟨_, _, _, HX.out.c1, Lib.hid (HS.out.cnt.mono HB1.out (Nat.le_refl _)), h3, Lib.hid (St.acc2 _ _ _ _ _)⟩
      have hal := acc_len s h1 h2 h3 i
      generalize St.acc s.vals s.op s.dn s.did s.cnt i = q at *
      have hby : (q.length + 1) * 8 ≤ 140737488355328 := by omega
      have hone : ∀ u ∈ [Value.int .i64 ((xs.length : Nat) : Int)], u.oneCell' = true := fun u hu => by simp at hu; subst hu; rfl
      obtain ⟨a3, c3, hv3⟩ := own_len HX.out.own
      subst hv3
      go_wp2_with (at_builtin; refine append_any (v := .slice a3 q.length c3) rfl (.tmp 35) (.tmp 38) 22 rfl 2 _ 1 8 Tryd.underlying22 info64 rfl (by decide) rfl (HX.out.own.alloc _) (st_base HX.out.bb) (some ⟨wr.heap.size, 0, none⟩) 1 1 [.int .i64 ((xs.length : Nat) : Int)] rfl rfl (st_reads_new wr _ _ _ rfl) hone (by decide) hby ?_; intro v6 w6 own6 keep6 where6; have HX6 := Lib.hid ((HX.out.later (st_below_new wr _)).push (p := [((xs.length : Nat) : Int)]) own6 keep6 where6); clear own6 keep6 where6)
      go_loopw [3, 42] (fun v3 v42 wr => ∃ k : Nat, k ≤ xs.length ∧ v42 = .int .i64 k ∧ Hid (TxO W1 (w.heap.size + 1) bb (.slice s.dida s.did.length s.didc) (.slice s.cnta s.cnt.length s.cntc) v3 (q ++ [((xs.length : Nat) : Int)] ++ xs.take k) wr)) (fun _ v42 _ => xs.length - (intOf v42).toNat)
      case atStart => exact ⟨0, by omega, rfl, by rw [List.take_zero, List.append_nil]; exact HX6⟩
      case round =>
        obtain ⟨k, hk, rfl, HXI⟩ := hrel
        by_cases hlt : k < xs.length
        · obtain ⟨b, off, rfl, hc⟩ := hreads.out.at (by simp; omega)
          have hck := Reads.int hc k hlt
          have hcw := (HXI.out.bel.cell (p := ⟨b, off + k, none⟩) (by have := lt_of_cell hck; simp at this ⊢; omega)).trans hck
          have HTK : Hid (xs.take (k + 1) = xs.take k ++ [xs[k]]) := Lib.hid (by rw [List.take_add_one, List.getElem?_eq_getElem hlt]; rfl)
          have htl : (q ++ [((xs.length : Nat) : Int)] ++ xs.take k).length ≤ 700 := by simp; omega
          clear hc hck
          generalize xs[k] = x at *
          generalize hqq : q ++ [((xs.length : Nat) : Int)] ++ xs.take k = qq at *
          have hby2 : (qq.length + 1) * 8 ≤ 140737488355328 := by omega
          have hone2 : ∀ u ∈ [Value.int .i64 x], u.oneCell' = true := fun u hu => by simp at hu; subst hu; rfl
          have HQ := Lib.hid hqq
          clear hqq
          obtain ⟨a4, c4, hv4⟩ := own_len HXI.out.own
          subst hv4
          go_wp2_with (at_builtin; refine append_any (v := .slice a4 qq.length c4) rfl (.tmp 46) (.tmp 48) 22 rfl 2 _ 1 8 Tryd.underlying22 info64 rfl (by decide) rfl (HXI.out.own.alloc _) (st_base HXI.out.bb) (some ⟨wr.heap.size, 0, none⟩) 1 1 [.int .i64 x] rfl rfl (st_reads_new _ _ _ _ rfl) hone2 (by decide) hby2 ?_; intro v8 w8 own8 keep8 where8; have HX8 := Lib.hid ((HXI.out.later (st_below_new _ _)).push (p := [x]) own8 keep8 where8); clear own8 keep8 where8)
          go_roundw
          case rel => exact ⟨k + 1, by omega, by go_num, by rw [HTK.out, ← List.append_assoc, HQ.out]; exact HX8⟩
          case measure => simp [intOf]; omega
        · obtain rfl : k = xs.length := by omega
          go_wp2
          go_roundw
          case rel => exact ⟨i + 1, by omega, by go_num, by rw [hacc.out]; rw [List.take_length] at HXI; exact HXI⟩
          case measure => simp [intOf]; omega
    · obtain rfl : i = 2 := by omega
      have hnl : (St.acc s.vals s.op s.dn s.did s.cnt 2).length ≤ 460 := acc_len s h1 h2 h3 2
      have hnp : 0 < (St.acc s.vals s.op s.dn s.did s.cnt 2).length := by simp [St.acc, St.nums]
      rw [HNN.out] at HX hnl hnp
      obtain ⟨g3, c3, hv3, hg3, -, -, hgl⟩ := own_some HX.out.own hnp
      subst hv3
      have HW : Hid (Below w.heap.size w wr) := Lib.hid (HB1.out.trans (HX.out.bel.mono (by omega)))
      have HCN : Hid (∀ k (h : k < N.length), wr.cell? ⟨g3, k, none⟩ = some (.int .i64 N[k])) := Lib.hid fun k h => by
        rw [HX.out.own.cellAt k (by simpa using h)]
        simp [h]
      have HP : Hid (∀ W n, Below wr.heap.size wr W → St.ft n → Calls Tryd.prog 58 #[.int .i64 n] W fun e w' => e = .returned (.string ⟨(Lib.itoa n).toArray⟩) ∧ Below W.heap.size W w') := Lib.hid fun W n h1 h2 => print_tab n W h2 (HT.out.below (HW.out.trans (h1.mono HW.out.size)))
      have HI0 : Hid (Lib.IsBuilderF 143 5 wr.heap.size wr.heap.size (Lib.byteCells (St.jn (N.take 0))) (wr.alloc (.cells #[.pointer none, .slice none 0 0] 143)) ∧ Below wr.heap.size wr (wr.alloc (.cells #[.pointer none, .slice none 0 0] 143))) := Lib.hid ⟨Lib.IsBuilderF.of (Lib.fresh_isBuilder _ _ wr), st_below_new wr _⟩
      clear HX HS HT h1 h2 h3 hz1 hq0 hBW hwB HB1 HNN hnp
      obtain ⟨B, hB⟩ : ∃ B, B = wr.heap.size := ⟨_, rfl⟩
      go_upto_region 15 with fail
      rw [← hB] at HI0 HP ⊢
      generalize (wr.alloc (.cells #[.pointer none, .slice none 0 0] 143)) = W9 at *
      obtain ⟨W0, rfl⟩ : ∃ W0 : World, W0 = wr := ⟨_, rfl⟩
      have HB9 : Hid (∀ W, Below B W0 W → B ≤ W.heap.size) := Lib.hid fun W h => by have := h.size; omega
      have HBB := Lib.hid hB
      clear hB
      go_loopw [9, 10, 54] (fun v9 v10 v54 wr => ∃ (p9 p10 : Value) (k : Nat), v9 = p9 ∧ v10 = p10 ∧ k ≤ N.length ∧ v54 = .int .i64 k ∧ Hid (Lib.IsBuilderF 143 5 B B (Lib.byteCells (St.jn (N.take k))) wr ∧ Below B W0 wr)) (fun _ _ v54 _ => N.length - (intOf v54).toNat)
      case atStart => exact ⟨_, _, 0, rfl, rfl, by omega, rfl, HI0⟩
      case round =>
        obtain ⟨p9, p10, k, rfl, rfl, hk, rfl, HI⟩ := hrel
        clear HI0
        have hsz := HB9.out _ HI.out.2
        by_cases hlt : k < N.length
        · have hck := HCN.out k hlt
          have hcw := (HI.out.2.cell (p := ⟨g3, k, none⟩) (by rw [HBB.out]; exact hgl)).trans hck
          have HTK : Hid (N.take (k + 1) = N.take k ++ [N[k]]) := Lib.hid (by rw [List.take_add_one, List.getElem?_eq_getElem hlt]; rfl)
          have HFX : Hid (St.ft N[k]) := Lib.hid (HFT.out _ (List.getElem_mem hlt))
          have hjl := St.jn_len (l := N.take k) (fun x hx => HFT.out x (List.mem_of_mem_take hx))
          have htl : (N.take k).length ≤ k := List.length_take_le _ _
          have hxl : (Lib.itoa N[k]).length ≤ 21 := St.itoa_len HFX.out
          have HNE : Hid (0 < k → N.take k ≠ []) := Lib.hid fun h e => by have := congrArg List.length e; rw [List.length_take, List.length_nil] at this; omega
          have HZE : Hid (k = 0 → N.take k = []) := Lib.hid fun h => by rw [h]; rfl
          clear hck
          generalize N[k] = x at *
          generalize hJ : St.jn (N.take k) = J at *
          have HJ := Lib.hid hJ
          clear hJ
          by_cases h0 : 0 < k
          · have HJN : Hid (St.jn (N.take (k + 1)) = J ++ ([32] ++ Lib.itoa x)) := Lib.hid (by rw [HTK.out, St.jn_snoc _ _ (HNE.out h0), HJ.out]; rfl)
            go_wp2_with fail
            refine (Tryd.Builder_WriteByte_k B B _ 32 wr HI.out.1 (by rw [Lib.byteCells_length]; omega) hsz).mono ?_
            rintro e W2 ⟨rfl, h1, b1, -⟩
            have HI2 : Hid (Lib.IsBuilderF 143 5 B B (Lib.byteCells J ++ [.int .u8 32]) W2 ∧ Below B W0 W2) := Lib.hid ⟨Or.inr h1, HI.out.2.trans b1⟩
            clear h1 b1
            go_wp2_with fail
            refine (HP.out W2 x HI2.out.2 HFX.out).mono ?_
            rintro e W3 ⟨rfl, hb3⟩
            have HI3 : Hid (Lib.IsBuilderF 143 5 B B (Lib.byteCells J ++ [.int .u8 32]) W3 ∧ Below B W0 W3) := Lib.hid ⟨isb_below HI2.out.1 hb3, HI2.out.2.trans (hb3.mono (HB9.out _ HI2.out.2))⟩
            clear hb3
            have hsz3 := HB9.out _ HI3.out.2
            have hxs : (⟨(Lib.itoa x).toArray⟩ : ByteArray).size = (Lib.itoa x).length := by simp [ByteArray.size]
            have hl3 : (Lib.byteCells J ++ [Value.int .u8 32]).length + (⟨(Lib.itoa x).toArray⟩ : ByteArray).size ≤ 140737488355328 := by rw [hxs, List.length_append, Lib.byteCells_length]; simp; omega
            have HWS := Lib.hid (Tryd.Builder_WriteString_k B B (Lib.byteCells J ++ [.int .u8 32]) ⟨(Lib.itoa x).toArray⟩ W3 HI3.out.1 hl3 hsz3)
            go_wp2_with fail
            refine HWS.out.mono ?_
            rintro e W4 ⟨rfl, h1, b1, -⟩
            have HI4 : Hid (Lib.IsBuilderF 143 5 B B (Lib.byteCells (St.jn (N.take (k + 1)))) W4 ∧ Below B W0 W4) := Lib.hid ⟨by rw [HJN.out, Lib.byteCells_append, Lib.byteCells_append, ← List.append_assoc]; exact Or.inr h1, HI3.out.2.trans b1⟩
            clear h1 b1
            go_wp2_with fail
            go_roundw
            case rel => exact ⟨_, _, _, _, _, _, _, _, _, _, _, _, _, _, ⟨_, _, k + 1, rfl, rfl, by omega, by go_num, HI4⟩, rfl⟩
            case measure => simp [intOf]; omega
          · have HJ0 : Hid (J = []) := Lib.hid (by rw [← HJ.out, HZE.out (by omega)]; rfl)
            have HJN : Hid (St.jn (N.take (k + 1)) = Lib.itoa x) := Lib.hid (by rw [HTK.out, HZE.out (by omega), List.nil_append, St.jn_one])
            have hxs : (⟨(Lib.itoa x).toArray⟩ : ByteArray).size = (Lib.itoa x).length := by simp [ByteArray.size]
            go_wp2_with fail
            refine (HP.out wr x HI.out.2 HFX.out).mono ?_
            rintro e W3 ⟨rfl, hb3⟩
            have HI3 : Hid (Lib.IsBuilderF 143 5 B B [] W3 ∧ Below B W0 W3) := Lib.hid ⟨by have := isb_below HI.out.1 hb3; rw [HJ0.out] at this; exact this, HI.out.2.trans (hb3.mono hsz)⟩
            clear hb3
            have hsz3 := HB9.out _ HI3.out.2
            have hl3 : ([] : List Value).length + (⟨(Lib.itoa x).toArray⟩ : ByteArray).size ≤ 140737488355328 := by rw [hxs]; simp; omega
            have HWS := Lib.hid (Tryd.Builder_WriteString_k B B [] ⟨(Lib.itoa x).toArray⟩ W3 HI3.out.1 hl3 hsz3)
            go_wp2_with fail
            refine HWS.out.mono ?_
            rintro e W4 ⟨rfl, h1, b1, -⟩
            have HI4 : Hid (Lib.IsBuilderF 143 5 B B (Lib.byteCells (St.jn (N.take (k + 1)))) W4 ∧ Below B W0 W4) := Lib.hid ⟨by rw [HJN.out]; exact Or.inr h1, HI3.out.2.trans b1⟩
            clear h1 b1
            go_wp2_with fail
            go_roundw
            case rel => exact ⟨_, _, _, _, _, _, _, _, _, _, _, _, _, _, ⟨_, _, k + 1, rfl, rfl, by omega, by go_num, HI4⟩, rfl⟩
            case measure => simp [intOf]; omega
        · obtain rfl : k = N.length := by omega
          rw [List.take_length] at HI
          go_wp2_with fail
          refine (Tryd.Builder_String_any_k B B (St.jn N) wr HI.out.1 hsz).mono ?_
          rintro e W4 ⟨rfl, -, b4, -⟩
          have HE : Hid (Below w.heap.size w W4) := Lib.hid (HW.out.trans ((HI.out.2.trans b4).mono (by have := HW.out.size; have := HBB.out; omega)))
          clear b4
          go_wp2_with fail
          go_ret
          exact ⟨rfl, HE.out⟩
end Go.Proofs.YtbplkphjjfgkmaaDoor
