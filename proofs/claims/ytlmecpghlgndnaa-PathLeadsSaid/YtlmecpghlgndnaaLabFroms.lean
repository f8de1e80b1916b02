/-
  label.in, froms; boxes, graphs that came in.
-/
import Derived.Test.YtlmecpghlgndnaaLabPlain
namespace Go.Proofs.Ytlmecpghlgndnaa
open Go.RowKit
set_option linter.unusedVariables false
set_option linter.unusedSimpArgs false

theorem Try.infoRow : (Try.prog.info? 34).map (fun i => (i.zero, i.size, i.bytes)) = some (some (.slice none 0 0), 1, 24) := by kernel_rfl
theorem Try.infoB : (Try.prog.info? 4).map (fun i => (i.zero, i.size, i.bytes)) = some (some (.bool false), 1, 1) := by kernel_rfl
/-- A list of lists that came in. -/
structure RdG (w : World) (a : Option Addr) (nx : List (List Int)) : Prop where
  out : ∃ vs : List Value, Reads w a vs ∧ vs.length = nx.length ∧ ∀ (i : Nat) (x : Value), vs[i]? = some x → ∃ ra rc, x = .slice ra (Lb.row nx i).length rc ∧ Reads w ra ((Lb.row nx i).map (Value.int .i64))
theorem RdG.mono {w w' : World} {B : Nat} {a : Option Addr} {nx : List (List Int)} (h : RdG w a nx) (hb : Below B w w') (hB : w.heap.size ≤ B) : RdG w' a nx := by
  obtain ⟨vs, h1, h2, h3⟩ := h.out
  exact ⟨vs, h1.mono hb hB, h2, fun i x hx => by obtain ⟨ra, rc, e, h4⟩ := h3 i x hx; exact ⟨ra, rc, e, h4.mono hb hB⟩⟩
theorem RdG.cell {w : World} {a : Option Addr} {nx : List (List Int)} (h : RdG w a nx) (i : Nat) (hi : i < nx.length) :
    ∃ b off, a = some ⟨b, off, none⟩ ∧ ∃ ra rc, w.cell? ⟨b, off + i, none⟩ = some (.slice ra (Lb.row nx i).length rc) ∧ Reads w ra ((Lb.row nx i).map (Value.int .i64)) := by
  obtain ⟨vs, h1, h2, h3⟩ := h.out
  obtain ⟨b, off, rfl, hc⟩ := h1.at (by omega)
  have hv : vs[i]? = some vs[i] := List.getElem?_eq_getElem (by omega)
  obtain ⟨ra, rc, e, h4⟩ := h3 i _ hv
  exact ⟨b, off, rfl, ra, rc, by rw [hc i (by omega), hv, e], h4⟩
theorem RdG.all {w : World} {a : Option Addr} {nx : List (List Int)} (h : RdG w a nx) (i : Nat) (hi : i < nx.length) :
    ∃ b off, a = some ⟨b, off, none⟩ ∧ ∃ ra rc, ∀ w', Below w.heap.size w w' → w'.cell? ⟨b, off + i, none⟩ = some (.slice ra (Lb.row nx i).length rc) ∧ Reads w' ra ((Lb.row nx i).map (Value.int .i64)) := by
  obtain ⟨vs, h1, h2, h3⟩ := h.out
  obtain ⟨b, off, rfl, hc⟩ := h1.at (by omega)
  have hv : vs[i]? = some vs[i] := List.getElem?_eq_getElem (by omega)
  obtain ⟨ra, rc, e, h4⟩ := h3 i _ hv
  refine ⟨b, off, rfl, ra, rc, fun w' hb => ⟨?_, h4.mono hb (Nat.le_refl _)⟩⟩
  obtain ⟨b', off', e1, hc'⟩ := (h1.mono hb (Nat.le_refl _)).at (by omega)
  simp only [Option.some.injEq, Addr.mk.injEq, and_true] at e1
  obtain ⟨rfl, rfl⟩ := e1
  rw [hc' i (by omega), hv, e]
/-- One cell that holds a variable. -/
def Box (w : World) (B b : Nat) (t : TypeId) (v : Value) : Prop := w.ownsRow B t 1 (.slice (some ⟨b, 0, none⟩) 1 1) 1 [v]
theorem box_new (w : World) (B : Nat) (t : TypeId) (v : Value) (hB : B ≤ w.heap.size) : Box (w.alloc (.cells #[v] t)) B w.heap.size t v := by
  refine ⟨rfl, Or.inr ⟨w.heap.size, 1, #[v], rfl, hB, ?_, by simp, by decide, by simp, by simp⟩⟩
  have := heap_alloc_new w (.cells #[v] t)
  simpa using this
theorem Box.cell {w : World} {B b : Nat} {t : TypeId} {v : Value} (h : Box w B b t v) : w.cell? ⟨b, 0, none⟩ = some v := World.ownsRow.cellAt h 0 (by simp)
theorem Box.frozen {w : World} {B b : Nat} {t : TypeId} {v : Value} (h : Box w B b t v) : w.frozen? ⟨b, 0, none⟩ = false := World.ownsRow.frozenAt h 0
theorem Box.lt {w : World} {B b : Nat} {t : TypeId} {v : Value} (h : Box w B b t v) : B ≤ b ∧ b < w.heap.size := World.ownsRow.lt h b rfl
theorem Box.set {w : World} {B b : Nat} {t : TypeId} {v : Value} (h : Box w B b t v) (u : Value) : Box (w.setCell ⟨b, 0, none⟩ u) B b t u := (World.ownsRow.stored h 0 u).1
theorem Box.keeps {S : Nat → Prop} {w w' : World} {B b : Nat} {t : TypeId} {v : Value} (h : Box w B b t v) (k : Keeps S w w') (hS : ¬ S b) : Box w' B b t v :=
  k.own h (fun j hj => by simp [Value.ownBlock] at hj; rw [← hj]; exact hS)
theorem below_new (w : World) (o : Obj) : Below w.heap.size w (w.alloc o) := (Keeps.alloc (fun _ => False) w o).below (fun _ h => h.elim) (Nat.le_refl _)
theorem reads_new (w : World) (xs : List Value) (e : TypeId) : Reads (w.alloc (.cells xs.toArray e)) (some ⟨w.heap.size, 0, none⟩) xs :=
  Or.inr ⟨w.heap.size, 0, rfl, fun j hj => by
    rw [World.cell?_alloc_at _ _ _ _ rfl]
    simp⟩
namespace Lb
theorem occ_take_succ (r : List Int) (j t : Nat) (hj : j < r.length) : occ (r.take (j + 1)) t = occ (r.take j) t + if r.getD j 0 = (t : Int) then 1 else 0 := by
  rw [List.take_succ_eq_append_getElem hj, occ_append, occ_cons, occ_nil, Nat.add_zero]
  rw [List.getD_eq_getElem?_getD, List.getElem?_eq_getElem hj]; rfl
/-- The lists so far: those of the first places, and of so many ways of one more. -/
def frP (nx : List (List Int)) (k j t : Nat) : List Int := fr nx k t ++ List.replicate (occ ((row nx k).take j) t) (k : Int)
theorem frP_zero (nx : List (List Int)) (k t : Nat) : frP nx k 0 t = fr nx k t := by unfold frP; simp [occ]
theorem frP_all (nx : List (List Int)) (k t : Nat) : frP nx k (row nx k).length t = fr nx (k + 1) t := by unfold frP; rw [List.take_length]; rfl
theorem frP_hit (nx : List (List Int)) (k j t : Nat) (hj : j < (row nx k).length) (h : (row nx k).getD j 0 = (t : Int)) : frP nx k (j + 1) t = frP nx k j t ++ [(k : Int)] := by
  unfold frP
  rw [occ_take_succ _ _ _ hj, if_pos h, List.replicate_succ', List.append_assoc]
theorem frP_miss (nx : List (List Int)) (k j t : Nat) (hj : j < (row nx k).length) (h : (row nx k).getD j 0 ≠ (t : Int)) : frP nx k (j + 1) t = frP nx k j t := by
  unfold frP
  rw [occ_take_succ _ _ _ hj, if_neg h, Nat.add_zero]
def rowsF (n : Nat) (f : Nat → List Int) : List (List Value) := (List.range n).map (fun t => (f t).map (Value.int .i64))
theorem rowsF_at (n : Nat) (f : Nat → List Int) (t : Nat) (h : t < n) : (rowsF n f)[t]? = some ((f t).map (Value.int .i64)) := by
  unfold rowsF; rw [List.getElem?_map, List.getElem?_range h]; rfl
theorem rowsF_congr (n : Nat) (f g : Nat → List Int) (h : ∀ t, t < n → f t = g t) : rowsF n f = rowsF n g := by
  unfold rowsF
  apply List.map_congr_left
  intro t ht
  rw [h t (List.mem_range.1 ht)]
theorem rowsF_nil (n : Nat) : rowsF n (fun _ => []) = List.replicate n [] := by
  apply List.ext_getElem?
  intro t
  by_cases h : t < n
  · rw [rowsF_at _ _ _ h, List.getElem?_replicate, if_pos h]; rfl
  · rw [List.getElem?_eq_none (by unfold rowsF; simp; omega), List.getElem?_eq_none (by simp; omega)]
theorem rowsF_set (n : Nat) (f g : Nat → List Int) (t0 : Nat) (x : Int) (h0 : g t0 = f t0 ++ [x]) (h : ∀ t, t < n → t ≠ t0 → g t = f t) : rowsF n g = (rowsF n f).set t0 ((f t0).map (Value.int .i64) ++ [.int .i64 x]) := by
  apply List.ext_getElem?
  intro t
  by_cases ht : t < n
  · rw [rowsF_at _ _ _ ht]
    by_cases e : t = t0
    · subst e
      rw [List.getElem?_set_self (by unfold rowsF; simpa using ht), h0]; simp
    · rw [List.getElem?_set_ne (fun e2 => e e2.symm), rowsF_at _ _ _ ht, h t ht e]
  · rw [List.getElem?_eq_none (by unfold rowsF; simp; omega), List.getElem?_eq_none (by unfold rowsF; simp; omega)]
theorem fr_len (nx : List (List Int)) (m : Nat) (hr : ∀ i, (row nx i).length ≤ m) (t : Nat) : ∀ k, (fr nx k t).length ≤ k * m
  | 0 => by simp [fr]
  | k + 1 => by
    rw [fr, List.length_append, List.length_replicate, Nat.succ_mul]
    have := fr_len nx m hr t k
    have := occ_le (row nx k) t
    have := hr k
    omega
end Lb
set_option maxHeartbeats 400000 in
theorem in_any (a : Option Addr) (c : Nat) (A : List Bool) (i : Int) (w : World) (hl : Reads w a (A.map Value.bool)) (h0 : 0 ≤ i) :
    Calls Try.prog 29 #[.slice a A.length c, .int .i64 i] w fun e w' => e = .returned (.bool (Lb.inB A i.toNat)) ∧ w = w' := by
  by_cases h : i < (A.length : Int)
  · obtain ⟨b, off, rfl, hc⟩ := hl.at (by simp; omega)
    have hx := Reads.bool hc i.toNat (by omega)
    have hd : A[i.toNat]'(by omega) = Lb.inB A i.toNat := by unfold Lb.inB; rw [List.getD_eq_getElem?_getD, List.getElem?_eq_getElem (by omega)]; rfl
    rw [hd] at hx
    clear hd hc hl
    generalize Lb.inB A i.toNat = b at *
    go_enter Try.func29, Try.ntmps29
    go_wp2
    go_ret
    exact ⟨rfl, rfl⟩
  · have hf : Lb.inB A i.toNat = false := by
      cases hb : Lb.inB A i.toNat with
      | false => rfl
      | true => have := Lb.inB_lt hb; omega
    rw [hf]
    clear hf
    go_enter Try.func29, Try.ntmps29
    go_wp2
    go_ret
    exact ⟨rfl, rfl⟩
/-- The rows being gathered. -/
structure Froms (w : World) (n : Nat) (g : Nat) (f : Nat → List Int) (vs : List Value) (wr : World) : Prop where
  grid : Grid wr w.heap.size 34 3 g n vs (Lb.rowsF n f)
  below : Below w.heap.size w wr
theorem Froms.congr {w wr : World} {n g : Nat} {f f' : Nat → List Int} {vs : List Value} (h : Froms w n g f vs wr) (e : ∀ t, t < n → f' t = f t) : Froms w n g f' vs wr :=
  ⟨by rw [Lb.rowsF_congr n f' f e]; exact h.grid, h.below⟩
def FromsAns (nx : List (List Int)) (w : World) (e : Ending) (w' : World) : Prop :=
  ∃ g vs, e = .returned (.slice (some ⟨g, 0, none⟩) nx.length nx.length) ∧ Froms w nx.length g (Lb.fr nx nx.length) vs w'
set_option maxHeartbeats 4000000 in
theorem froms_any (a : Option Addr) (c : Nat) (nx : List (List Int)) (w : World) (hl : RdG w a nx) (hn : nx.length ≤ 1000) (hr : ∀ i, (Lb.row nx i).length ≤ 1000) :
    Calls Try.prog 28 #[.slice a nx.length c] w (FromsAns nx w) := by
  have hu : ∀ b : Bool, ¬ (some undef = some (Value.bool b)) := fun b h => by cases h
  have HL := Lib.hid hl
  clear hl
  go_enter Try.func28, Try.ntmps28
  go_wp2_with (at_make; refine make_one rfl _ _ 22 rfl 34 (.slice none 0 0) 24 Try.underlying22 Try.infoRow rfl _ nx.length rfl rfl rfl (by omega) (by unfold maxLen; omega) ?_; intro w1 own1 keep1)
  have wi0 : Froms w nx.length w.heap.size (fun _ => []) (List.replicate nx.length (.slice none 0 0)) w1 := ⟨by rw [Lb.rowsF_nil]; exact grid_made (by decide) own1, keep1.below (fun _ hf => hf.elim) (Nat.le_refl _)⟩
  have WI0 := Lib.hid wi0
  have hgw : w.heap.size < w1.heap.size := wi0.grid.base.2
  clear wi0 own1 keep1
  go_loopw [4, 5, 7, 13, 20] (fun _ _ _ v13 _ wr => ∃ (k : Nat) (vs : List Value), k ≤ nx.length ∧ v13 = .int .i64 k ∧ Froms w nx.length w.heap.size (Lb.fr nx k) vs wr) (fun _ _ _ v13 _ _ => nx.length - (intOf v13).toNat)
  case atStart => exact ⟨0, _, by omega, rfl, WI0.out⟩
  case round =>
    obtain ⟨k, vs, hk, rfl, hF⟩ := hrel
    by_cases hlt : k < nx.length
    · obtain ⟨b, off, rfl, ra, rc, hall⟩ := (HL.out).all k hlt
      have hck := (hall _ hF.below).1
      have hrl := hr k
      have HA := Lib.hid (fun w2 hb => (hall w2 hb).2)
      have HF := Lib.hid hF
      clear hF hall
      generalize hR : Lb.row nx k = R at *
      have HR := Lib.hid hR
      clear hR
      go_wp2_with fail
      go_loopw [7, 20] (fun _ v20 wr => ∃ (j : Nat) (vs : List Value), j ≤ R.length ∧ v20 = .int .i64 j ∧ Froms w nx.length w.heap.size (Lb.frP nx k j) vs wr) (fun _ v20 _ => R.length - (intOf v20).toNat)
      case atStart => exact ⟨0, vs, by omega, rfl, (HF.out).congr (fun t _ => Lb.frP_zero nx k t)⟩
      case round =>
        obtain ⟨j, vs2, hj, rfl, hF2⟩ := hrel
        by_cases hjl : j < R.length
        · obtain ⟨b2, off2, rfl, hcj⟩ := ((HA.out) _ hF2.below).at (by simp; omega)
          have hx := Reads.int hcj j hjl
          have hgd : R.getD j 0 = R[j] := by rw [List.getD_eq_getElem?_getD, List.getElem?_eq_getElem hjl]; rfl
          have HGD := Lib.hid hgd
          have HF2 := Lib.hid hF2
          clear hcj hgd hF2
          generalize R[j] = y at *
          by_cases hy0 : 0 ≤ y
          · by_cases hy1 : y < (nx.length : Int)
            · obtain ⟨xv, r, hvx, hrx, hcx, hox⟩ := (HF2.out).grid.cell y.toNat (by omega)
              have hrx2 := Lb.rowsF_at nx.length (Lb.frP nx k j) y.toNat (by omega)
              rw [hrx] at hrx2
              have hre : r = (Lb.frP nx k j y.toNat).map (Value.int .i64) := Option.some.inj hrx2
              have hrl2 : r.length ≤ 1000000 + 1000 := by
                rw [hre, List.length_map]
                unfold Lb.frP
                rw [List.length_append, List.length_replicate, HR.out]
                have h1 := Lb.fr_len nx 1000 hr y.toNat k
                have h2 := Lb.occ_le ((Lb.row nx k).take j) y.toNat
                have h3 := List.length_take_le j (Lb.row nx k)
                rw [HR.out] at h2 h3
                have : k * 1000 ≤ 1000000 := by omega
                omega
              obtain ⟨xa, xc, hxe⟩ := own_len hox
              subst hxe
              have hfz := (HF2.out).grid.outer.frozenAt y.toNat
              have hsz := (HF2.out).below.size
              have HX := Lib.hid (And.intro hre (And.intro hvx hrx))
              clear hre hvx hrx hrx2
              go_wp2_with (at_builtin; refine append_at (v := .slice xa r.length xc) rfl _ _ 34 rfl 3 (.int .i64 0) 1 8 Try.underlying34 Try.info3 rfl (by decide) rfl hox hsz _ rfl (by simp [Value.oneCell']) rfl (by simp) (by decide) (by omega) ?_; intro g5 cap5 w5 own5 keep5 where5; have out5 := (HF2.out).grid.stands _ _ _ (HX.out).2.1 (HX.out).2.2 keep5; have hc5 := out5.cellAt y.toNat (by omega); rw [(HX.out).2.1] at hc5; have hf5 := out5.frozenAt y.toNat; have hs5 := (out5.lt w.heap.size rfl).2; have app5 := (HF2.out).grid.append _ _ _ (HX.out).2.1 (HX.out).2.2 (.int .i64 k) keep5 own5 where5; have APP5 := Lib.hid app5; clear app5 out5 own5 keep5 where5)
              go_roundw
              case rel => exact ⟨j + 1, _, by omega, by go_num, ⟨by
                rw [Lb.rowsF_set nx.length (Lb.frP nx k j) (Lb.frP nx k (j + 1)) y.toNat k (Lb.frP_hit nx k j _ (by rw [HR.out]; exact hjl) (by rw [HR.out, HGD.out]; omega)) (fun t _ hne => Lb.frP_miss nx k j t (by rw [HR.out]; exact hjl) (by rw [HR.out, HGD.out]; omega)), ← (HX.out).1]
                exact (APP5.out).1, (HF2.out).below.trans ((APP5.out).2.1.below (fun j hj => ((HF2.out).grid.in_lt j hj).1) hsz)⟩⟩
              case measure => simp [intOf]; omega
            · go_wp2_with fail
              go_roundw
              case rel => exact ⟨j + 1, vs2, by omega, by go_num, (HF2.out).congr (fun t ht => Lb.frP_miss nx k j t (by rw [HR.out]; exact hjl) (by rw [HR.out, HGD.out]; omega))⟩
              case measure => simp [intOf]; omega
          · go_wp2_with fail
            go_roundw
            case rel => exact ⟨j + 1, vs2, by omega, by go_num, (HF2.out).congr (fun t ht => Lb.frP_miss nx k j t (by rw [HR.out]; exact hjl) (by rw [HR.out, HGD.out]; omega))⟩
            case measure => simp [intOf]; omega
        · have hjn : j = R.length := by omega
          subst hjn
          have HF2 := Lib.hid hF2
          clear hF2
          go_wp2_with fail
          go_roundw
          case rel => exact ⟨k + 1, vs2, by omega, by go_num, (HF2.out).congr (fun t _ => by rw [← HR.out, Lb.frP_all])⟩
          case measure => simp [intOf]; omega
    · have hkl : k = nx.length := by omega
      subst hkl
      go_wp2_with fail
      go_ret
      exact ⟨_, _, rfl, hF⟩
end Go.Proofs.Ytlmecpghlgndnaa
