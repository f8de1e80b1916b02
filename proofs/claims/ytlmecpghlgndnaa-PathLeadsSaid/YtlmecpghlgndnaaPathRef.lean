/-
  warderref35.Shortest: by a walk.
-/
import Derived.Test.YtlmecpghlgndnaaPathFar
import Derived.IntWalk
namespace Go.Proofs.Ytlmecpghlgndnaa
open Go.RowKit
set_option linter.unusedVariables false
set_option linter.unusedSimpArgs false

theorem own_dn {w : World} {B n size : Nat} {e : TypeId} {v : Value} {xs : List Value} (h : w.ownsRow B e size v n xs) (m : Nat) : (w.drewN m).ownsRow B e size v n xs :=
  (Keeps.drewN (fun _ => False) w m).own h (fun _ _ hf => hf)
/-- The row of distances, and the way so far. -/
structure Rsh (w : World) (nx : List (List Int)) (g c : Nat) (L : List Int) (v : Value) (W : List Int) (wr : World) : Prop where
  far : wr.ownsRow w.heap.size 3 1 (.slice (some ⟨g, 0, none⟩) nx.length c) nx.length (L.map (Value.int .i64))
  out : wr.ownsRow w.heap.size 3 1 v W.length (W.map (Value.int .i64))
  ne : v.ownBlock ≠ some g
  below : Below w.heap.size w wr
section
variable {w wr w2 : World} {nx : List (List Int)} {g c : Nat} {L W : List Int} {v : Value}
theorem Rsh.drewN (h : Rsh w nx g c L v W wr) (n : Nat) : Rsh w nx g c L v W (wr.drewN n) :=
  ⟨own_dn h.far n, own_dn h.out n, h.ne, below_dn h.below n⟩
theorem Rsh.drew (h : Rsh w nx g c L v W wr) : Rsh w nx g c L v W wr.drew := h.drewN 1
theorem Rsh.push (h : Rsh w nx g c L v W wr) {g5 cap5 : Nat} {y : Int} (own5 : w2.ownsRow w.heap.size 3 1 (.slice (some ⟨g5, 0, none⟩) (W.length + 1) cap5) (W.length + 1) (W.map (Value.int .i64) ++ [.int .i64 y]))
    (k : Keeps (fun j => v.ownBlock = some j) wr w2) (lies : v.ownBlock = some g5 ∨ wr.heap.size ≤ g5) : Rsh w nx g c L (.slice (some ⟨g5, 0, none⟩) (W.length + 1) cap5) (W ++ [y]) w2 := by
  refine ⟨k.own h.far (fun j hj e => ?_), ?_, fun e => ?_, h.below.trans (k.below (fun j e => (h.out.lt j e).1) h.below.size)⟩
  · have h1 : g = j := Option.some.inj hj
    subst h1; exact h.ne e
  · rw [List.length_append, List.map_append]; exact own5
  · have h1 : g5 = g := Option.some.inj e
    rcases lies with h2 | h2
    · exact h.ne (by rw [h2, h1])
    · have := (h.far.lt g rfl).2; omega
end
namespace Pa
theorem edge_before {nx : List (List Int)} {f : Nat → Int} {m p k : Nat} (hk : k < edge nx f m p) (hl : k < (Lb.row nx p).length) : (decide (0 ≤ (Lb.row nx p).getD k 0) && decide ((Lb.row nx p).getD k 0 < (nx.length : Int)) && decide (f ((Lb.row nx p).getD k 0).toNat = (m : Int))) = false := by
  unfold edge at hk
  have := List.not_of_lt_findIdx hk
  rw [getD_get _ k 0 hl] at this
  simpa using this
end Pa
set_option maxRecDepth 100000 in
set_option maxHeartbeats 8000000 in
theorem rshort_any (a a2 a3 : Option Addr) (c c2 c3 : Nat) (nx : List (List Int)) (f : Int) (A Bs : List Bool) (w : World) (hl : RdG w a nx) (hA : Reads w a2 (A.map Value.bool)) (hB : Reads w a3 (Bs.map Value.bool)) (hn : nx.length ≤ 1000) (hr : ∀ i, (Lb.row nx i).length ≤ 1000) :
    Calls Try.prog 23 #[.slice a nx.length c, .int .i64 f, .slice a2 A.length c2, .slice a3 Bs.length c3] w (ShAns (Pa.shortest nx A Bs f) w) := by
  have hu : ∀ b : Bool, ¬ (some undef = some (Value.bool b)) := fun b h => by cases h
  have FA := Lib.hid (far_any a a2 a3 c c2 c3 nx A Bs w hl hA hB hn hr)
  have HL := Lib.hid hl
  clear hl hA hB
  go_enter Try.func23, Try.ntmps23
  go_wp2_with fail
  refine FA.out.mono ?_
  rintro e w1 ⟨g, cg, rfl, own1, b1⟩
  have HF := Lib.hid (And.intro own1 b1)
  clear own1 b1 FA
  cases hok : Pa.okP f nx.length with
  | false =>
    have HA : Hid (Pa.shortest nx A Bs f = none) := Lib.hid (by unfold Pa.shortest; rw [if_neg (by rw [hok]; decide)])
    have hno := Pa.okP_no hok
    clear hok
    rcases hno with hno | hno
    · go_wp2_with fail
      go_ret2
      rw [HA.out]
      exact ⟨rfl, (HF.out).2⟩
    · by_cases h0 : f < 0
      · go_wp2_with fail
        go_ret2
        rw [HA.out]
        exact ⟨rfl, (HF.out).2⟩
      · go_wp2_with fail
        go_ret2
        rw [HA.out]
        exact ⟨rfl, (HF.out).2⟩
  | true =>
    obtain ⟨h0, h1⟩ := Pa.okP_yes hok
    have HA : Hid (Pa.shortest nx A Bs f = if 0 ≤ Pa.F nx A Bs f.toNat then some (Pa.gw nx (Pa.F nx A Bs) (Pa.F nx A Bs f.toNat).toNat f.toNat) else none) := Lib.hid (by unfold Pa.shortest; rw [if_pos hok])
    obtain ⟨p0, rfl⟩ : ∃ p : Nat, f = (p : Int) := ⟨f.toNat, by omega⟩
    rw [Int.toNat_natCast] at HA
    have hpl : p0 < nx.length := by omega
    have c0 := int_cell (HF.out).1 p0 hpl
    rw [Pa.farL_at hpl] at c0
    have c0' : w1.cell? ⟨g, p0, none⟩ = some (.int .i64 (Pa.F nx A Bs p0)) := c0
    clear hok c0
    have HD := Lib.hid (Pa.dst_F nx A Bs)
    by_cases hneg : Pa.F nx A Bs p0 < 0
    · have HA2 : Hid (Pa.shortest nx A Bs p0 = none) := Lib.hid (by rw [HA.out, if_neg (by omega)])
      generalize Pa.F nx A Bs p0 = z at *
      go_wp2_with fail
      go_ret2
      rw [HA2.out]
      exact ⟨rfl, (HF.out).2⟩
    · have HA2 : Hid (Pa.shortest nx A Bs p0 = some (Pa.gw nx (Pa.F nx A Bs) (Pa.F nx A Bs p0).toNat p0)) := Lib.hid (by rw [HA.out, if_pos (by omega)])
      have hFl := Pa.F_lt (A := A) (B := Bs) hpl
      have st : Rsh w nx g cg (Pa.farL nx A Bs nx.length) (.slice none 0 0) [] w1 := ⟨(HF.out).1, World.ownsRow_nil _ _ _ _, fun e => by simp [Value.ownBlock] at e, (HF.out).2⟩
      have ST := Lib.hid st
      have HG := Lib.hid (show 0 ≤ Pa.F nx A Bs p0 by omega)
      obtain ⟨D0, hD0⟩ : ∃ D0 : Nat, Pa.F nx A Bs p0 = (D0 : Int) := ⟨(Pa.F nx A Bs p0).toNat, by omega⟩
      have HD0 := Lib.hid hD0
      rw [hD0] at c0'
      have hDl : D0 < nx.length := by omega
      have hdc1 : decide ((p0 : Int) < 0) = false := decide_eq_false (by omega)
      have hdc2 : decide (nx.length ≤ p0) = false := decide_eq_false (by omega)
      have hdc3 : decide ((D0 : Int) < 0) = false := decide_eq_false (by omega)
      clear st hD0 hneg hFl HA
      go_wp2_with fail
      go_loopg [11, 12] D0 (fun gk v11 v12 wr => ∃ (p m : Nat) (W : List Int), v12 = .int .i64 p ∧ p < nx.length ∧ Pa.F nx A Bs p = (m : Int) ∧ m ≤ gk ∧ m + W.length ≤ D0 ∧ Pa.gw nx (Pa.F nx A Bs) D0 p0 = W ++ Pa.gw nx (Pa.F nx A Bs) m p ∧ Rsh w nx g cg (Pa.farL nx A Bs nx.length) v11 W wr)
      case atStart => exact ⟨p0, D0, [], rfl, hpl, HD0.out, Nat.le_refl _, by simp, rfl, ST.out⟩
      case round =>
        obtain ⟨p, m, W, rfl, hp, hFp, hmg, hmW, hG, hst⟩ := hrel
        obtain ⟨ao, co, hv11⟩ := own_len hst.out
        subst hv11
        have cp := int_cell hst.far p hp
        rw [Pa.farL_at hp] at cp
        have cp' : wr.cell? ⟨g, p, none⟩ = some (.int .i64 (Pa.F nx A Bs p)) := cp
        rw [hFp] at cp'
        clear cp
        cases m with
        | zero =>
          have HS := Lib.hid (And.intro hst hG)
          clear hst hG hFp
          go_wp2_with fail
          go_ret2
          rw [HA2.out, HD0.out, Int.toNat_natCast, (HS.out).2, Pa.gw_zero, List.append_nil]
          exact ⟨_, rfl, (HS.out).1.out, (HS.out).1.below⟩
        | succ m =>
          obtain ⟨he1, he2, he3, he4⟩ := Pa.edge_lt HD.out hFp
          have HGe : Hid (Pa.gw nx (Pa.F nx A Bs) D0 p0 = W ++ ((Pa.edge nx (Pa.F nx A Bs) m p : Nat) : Int) :: Pa.gw nx (Pa.F nx A Bs) m ((Lb.row nx p).getD (Pa.edge nx (Pa.F nx A Bs) m p) 0).toNat) := Lib.hid (by rw [hG, Pa.gw_succ])
          obtain ⟨q, hq⟩ : ∃ q : Nat, (Lb.row nx p).getD (Pa.edge nx (Pa.F nx A Bs) m p) 0 = (q : Int) := ⟨((Lb.row nx p).getD (Pa.edge nx (Pa.F nx A Bs) m p) 0).toNat, by omega⟩
          rw [hq, Int.toNat_natCast] at he4 HGe
          rw [hq] at he2 he3
          have HEB := Lib.hid (fun k hk => Pa.edge_before (nx := nx) (f := Pa.F nx A Bs) (m := m) (p := p) (k := k) hk (by omega))
          have HX := Lib.hid hq
          have HFp := Lib.hid hFp
          have HFq := Lib.hid he4
          obtain ⟨e, he⟩ : ∃ e, Pa.edge nx (Pa.F nx A Bs) m p = e := ⟨_, rfl⟩
          rw [he] at he1 HGe HEB HX
          obtain ⟨b1, o1, e1, ra, rc, cn0, rdn⟩ := HL.out.cell p hp
          subst e1
          have hrl := hr p
          have hws : IntKind.i64.wrap ((m : Int) + 1 - 1) = (m : Int) := by rw [show (m : Int) + 1 - 1 = (m : Int) by omega]; exact IntWalk.i64_in _ (by omega)
          have HR := Lib.hid (And.intro cn0 rdn)
          have HS := Lib.hid hst
          have cn := (hst.below.cell (p := ⟨b1, o1 + p, none⟩) (lt_of_cell cn0)).trans cn0
          clear hst hG hFp cn0 rdn he hq he4
          go_wp2_with fail
          obtain ⟨wo, hwo⟩ : ∃ wo : World, wo = wr := ⟨_, rfl⟩
          go_loopw [13, 14] (fun v13 v14 wr => ∃ (k : Nat) (s : Int), v14 = .int .i64 k ∧ v13 = .int .i64 s ∧ ((s = -1 ∧ k ≤ e) ∨ (s = e ∧ k = e + 1)) ∧ Rsh w nx g cg (Pa.farL nx A Bs nx.length) (.slice ao W.length co) W wr) (fun _ v14 _ => e + 1 - (intOf v14).toNat)
          case atStart => exact ⟨0, -1, rfl, rfl, Or.inl ⟨rfl, by omega⟩, HS.out⟩
          case round =>
            obtain ⟨k, s, rfl, rfl, hks, hst⟩ := hrel
            have cn := (hst.below.cell (p := ⟨b1, o1 + p, none⟩) (lt_of_cell (HR.out).1)).trans (HR.out).1
            rcases hks with ⟨rfl, hke⟩ | ⟨rfl, rfl⟩
            · have hkl : k < (Lb.row nx p).length := by omega
              obtain ⟨b3, o3, e3, cx⟩ := Reads.get ((HR.out).2.mono hst.below (Nat.le_refl _)) k hkl
              subst e3
              have cp := int_cell hst.far p hp
              rw [Pa.farL_at hp] at cp
              have cp' : wr.cell? ⟨g, p, none⟩ = some (.int .i64 (Pa.F nx A Bs p)) := cp
              rw [HFp.out] at cp'
              clear cp
              have HST := Lib.hid hst
              by_cases hk2 : k = e
              · subst hk2
                rw [HX.out] at cx
                have hql : q < nx.length := by omega
                have cq := int_cell hst.far q hql
                rw [Pa.farL_at hql] at cq
                have cq' : wr.cell? ⟨g, q, none⟩ = some (.int .i64 (Pa.F nx A Bs q)) := cq
                rw [HFq.out] at cq'
                clear cq hst
                have hd1 : decide ((0 : Int) ≤ q) = true := decide_eq_true (by omega)
                have hd2 : decide ((q : Int) < (nx.length : Int)) = true := decide_eq_true (by omega)
                have hd3 : ((m : Int) == (m : Int)) = true := by simp
                go_wp2
                go_quiet (fail)
                go_wp2
                go_roundw
                case rel => exact ⟨k + 1, k, by go_num, rfl, Or.inr ⟨rfl, rfl⟩, by repeat (first | exact HST.out | apply Rsh.drewN | apply Rsh.drew)⟩
                case measure => simp [intOf] <;> omega
              · have heb := HEB.out k (by omega)
                obtain ⟨x, hx⟩ : ∃ x, (Lb.row nx p).getD k 0 = x := ⟨_, rfl⟩
                rw [hx] at cx heb
                have HB := Lib.hid heb
                clear hx heb
                by_cases hx0 : 0 ≤ x
                · have hd1 : decide ((0 : Int) ≤ x) = true := decide_eq_true hx0
                  by_cases hx1 : x < (nx.length : Int)
                  · have hd2 : decide (x < (nx.length : Int)) = true := decide_eq_true hx1
                    obtain ⟨q2, rfl⟩ : ∃ q : Nat, x = (q : Int) := ⟨x.toNat, by omega⟩
                    have hql : q2 < nx.length := by omega
                    have cq := int_cell hst.far q2 hql
                    rw [Pa.farL_at hql] at cq
                    have cq' : wr.cell? ⟨g, q2, none⟩ = some (.int .i64 (Pa.F nx A Bs q2)) := cq
                    have hne := HB.out
                    rw [hd1, hd2, Int.toNat_natCast] at hne
                    have hne2 : Pa.F nx A Bs q2 ≠ (m : Int) := by simpa using hne
                    obtain ⟨y, hy⟩ : ∃ y, Pa.F nx A Bs q2 = y := ⟨_, rfl⟩
                    rw [hy] at cq' hne2
                    have hd3 : (y == (m : Int)) = false := by simpa using hne2
                    clear cq hst hy hne hne2
                    go_wp2
                    go_quiet (fail)
                    go_wp2
                    go_roundw
                    case rel => exact ⟨k + 1, -1, by go_num, rfl, Or.inl ⟨rfl, by omega⟩, by repeat (first | exact HST.out | apply Rsh.drewN | apply Rsh.drew)⟩
                    case measure => simp [intOf] <;> omega
                  · have hd2 : decide (x < (nx.length : Int)) = false := decide_eq_false hx1
                    clear hst
                    go_wp2
                    go_quiet (fail)
                    go_wp2
                    go_roundw
                    case rel => exact ⟨k + 1, -1, by go_num, rfl, Or.inl ⟨rfl, by omega⟩, by repeat (first | exact HST.out | apply Rsh.drewN | apply Rsh.drew)⟩
                    case measure => simp [intOf] <;> omega
                · have hd1 : decide ((0 : Int) ≤ x) = false := decide_eq_false hx0
                  clear hst
                  go_wp2
                  go_quiet (fail)
                  go_wp2
                  go_roundw
                  case rel => exact ⟨k + 1, -1, by go_num, rfl, Or.inl ⟨rfl, by omega⟩, by repeat (first | exact HST.out | apply Rsh.drewN | apply Rsh.drew)⟩
                  case measure => simp [intOf] <;> omega
            · by_cases hkl : e + 1 < (Lb.row nx p).length
              · have hb5 := hst.below.size
                have hrow := hst.out
                have HST := Lib.hid hst
                clear hst
                go_wp2_with (at_builtin; refine append_at (v := .slice ao W.length co) rfl _ _ 34 rfl 3 (.int .i64 0) 1 8 Try.underlying34 Try.info3 rfl (by decide) rfl hrow hb5 _ rfl (by simp [Value.oneCell']) rfl rfl (by decide) (by omega) ?_; intro g5 cap5 w5 own5 keep5 where5; have st5 := HST.out.push own5 keep5 where5; have cn5 := (st5.below.cell (p := ⟨b1, o1 + p, none⟩) (lt_of_cell (HR.out).1)).trans (HR.out).1; obtain ⟨b3, o3, e3, cx⟩ := Reads.get ((HR.out).2.mono st5.below (Nat.le_refl _)) e he1; subst e3; rw [HX.out] at cx; have S5 := Lib.hid st5; clear st5 own5 keep5 where5)
                go_roundg m
                case measure => omega
                case rel => exact ⟨q, m, W ++ [(e : Int)], rfl, by omega, HFq.out, Nat.le_refl _, by simp; omega, by rw [HGe.out]; simp, S5.out⟩
              · have hb5 := hst.below.size
                have hrow := hst.out
                have HST := Lib.hid hst
                clear hst
                go_wp2_with (at_builtin; refine append_at (v := .slice ao W.length co) rfl _ _ 34 rfl 3 (.int .i64 0) 1 8 Try.underlying34 Try.info3 rfl (by decide) rfl hrow hb5 _ rfl (by simp [Value.oneCell']) rfl rfl (by decide) (by omega) ?_; intro g5 cap5 w5 own5 keep5 where5; have st5 := HST.out.push own5 keep5 where5; have cn5 := (st5.below.cell (p := ⟨b1, o1 + p, none⟩) (lt_of_cell (HR.out).1)).trans (HR.out).1; obtain ⟨b3, o3, e3, cx⟩ := Reads.get ((HR.out).2.mono st5.below (Nat.le_refl _)) e he1; subst e3; rw [HX.out] at cx; have S5 := Lib.hid st5; clear st5 own5 keep5 where5)
                go_roundg m
                case measure => omega
                case rel => exact ⟨q, m, W ++ [(e : Int)], rfl, by omega, HFq.out, Nat.le_refl _, by simp; omega, by rw [HGe.out]; simp, S5.out⟩
end Go.Proofs.Ytlmecpghlgndnaa
