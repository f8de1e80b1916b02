/-
  path.Shortest: by a walk.
-/
import Derived.Test.YtlmecpghlgndnaaPathBack
namespace Go.Proofs.Ytlmecpghlgndnaa
open Go.RowKit
set_option linter.unusedVariables false
set_option linter.unusedSimpArgs false

/-- 'make([]T, n)', elements of as many cells as may be. -/
theorem make_k {P : Program} {w : World} {ops : Array Oper} {rest : List Oper} {o : Oper} {a : Act} {Q : Exit → Act → World → Prop}
    (hg : o.guard = none) (l c : Operand) (t : TypeId) (hop : o.op = Op.makeSlice t l c)
    (e : TypeId) (z : Value) (size bytes : Nat) (ht : P.underlying t = some (.slice e)) (hi : (P.info? e).map (fun i => (i.zero, i.size, i.bytes)) = some (some z, size, bytes))
    (L : Int) (n : Nat) (hl : a.eval l = .int .i64 L) (hc : a.eval c = .int .i64 L) (hL : L = (n : Int)) (hb : bytes * n ≤ 281474976710656) (hm : n ≤ maxLen)
    (hK : ∀ w', w'.ownsRow w.heap.size e size (.slice (some ⟨w.heap.size, 0, none⟩) n n) n (madeCells z.cells (n * size)).toList → Keeps (fun _ => False) w w' → wpList P ops Q rest (a.put o.dst (.slice (some ⟨w.heap.size, 0, none⟩) n n)) w') :
    wpList P ops Q (o :: rest) a w := by
  obtain ⟨i, hi0, hz0, hz1, hz2⟩ := info_got hi
  refine wpList_make_full w hg l c t hop w.heap.size e i z size ht hi0 hz0 hz1 .i64 .i64 L L n hl hc hL hL (by rw [hz2]; exact hb) hm (Nat.le_refl _) ?_
  intro w' h1 h2
  exact hK w' h1 (Keeps.grown h2 (fun k hk => by cases hk))
theorem infoCame : (Try.prog.info? 52).map (fun i => (i.zero, i.size, i.bytes)) = some (some (.agg #[.bool false, .int .i64 0, .int .i64 0]), 3, 24) := by kernel_rfl
theorem sizeCame : (Try.prog.info? 52).map (·.size) = some 3 := by kernel_rfl
theorem made_flat (n : Nat) : (madeCells #[.bool false, .int .i64 0, .int .i64 0] (n * 3)).toList = Rec.flat Pa.enc (List.replicate n (false, 0, 0)) := by
  apply List.ext_getElem?
  intro i
  by_cases hi : i < n * 3
  · have h1 : i / 3 < n := by omega
    have h2 : i = i / 3 * 3 + i % 3 := by omega
    conv => rhs; rw [h2, Rec.flat_at Pa.enc_len _ _ _ (by simpa using h1) (by omega)]
    simp only [madeCells, Array.toList_map, Array.toList_range, List.getElem?_map, List.getElem?_range hi, Option.map_some, List.getElem_replicate, Pa.enc]
    have h3 : i % 3 < 3 := by omega
    generalize i % 3 = r at h3
    rcases r with _ | _ | _ | r
    · rfl
    · rfl
    · rfl
    · omega
  · rw [List.getElem?_eq_none (by simp [madeCells]; omega), List.getElem?_eq_none (by rw [Rec.flat_len Pa.enc_len]; simp; omega)]
namespace Pa
def shortest (nx : List (List Int)) (A B : List Bool) (f : Int) : Option (List Int) :=
  if okP f nx.length = true then (if 0 ≤ F nx A B f.toNat then some (gw nx (F nx A B) (F nx A B f.toNat).toNat f.toNat) else none) else none
end Pa
def ShAns (o : Option (List Int)) (w : World) (e : Ending) (w' : World) : Prop := match o with
  | some R => ∃ x, e = .returned (.tuple #[x, .bool true]) ∧ w'.ownsRow w.heap.size 3 1 x R.length (R.map (Value.int .i64)) ∧ Below w.heap.size w w'
  | none => e = .returned (.tuple #[.slice none 0 0, .bool false]) ∧ Below w.heap.size w w'
/-- While it is sought by rows: how places were found, this row, what comes behind it. -/
structure Psr (w : World) (N : Nat) (H : Pa.Hw) (v12 : Value) (R : List Int) (v13 : Value) (Bh : List Int) (wr : World) : Prop where
  how : wr.ownsRow w.heap.size 52 3 (.slice (some ⟨w.heap.size, 0, none⟩) N N) N (Rec.flat Pa.enc H)
  row : wr.ownsRow w.heap.size 3 1 v12 R.length (R.map (Value.int .i64))
  bh : wr.ownsRow w.heap.size 3 1 v13 Bh.length (Bh.map (Value.int .i64))
  apart : ∀ j, v12.ownBlock = some j → v13.ownBlock ≠ some j
  below : Below w.heap.size w wr
section
variable {w wr w2 : World} {N : Nat} {H : Pa.Hw} {v12 v13 : Value} {R Bh : List Int}
theorem Psr.set (h : Psr w N H v12 R v13 Bh wr) (x : Nat) (hx : x < H.length) (v : Bool × Int × Int) : Psr w N (H.set x v) v12 R v13 Bh (wr.setCells w.heap.size (x * 3) (Pa.enc v)) := by
  have h1 := own_set Pa.enc_len h.how x hx v
  refine ⟨h1.1, h1.2.own h.row (fun j hj e => ?_), h1.2.own h.bh (fun j hj e => ?_), h.apart, h.below.trans (h1.2.below (fun j e => by omega) h.below.size)⟩
  · subst e; exact lie_apart h.row h.how (by decide) _ hj rfl
  · subst e; exact lie_apart h.bh h.how (by decide) _ hj rfl
theorem Psr.push (h : Psr w N H v12 R v13 Bh wr) {g5 cap5 : Nat} {y : Int} (own5 : w2.ownsRow w.heap.size 3 1 (.slice (some ⟨g5, 0, none⟩) (Bh.length + 1) cap5) (Bh.length + 1) (Bh.map (Value.int .i64) ++ [.int .i64 y]))
    (k : Keeps (fun j => v13.ownBlock = some j) wr w2) (lies : v13.ownBlock = some g5 ∨ wr.heap.size ≤ g5) : Psr w N H v12 R (.slice (some ⟨g5, 0, none⟩) (Bh.length + 1) cap5) (Bh ++ [y]) w2 := by
  refine ⟨k.own h.how (fun j hj e => lie_apart h.bh h.how (by decide) j e hj), k.own h.row (fun j hj e => h.apart j hj e), ?_, fun j hj e => ?_, h.below.trans (k.below (fun j e => (h.bh.lt j e).1) h.below.size)⟩
  · rw [List.length_append, List.map_append]; exact own5
  · simp [Value.ownBlock] at e
    subst e
    rcases lies with h1 | h1
    · exact h.apart _ hj h1
    · have := (h.row.lt _ hj).2; omega
theorem Psr.next (h : Psr w N H v12 R v13 Bh wr) : Psr w N H v13 Bh (.slice none 0 0) [] wr :=
  ⟨h.how, h.bh, World.ownsRow_nil _ _ _ _, fun j _ e => by simp [Value.ownBlock] at e, h.below⟩
theorem own_base {w : World} {B C n size : Nat} {e : TypeId} {v : Value} {xs : List Value} (h : w.ownsRow B e size v n xs) (hC : C ≤ B) : w.ownsRow C e size v n xs := by
  refine ⟨h.1, h.2.imp id (fun h2 => ?_)⟩
  obtain ⟨g, cap, cur, h3, h4, h5⟩ := h2
  exact ⟨g, cap, cur, h3, by omega, h5⟩
theorem gw_len (nx : List (List Int)) (f : Nat → Int) : ∀ (m p : Nat), (Pa.gw nx f m p).length = m
  | 0, p => rfl
  | m + 1, p => by rw [Pa.gw_succ, List.length_cons, gw_len nx f m]
theorem fnd_cell {H : Pa.Hw} {x : Nat} (hx : x < H.length) : (Pa.enc H[x])[0]? = some (.bool (Pa.fnd H x)) := by
  unfold Pa.fnd Pa.enc
  rw [getD_get H x (false, 0, 0) hx]
  rfl
theorem Psr.first (h : Psr w N H v12 R v13 Bh wr) (y : Int) : Psr w N H (.slice (some ⟨wr.heap.size, 0, none⟩) 1 1) [y] (.slice none 0 0) [] (wr.alloc (.cells #[.int .i64 y] 3)) := by
  have k : Keeps (fun _ => False) wr (wr.alloc (.cells #[.int .i64 y] 3)) := Keeps.alloc _ _ _
  exact ⟨k.own h.how (fun _ _ hf => hf), box_new wr w.heap.size 3 (.int .i64 y) h.below.size, World.ownsRow_nil _ _ _ _, fun j _ e => by simp [Value.ownBlock] at e, h.below.trans (k.below (fun _ hf => hf.elim) h.below.size)⟩
theorem Psr.hlen (h : Psr w N H v12 R v13 Bh wr) : H.length = N := by have := h.how.1; rw [Rec.flat_len Pa.enc_len] at this; omega
end
set_option maxHeartbeats 8000000 in
theorem shortest_any (a a2 a3 : Option Addr) (c c2 c3 : Nat) (nx : List (List Int)) (f : Int) (A Bs : List Bool) (w : World) (hl : RdG w a nx) (hA : Reads w a2 (A.map Value.bool)) (hB : Reads w a3 (Bs.map Value.bool)) (hn : nx.length ≤ 1000) (hr : ∀ i, (Lb.row nx i).length ≤ 1000) :
    Calls Try.prog 22 #[.slice a nx.length c, .int .i64 f, .slice a2 A.length c2, .slice a3 Bs.length c3] w (ShAns (Pa.shortest nx A Bs f) w) := by
  have hu : ∀ b : Bool, ¬ (some undef = some (Value.bool b)) := fun b h => by cases h
  have HL := Lib.hid (And.intro hl (And.intro hA hB))
  have HI := Lib.hid (place_any f nx.length w)
  clear hl hA hB
  cases hok : Pa.okP f nx.length with
  | false =>
    have HA : Hid (Pa.shortest nx A Bs f = none) := Lib.hid (by unfold Pa.shortest; rw [if_neg (by rw [hok]; decide)])
    rw [hok] at HI
    clear hok
    go_enter Try.func22, Try.ntmps22
    go_wp2_with fail
    go_step3
    go_wp2_with fail
    refine HI.out.mono ?_
    rintro e w2 ⟨rfl, rfl⟩
    go_wp2_with fail
    rw [Exit.noGoto_ret]
    go_ret2
    rw [HA.out]
    exact ⟨rfl, Below.refl _ _⟩
  | true =>
    obtain ⟨h0, h1⟩ := Pa.okP_yes hok
    have HA : Hid (Pa.shortest nx A Bs f = if 0 ≤ Pa.F nx A Bs f.toNat then some (Pa.gw nx (Pa.F nx A Bs) (Pa.F nx A Bs f.toNat).toNat f.toNat) else none) := Lib.hid (by unfold Pa.shortest; rw [if_pos hok])
    rw [hok] at HI
    obtain ⟨p0, rfl⟩ : ∃ p : Nat, f = (p : Int) := ⟨f.toNat, by omega⟩
    rw [Int.toNat_natCast] at HA
    clear hok
    have INB := Lib.hid (pin_any a3 c3 Bs p0 w (HL.out).2.2 (by omega))
    have hd := Pa.dst_F nx A Bs
    have HD := Lib.hid hd
    clear hd
    cases hb0 : Lb.inB Bs p0 with
    | true =>
      have hz := ((HD.out).zero p0 (by omega)).2 hb0
      rw [hz] at HA
      have HA2 : Hid (Pa.shortest nx A Bs p0 = some []) := Lib.hid HA.out
      rw [Int.toNat_natCast, hb0] at INB
      clear hb0 hz HA
      go_enter Try.func22, Try.ntmps22
      go_wp2_with fail
      go_step3
      go_wp2_with fail
      refine HI.out.mono ?_
      rintro e w2 ⟨rfl, rfl⟩
      go_wp2_with fail
      refine INB.out.mono ?_
      rintro e w3 ⟨rfl, rfl⟩
      go_wp2_with fail
      rw [Exit.noGoto_ret]
      go_ret2
      rw [HA2.out]
      exact ⟨_, rfl, World.ownsRow_nil _ _ _ _, Below.refl _ _⟩
    | false =>
      have hst := Pa.sr_start (A := A) HD.out (show p0 < nx.length by omega) hb0
      have HST := Lib.hid hst
      rw [Int.toNat_natCast, hb0] at INB
      clear hb0 hst
      go_enter Try.func22, Try.ntmps22
      go_wp2_with fail
      go_step3
      go_wp2_with fail
      refine HI.out.mono ?_
      rintro e w2 ⟨rfl, rfl⟩
      go_wp2_with fail
      refine INB.out.mono ?_
      rintro e w3 ⟨rfl, rfl⟩
      go_wp2_with (first | (at_make; refine make_k rfl _ _ 50 rfl 52 (.agg #[.bool false, .int .i64 0, .int .i64 0]) 3 24 Try.underlying50 infoCame _ nx.length rfl rfl rfl (by omega) (by unfold maxLen; omega) ?_; intro w4 own4 keep4; rw [show (Value.agg #[.bool false, .int .i64 0, .int .i64 0]).cells = #[.bool false, .int .i64 0, .int .i64 0] by rfl, made_flat] at own4; have th4 := own_there Pa.enc_len own4 p0 (by simp; omega)) | (refine wpList_store_mid rfl 52 (.tmp 32) (.tmp 31) rfl w.heap.size (p0 * 3) #[.bool true, .int .i64 (-1), .int .i64 0] rfl rfl th4 sizeCame (by simp [Value.oneCell']) ?_))
      have ps0 : Psr w nx.length (List.replicate nx.length (false, 0, 0)) (.slice none 0 0) [] (.slice none 0 0) [] w4 :=
        ⟨own4, World.ownsRow_nil _ _ _ _, World.ownsRow_nil _ _ _ _, fun j e => by simp [Value.ownBlock] at e, keep4.below (fun _ hf => hf.elim) (Nat.le_refl _)⟩
      have ps2 := (ps0.set p0 (by simp; omega) (true, -1, 0)).first (p0 : Int)
      have PS := Lib.hid ps2
      have hcu := Pa.cntU_le ((List.replicate nx.length (false, (0 : Int), (0 : Int))).set p0 (true, -1, 0))
      rw [List.length_set, List.length_replicate] at hcu
      clear ps0 ps2 own4 keep4 th4
      go_step3
      go_wp2_with fail
      go_loopg [11, 12] (nx.length + 1) (fun gk v11 v12 wr => ∃ (d : Nat) (H : Pa.Hw) (R : List Int), v11 = .int .i64 (-1) ∧ Psr w nx.length H v12 R (.slice none 0 0) [] wr ∧
        Pa.Sr nx Bs (Pa.F nx A Bs) (Pa.F nx A Bs p0) d H R [] ∧ Pa.Mid nx (Pa.F nx A Bs) (Pa.gw nx (Pa.F nx A Bs) (Pa.F nx A Bs p0).toNat p0) (Pa.F nx A Bs p0) d H R [] 0 ∧ R.length ≤ 1000 ∧ Pa.cntU H + (if R = [] then 0 else 1) ≤ gk)
      case atStart => exact ⟨0, _, _, rfl, PS.out, (HST.out).1, (HST.out).2, by simp, by rw [if_neg (by simp)]; omega⟩
      case round =>
        obtain ⟨d, H, R, rfl, hps, hsr, hmid, hRl, hgk⟩ := hrel
        obtain ⟨r12, c12, hv12⟩ := own_len hps.row
        subst hv12
        have HP := Lib.hid (And.intro hps (And.intro hsr hmid))
        by_cases hpos : 0 < R.length
        · rw [if_neg (fun e => by rw [e] at hpos; simp at hpos)] at hgk
          clear hps hsr hmid
          go_wp2_with fail
          go_loopw [11, 13, 40] (fun v11 v13 v40 wr => ∃ (j : Nat) (H : Pa.Hw) (Bh : List Int), v11 = .int .i64 (-1) ∧ v40 = .int .i64 j ∧ j ≤ R.length ∧ Psr w nx.length H (.slice r12 R.length c12) R v13 Bh wr ∧
            Pa.Sr nx Bs (Pa.F nx A Bs) (Pa.F nx A Bs p0) d H R Bh ∧ Pa.Mid nx (Pa.F nx A Bs) (Pa.gw nx (Pa.F nx A Bs) (Pa.F nx A Bs p0).toNat p0) (Pa.F nx A Bs p0) d H R Bh j ∧ Pa.cntU H + Bh.length < gk ∧ Pa.cntU H + Bh.length ≤ 1000) (fun _ _ v40 _ => R.length - (intOf v40).toNat)
          case atStart => exact ⟨0, H, [], rfl, rfl, by omega, (HP.out).1, (HP.out).2.1, (HP.out).2.2, by simp; omega, by
            have h1 := Pa.cntU_le H
            have h2 := (HP.out).1.hlen
            simp; omega⟩
          case round =>
            obtain ⟨j, H, Bh, rfl, rfl, hj, hps, hsr, hmid, hlt, hle⟩ := hrel
            by_cases hjl : j < R.length
            · obtain ⟨p, hp, hpl, hfp, hfar⟩ := hsr.inR _ (List.getElem_mem hjl)
              have hpd : R.getD j 0 = (p : Int) := by rw [← hp, getD_get R j 0 hjl]
              obtain ⟨g12, c12', hv12, _, _⟩ := own_some hps.row hpos
              simp only [Value.slice.injEq] at hv12
              obtain ⟨rfl, _, rfl⟩ := hv12
              have c1 := hps.row.cellAt j (by omega)
              rw [List.getElem?_map, List.getElem?_eq_getElem hjl, hp] at c1
              have c1' : wr.cell? ⟨g12, j, none⟩ = some (.int .i64 (p : Int)) := c1
              have INA := Lib.hid (pin_any a2 c2 A p wr ((HL.out).2.1.mono hps.below (Nat.le_refl _)) (by omega))
              rw [Int.toNat_natCast] at INA
              obtain ⟨b1, o1, e1, ra, rc, cn0, rdn⟩ := (HL.out).1.cell p hpl
              subst e1
              have cn := (hps.below.cell (p := ⟨b1, o1 + p, none⟩) (lt_of_cell cn0)).trans cn0
              clear cn0
              have hrl := hr p
              have HP := Lib.hid (And.intro hps (And.intro hsr (And.intro hmid (And.intro hpd (And.intro hfp (And.intro hfar rdn))))))
              clear hps hsr hmid hpd hfp hfar hp c1 rdn
              cases hA : Lb.inB A p with
              | false =>
                have HA4 := Lib.hid hA
                rw [hA] at INA
                clear hA
                go_wp2_with fail
                refine INA.out.mono ?_
                rintro e w7 ⟨rfl, rfl⟩
                go_wp2_with fail
                go_roundw
                case rel => exact ⟨j + 1, H, Bh, rfl, by go_num, by omega, (HP.out).1, (HP.out).2.1, Pa.mid_skip HD.out hjl (HP.out).2.2.2.1 HA4.out (HP.out).2.2.1, hlt, hle⟩
                case measure => simp [intOf]; omega
              | true =>
                have hin := Pa.mid_enter hjl (HP.out).2.2.2.1 (HP.out).2.2.1
                have HN := Lib.hid (And.intro (Pa.At.mk (nx := nx) (A := A) (f := Pa.F nx A Bs) (D := Pa.F nx A Bs p0) (d := d) (H := H) hpl (HP.out).2.2.2.2.1 hA (HP.out).2.2.2.2.2.1) hin)
                rw [hA] at INA
                clear hA hin
                go_wp2_with fail
                refine INA.out.mono ?_
                rintro e w7 ⟨rfl, rfl⟩
                go_wp2_with fail
                obtain ⟨wo, hwo⟩ : ∃ wo : World, wo = wr := ⟨_, rfl⟩
                go_loopw [11, 13, 53] (fun v11 v13 v53 wr => ∃ (k : Nat) (H : Pa.Hw) (Bh : List Int), v11 = .int .i64 (-1) ∧ v53 = .int .i64 k ∧ k ≤ (Lb.row nx p).length ∧ Psr w nx.length H (.slice (some ⟨g12, 0, none⟩) R.length c12) R v13 Bh wr ∧
                  Pa.Sr nx Bs (Pa.F nx A Bs) (Pa.F nx A Bs p0) d H R Bh ∧ Pa.Inn nx (Pa.F nx A Bs) (Pa.gw nx (Pa.F nx A Bs) (Pa.F nx A Bs p0).toNat p0) (Pa.F nx A Bs p0) d H R Bh j p k ∧ Pa.At nx A (Pa.F nx A Bs) (Pa.F nx A Bs p0) d H p ∧ Pa.cntU H + Bh.length < gk ∧ Pa.cntU H + Bh.length ≤ 1000) (fun _ _ v53 _ => (Lb.row nx p).length - (intOf v53).toNat)
                case atStart => exact ⟨0, H, Bh, rfl, rfl, by omega, (HP.out).1, (HP.out).2.1, (HN.out).2, (HN.out).1, hlt, hle⟩
                case round =>
                  obtain ⟨k, H, Bh, rfl, rfl, hk, hps, hsr, hinn, hat, hlt, hle⟩ := hrel
                  obtain ⟨ab, cb, hv13⟩ := own_len hps.bh
                  subst hv13
                  by_cases hkl : k < (Lb.row nx p).length
                  · obtain ⟨b3, o3, e3, cx⟩ := Reads.get ((HP.out).2.2.2.2.2.2.mono hps.below (Nat.le_refl _)) k hkl
                    subst e3
                    have HQ := Lib.hid (And.intro hps (And.intro hsr (And.intro hinn hat)))
                    have hHl := hps.hlen
                    have hsz := hps.below.size
                    have hgl := (hps.how.lt w.heap.size rfl).2
                    clear hps hsr hinn hat
                    obtain ⟨x, hx⟩ : ∃ x, (Lb.row nx p).getD k 0 = x := ⟨_, rfl⟩
                    rw [hx] at cx
                    have HX0 := Lib.hid hx
                    have HX := Lib.hid (place_any x nx.length wr)
                    clear hx
                    cases hok2 : Pa.okP x nx.length with
                    | false =>
                      have hno := Lib.hid (Pa.okP_no hok2)
                      rw [hok2] at HX
                      clear hok2
                      go_wp2_with fail
                      refine HX.out.mono ?_
                      rintro e w8 ⟨rfl, rfl⟩
                      go_wp2_with fail
                      go_roundw
                      case rel => exact ⟨k + 1, H, Bh, rfl, by go_num, by omega, (HQ.out).1, (HQ.out).2.1, Pa.inn_skip (HQ.out).2.1 (HQ.out).2.2.1 (fun y hy hyl => by rw [HX0.out] at hy; have := hno.out; omega), (HQ.out).2.2.2, hlt, hle⟩
                      case measure => simp [intOf]; omega
                    | true =>
                      obtain ⟨hx0, hx1⟩ := Pa.okP_yes hok2
                      obtain ⟨q, rfl⟩ : ∃ q : Nat, x = (q : Int) := ⟨x.toNat, by omega⟩
                      rw [hok2] at HX
                      clear hok2
                      have hql : q < H.length := by omega
                      have c0 := own_cell Pa.enc_len (HQ.out).1.how q 0 hql (by omega)
                      rw [fnd_cell hql] at c0
                      have c0' : wr.cell? ⟨w.heap.size, q * 3, none⟩ = some (.bool (Pa.fnd H q)) := c0
                      clear c0
                      cases hf : Pa.fnd H q with
                      | true =>
                        rw [hf] at c0'
                        have HF := Lib.hid hf
                        clear hf
                        go_wp2_with fail
                        refine HX.out.mono ?_
                        rintro e w8 ⟨rfl, rfl⟩
                        go_wp2_with fail
                        go_roundw
                        case rel => exact ⟨k + 1, H, Bh, rfl, by go_num, by omega, (HQ.out).1, (HQ.out).2.1, Pa.inn_skip (HQ.out).2.1 (HQ.out).2.2.1 (fun y hy hyl => (show y = q by rw [HX0.out] at hy; omega) ▸ HF.out), (HQ.out).2.2.2, hlt, hle⟩
                        case measure => simp [intOf]; omega
                      | false =>
                        rw [hf] at c0'
                        have th := own_there Pa.enc_len (HQ.out).1.how q hql
                        have ps2 := (HQ.out).1.set q hql (true, (p : Int), (k : Int))
                        have hcn := Pa.cntU_set H q (true, (p : Int), (k : Int)) hql hf rfl
                        have INB2 := Lib.hid (pin_any a3 c3 Bs q _ ((HL.out).2.2.mono ps2.below (Nat.le_refl _)) (by omega))
                        rw [Int.toNat_natCast] at INB2
                        have hsz2 := ps2.below.size
                        cases hB : Lb.inB Bs q with
                        | true =>
                          have hit := Pa.sr_hit HD.out (HQ.out).2.1 (HQ.out).2.2.2 hkl (HQ.out).2.2.1 HX0.out (by omega) hf hB
                          rw [hB] at INB2
                          have HH := Lib.hid (And.intro hit.1 ps2)
                          have hgwl := gw_len nx (Pa.F nx A Bs) (Pa.F nx A Bs p0).toNat p0
                          have hFl := Pa.F_lt (A := A) (B := Bs) (show p0 < nx.length by omega)
                          have BK := Lib.hid (back_any _ _ nx.length _ q _ _ ps2.how hit.2 (by omega) hn)
                          clear hit ps2 hB hf hgwl hFl
                          go_wp2_with (first | (go_at_call 33; refine HX.out.mono ?_; rintro e w8 ⟨rfl, rfl⟩) | (refine wpList_store_mid rfl 52 (.tmp 75) (.tmp 74) rfl w.heap.size (q * 3) #[.bool true, .int .i64 p, .int .i64 k] rfl rfl th sizeCame (by simp [Value.oneCell']) ?_) | (go_at_call 34; refine INB2.out.mono ?_; rintro e w9 ⟨rfl, rfl⟩) | (go_at_call 35; refine BK.out.mono ?_; rintro e w9 ⟨x9, rfl, own9, b9⟩))
                          rw [Exit.noGoto_ret]
                          go_ret2
                          rw [HA.out, if_pos (HH.out).1]
                          exact ⟨x9, rfl, own_base own9 hsz2, (HH.out).2.below.trans (b9.mono hsz2)⟩
                        | false =>
                          have hadd := Pa.sr_add HD.out (HQ.out).2.1 (HQ.out).2.2.2 hkl (HQ.out).2.2.1 HX0.out (by omega) hf hB
                          rw [hB] at INB2
                          have HH := Lib.hid (And.intro hadd ps2)
                          have hbh := ps2.bh
                          clear hadd ps2 hB hf
                          go_wp2_with (first | (go_at_call 33; refine HX.out.mono ?_; rintro e w8 ⟨rfl, rfl⟩) | (refine wpList_store_mid rfl 52 (.tmp 75) (.tmp 74) rfl w.heap.size (q * 3) #[.bool true, .int .i64 p, .int .i64 k] rfl rfl th sizeCame (by simp [Value.oneCell']) ?_) | (go_at_call 34; refine INB2.out.mono ?_; rintro e w9 ⟨rfl, rfl⟩) | (at_builtin; refine append_at (v := .slice ab Bh.length cb) rfl _ _ 34 rfl 3 (.int .i64 0) 1 8 Try.underlying34 Try.info3 rfl (by decide) rfl hbh hsz2 _ rfl (by simp [Value.oneCell']) rfl rfl (by decide) (by omega) ?_; intro g5 cap5 w5 own5 keep5 where5))
                          have H5 := Lib.hid ((HH.out).2.push own5 keep5 where5)
                          go_roundw
                          case rel => exact ⟨k + 1, H.set q (true, (p : Int), (k : Int)), Bh ++ [(q : Int)], rfl, by go_num, by omega, H5.out, (HH.out).1.1, (HH.out).1.2.1, (HH.out).1.2.2, by simp; omega, by simp; omega⟩
                          case measure => simp [intOf]; omega
                  · have HQ := Lib.hid (And.intro hps (And.intro hsr (Pa.inn_leave HD.out (by omega) hinn)))
                    clear hps hsr hinn hat
                    go_wp2_with fail
                    go_roundw
                    case rel => exact ⟨j + 1, H, Bh, rfl, by go_num, by omega, (HQ.out).1, (HQ.out).2.1, (HQ.out).2.2, hlt, hle⟩
                    case measure => simp [intOf]; omega
            · have hnx := Pa.sr_next HD.out hsr (by omega) hmid
              have hnp := hps.next
              have HP := Lib.hid (And.intro hnp hnx)
              clear hps hsr hmid hnx hnp
              go_wp2_with fail
              go_roundg (Pa.cntU H + Bh.length)
              case measure => exact hlt
              case rel => exact ⟨d + 1, H, Bh, rfl, (HP.out).1, (HP.out).2.1, (HP.out).2.2, by omega, by
                split
                · omega
                · rename_i hne
                  have : 0 < Bh.length := List.length_pos_iff.2 hne
                  omega⟩
        · obtain rfl : R = [] := List.eq_nil_of_length_eq_zero (by omega)
          have hneg := Pa.mid_stop hmid
          have HA3 : Hid (Pa.shortest nx A Bs p0 = none) := Lib.hid (by rw [HA.out, if_neg (by omega)])
          clear hps hsr hmid hneg
          go_wp2_with fail
          go_ret2
          rw [HA3.out]
          exact ⟨rfl, (HP.out).1.below⟩
end Go.Proofs.Ytlmecpghlgndnaa
