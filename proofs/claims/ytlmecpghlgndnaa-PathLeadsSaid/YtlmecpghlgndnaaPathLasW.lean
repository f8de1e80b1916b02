/-
  path.Lasso: by a walk.
-/
import Derived.Test.YtlmecpghlgndnaaPathLas
namespace Go.Proofs.Ytlmecpghlgndnaa
open Go.RowKit
set_option linter.unusedVariables false
set_option linter.unusedSimpArgs false

theorem Sees.mono {w w' : World} {b3 b9 gF : Nat} {a : Option Addr} {c cF : Nat} {nx : List (List Int)} {F : List Bool} (h : Sees w b3 b9 gF a c cF nx F) {B : Nat} (hb : Below B w w') (hB : w.heap.size ≤ B) : Sees w' b3 b9 gF a c cF nx F :=
  ⟨(hb.cell (p := ⟨b3, 0, none⟩) (Nat.lt_of_lt_of_le (lt_of_cell h.nexts) hB)).trans h.nexts, (hb.cell (p := ⟨b9, 0, none⟩) (Nat.lt_of_lt_of_le (lt_of_cell h.goes) hB)).trans h.goes,
   fun i hi => (hb.cell (p := ⟨gF, i, none⟩) (Nat.lt_of_lt_of_le (lt_of_cell (h.each i hi)) hB)).trans (h.each i hi)⟩
/-- While the way goes on: of each place how many were before it; the way. -/
structure Lst (w : World) (N gT : Nat) (T : List Int) (v : Value) (W : List Int) (n : Nat) (wr : World) : Prop where
  at_ : wr.ownsRow w.heap.size 3 1 (.slice (some ⟨gT, 0, none⟩) N N) N (T.map (Value.int .i64))
  way : wr.ownsRow w.heap.size 3 1 v n (W.map (Value.int .i64))
  ne : v.ownBlock ≠ some gT
  below : Below w.heap.size w wr
section
variable {w wr w2 : World} {N gT n : Nat} {T W : List Int} {v : Value}
theorem Lst.drewN (h : Lst w N gT T v W n wr) (m : Nat) : Lst w N gT T v W n (wr.drewN m) := ⟨own_dn h.at_ m, own_dn h.way m, h.ne, below_dn h.below m⟩
theorem Lst.drew (h : Lst w N gT T v W n wr) : Lst w N gT T v W n wr.drew := h.drewN 1
theorem Lst.set (h : Lst w N gT T v W n wr) (i : Nat) (z : Int) : Lst w N gT (T.set i z) v W n (wr.setCell ⟨gT, i, none⟩ (.int .i64 z)) := by
  have k : Keeps (fun j => j = gT) wr (wr.setCell ⟨gT, i, none⟩ (.int .i64 z)) := Keeps.setCell _ _ _ rfl
  have hg := (h.at_.lt gT rfl).1
  exact ⟨int_put h.at_ i z, k.own h.way (fun j hj e => h.ne (by rw [hj, e])), h.ne, h.below.trans (k.below (fun j e => by omega) h.below.size)⟩
theorem Lst.push (h : Lst w N gT T v W n wr) {g5 cap5 : Nat} {y : Int} (own5 : w2.ownsRow w.heap.size 3 1 (.slice (some ⟨g5, 0, none⟩) (n + 1) cap5) (n + 1) (W.map (Value.int .i64) ++ [.int .i64 y]))
    (k : Keeps (fun j => v.ownBlock = some j) wr w2) (lies : v.ownBlock = some g5 ∨ wr.heap.size ≤ g5) : Lst w N gT T (.slice (some ⟨g5, 0, none⟩) (n + 1) cap5) (W ++ [y]) (n + 1) w2 := by
  refine ⟨k.own h.at_ (fun j hj e => ?_), by rw [List.map_append]; exact own5, fun e => ?_, h.below.trans (k.below (fun j e => (h.way.lt j e).1) h.below.size)⟩
  · have h1 : gT = j := Option.some.inj hj
    subst h1; exact h.ne e
  · have h1 : g5 = gT := Option.some.inj e
    rcases lies with h2 | h2
    · exact h.ne (by rw [h2, h1])
    · have := (h.at_.lt gT rfl).2; omega
end
theorem bool_cell2 {w : World} {B g n cap : Nat} {F : List Bool} {e : TypeId} (h : w.ownsRow B e 1 (.slice (some ⟨g, 0, none⟩) n cap) n (F.map Value.bool)) (i : Nat) (hi : i < n) : w.cell? ⟨g, i, none⟩ = some (.bool (Lb.inB F i)) := by
  have hl : F.length = n := by have := h.1; simpa using this
  rw [h.cellAt i (by omega), List.getElem?_map, Lb.getD_at F i false (by omega)]
  rfl
set_option maxRecDepth 100000 in
set_option maxHeartbeats 8000000 in
theorem lasso_any (a a2 : Option Addr) (c c2 : Nat) (nx : List (List Int)) (f : Int) (A F : List Bool) (w : World) (hl : RdG w a nx) (hA : Reads w a2 (A.map Value.bool)) (hF : Lb.IsSet nx.length (Lb.EG nx A) F) (hn : nx.length ≤ 1000) (hr : ∀ i, (Lb.row nx i).length ≤ 1000) :
    Calls Try.prog 25 #[.slice a nx.length c, .int .i64 f, .slice a2 A.length c2] w (LsAns (Pa.lasso nx F f) w) := by
  have hu : ∀ b : Bool, ¬ (some undef = some (Value.bool b)) := fun b h => by cases h
  have bw := below_new w (.cells #[.slice a nx.length c] 22)
  have EGC := Lib.hid (eg_any a a2 c c2 nx A _ (hl.mono bw (Nat.le_refl _)) (hA.mono bw (Nat.le_refl _)) hn hr)
  have HL := Lib.hid (And.intro hl bw)
  have HF := Lib.hid hF
  clear hl hA bw hF
  go_enter Try.func25, Try.ntmps25
  go_wp2_with fail
  refine EGC.out.mono ?_
  rintro e w2 ⟨x, R, rfl, hS, ownR, b2⟩
  have hRF := Lb.isSet_one hS HF.out
  subst hRF
  have hRl : R.length = nx.length := (HF.out).1
  rw [World.size_alloc] at b2 ownR
  rw [hRl] at ownR
  obtain ⟨xa, xc, hxe⟩ := own_len ownR
  subst hxe
  have bc := b2.cell (p := ⟨w.heap.size, 0, none⟩) (by simp)
  rw [World.cell?_alloc_at _ _ _ _ rfl] at bc
  have bc' : w2.cell? ⟨w.heap.size, 0, none⟩ = some (.slice a nx.length c) := bc
  have H2 := Lib.hid (And.intro ownR b2)
  have hz2 := b2.size
  rw [World.size_alloc] at hz2
  have hz2' : w.heap.size < w2.heap.size := by omega
  clear bc ownR b2 hS EGC
  cases hok : Pa.okP f nx.length with
  | false =>
    have HA : Hid (Pa.lasso nx R f = none) := Lib.hid (by unfold Pa.lasso; rw [if_neg (by rw [hok]; decide)])
    have HP := Lib.hid (fun w' => place_any f nx.length w')
    rw [hok] at HP
    clear hok
    go_wp2_with (go_at_call 33; refine (HP.out _).mono ?_; rintro e w3 ⟨rfl, rfl⟩)
    go_ret3
    rw [HA.out]
    have b3 := (HL.out).2.trans ((H2.out).2.mono (by simp))
    exact ⟨rfl, b3.trans ((below_new w2 _).mono b3.size)⟩
  | true =>
    obtain ⟨h0, h1⟩ := Pa.okP_yes hok
    have HA : Hid (Pa.lasso nx R f = if Lb.inB R f.toNat = true then some (Pa.las nx R (nx.length + 1) [] f.toNat) else none) := Lib.hid (by unfold Pa.lasso; rw [if_pos hok])
    obtain ⟨p0, rfl⟩ : ∃ p : Nat, f = (p : Int) := ⟨f.toNat, by omega⟩
    rw [Int.toNat_natCast] at HA
    have HP := Lib.hid (fun w' => place_any (p0 : Int) nx.length w')
    rw [hok] at HP
    clear hok
    obtain ⟨gF, cF, hxs, hgF, _, _, hgl⟩ := own_some (H2.out).1 (show 0 < nx.length by omega)
    simp only [Value.slice.injEq] at hxs
    obtain ⟨rfl, _, rfl⟩ := hxs
    have cp := bool_cell2 (H2.out).1 p0 (by omega)
    cases hon : Lb.inB R p0 with
    | false =>
      have HA2 : Hid (Pa.lasso nx R p0 = none) := Lib.hid (by rw [HA.out, if_neg (by rw [hon]; decide)])
      rw [hon] at cp
      clear hon HA
      go_wp2_with (go_at_call 33; refine (HP.out _).mono ?_; rintro e w3 ⟨rfl, rfl⟩)
      go_ret3
      rw [HA2.out]
      have b3 := (HL.out).2.trans ((H2.out).2.mono (by simp))
      exact ⟨rfl, b3.trans ((below_new w2 _).mono b3.size)⟩
    | true =>
      have HA2 : Hid (Pa.lasso nx R p0 = some (Pa.las nx R (nx.length + 1) [] p0)) := Lib.hid (by rw [HA.out, if_pos hon])
      have HLS := Lib.hid (Pa.Ls.start (nx := nx) (F := R) (f0 := p0) (by omega) hon)
      rw [hon] at cp
      clear hon HA
      have sees3 : Sees (w2.alloc (.cells #[.slice (some ⟨gF, 0, none⟩) nx.length xc] 23)) w.heap.size w2.heap.size gF a c xc nx R := by
        have bn := below_new w2 (.cells #[.slice (some ⟨gF, 0, none⟩) nx.length xc] 23)
        refine ⟨(bn.cell (p := ⟨w.heap.size, 0, none⟩) (by simp; omega)).trans bc', ?_, fun i hi => (bn.cell (p := ⟨gF, i, none⟩) (by simp; omega)).trans (bool_cell2 (H2.out).1 i hi)⟩
        rw [World.cell?_alloc_at _ _ _ _ rfl]; rfl
      have b3 : Below w.heap.size w (w2.alloc (.cells #[.slice (some ⟨gF, 0, none⟩) nx.length xc] 23)) := by
        have b3 := (HL.out).2.trans ((H2.out).2.mono (by simp))
        exact b3.trans ((below_new w2 _).mono b3.size)
      have H3 := Lib.hid (And.intro sees3 b3)
      clear sees3 b3
      go_wp2_with (first | (go_at_call 33; refine (HP.out _).mono ?_; rintro e w3 ⟨rfl, rfl⟩) | (at_make; refine make_one rfl _ _ 34 rfl 3 (.int .i64 0) 8 Try.underlying34 Try.info3 rfl _ nx.length rfl rfl rfl (by omega) (by unfold maxLen; omega) ?_; intro w4 own4 keep4; rw [show List.replicate nx.length (Value.int .i64 0) = (List.replicate nx.length (0 : Int)).map (Value.int .i64) by rw [List.map_replicate]] at own4))
      obtain ⟨w3, hs3, sees3, b3, lst0⟩ : ∃ w3 : World, w3.heap.size = w2.heap.size + 1 ∧ Sees w3 w.heap.size w2.heap.size gF a c xc nx R ∧ Below w.heap.size w w3 ∧ Lst w3 nx.length (w2.heap.size + 1) (List.replicate nx.length 0) (.slice none 0 0) [] 0 w4 :=
        ⟨_, by simp, (H3.out).1, (H3.out).2, ⟨by simpa using own4, World.ownsRow_nil _ _ _ _, fun e => by simp [Value.ownBlock] at e, keep4.below (fun _ hf => hf.elim) (Nat.le_refl _)⟩⟩
      have H4 := Lib.hid (And.intro sees3 (And.intro b3 lst0))
      have HGT := Lib.hid hs3
      clear sees3 b3 lst0 own4 keep4 H3 cp hs3 hgF
      generalize w2.heap.size + 1 = gT at *
      have hcz : Pa.cntZ (List.replicate nx.length 0) ≤ nx.length := by rw [Pa.cntZ_rep]; exact Nat.le_refl _
      go_loopg [1, 11] nx.length (fun gk v1 v11 wr => ∃ (cur : Nat) (P : List Nat) (T : List Int), v1 = .int .i64 cur ∧ Pa.Ls nx R p0 P cur T ∧ Lst w3 nx.length gT T v11 (P.map (fun q => (Pa.stp nx R q : Int))) P.length wr ∧ Pa.cntZ T ≤ gk)
      case atStart => exact ⟨p0, [], _, rfl, HLS.out, (H4.out).2.2, hcz⟩
      case round =>
        obtain ⟨cur, P, T, rfl, hls, hlst, hgk⟩ := hrel
        obtain ⟨wa, wc, hv11⟩ := own_len hlst.way
        subst hv11
        have ct := int_cell hlst.at_ cur hls.lt
        have hnew := hls.new
        have hcn := hls.cnt
        have hcl := hls.lt
        by_cases hm : cur ∈ P
        · have hst := hls.stop hm
          have hat := hls.at_ cur hls.lt
          rw [if_pos hm] at hat
          rw [hat] at ct
          have hne : (((P.idxOf cur + 1 : Nat) : Int) == 0) = false := by simp; omega
          have hix : P.idxOf cur < P.length := List.idxOf_lt_length_iff.2 hm
          have HA3 : Hid (Pa.lasso nx R p0 = some (P.map (fun q => (Pa.stp nx R q : Int)), P.idxOf cur)) := Lib.hid (by rw [HA2.out, hst])
          have HS := Lib.hid hlst
          have hws : IntKind.i64.wrap (((P.idxOf cur + 1 : Nat) : Int) - 1) = (P.idxOf cur : Int) := by rw [show ((P.idxOf cur + 1 : Nat) : Int) - 1 = (P.idxOf cur : Int) by omega]; exact IntWalk.i64_in _ (by omega)
          have hz0 : ((P.idxOf cur + 1 : Nat) : Int) - 1 = (P.idxOf cur : Int) := by omega
          clear hst hat hm hls hlst hnew
          generalize ((P.idxOf cur + 1 : Nat) : Int) = z at *
          go_wp2
          go_quiet (fail)
          go_wp2
          go_ret3
          rw [HA3.out]
          refine ⟨_, rfl, ?_, ?_⟩
          · rw [List.length_map]; exact own_base (own_dn HS.out.way _) (H4.out).2.1.size
          · exact (H4.out).2.1.trans (below_dn (HS.out.below.mono (H4.out).2.1.size) _)
        · have hstp := Pa.stp_lt HF.out hls.lt hls.on
          have hson := Pa.stp_at HF.out hls.lt hls.on
          have hnx := hls.step HF.out hm
          have hz := hnew.2 hm
          rw [hz] at ct
          have hcz2 := Pa.cntZ_set T cur ((P.length : Int) + 1) (by rw [hls.tl]; omega) hz (by omega)
          have lst2 := hlst.set cur ((P.length : Int) + 1)
          have fz := hlst.at_.frozenAt cur
          have hgTs := (hlst.at_.lt gT rfl).2
          have HS2 := Lib.hid (And.intro lst2 hnx)
          have bW2 : Below w.heap.size w (wr.setCell ⟨gT, cur, none⟩ (.int .i64 ((P.length : Int) + 1))) := (H4.out).2.1.trans (lst2.below.mono (H4.out).2.1.size)
          have bW1 : Below w.heap.size w wr := (H4.out).2.1.trans (hlst.below.mono (H4.out).2.1.size)
          have sW2 := (H4.out).1.mono lst2.below (Nat.le_refl _)
          have sW1 := (H4.out).1.mono hlst.below (Nat.le_refl _)
          obtain ⟨b1, o1, e1, ra, rc, cn0, rdn⟩ := (HL.out).1.cell cur hcl
          subst e1
          have hrl := hr cur
          have c3w := sW1.nexts
          have cnw := (bW1.cell (p := ⟨b1, o1 + cur, none⟩) (lt_of_cell cn0)).trans cn0
          have hb1 : b1 < w.heap.size := lt_of_cell cn0
          have hgt1 : gT = w3.heap.size := HGT.out.symm
          have hw3 := (H4.out).2.1.size
          have hb3 : w.heap.size < w3.heap.size := lt_of_cell (H4.out).1.nexts
          have hn1 : w.heap.size ≠ gT := by omega
          have hn2 : b1 ≠ gT := by omega
          have IDX := Lib.hid (lidx_any w.heap.size w2.heap.size gF (some ⟨b1, o1, none⟩) c xc nx R ra rc cur _ sW2 hn (rdn.mono bW2 (Nat.le_refl _)) hrl hstp.1 hson)
          have HR := Lib.hid (And.intro cn0 rdn)
          have hrow := lst2.way
          have hsz2 := lst2.below.size
          have HST := Lib.hid hstp
          obtain ⟨e, he⟩ : ∃ e, Pa.stp nx R cur = e := ⟨_, rfl⟩
          have HE := Lib.hid he
          rw [he] at IDX
          clear hm hls hlst hnew hgt1 hw3 hb3 lst2 hnx hz sW1 sW2 bW1 bW2 cn0 rdn he hstp hson
          have hws : IntKind.i64.wrap ((P.length : Int) + 1 - 1) = (P.length : Int) := by rw [show (P.length : Int) + 1 - 1 = (P.length : Int) by omega]; exact IntWalk.i64_in _ (by omega)
          go_wp2_with (first | (go_at_call 37; refine IDX.out.mono ?_; rintro e w8 ⟨rfl, rfl⟩) | (at_builtin; refine append_at (v := .slice wa P.length wc) rfl _ _ 34 rfl 3 (.int .i64 0) 1 8 Try.underlying34 Try.info3 rfl (by decide) rfl hrow hsz2 _ rfl (by simp [Value.oneCell']) rfl (by simp) (by decide) (by omega) ?_; intro g5 cap5 w5 own5 keep5 where5))
          have st5 := (HS2.out).1.push own5 keep5 where5
          have b5 : Below w.heap.size w w5 := (H4.out).2.1.trans (st5.below.mono (H4.out).2.1.size)
          have c5 := ((H4.out).1.mono st5.below (Nat.le_refl _)).nexts
          have cn5 := (b5.cell (p := ⟨b1, o1 + cur, none⟩) (lt_of_cell (HR.out).1)).trans (HR.out).1
          have cw5 := own5.cellAt P.length (by omega)
          rw [List.getElem?_append_right (by simp)] at cw5
          simp at cw5
          have he1 : e < (Lb.row nx cur).length := by rw [← HE.out]; exact (HST.out).1
          obtain ⟨b3, o3, e3, cx⟩ := Reads.get ((HR.out).2.mono b5 (Nat.le_refl _)) e he1
          rw [← HE.out, (HST.out).2.1] at cx
          rw [HE.out] at cx
          subst e3
          have H5 := Lib.hid st5
          clear own5 keep5 where5 st5 b5 IDX hrow hsz2
          generalize hq : Pa.nxt nx R cur = q at *
          go_quiet (fail)
          go_wp2
          go_roundg (Pa.cntZ (T.set cur ((P.length : Int) + 1)))
          case measure => omega
          case rel =>
            refine ⟨q, P ++ [cur], T.set cur ((P.length : Int) + 1), rfl, (HS2.out).2, ?_, Nat.le_refl _⟩
            have h6 : P.map (fun q => (Pa.stp nx R q : Int)) ++ [(e : Int)] = (P ++ [cur]).map (fun q => (Pa.stp nx R q : Int)) := by rw [List.map_append, ← HE.out]; rfl
            rw [← h6, List.length_append, List.length_singleton]
            repeat (first | exact H5.out | apply Lst.drewN | apply Lst.drew)
end Go.Proofs.Ytlmecpghlgndnaa
