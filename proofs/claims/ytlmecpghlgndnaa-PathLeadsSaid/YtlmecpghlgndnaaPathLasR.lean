/-
  warderref35.Lasso: by a walk.
-/
import Derived.Test.YtlmecpghlgndnaaPathLasW
import Derived.Test.YtlmecpghlgndnaaLabRefV
namespace Go.Proofs.Ytlmecpghlgndnaa
open Go.RowKit
set_option linter.unusedVariables false
set_option linter.unusedSimpArgs false

namespace Pa
theorem onE_eq {nx : List (List Int)} {F : List Bool} (hF : F.length = nx.length) (x : Int) : onE nx F x = (decide (0 ≤ x) && Lb.inB F x.toNat) := by
  unfold onE
  by_cases h0 : 0 ≤ x
  · by_cases h1 : x < (nx.length : Int)
    · rw [decide_eq_true h0, decide_eq_true h1]; rfl
    · have : Lb.inB F x.toNat = false := by
        cases hb : Lb.inB F x.toNat with
        | false => rfl
        | true => have := Lb.inB_lt hb; omega
      rw [this]; simp
  · rw [decide_eq_false h0]; rfl
end Pa
/-- The way so far, the places so far. -/
structure Rls (w : World) (v10 v11 : Value) (W P : List Int) (n m : Nat) (wr : World) : Prop where
  way : wr.ownsRow w.heap.size 3 1 v10 n (W.map (Value.int .i64))
  pls : wr.ownsRow w.heap.size 3 1 v11 m (P.map (Value.int .i64))
  ne : ∀ j, v10.ownBlock = some j → v11.ownBlock ≠ some j
  below : Below w.heap.size w wr
section
variable {w wr w2 : World} {v10 v11 : Value} {W P : List Int} {n m : Nat}
theorem Rls.pushW (h : Rls w v10 v11 W P n m wr) {g5 cap5 : Nat} {y : Int} (own5 : w2.ownsRow w.heap.size 3 1 (.slice (some ⟨g5, 0, none⟩) (n + 1) cap5) (n + 1) (W.map (Value.int .i64) ++ [.int .i64 y]))
    (k : Keeps (fun j => v10.ownBlock = some j) wr w2) (lies : v10.ownBlock = some g5 ∨ wr.heap.size ≤ g5) : Rls w (.slice (some ⟨g5, 0, none⟩) (n + 1) cap5) v11 (W ++ [y]) P (n + 1) m w2 := by
  refine ⟨by rw [List.map_append]; exact own5, k.own h.pls (fun j hj e => h.ne j e hj), fun j e hj => ?_, h.below.trans (k.below (fun j e => (h.way.lt j e).1) h.below.size)⟩
  have h1 : g5 = j := Option.some.inj e
  rcases lies with h2 | h2
  · exact h.ne j (by rw [h2, h1]) hj
  · have := (h.pls.lt j hj).2; omega
theorem Rls.pushP (h : Rls w v10 v11 W P n m wr) {g5 cap5 : Nat} {y : Int} (own5 : w2.ownsRow w.heap.size 3 1 (.slice (some ⟨g5, 0, none⟩) (m + 1) cap5) (m + 1) (P.map (Value.int .i64) ++ [.int .i64 y]))
    (k : Keeps (fun j => v11.ownBlock = some j) wr w2) (lies : v11.ownBlock = some g5 ∨ wr.heap.size ≤ g5) : Rls w v10 (.slice (some ⟨g5, 0, none⟩) (m + 1) cap5) W (P ++ [y]) n (m + 1) w2 := by
  refine ⟨k.own h.way (fun j hj e => h.ne j hj e), by rw [List.map_append]; exact own5, fun j hj e => ?_, h.below.trans (k.below (fun j e => (h.pls.lt j e).1) h.below.size)⟩
  have h1 : g5 = j := Option.some.inj e
  rcases lies with h2 | h2
  · exact h.ne j hj (by rw [h2, h1])
  · have := (h.way.lt j hj).2; omega
end
set_option maxRecDepth 100000 in
set_option maxHeartbeats 8000000 in
theorem rlasso_any (a a2 : Option Addr) (c c2 : Nat) (nx : List (List Int)) (f : Int) (A F : List Bool) (w : World) (hl : RdG w a nx) (hA : Reads w a2 (A.map Value.bool)) (hF : Lb.IsSet nx.length (Lb.EG nx A) F) (hn : nx.length ≤ 1000) (hr : ∀ i, (Lb.row nx i).length ≤ 1000) :
    Calls Try.prog 26 #[.slice a nx.length c, .int .i64 f, .slice a2 A.length c2] w (LsAns (Pa.lasso nx F f) w) := by
  have hu : ∀ b : Bool, ¬ (some undef = some (Value.bool b)) := fun b h => by cases h
  have EGC := Lib.hid (reg_any a a2 c c2 nx A w hl hA hn hr)
  have HL := Lib.hid hl
  have HF := Lib.hid hF
  clear hl hA hF
  go_enter Try.func26, Try.ntmps26
  go_wp2_with fail
  refine EGC.out.mono ?_
  rintro e w2 ⟨x, R, rfl, hS, ownR, b2⟩
  have hRF := Lb.isSet_one hS HF.out
  subst hRF
  have hRl : R.length = nx.length := (HF.out).1
  obtain ⟨xa, xc, hxe, hrx⟩ := Reads.of_own ownR
  subst hxe
  rw [List.length_map] at ownR
  rw [List.length_map]
  have IS := Lib.hid (fun (i : Int) (w' : World) (hb : Below w2.heap.size w2 w') => ris_any xa xc R i w' (hrx.mono hb (Nat.le_refl _)))
  rw [hRl] at ownR IS ⊢
  have H2 := Lib.hid (And.intro ownR b2)
  clear ownR b2 hS EGC hrx
  have IS0 := Lib.hid (IS.out f w2 (Below.refl _ _))
  by_cases hf : (decide (0 ≤ f) && Lb.inB R f.toNat) = true
  · simp only [Bool.and_eq_true, decide_eq_true_eq] at hf
    obtain ⟨p0, rfl⟩ : ∃ p : Nat, f = (p : Int) := ⟨f.toNat, by omega⟩
    rw [Int.toNat_natCast] at hf
    have hpl : p0 < nx.length := by rw [← hRl]; exact Lb.inB_lt hf.2
    have HA2 : Hid (Pa.lasso nx R p0 = some (Pa.las nx R (nx.length + 1) [] p0)) := Lib.hid (by unfold Pa.lasso; rw [if_pos (by unfold Pa.okP; rw [decide_eq_true (by omega), decide_eq_true (by omega)]; rfl), Int.toNat_natCast, if_pos hf.2])
    have HLS := Lib.hid (Pa.Ls.start (nx := nx) (F := R) (f0 := p0) hpl hf.2)
    rw [Int.toNat_natCast, hf.2, decide_eq_true hf.1] at IS0
    clear hf
    go_wp2_with fail
    refine IS0.out.mono ?_
    rintro e w3 ⟨rfl, rfl⟩
    have st0 : Rls w2 (.slice none 0 0) (.slice none 0 0) [] [] 0 0 w2 := ⟨World.ownsRow_nil _ _ _ _, World.ownsRow_nil _ _ _ _, fun j e => by simp [Value.ownBlock] at e, Below.refl _ _⟩
    have ST := Lib.hid st0
    have hcz : Pa.cntZ (List.replicate nx.length 0) ≤ nx.length := by rw [Pa.cntZ_rep]; exact Nat.le_refl _
    clear st0 IS0
    go_wp2_with fail
    go_loopg [10, 11, 12] nx.length (fun gk v10 v11 v12 wr => ∃ (cur : Nat) (P : List Nat) (T : List Int), v12 = .int .i64 cur ∧ Pa.Ls nx R p0 P cur T ∧ Rls w2 v10 v11 (P.map (fun q => (Pa.stp nx R q : Int))) (P.map (fun q : Nat => (q : Int))) P.length P.length wr ∧ Pa.cntZ T ≤ gk)
    case atStart => exact ⟨p0, [], _, rfl, HLS.out, ST.out, hcz⟩
    case round =>
      obtain ⟨cur, P, T, rfl, hls, hst, hgk⟩ := hrel
      obtain ⟨wa, wc, hv10⟩ := own_len hst.way
      subst hv10
      obtain ⟨pa, pc, hv11⟩ := own_len hst.pls
      subst hv11
      have hcn := hls.cnt
      have hcl := hls.lt
      have HS := Lib.hid (And.intro hls hst)
      clear hls hst
      go_wp2_with fail
      obtain ⟨wo, hwo⟩ : ∃ wo : World, wo = wr := ⟨_, rfl⟩
      go_loopw [13] (fun v13 wr2 => ∃ i : Nat, i ≤ P.length ∧ v13 = .int .i64 i ∧ Hid (∀ j, j < i → P.getD j 0 ≠ cur) ∧ wr = wr2) (fun v13 _ => P.length - (intOf v13).toNat)
      case atStart => exact ⟨0, by omega, rfl, Lib.hid (fun j hj => by omega), rfl⟩
      case round =>
        obtain ⟨i, hi, rfl, HN, rfl⟩ := hrel
        by_cases hil : i < P.length
        · obtain ⟨gp, cp, hv, _⟩ := own_some (HS.out).2.pls (show 0 < P.length by omega)
          simp only [Value.slice.injEq] at hv
          obtain ⟨rfl, _, rfl⟩ := hv
          have c1 := int_cell (HS.out).2.pls i hil
          have hgi : (P.map (fun q : Nat => (q : Int))).getD i 0 = (P.getD i 0 : Nat) := by
            rw [List.getD_eq_getElem?_getD, List.getElem?_map, List.getElem?_eq_getElem hil, List.getD_eq_getElem?_getD, List.getElem?_eq_getElem hil]; rfl
          rw [hgi] at c1
          have hmem : P.getD i 0 ∈ P := by rw [← getD_get P i 0 hil]; exact List.getElem_mem hil
          by_cases heq : P.getD i 0 = cur
          · have hm : cur ∈ P := by rw [← heq]; exact hmem
            have hix : P.idxOf cur = i := by
              have h1 : P.idxOf cur < P.length := List.idxOf_lt_length_iff.2 hm
              rcases Nat.lt_trichotomy (P.idxOf cur) i with h | h | h
              · exfalso
                have := HN.out _ h
                rw [← getD_get P _ 0 h1, List.getElem_idxOf h1] at this
                exact this rfl
              · exact h
              · exfalso
                have h1 : i < P.findIdx (· == cur) := h
                have h2 := List.not_of_lt_findIdx h1
                rw [getD_get P i 0 hil, heq] at h2
                simp at h2
            have hst := (HS.out).1.stop hm
            rw [hix] at hst
            have HA3 := Lib.hid (HA2.out.trans (congrArg some hst))
            have hci : (P.getD i 0 : Int) = (cur : Int) := by rw [heq]
            rw [hci] at c1
            clear hst hm hmem hix hgi heq hci
            go_wp2_with fail
            go_ret3
            rw [HA3.out]
            refine ⟨_, rfl, ?_, (H2.out).2.trans ((HS.out).2.below.mono (H2.out).2.size)⟩
            rw [List.length_map]
            exact own_base (HS.out).2.way (H2.out).2.size
          · have hneq : ((P.getD i 0 : Int) == (cur : Int)) = false := by
              rw [beq_eq_false_iff_ne]; intro h; exact heq (by omega)
            have HN2 := Lib.hid heq
            generalize ((P.getD i 0 : Nat) : Int) = z at *
            clear heq hmem hgi
            go_wp2_with fail
            go_roundw
            case rel => exact ⟨i + 1, by omega, by go_num, Lib.hid (fun j hj => by
              by_cases e : j = i
              · rw [e]; exact HN2.out
              · exact HN.out j (by omega)), trivial⟩
            case measure => simp [intOf] <;> omega
        · have hnm : cur ∉ P := fun hm => by
            have h1 : P.idxOf cur < P.length := List.idxOf_lt_length_iff.2 hm
            have h2 := HN.out _ (by omega : P.idxOf cur < i)
            rw [← getD_get P _ 0 h1, List.getElem_idxOf h1] at h2
            exact h2 rfl
          have hstp := Pa.stp_lt HF.out hcl (HS.out).1.on
          have hson := Pa.stp_at HF.out hcl (HS.out).1.on
          have hnx := (HS.out).1.step HF.out hnm
          have hcz2 := Pa.cntZ_set T cur ((P.length : Int) + 1) (by rw [(HS.out).1.tl]; omega) ((HS.out).1.new.2 hnm) (by omega)
          have HNX := Lib.hid (And.intro hnx (And.intro hstp hson))
          obtain ⟨b1, o1, e1, ra, rc, cn0, rdn⟩ := HL.out.cell cur hcl
          subst e1
          have hrl := hr cur
          have HR := Lib.hid (And.intro cn0 rdn)
          obtain ⟨e, he⟩ : ∃ e, Pa.stp nx R cur = e := ⟨_, rfl⟩
          have HE := Lib.hid he
          have he1 : e < (Lb.row nx cur).length := by rw [← he]; exact hstp.1
          have hrowP := (HS.out).2.pls
          have hszP := (HS.out).2.below.size
          clear hnm hnx hstp hson cn0 rdn he
          go_wp2_with (at_builtin; refine append_at (v := .slice pa P.length pc) rfl _ _ 34 rfl 3 (.int .i64 0) 1 8 Try.underlying34 Try.info3 rfl (by decide) rfl hrowP hszP _ rfl (by simp [Value.oneCell']) rfl rfl (by decide) (by omega) ?_; intro g5 cap5 w5 own5 keep5 where5)
          have st5 := (HS.out).2.pushP own5 keep5 where5
          have S5 := Lib.hid st5
          clear st5 own5 keep5 where5 hrowP hszP
          generalize hq : Pa.nxt nx R cur = q at HNX
          have HQ : Hid ((Lb.row nx cur).getD e 0 = (q : Int)) := Lib.hid (by rw [← HE.out]; exact (HNX.out).2.1.2.1)
          have HEB := Lib.hid (fun k hk => Pa.stp_before (nx := nx) (F := R) (p := cur) (k := k) hk (by rw [HE.out] at hk; omega))
          have HON : Hid (Pa.onE nx R ((Lb.row nx cur).getD e 0) = true) := Lib.hid (by rw [← HE.out]; exact (HNX.out).2.2)
          rw [HE.out] at HEB
          clear hq
          go_loopw [14, 15] (fun v14 v15 wr => ∃ (k : Nat) (s : Int), v15 = .int .i64 k ∧ v14 = .int .i64 s ∧ ((s = -1 ∧ k ≤ e) ∨ (s = e ∧ k = e + 1)) ∧ wr = w5) (fun _ v15 _ => e + 1 - (intOf v15).toNat)
          case atStart => exact ⟨0, -1, rfl, rfl, Or.inl ⟨rfl, by omega⟩, rfl⟩
          case round =>
            obtain ⟨k, s, rfl, rfl, hks, rfl⟩ := hrel
            have hst := S5.out
            have b5 : Below w.heap.size w wr := (H2.out).2.trans (hst.below.mono (H2.out).2.size)
            have cn := (b5.cell (p := ⟨b1, o1 + cur, none⟩) (lt_of_cell (HR.out).1)).trans (HR.out).1
            rcases hks with ⟨rfl, hke⟩ | ⟨rfl, rfl⟩
            · have hkl : k < (Lb.row nx cur).length := by omega
              obtain ⟨b3, o3, e3, cx⟩ := Reads.get ((HR.out).2.mono b5 (Nat.le_refl _)) k hkl
              subst e3
              have IX := Lib.hid (IS.out ((Lb.row nx cur).getD k 0) wr hst.below)
              rw [← Pa.onE_eq hRl] at IX
              clear hst b5
              by_cases hk2 : k = e
              · subst hk2
                rw [HON.out] at IX
                generalize (Lb.row nx cur).getD k 0 = x at *
                go_wp2_with (go_at_call 19; refine IX.out.mono ?_; rintro e w8 ⟨rfl, rfl⟩)
                go_roundw
                case rel => exact ⟨k + 1, k, by go_num, rfl, Or.inr ⟨rfl, rfl⟩, trivial⟩
                case measure => simp [intOf] <;> omega
              · rw [HEB.out k (by omega)] at IX
                generalize (Lb.row nx cur).getD k 0 = x at *
                go_wp2_with (go_at_call 19; refine IX.out.mono ?_; rintro e w8 ⟨rfl, rfl⟩)
                go_roundw
                case rel => exact ⟨k + 1, -1, by go_num, rfl, Or.inl ⟨rfl, by omega⟩, trivial⟩
                case measure => simp [intOf] <;> omega
            · clear b5
              by_cases hkl : e + 1 < (Lb.row nx cur).length
              · have hrowW := hst.way
                have hszW := hst.below.size
                have HST := Lib.hid hst
                clear hst
                go_wp2_with (at_builtin; refine append_at (v := .slice wa P.length wc) rfl _ _ 34 rfl 3 (.int .i64 0) 1 8 Try.underlying34 Try.info3 rfl (by decide) rfl hrowW hszW _ rfl (by simp [Value.oneCell']) rfl rfl (by decide) (by omega) ?_; intro g7 cap7 w7 own7 keep7 where7; have st7 := HST.out.pushW own7 keep7 where7; have b7 : Below w.heap.size w w7 := (H2.out).2.trans (st7.below.mono (H2.out).2.size); have cn7 := (b7.cell (p := ⟨b1, o1 + cur, none⟩) (lt_of_cell (HR.out).1)).trans (HR.out).1; obtain ⟨b3, o3, e3, cx⟩ := Reads.get ((HR.out).2.mono b7 (Nat.le_refl _)) e he1; subst e3; rw [HQ.out] at cx; have S7 := Lib.hid st7; clear st7 own7 keep7 where7 b7)
                go_roundg (Pa.cntZ (T.set cur ((P.length : Int) + 1)))
                case measure => omega
                case rel =>
                  refine ⟨q, P ++ [cur], T.set cur ((P.length : Int) + 1), rfl, (HNX.out).1, ?_, Nat.le_refl _⟩
                  have h6 : P.map (fun q => (Pa.stp nx R q : Int)) ++ [(e : Int)] = (P ++ [cur]).map (fun q => (Pa.stp nx R q : Int)) := by rw [List.map_append, ← HE.out]; rfl
                  have h7 : P.map (fun q : Nat => (q : Int)) ++ [(cur : Int)] = (P ++ [cur]).map (fun q : Nat => (q : Int)) := by rw [List.map_append]; rfl
                  rw [← h6, ← h7, List.length_append, List.length_singleton]
                  exact S7.out
              · have hrowW := hst.way
                have hszW := hst.below.size
                have HST := Lib.hid hst
                clear hst
                go_wp2_with (at_builtin; refine append_at (v := .slice wa P.length wc) rfl _ _ 34 rfl 3 (.int .i64 0) 1 8 Try.underlying34 Try.info3 rfl (by decide) rfl hrowW hszW _ rfl (by simp [Value.oneCell']) rfl rfl (by decide) (by omega) ?_; intro g7 cap7 w7 own7 keep7 where7; have st7 := HST.out.pushW own7 keep7 where7; have b7 : Below w.heap.size w w7 := (H2.out).2.trans (st7.below.mono (H2.out).2.size); have cn7 := (b7.cell (p := ⟨b1, o1 + cur, none⟩) (lt_of_cell (HR.out).1)).trans (HR.out).1; obtain ⟨b3, o3, e3, cx⟩ := Reads.get ((HR.out).2.mono b7 (Nat.le_refl _)) e he1; subst e3; rw [HQ.out] at cx; have S7 := Lib.hid st7; clear st7 own7 keep7 where7 b7)
                go_roundg (Pa.cntZ (T.set cur ((P.length : Int) + 1)))
                case measure => omega
                case rel =>
                  refine ⟨q, P ++ [cur], T.set cur ((P.length : Int) + 1), rfl, (HNX.out).1, ?_, Nat.le_refl _⟩
                  have h6 : P.map (fun q => (Pa.stp nx R q : Int)) ++ [(e : Int)] = (P ++ [cur]).map (fun q => (Pa.stp nx R q : Int)) := by rw [List.map_append, ← HE.out]; rfl
                  have h7 : P.map (fun q : Nat => (q : Int)) ++ [(cur : Int)] = (P ++ [cur]).map (fun q : Nat => (q : Int)) := by rw [List.map_append]; rfl
                  rw [← h6, ← h7, List.length_append, List.length_singleton]
                  exact S7.out
  · have HA : Hid (Pa.lasso nx R f = none) := Lib.hid (by
      unfold Pa.lasso
      split
      · rename_i hok
        rw [if_neg (fun h => hf (by rw [h, decide_eq_true (Pa.okP_yes hok).1]; rfl))]
      · rfl)
    rw [Bool.eq_false_iff.2 hf] at IS0
    clear hf
    go_wp2_with fail
    refine IS0.out.mono ?_
    rintro e w3 ⟨rfl, rfl⟩
    go_wp2_with fail
    go_ret3
    rw [HA.out]
    exact ⟨rfl, (H2.out).2⟩
end Go.Proofs.Ytlmecpghlgndnaa
