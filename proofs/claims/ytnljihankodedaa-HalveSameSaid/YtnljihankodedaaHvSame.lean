/-
  warderref21.Splits, Same; halve.Outer: by walks.
-/
import Derived.Test.YtnljihankodedaaHvRef
import Derived.Laws.StructEq
namespace Go.Proofs.Ytnljihankodedaa
open Go.RowKit
set_option linter.unusedVariables false
set_option linter.unusedSimpArgs false

/-- A list of pairs, to be read. -/
def PR (w : World) (x : Value) (L : List (Int × Int)) : Prop := ∃ a c, x = .slice a L.length c ∧ (L = [] ∨ ∃ g, a = some ⟨g, 0, none⟩ ∧ ∀ j (h : j < L.length), w.cell? ⟨g, j * 2, none⟩ = some (.int .i64 L[j].1) ∧ w.cell? ⟨g, j * 2 + 1, none⟩ = some (.int .i64 L[j].2))
theorem PR.of {w : World} {B : Nat} {x : Value} {L : List (Int × Int)} {e : TypeId} (h : w.ownsRow B e 2 x L.length (Hv.encs L)) : PR w x L := by
  obtain ⟨a, c, rfl⟩ := own_len h
  by_cases h0 : L = []
  · exact ⟨a, c, rfl, Or.inl h0⟩
  · have hp : 0 < L.length := List.length_pos_iff.2 h0
    obtain ⟨g, cap, hx, _⟩ := own_some h hp
    simp only [Value.slice.injEq] at hx
    obtain ⟨rfl, _, rfl⟩ := hx
    exact ⟨_, _, rfl, Or.inr ⟨g, rfl, fun j hj => pair_cells h j hj⟩⟩
theorem PR.mono {w w' : World} {x : Value} {L : List (Int × Int)} (h : PR w x L) (hb : Below w.heap.size w w') : PR w' x L := by
  obtain ⟨a, c, rfl, h⟩ := h
  refine ⟨a, c, rfl, h.imp id ?_⟩
  rintro ⟨g, rfl, hc⟩
  refine ⟨g, rfl, fun j hj => ?_⟩
  obtain ⟨h1, h2⟩ := hc j hj
  have hg : g < w.heap.size := by
    unfold World.cell? at h1
    rcases Nat.lt_or_ge g w.heap.size with h3 | h3
    · exact h3
    · simp [Array.getElem?_eq_none h3] at h1
  exact ⟨(hb.cell (p := ⟨g, j * 2, none⟩) hg).trans h1, (hb.cell (p := ⟨g, j * 2 + 1, none⟩) hg).trans h2⟩
theorem PR.lit (w : World) (L : List (Int × Int)) (e : TypeId) (c : Nat) : PR (w.alloc (.cells (Hv.encs L).toArray e)) (.slice (some ⟨w.heap.size, 0, none⟩) L.length c) L :=
  ⟨_, _, rfl, Or.inr ⟨w.heap.size, rfl, fun j hj => by
    rw [World.cell?_alloc_at _ _ _ _ rfl, World.cell?_alloc_at _ _ _ _ rfl]
    have := Hv.encs_at L j hj
    simpa using this⟩⟩
theorem Try.eqP (a b c d : Int) (w : World) : (Op.equalIn 10000 39 (.agg #[.int .i64 a, .int .i64 b]) (.agg #[.int .i64 c, .int .i64 d])).run Try.prog w = .ok (a == c && b == d) w := by
  have u3 := Try.underlying3
  have a3 := Try.isAgg3
  have z3 := Try.sizeOf3
  rw [show (10000 : Nat) = 9999 + 1 from rfl, Op.equalIn]
  simp only [Sem.run_bind, run_underlying Try.underlying39, Result.andThen_ok]
  simp only [Std.Legacy.Range.forIn_eq_forIn_range', Std.Legacy.Range.size, Nat.sub_zero, Nat.add_sub_cancel, Nat.div_one, List.range'_succ, List.range'_zero, List.forIn_cons, List.forIn_nil]
  go_simp
  by_cases h1 : a = c <;> by_cases h2 : b = d <;> simp [h1, h2]
set_option maxHeartbeats 1000000 in
theorem psame_any {w : World} {x y : Value} {L : List (Int × Int)} (hx : PR w x L) (hy : PR w y L) (hm : L.length ≤ 1000000) :
    Calls Try.prog 38 #[x, y] w fun e w' => e = .returned (.bool true) ∧ ∃ n, w' = w.drewN n := by
  obtain ⟨a, c, rfl, ha⟩ := hx
  obtain ⟨b, d, rfl, hb⟩ := hy
  have HA := Lib.hid ha
  have HB := Lib.hid hb
  clear ha hb
  go_enter Try.func38, Try.ntmps38
  go_wp2
  go_loopw [5] (fun v5 wr => ∃ k : Nat, k ≤ L.length ∧ v5 = .int .i64 k ∧ ∃ n, wr = w.drewN n) (fun v5 _ => L.length - (intOf v5).toNat)
  case atStart => exact ⟨0, by omega, rfl, 0, rfl⟩
  case round =>
    obtain ⟨k, hk, rfl, n, rfl⟩ := hrel
    by_cases hlt : k < L.length
    · obtain ⟨g, rfl, hca⟩ := (HA.out).resolve_left (fun h => by rw [h] at hlt; simp at hlt)
      obtain ⟨g2, rfl, hcb⟩ := (HB.out).resolve_left (fun h => by rw [h] at hlt; simp at hlt)
      obtain ⟨a0, a1⟩ := hca k hlt
      obtain ⟨b0, b1⟩ := hcb k hlt
      clear hca hcb
      generalize L[k] = p at *
      have hne : ∀ q : Int, (q != q) = false := fun q => by simp
      have hn1 := hne p.1
      have hn2 := hne p.2
      have heq := Try.eqP p.1 p.2 p.1 p.2
      have hs : (p.1 == p.1 && p.2 == p.2) = true := by simp
      rw [hs] at heq
      clear hne hs
      go_wp2
      go_quiet (fail)
      go_wp2
      go_roundw
      case rel => exact ⟨k + 1, by omega, by go_num, by first | exact ⟨_, rfl⟩ | (simp only [World.drewN_drewN]; exact ⟨_, rfl⟩)⟩
      case measure => simp [intOf]; omega
    · go_wp2
      go_ret
      exact ⟨rfl, n, rfl⟩
/-- A list of numbers of the call's own that is handed back. -/
def IntsAns (L : List Int) (w : World) (e : Ending) (w' : World) : Prop :=
  ∃ x, e = .returned x ∧ w'.ownsRow w.heap.size 3 1 x L.length (L.map (Value.int .i64)) ∧ Below w.heap.size w w'
def outerL (r : Int) : List Int := if r < 1 then [] else (List.range (Hv.cap (r - 1) + 1)).map (fun k : Nat => (k : Int))
set_option maxHeartbeats 1000000 in
theorem outer_any (r : Int) (w : World) (hr : r ≤ 6) (hr2 : -9223372036854775808 ≤ r) :
    Calls Try.prog 41 #[.int .i64 r] w (IntsAns (outerL r) w) := by
  have hu : ∀ b : Bool, ¬ (some undef = some (Value.bool b)) := fun b h => by cases h
  by_cases h1 : r < 1
  · go_enter Try.func41, Try.ntmps41
    go_wp2_with fail
    go_ret
    unfold outerL
    rw [if_pos h1]
    exact ⟨_, rfl, World.ownsRow_nil _ _ _ _, Below.refl _ _⟩
  · have C := Lib.hid (fun w => cap_any (r - 1) w)
    have hle := Hv.cap_le (r - 1)
    unfold outerL
    rw [if_neg h1]
    generalize Hv.cap (r - 1) = m at *
    go_enter Try.func41, Try.ntmps41
    go_wp2_with fail
    refine (C.out _).mono ?_
    rintro e w1 ⟨rfl, rfl⟩
    go_wp2_with (at_make; refine make_one rfl _ _ 26 rfl 3 (.int .i64 0) 8 Try.underlying26 Try.info3 rfl _ (m + 1) rfl rfl (by omega) (by omega) (by unfold maxLen; omega) ?_; intro w1 own1 keep1; rw [show List.replicate (m + 1) (Value.int .i64 0) = (List.replicate (m + 1) (0 : Int)).map (Value.int .i64) by rw [List.map_replicate]] at own1)
    have bel1 := keep1.below (fun _ hf => hf.elim) (Nat.le_refl _)
    have O1 := Lib.hid (And.intro own1 bel1)
    clear own1 keep1 bel1
    go_loopw [4, 14] (fun _ v14 wr => ∃ (k : Nat) (D : List Int), k ≤ m + 1 ∧ v14 = .int .i64 k ∧ D.length = m + 1 ∧ (∀ i, i < k → D[i]? = some (i : Int)) ∧ wr.ownsRow w.heap.size 3 1 (.slice (some ⟨w.heap.size, 0, none⟩) (m + 1) (m + 1)) (m + 1) (D.map (Value.int .i64)) ∧ Below w.heap.size w wr) (fun _ v14 _ => m + 1 - (intOf v14).toNat)
    case atStart => exact ⟨0, _, by omega, rfl, by simp, fun i hi => by omega, (O1.out).1, (O1.out).2⟩
    case round =>
      obtain ⟨k, D, hk, rfl, hDl, hin, hO, hB⟩ := hrel
      by_cases hlt : k < m + 1
      · have hfz := hO.frozenAt k
        have hgF := (hO.lt w.heap.size rfl).2
        have hcu := hO.cellAt k (by omega)
        rw [List.getElem?_map, List.getElem?_eq_getElem (by omega)] at hcu
        have st := (hO.stored k (.int .i64 k)).1
        rw [← List.map_set] at st
        have b3 : Below w.heap.size w (wr.setCell ⟨w.heap.size, k, none⟩ (.int .i64 k)) := hB.trans ((Keeps.setCell (S := fun j => j = w.heap.size) _ _ _ rfl).below (fun j e => by omega) hB.size)
        have HS := Lib.hid (And.intro st (And.intro b3 hin))
        clear st b3 hin hO hB
        simp only [Option.map_some] at hcu
        go_wp2_with fail
        go_roundw
        case rel =>
          refine ⟨k + 1, D.set k k, by omega, by go_num, by simpa using hDl, fun i hi => ?_, (HS.out).1, (HS.out).2.1⟩
          by_cases e : i = k
          · subst e; rw [List.getElem?_set_self (by omega)]
          · rw [List.getElem?_set_ne (fun e2 => e e2.symm)]; exact (HS.out).2.2 i (by omega)
        case measure => simp [intOf]; omega
      · have hkn : k = m + 1 := by omega
        subst hkn
        have hDe : D = (List.range (m + 1)).map (fun k : Nat => (k : Int)) := by
          apply List.ext_getElem?
          intro i
          by_cases hi : i < m + 1
          · rw [hin i hi, List.getElem?_map, List.getElem?_range hi]; rfl
          · rw [List.getElem?_eq_none (by omega), List.getElem?_eq_none (by simp; omega)]
        have HS := Lib.hid (And.intro hDe (And.intro hO hB))
        clear hDe hin hO hB
        go_wp2_with fail
        go_ret
        exact ⟨_, rfl, by rw [← (HS.out).1, hDl]; exact (HS.out).2.1, (HS.out).2.2⟩
namespace Hv
def zs (L : List (Nat × Nat)) : List (Int × Int) := L.map zi
theorem zs_len (L : List (Nat × Nat)) : (zs L).length = L.length := by unfold zs; rw [List.length_map]
theorem zs_append (L M : List (Nat × Nat)) : zs (L ++ M) = zs L ++ zs M := by unfold zs; rw [List.map_append]
end Hv
theorem prow_base {w : World} {B B' n size : Nat} {e : TypeId} {v : Value} {xs : List Value} (h : w.ownsRow B e size v n xs) (hb : B' ≤ B) : w.ownsRow B' e size v n xs := by
  refine ⟨h.1, ?_⟩
  rcases h.2 with hn | ⟨g, cap, cur, h1, h2, rest⟩
  · exact Or.inl hn
  · exact Or.inr ⟨g, cap, cur, h1, by omega, rest⟩
set_option maxHeartbeats 2000000 in
theorem rsplits_any (g r : Int) (w : World) (hg : -9223372036854775808 ≤ g ∧ g ≤ 9223372036854775807) (hr : r ≤ 6) (hr2 : -9223372036854775808 ≤ r) :
    Calls Try.prog 40 #[.int .i64 g, .int .i64 r] w (PairsAns ((Hv.splits g r).map Hv.zi) w) := by
  have hu : ∀ b : Bool, ¬ (some undef = some (Value.bool b)) := fun b h => by cases h
  by_cases h : r < 1 ∨ g < 1
  · unfold Hv.splits
    rw [if_pos h]
    by_cases hr1 : r < 1
    · go_enter Try.func40, Try.ntmps40
      go_wp2
      go_ret
      exact ⟨_, rfl, World.ownsRow_nil _ _ _ _, Below.refl _ _⟩
    · have hg1 : g < 1 := by omega
      go_enter Try.func40, Try.ntmps40
      go_wp2
      go_ret
      exact ⟨_, rfl, World.ownsRow_nil _ _ _ _, Below.refl _ _⟩
  · have hcs := Hv.cap_step (r - 1) (by omega) (by omega)
    rw [show r - 1 + 1 = r by omega] at hcs
    have hz : Hv.clip g r = min g.toNat (Hv.cap r) := rfl
    have hle := Hv.cap_le r
    obtain ⟨n, hnE⟩ : ∃ n, n = if Hv.clip g r = Hv.cap r then 3 * Hv.clip g r + 3 else Hv.clip g r := ⟨_, rfl⟩
    have hmm : Hv.cap (r - 1) ≤ 31 := by
      rcases (show r = 1 ∨ r = 2 ∨ r = 3 ∨ r = 4 ∨ r = 5 ∨ r = 6 by omega) with rfl | rfl | rfl | rfl | rfl | rfl <;> decide
    have hnb : n ≤ 300 := by
      rw [hnE]; split <;> omega
    have hlex : Hv.lex (Hv.cap (r - 1)) (Hv.tru (Hv.cap (r - 1)) n n) = Hv.splits g r := by
      unfold Hv.splits
      rw [if_neg h]
      refine Hv.lex_sp _ _ n _ (fun a b => (Hv.tru_mem _ _ _ _).trans (Hv.mem_inS _ _ _ _)) ?_
      unfold Hv.oth
      rw [hnE]
      split <;> omega
    have HLEX := Lib.hid hlex
    have RC := Lib.hid (fun w => rclip_any g r w hg)
    have RK := Lib.hid (fun w => rcap_any r w)
    have RM := Lib.hid (fun w => rcap_any (r - 1) w)
    have TR := Lib.hid (fun w => true_any n r w (by omega) (by omega))
    have hle2 := Hv.cap_le (r - 1)
    clear hlex hz hcs
    rw [← HLEX.out]
    generalize Hv.cap (r - 1) = m at *
    generalize Hv.clip g r = z at *
    generalize Hv.cap r = q at *
    by_cases hzq : z = q
    · have hb : ((z : Int) == (q : Int)) = true := by simp [hzq]
      rw [if_pos hzq] at hnE
      have hnI : 3 * (z : Int) + 3 = (n : Int) := by omega
      have HZ := Lib.hid hzq
      clear hzq hnE
      go_enter Try.func40, Try.ntmps40
      go_wp2_with fail
      refine (RC.out _).mono ?_
      rintro e w1 ⟨rfl, rfl⟩
      go_wp2_with fail
      refine (RK.out _).mono ?_
      rintro e w1 ⟨rfl, rfl⟩
      go_wp2_with fail
      refine (TR.out _).mono ?_
      rintro e w1 ⟨x1, rfl, hO1, hB1⟩
      have hTl := Hv.tru_len m n n
      obtain ⟨T, hT⟩ : ∃ T, T = Hv.tru m n n := ⟨_, rfl⟩
      rw [← hT] at hO1 hTl
      have HTT := Lib.hid hT
      have hLT := Hv.lexT_len m T
      have hLR := Hv.lexR_len T
      obtain ⟨ta, tc, hx1⟩ := own_len hO1
      subst hx1
      obtain ⟨BX, hBX⟩ : ∃ BX, w1.heap.size = BX := ⟨_, rfl⟩
      have hOlt0 := hO1.lt
      rw [hBX] at hOlt0
      have hOlt : ∀ j, (Value.slice ta T.length tc).ownBlock = some j → j < BX := fun j hj => (hOlt0 j (by rw [List.length_map]; exact hj)).2
      have hO1' : w1.ownsRow w.heap.size 39 2 (.slice ta T.length tc) T.length (Hv.encs (Hv.zs T)) := by have := hO1; rw [List.length_map] at this; exact this
      have H1 := Lib.hid (And.intro hO1' hB1)
      have hwb : w.heap.size ≤ BX := by have := hB1.size; omega
      clear hO1 hO1' hB1 hT
      go_wp2_with fail
      go_loopw [5, 8, 9] (fun v5 v8 _ wr => ∃ k : Nat, k ≤ m + 1 ∧ v8 = .int .i64 k ∧ wr.ownsRow BX 39 2 v5 (Hv.zs (Hv.lexT m T k)).length (Hv.encs (Hv.zs (Hv.lexT m T k))) ∧ wr.ownsRow w.heap.size 39 2 (.slice ta T.length tc) T.length (Hv.encs (Hv.zs T)) ∧ Below w.heap.size w wr ∧ BX ≤ wr.heap.size) (fun _ v8 _ _ => m + 1 - (intOf v8).toNat)
      case atStart => exact ⟨0, by omega, rfl, (by exact World.ownsRow_nil _ _ _ _), (H1.out).1, (H1.out).2, by omega⟩
      case round =>
        obtain ⟨k, hk, rfl, hO, hTr, hB, hsz⟩ := hrel
        have hl1 := hLT k
        obtain ⟨xa, xc, hx⟩ := own_len hO
        subst hx
        by_cases hlt : k < m + 1
        · have hkm : (k : Int) ≤ (m : Int) := by omega
          have hle3 : k * (m + 1) ≤ 32 * 32 := Nat.mul_le_mul (by omega) (by omega)
          have HO := Lib.hid (And.intro hO (And.intro hTr hB))
          clear hO hTr hB
          go_wp2_with fail
          refine (RM.out _).mono ?_
          rintro e w2 ⟨rfl, rfl⟩
          go_wp2_with fail
          go_loopw [5, 9] (fun v5 v9 wr => ∃ j : Nat, j ≤ m + 1 ∧ v9 = .int .i64 j ∧ wr.ownsRow BX 39 2 v5 (Hv.zs (Hv.lexT m T k ++ Hv.lexR T k j)).length (Hv.encs (Hv.zs (Hv.lexT m T k ++ Hv.lexR T k j))) ∧ wr.ownsRow w.heap.size 39 2 (.slice ta T.length tc) T.length (Hv.encs (Hv.zs T)) ∧ Below w.heap.size w wr ∧ BX ≤ wr.heap.size) (fun _ v9 _ => m + 1 - (intOf v9).toNat)
          case atStart => exact ⟨0, by omega, rfl, by rw [show Hv.lexR T k 0 = [] from rfl, List.append_nil]; exact (HO.out).1, (HO.out).2.1, (HO.out).2.2, hsz⟩
          case round =>
            obtain ⟨j, hj, rfl, hO2, hT2, hB2, hsz2⟩ := hrel
            have hl2 := hLR k j
            obtain ⟨ya, yc, hy⟩ := own_len hO2
            subst hy
            have hll : (Hv.zs (Hv.lexT m T k ++ Hv.lexR T k j)).length ≤ 2000 := by rw [Hv.zs_len, List.length_append]; omega
            by_cases hltj : j < m + 1
            · have hjm : (j : Int) ≤ (m : Int) := by omega
              have HAS := Lib.hid (phas_any (L := Hv.zs T) (x := .slice ta T.length tc) (by rw [Hv.zs_len]; exact hT2) (by rw [Hv.zs_len]; omega) (k : Int) (j : Int))
              have hmem : (((k : Int), (j : Int)) ∈ Hv.zs T) ↔ (k, j) ∈ T := Hv.zi_mem (p := (k, j))
              have hsc := Hv.lexR_succ T k j
              have HO2 := Lib.hid (And.intro hO2 (And.intro hT2 (And.intro hB2 (And.intro hmem hsc))))
              have hown := hO2
              clear hO2 hT2 hB2 hmem hsc
              by_cases hin : (k, j) ∈ T
              · have HIN := Lib.hid hin
                clear hin
                generalize hL : Hv.zs (Hv.lexT m T k ++ Hv.lexR T k j) = L at *
                have HL := Lib.hid hL
                clear hL
                go_wp2_with fail
                refine (RM.out _).mono ?_
                rintro e w3 ⟨rfl, rfl⟩
                go_wp2_with fail
                refine (HAS.out).mono ?_
                rintro e w3 ⟨rfl, rfl⟩
                rw [decide_eq_true ((HO2.out).2.2.2.1.2 HIN.out)]
                go_wp2_with (at_builtin; refine append_at (v := .slice ya L.length yc) rfl _ _ 36 rfl 39 (.agg #[.int .i64 0, .int .i64 0]) 2 16 Try.underlying36 Try.infoP rfl (by decide) rfl hown hsz2 [.int .i64 k, .int .i64 j] rfl (by simp [Value.oneCell']) rfl (by simp) (by decide) (by omega) ?_; intro g5 cap5 w5 own5 keep5 where5; have bel5 : Below w.heap.size w w5 := (HO2.out).2.2.1.trans (keep5.below (fun j hj => Nat.le_trans hwb (hown.lt j hj).1) (Nat.le_trans hwb hsz2)); have all5 := keep5.own (HO2.out).2.1 (fun j hj e => by have h1 := (hown.lt j e).1; have h2 := hOlt j hj; omega); have size5 := keep5.size)
                go_roundw
                case rel => exact ⟨j + 1, by omega, by go_num, by
                  have h2 : Hv.zs (Hv.lexT m T k ++ Hv.lexR T k (j + 1)) = L ++ [((k : Int), (j : Int))] := by rw [(HO2.out).2.2.2.2, if_pos HIN.out, ← List.append_assoc, Hv.zs_append, HL.out]; rfl
                  rw [h2, Hv.encs_snoc, List.length_append]; exact own5, all5, bel5, by omega⟩
                case measure => simp [intOf]; omega
              · have HIN := Lib.hid hin
                clear hin
                go_wp2_with fail
                refine (RM.out _).mono ?_
                rintro e w3 ⟨rfl, rfl⟩
                go_wp2_with fail
                refine (HAS.out).mono ?_
                rintro e w3 ⟨rfl, rfl⟩
                rw [decide_eq_false (fun h => HIN.out ((HO2.out).2.2.2.1.1 h))]
                go_wp2_with fail
                go_roundw
                case rel => exact ⟨j + 1, by omega, by go_num, by rw [(HO2.out).2.2.2.2, if_neg HIN.out, List.append_nil]; exact hown, (HO2.out).2.1, (HO2.out).2.2.1, hsz2⟩
                case measure => simp [intOf]; omega
            · have hjm : ¬ (j : Int) ≤ (m : Int) := by omega
              have hje : j = m + 1 := by omega
              subst hje
              have HO2 := Lib.hid (And.intro hO2 (And.intro hT2 hB2))
              clear hO2 hT2 hB2
              go_wp2_with fail
              refine (RM.out _).mono ?_
              rintro e w3 ⟨rfl, rfl⟩
              go_wp2_with fail
              go_roundw
              case rel =>
                refine ⟨k + 1, by omega, by go_num, ?_, (HO2.out).2.1, (HO2.out).2.2, hsz2⟩
                rw [Hv.lexT_succ]
                exact (HO2.out).1
              case measure => simp [intOf]; omega
        · have hkm : ¬ (k : Int) ≤ (m : Int) := by omega
          have hke : k = m + 1 := by omega
          subst hke
          have HO := Lib.hid (And.intro hO (And.intro hTr hB))
          clear hO hTr hB
          go_wp2_with fail
          refine (RM.out _).mono ?_
          rintro e w2 ⟨rfl, rfl⟩
          go_wp2_with fail
          go_ret
          have hfin : wr.ownsRow w.heap.size 39 2 (.slice xa (Hv.zs (Hv.lexT m T (m + 1))).length xc) ((Hv.lex m (Hv.tru m n n)).map Hv.zi).length (Hv.encs ((Hv.lex m (Hv.tru m n n)).map Hv.zi)) := by rw [← HTT.out]; exact prow_base (HO.out).1 hwb
          exact ⟨_, rfl, hfin, (HO.out).2.2⟩
    · have hb : ((z : Int) == (q : Int)) = false := by simp; omega
      rw [if_neg hzq] at hnE
      subst hnE
      have HZ := Lib.hid hzq
      clear hzq
      go_enter Try.func40, Try.ntmps40
      go_wp2_with fail
      refine (RC.out _).mono ?_
      rintro e w1 ⟨rfl, rfl⟩
      go_wp2_with fail
      refine (RK.out _).mono ?_
      rintro e w1 ⟨rfl, rfl⟩
      go_wp2_with fail
      refine (TR.out _).mono ?_
      rintro e w1 ⟨x1, rfl, hO1, hB1⟩
      have hTl := Hv.tru_len m n n
      obtain ⟨T, hT⟩ : ∃ T, T = Hv.tru m n n := ⟨_, rfl⟩
      rw [← hT] at hO1 hTl
      have HTT := Lib.hid hT
      have hLT := Hv.lexT_len m T
      have hLR := Hv.lexR_len T
      obtain ⟨ta, tc, hx1⟩ := own_len hO1
      subst hx1
      obtain ⟨BX, hBX⟩ : ∃ BX, w1.heap.size = BX := ⟨_, rfl⟩
      have hOlt0 := hO1.lt
      rw [hBX] at hOlt0
      have hOlt : ∀ j, (Value.slice ta T.length tc).ownBlock = some j → j < BX := fun j hj => (hOlt0 j (by rw [List.length_map]; exact hj)).2
      have hO1' : w1.ownsRow w.heap.size 39 2 (.slice ta T.length tc) T.length (Hv.encs (Hv.zs T)) := by have := hO1; rw [List.length_map] at this; exact this
      have H1 := Lib.hid (And.intro hO1' hB1)
      have hwb : w.heap.size ≤ BX := by have := hB1.size; omega
      clear hO1 hO1' hB1 hT
      go_wp2_with fail
      go_loopw [5, 8, 9] (fun v5 v8 _ wr => ∃ k : Nat, k ≤ m + 1 ∧ v8 = .int .i64 k ∧ wr.ownsRow BX 39 2 v5 (Hv.zs (Hv.lexT m T k)).length (Hv.encs (Hv.zs (Hv.lexT m T k))) ∧ wr.ownsRow w.heap.size 39 2 (.slice ta T.length tc) T.length (Hv.encs (Hv.zs T)) ∧ Below w.heap.size w wr ∧ BX ≤ wr.heap.size) (fun _ v8 _ _ => m + 1 - (intOf v8).toNat)
      case atStart => exact ⟨0, by omega, rfl, (by exact World.ownsRow_nil _ _ _ _), (H1.out).1, (H1.out).2, by omega⟩
      case round =>
        obtain ⟨k, hk, rfl, hO, hTr, hB, hsz⟩ := hrel
        have hl1 := hLT k
        obtain ⟨xa, xc, hx⟩ := own_len hO
        subst hx
        by_cases hlt : k < m + 1
        · have hkm : (k : Int) ≤ (m : Int) := by omega
          have hle3 : k * (m + 1) ≤ 32 * 32 := Nat.mul_le_mul (by omega) (by omega)
          have HO := Lib.hid (And.intro hO (And.intro hTr hB))
          clear hO hTr hB
          go_wp2_with fail
          refine (RM.out _).mono ?_
          rintro e w2 ⟨rfl, rfl⟩
          go_wp2_with fail
          go_loopw [5, 9] (fun v5 v9 wr => ∃ j : Nat, j ≤ m + 1 ∧ v9 = .int .i64 j ∧ wr.ownsRow BX 39 2 v5 (Hv.zs (Hv.lexT m T k ++ Hv.lexR T k j)).length (Hv.encs (Hv.zs (Hv.lexT m T k ++ Hv.lexR T k j))) ∧ wr.ownsRow w.heap.size 39 2 (.slice ta T.length tc) T.length (Hv.encs (Hv.zs T)) ∧ Below w.heap.size w wr ∧ BX ≤ wr.heap.size) (fun _ v9 _ => m + 1 - (intOf v9).toNat)
          case atStart => exact ⟨0, by omega, rfl, by rw [show Hv.lexR T k 0 = [] from rfl, List.append_nil]; exact (HO.out).1, (HO.out).2.1, (HO.out).2.2, hsz⟩
          case round =>
            obtain ⟨j, hj, rfl, hO2, hT2, hB2, hsz2⟩ := hrel
            have hl2 := hLR k j
            obtain ⟨ya, yc, hy⟩ := own_len hO2
            subst hy
            have hll : (Hv.zs (Hv.lexT m T k ++ Hv.lexR T k j)).length ≤ 2000 := by rw [Hv.zs_len, List.length_append]; omega
            by_cases hltj : j < m + 1
            · have hjm : (j : Int) ≤ (m : Int) := by omega
              have HAS := Lib.hid (phas_any (L := Hv.zs T) (x := .slice ta T.length tc) (by rw [Hv.zs_len]; exact hT2) (by rw [Hv.zs_len]; omega) (k : Int) (j : Int))
              have hmem : (((k : Int), (j : Int)) ∈ Hv.zs T) ↔ (k, j) ∈ T := Hv.zi_mem (p := (k, j))
              have hsc := Hv.lexR_succ T k j
              have HO2 := Lib.hid (And.intro hO2 (And.intro hT2 (And.intro hB2 (And.intro hmem hsc))))
              have hown := hO2
              clear hO2 hT2 hB2 hmem hsc
              by_cases hin : (k, j) ∈ T
              · have HIN := Lib.hid hin
                clear hin
                generalize hL : Hv.zs (Hv.lexT m T k ++ Hv.lexR T k j) = L at *
                have HL := Lib.hid hL
                clear hL
                go_wp2_with fail
                refine (RM.out _).mono ?_
                rintro e w3 ⟨rfl, rfl⟩
                go_wp2_with fail
                refine (HAS.out).mono ?_
                rintro e w3 ⟨rfl, rfl⟩
                rw [decide_eq_true ((HO2.out).2.2.2.1.2 HIN.out)]
                go_wp2_with (at_builtin; refine append_at (v := .slice ya L.length yc) rfl _ _ 36 rfl 39 (.agg #[.int .i64 0, .int .i64 0]) 2 16 Try.underlying36 Try.infoP rfl (by decide) rfl hown hsz2 [.int .i64 k, .int .i64 j] rfl (by simp [Value.oneCell']) rfl (by simp) (by decide) (by omega) ?_; intro g5 cap5 w5 own5 keep5 where5; have bel5 : Below w.heap.size w w5 := (HO2.out).2.2.1.trans (keep5.below (fun j hj => Nat.le_trans hwb (hown.lt j hj).1) (Nat.le_trans hwb hsz2)); have all5 := keep5.own (HO2.out).2.1 (fun j hj e => by have h1 := (hown.lt j e).1; have h2 := hOlt j hj; omega); have size5 := keep5.size)
                go_roundw
                case rel => exact ⟨j + 1, by omega, by go_num, by
                  have h2 : Hv.zs (Hv.lexT m T k ++ Hv.lexR T k (j + 1)) = L ++ [((k : Int), (j : Int))] := by rw [(HO2.out).2.2.2.2, if_pos HIN.out, ← List.append_assoc, Hv.zs_append, HL.out]; rfl
                  rw [h2, Hv.encs_snoc, List.length_append]; exact own5, all5, bel5, by omega⟩
                case measure => simp [intOf]; omega
              · have HIN := Lib.hid hin
                clear hin
                go_wp2_with fail
                refine (RM.out _).mono ?_
                rintro e w3 ⟨rfl, rfl⟩
                go_wp2_with fail
                refine (HAS.out).mono ?_
                rintro e w3 ⟨rfl, rfl⟩
                rw [decide_eq_false (fun h => HIN.out ((HO2.out).2.2.2.1.1 h))]
                go_wp2_with fail
                go_roundw
                case rel => exact ⟨j + 1, by omega, by go_num, by rw [(HO2.out).2.2.2.2, if_neg HIN.out, List.append_nil]; exact hown, (HO2.out).2.1, (HO2.out).2.2.1, hsz2⟩
                case measure => simp [intOf]; omega
            · have hjm : ¬ (j : Int) ≤ (m : Int) := by omega
              have hje : j = m + 1 := by omega
              subst hje
              have HO2 := Lib.hid (And.intro hO2 (And.intro hT2 hB2))
              clear hO2 hT2 hB2
              go_wp2_with fail
              refine (RM.out _).mono ?_
              rintro e w3 ⟨rfl, rfl⟩
              go_wp2_with fail
              go_roundw
              case rel =>
                refine ⟨k + 1, by omega, by go_num, ?_, (HO2.out).2.1, (HO2.out).2.2, hsz2⟩
                rw [Hv.lexT_succ]
                exact (HO2.out).1
              case measure => simp [intOf]; omega
        · have hkm : ¬ (k : Int) ≤ (m : Int) := by omega
          have hke : k = m + 1 := by omega
          subst hke
          have HO := Lib.hid (And.intro hO (And.intro hTr hB))
          clear hO hTr hB
          go_wp2_with fail
          refine (RM.out _).mono ?_
          rintro e w2 ⟨rfl, rfl⟩
          go_wp2_with fail
          go_ret
          have hfin : wr.ownsRow w.heap.size 39 2 (.slice xa (Hv.zs (Hv.lexT m T (m + 1))).length xc) ((Hv.lex m (Hv.tru m n n)).map Hv.zi).length (Hv.encs ((Hv.lex m (Hv.tru m n n)).map Hv.zi)) := by rw [← HTT.out]; exact prow_base (HO.out).1 hwb
          exact ⟨_, rfl, hfin, (HO.out).2.2⟩
end Go.Proofs.Ytnljihankodedaa
