/-
  The law of what is put: by a walk.
-/
import Derived.Test.YtpbgicfoopicbaaPutWalk
namespace Go.Proofs.Ytpbgicfoopicbaa
open Go.RowKit
set_option linter.unusedVariables false
set_option linter.unusedSimpArgs false

theorem catTo_len {ks : List Kd} : ∀ k, (∀ i (hi : i < ks.length), i < k → ks[i].l.length ≤ 100) → k ≤ ks.length → (catTo ks k).length ≤ k * 100
  | 0, _, _ => by rw [catTo_zero]; simp
  | k + 1, hs, hk => by
    have h1 := catTo_len k (fun i hi hik => hs i hi (by omega)) (by omega)
    have h2 := hs k (by omega) (by omega)
    rw [catTo_succ (by omega), List.length_append]
    omega
theorem reads_own {w : World} {B g n cap size : Nat} {e : TypeId} {xs : List Value} (h : w.ownsRow B e size (.slice (some ⟨g, 0, none⟩) n cap) n xs) : Reads w (some ⟨g, 0, none⟩) xs :=
  Or.inr ⟨g, 0, rfl, fun j hj => by rw [Nat.zero_add, h.cellAt j (by first | exact hj | (rw [← h.1]; exact hj))]⟩
theorem reads_any {w : World} {B n size cap : Nat} {a : Option Addr} {e : TypeId} {xs : List Value} (h : w.ownsRow B e size (.slice a n cap) n xs) (h0 : 0 < size) : Reads w a xs := by
  rcases Nat.eq_zero_or_pos n with h1 | h1
  · have h2 := h.1
    rw [h1, Nat.zero_mul] at h2
    exact Or.inl (List.eq_nil_of_length_eq_zero h2)
  · obtain ⟨g, cap', hv, _⟩ := own_some h h1
    simp only [Value.slice.injEq, true_and] at hv
    obtain ⟨rfl, rfl⟩ := hv
    exact reads_own h
theorem chk_bool (l : List It) : (chk l == 0) = fm l := by
  cases hf : fm l with
  | true => rw [chk_ok hf]; rfl
  | false => rw [beq_eq_false_iff_ne]; rcases chk_no hf with h | h | h <;> omega
set_option maxRecDepth 100000 in
set_option maxHeartbeats 2000000 in
theorem treePuts_walk (op : Int) (a : Option Addr) (c : Nat) (ks : List Kd) (w : World) (hk : RdK w a ks) (hm : ks.length ≤ maxLen) :
    Calls Try.prog 6 #[.int .i64 op, .slice a ks.length c] w fun e w' => e = .returned (.bool true) ∧ Below w.heap.size w w' := by
  have hu : ∀ b : Bool, ¬ (some undef = some (Value.bool b)) := fun b h => by cases h
  have hm2 : ks.length ≤ 9223372036854775807 := by unfold maxLen at hm; omega
  by_cases h4 : 4 < ks.length
  · clear hk hm
    go_enter Try.func6, Try.ntmps6
    go_wp2_with fail
    refine (awake04_end w w (Below.refl _ _)).mono ?_
    rintro e w7 ⟨rfl, hb7⟩
    go_wp2_with fail
    go_ret
    exact ⟨rfl, hb7⟩
  · have h4l : ks.length ≤ 4 := by omega
    have HK := Lib.hid hk
    have AR := arity_any op w
    unfold ArAns at AR
    obtain ⟨B0, hB0⟩ : ∃ B0, (Tr.ar op == (ks.length : Int)) = B0 := ⟨_, rfl⟩
    have HM : Hid (∀ k, mayTo op ks k = (B0 && fmTo ks k)) := Lib.hid (fun k => by unfold mayTo; rw [hB0])
    have AR2 := Lib.hid AR
    clear hk hm AR h4
    generalize Tr.ar op = n at *
    go_enter Try.func6, Try.ntmps6
    go_wp2_with fail
    refine AR2.out.mono ?_
    rintro e w2 ⟨rfl, rfl⟩
    clear AR2
    go_wp2_with fail
    go_loopw [5, 6, 7] (fun v5 v6 v7 wr => ∃ k : Nat, k ≤ ks.length ∧ v7 = .int .i64 k ∧ v6 = .bool (mayTo op ks k) ∧ wr.ownsRow w.heap.size 42 9 v5 (catTo ks k).length (Rec.flat It.cells (catTo ks k)) ∧ Hid (∀ i (hi : i < ks.length), i < k → ks[i].l.length ≤ 100) ∧ Below w.heap.size w wr) (fun _ _ v7 _ => ks.length - (intOf v7).toNat)
    case atStart => exact ⟨0, by omega, rfl, by rw [HM.out]; simp [fmTo], World.ownsRow_nil _ _ _ _, Lib.hid (fun i hi h => by omega), Below.refl _ _⟩
    case round =>
      obtain ⟨k, hk, rfl, rfl, hown, HS, hb⟩ := hrel
      obtain ⟨a5, c5, hv5⟩ := own_len hown
      subst hv5
      have hcl := catTo_len k HS.out hk
      by_cases hlt : k < ks.length
      · obtain ⟨b, off, ha, hrg⟩ := HK.out.at (by omega)
        subst ha
        have h0 := hrg k hlt
        have hcell : wr.cell? ⟨b, off + k, none⟩ = some (.slice ks[k].a ks[k].l.length ks[k].c) := (hb.cell (p := ⟨b, off + k, none⟩) (lt_of_cell h0)).trans h0
        have hea := HK.out.each ks[k] (List.getElem_mem hlt)
        have hrx := hea.1.mono hb (Nat.le_refl _)
        have RC := rcheck_any ks[k].a ks[k].c ks[k].l wr hrx hea.2
        have hcb := chk_bool ks[k].l
        have RX := Lib.hid hrx
        have HM1 : Hid (mayTo op ks (k + 1) = (mayTo op ks k && fm ks[k].l)) := Lib.hid (by rw [HM.out, HM.out, fmTo_succ hlt, Bool.and_assoc])
        have HN := Lib.hid (catTo_succ hlt)
        have HS1 : Hid (ks[k].l.length ≤ 100 → ∀ i (hi : i < ks.length), i < k + 1 → ks[i].l.length ≤ 100) := Lib.hid (fun h i hi hik => by
          by_cases e : i = k
          · subst e; exact h
          · exact HS.out i hi (by omega))
        have hxm := hea.2
        have HO := Lib.hid (And.intro hown hb)
        have hsz := hb.size
        clear hrg h0 hea hrx hown hb
        generalize ks[k] = x at *
        by_cases h100 : 100 < x.l.length
        · have hxm2 : x.l.length ≤ 9223372036854775807 := by unfold maxLen at hxm; omega
          clear RC hcb
          go_wp2_with fail
          refine (awake04_end w wr (HO.out).2).mono ?_
          rintro e w7 ⟨rfl, hb7⟩
          go_wp2_with fail
          go_ret
          exact ⟨rfl, hb7⟩
        · have h100b : x.l.length ≤ 100 := by omega
          have RC2 := Lib.hid RC
          clear RC h100 hxm
          generalize chk x.l = z at *
          generalize fm x.l = q at *
          cases hmv : mayTo op ks k with
          | false =>
            rw [hmv] at HM1
            clear hmv RC2
            go_wp2_with (at_builtin; refine append_any (v := .slice a5 (catTo ks k).length c5) rfl (.tmp 43) (.tmp 47) 22 rfl 42 _ 9 104 Try.underlying22 infoItem rfl (by decide) rfl (HO.out).1 hsz x.a x.l.length x.c (Rec.flat It.cells x.l) rfl (Rec.flat_len It.cells_len _) RX.out (items_one _) (by decide) (by omega) ?_; intro v6 w6 own6 keep6 where6; have H6 := Lib.hid (And.intro own6 ((HO.out).2.trans (keep6.below (fun j hj => ((HO.out).1.lt j hj).1) hsz))); clear own6 keep6 where6)
            go_roundw
            case rel => exact ⟨k + 1, by omega, by go_num, by rw [HM1.out]; rfl, by rw [HN.out, List.length_append, flat_app]; exact (H6.out).1, Lib.hid (HS1.out h100b), (H6.out).2⟩
            case measure => simp [intOf] <;> omega
          | true =>
            rw [hmv] at HM1
            clear hmv
            go_wp2_with fail
            refine RC2.out.mono ?_
            rintro e w3 ⟨rfl, rfl⟩
            clear RC2
            go_wp2_with (at_builtin; refine append_any (v := .slice a5 (catTo ks k).length c5) rfl (.tmp 43) (.tmp 47) 22 rfl 42 _ 9 104 Try.underlying22 infoItem rfl (by decide) rfl (HO.out).1 hsz x.a x.l.length x.c (Rec.flat It.cells x.l) rfl (Rec.flat_len It.cells_len _) RX.out (items_one _) (by decide) (by omega) ?_; intro v6 w6 own6 keep6 where6; have H6 := Lib.hid (And.intro own6 ((HO.out).2.trans (keep6.below (fun j hj => ((HO.out).1.lt j hj).1) hsz))); clear own6 keep6 where6)
            go_roundw
            case rel => exact ⟨k + 1, by omega, by go_num, by rw [HM1.out, Bool.true_and], by rw [HN.out, List.length_append, flat_app]; exact (H6.out).1, Lib.hid (HS1.out h100b), (H6.out).2⟩
            case measure => simp [intOf] <;> omega
      · have hke : k = ks.length := by omega
        subst hke
        have hs : ∀ k ∈ ks, k.l.length ≤ 100 := fun k hk => by
          obtain ⟨i, hi, rfl⟩ := List.getElem_of_mem hk
          exact HS.out i hi hi
        have PC := Lib.hid (put_any a c op ks wr (HK.out.mono hb (Nat.le_refl _)) h4l hs)
        have HPU : Hid (puts op ks = (mayTo op ks ks.length && decide ((catTo ks ks.length).length < 64))) := Lib.hid rfl
        have PK : Hid (puts op ks = true → kidsOf (putL op ks) ((catTo ks ks.length).length : Int) = ends ks) := Lib.hid put_kids
        have PL : Hid (putL op ks = catTo ks ks.length ++ [it0 op]) := Lib.hid rfl
        have EA := Lib.hid (fun i (hi : i < ks.length) => ends_at hi)
        have CS := Lib.hid (fun i (hi : i < ks.length) => catTo_succ hi)
        have HO := Lib.hid (And.intro hown hb)
        have HCL : Hid (∀ i, i ≤ ks.length → (catTo ks i).length ≤ i * 100) := Lib.hid (fun i hi => catTo_le hs i hi)
        obtain ⟨L, hL⟩ : ∃ L, catTo ks ks.length = L := ⟨_, rfl⟩
        rw [hL] at HPU PK PL HO hcl ⊢
        unfold PutAns at PC
        rw [hL] at PC
        have HL := Lib.hid hL
        have hl9 : L.length ≤ 400 := by omega
        clear hs hown hb hL hcl
        generalize mayTo op ks ks.length = m at *
        go_wp2_with fail
        refine PC.out.mono ?_
        intro e w3 hq
        rcases hq with ⟨hp, rfl, b3⟩ | ⟨hp, g, cap, rfl, own3, b3⟩
        · have B3 := Lib.hid ((HO.out).2.trans (b3.mono (HO.out).2.size))
          rw [hp] at HPU
          clear b3 PC hp
          cases m with
          | false =>
            go_wp2_with fail
            refine (awake04_end w w3 B3.out).mono ?_
            rintro e w7 ⟨rfl, hb7⟩
            go_wp2_with fail
            go_ret
            exact ⟨rfl, hb7⟩
          | true =>
            have h64 : 64 ≤ L.length := by
              have h1 := HPU.out
              rw [Bool.true_and] at h1
              have h2 := of_decide_eq_false h1.symm
              omega
            go_wp2_with fail
            refine (awake04_end w w3 B3.out).mono ?_
            rintro e w7 ⟨rfl, hb7⟩
            go_wp2_with fail
            go_ret
            exact ⟨rfl, hb7⟩
        · have hb3 := (HO.out).2.trans (b3.mono (HO.out).2.size)
          have B3 := Lib.hid hb3
          have hp2 := HPU.out
          rw [hp] at hp2
          have hp3 := Bool.and_eq_true_iff.1 hp2.symm
          obtain ⟨hm1, hm3⟩ := hp3
          have h64 : L.length < 64 := of_decide_eq_true hm3
          subst hm1
          have hk3 := PK.out hp
          rw [PL.out] at own3 hk3
          have ra := reads_any (own_below (HO.out).1 b3) (by decide)
          have rg : RdI w3 (some ⟨g, 0, none⟩) (L ++ [it0 op]) := reads_own own3
          have rg2 := RdI.piece rg 0 L.length
          rw [List.drop_zero, List.take_left' rfl] at rg2
          obtain ⟨g', cap', hv3, _, hcap, hcm, hgl⟩ := own_some own3 (by omega)
          simp only [Value.slice.injEq, Option.some.injEq, Addr.mk.injEq, and_true, true_and] at hv3
          obtain ⟨rfl, rfl⟩ := hv3
          have EX := Lib.hid (exact_any (some ⟨g, 0, none⟩) a5 cap c5 L w3 rg2 ra (by unfold maxLen; omega))
          have hri := own_range It.cells_len own3 L.length (by simp)
          rw [List.getElem_append_right (Nat.le_refl _)] at hri
          simp only [Nat.sub_self, List.getElem_cons_zero] at hri
          have hq := fun w => eqItem (it0 op) (it0 op) w
          unfold sameB it0 at hq
          simp only [beq_self_eq_true, Bool.and_self, Bool.and_true] at hq
          have HRI := Lib.hid (And.intro hri (And.intro rg hk3))
          clear own3 b3 hb3 PC hp hp2 hm3 hk3 ra rg rg2 hri HPU PK PL
          go_wp2_with fail
          refine EX.out.mono ?_
          rintro e w4 ⟨rfl, b4⟩
          have hri4 := range_mono (HRI.out).1 b4 (Nat.le_refl _)
          obtain ⟨c0, c1, c2, c3, c4, c5', c6, c7, c8⟩ := cells_of hri4
          unfold it0 at c0 c1 c2 c3 c4 c5' c6 c7 c8
          simp only at c0 c1 c2 c3 c4 c5' c6 c7 c8
          have B4 := Lib.hid (B3.out.trans (b4.mono B3.out.size))
          have KC := tkids_any (some ⟨g, 0, none⟩) cap (L ++ [it0 op]) L.length w4 ((HRI.out).2.1.mono b4 (Nat.le_refl _)) (by simp [maxLen]; omega)
          rw [(HRI.out).2.2, List.length_append, List.length_singleton] at KC
          unfold IntsAns at KC
          rw [ends_len] at KC
          have KC2 := Lib.hid KC
          clear b4 hri4 KC EX
          go_wp2_with fail
          refine KC2.out.mono ?_
          rintro e w5 ⟨x, rfl, own5, b5⟩
          obtain ⟨a9, c9, hv9⟩ := own_len own5
          subst hv9
          have B5 := Lib.hid (B4.out.trans (b5.mono B4.out.size))
          have HO5 := Lib.hid own5
          clear own5 b5 KC2 c0 c1 c2 c3 c4 c5' c6 c7 c8 hq
          go_wp2_with fail
          go_loopw [10, 11] (fun v10 v11 wr => ∃ k : Nat, k ≤ ks.length ∧ v11 = .int .i64 k ∧ v10 = .int .i64 (catTo ks k).length ∧ w5 = wr) (fun _ v11 _ => ks.length - (intOf v11).toNat)
          case atStart => exact ⟨0, by omega, rfl, by rw [catTo_zero]; rfl, rfl⟩
          case round =>
            obtain ⟨k, hk, rfl, rfl, rfl⟩ := hrel
            have hcl := HCL.out k hk
            by_cases hlt : k < ks.length
            · obtain ⟨b, off, ha, hrg⟩ := HK.out.at (by omega)
              subst ha
              have h0 := hrg k hlt
              have hcell : w5.cell? ⟨b, off + k, none⟩ = some (.slice ks[k].a ks[k].l.length ks[k].c) := (B5.out.cell (p := ⟨b, off + k, none⟩) (lt_of_cell h0)).trans h0
              obtain ⟨g9, c9', hv9, _⟩ := own_some HO5.out (by omega)
              simp only [Value.slice.injEq, true_and] at hv9
              obtain ⟨rfl, rfl⟩ := hv9
              have hend := own_cell1 HO5.out k _ (by rw [List.getElem?_map, EA.out k hlt]; rfl)
              have hcs := CS.out k hlt
              have hcl1 := HCL.out (k + 1) (by omega)
              rw [hcs, List.length_append] at hend hcl1
              have HCS := Lib.hid hcs
              clear hrg h0 hcs
              generalize ks[k] = y at *
              rw [show (((catTo ks k).length + y.l.length : Nat) : Int) - 1 = ((catTo ks k).length : Int) + (y.l.length : Int) - 1 by omega] at hend
              obtain ⟨p, hp⟩ : ∃ p, (catTo ks k).length = p := ⟨_, rfl⟩
              obtain ⟨r, hr⟩ : ∃ r, y.l.length = r := ⟨_, rfl⟩
              rw [hp, hr] at hend hcl1
              rw [hp] at hcl ⊢
              rw [hr] at hcell
              have HPR := Lib.hid (And.intro hp hr)
              clear hp hr
              go_wp2_with fail
              go_roundw
              case rel => exact ⟨k + 1, by omega, by go_num, by rw [HCS.out, List.length_append, (HPR.out).1, (HPR.out).2]; go_num, trivial⟩
              case measure => simp [intOf] <;> omega
            · have hke : k = ks.length := by omega
              subst hke
              go_wp2_with fail
              refine (awake04_end w w5 B5.out).mono ?_
              rintro e w7 ⟨rfl, hb7⟩
              go_wp2_with fail
              go_ret
              exact ⟨rfl, hb7⟩
end Go.Proofs.Ytpbgicfoopicbaa
