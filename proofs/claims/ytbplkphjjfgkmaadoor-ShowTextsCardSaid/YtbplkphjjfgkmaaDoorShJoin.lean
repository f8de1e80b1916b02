/-
  (show.piece).within, show.join: by walks.
-/
import Derived.Test.YtbplkphjjfgkmaaDoorShAtom
import Derived.Test.YtbplkphjjfgkmaaDoorObj
namespace Go.Proofs.YtbplkphjjfgkmaaDoor
open Go.RowKit
set_option linter.unusedVariables false
set_option linter.unusedSimpArgs false

/-- A piece's text, in brackets where it is less tight. -/
def innB (t : Int) (A : ByteArray) (least : Int) : ByteArray := if t < least then ⟨#[40]⟩ ++ A ++ ⟨#[41]⟩ else A
theorem innB_size (t : Int) (A : ByteArray) (least : Int) : (innB t A least).size ≤ A.size + 2 := by
  unfold innB
  split
  · rw [ByteArray.size_append, ByteArray.size_append]
    have h1 : (⟨#[40]⟩ : ByteArray).size = 1 := rfl
    have h2 : (⟨#[41]⟩ : ByteArray).size = 1 := rfl
    omega
  · omega
theorem innB_list (t : Int) (A : ByteArray) (least : Int) : (innB t A least).data.toList = Sh.inn t A.data.toList least := by
  unfold innB Sh.inn
  split <;> simp
theorem below_any (a b : Int) (w : World) : Calls Tryd.prog 142 #[.int .i64 a, .int .i64 b] w fun e w' => e = .returned (.bool (decide (a < b))) ∧ w = w' := by
  go_enter Tryd.func142, Tryd.ntmps142
  go_wp2
  go_ret
  exact ⟨rfl, rfl⟩
set_option maxHeartbeats 4000000 in
theorem within_any (t least : Int) (A : ByteArray) (w : World) (hA : A.size ≤ 100000) :
    Calls Tryd.prog 79 #[.agg #[.int .i64 t, .string A], .int .i64 least] w fun e w' => e = .returned (.string (innB t A least)) ∧ Below w.heap.size w w' := by
  have hb1 := sh_bn w (.cells #[.int .i64 t, .string A] 124)
  obtain ⟨W1, hW1⟩ : ∃ W1 : World, W1 = w.alloc (.cells #[.int .i64 t, .string A] 124) := ⟨_, rfl⟩
  rw [← hW1] at hb1
  have c0 : W1.cell? ⟨w.heap.size, 0, none⟩ = some (.int .i64 t) := by rw [hW1, World.cell?_alloc_at _ _ _ _ rfl]; rfl
  have c1 : W1.cell? ⟨w.heap.size, 1, none⟩ = some (.string A) := by rw [hW1, World.cell?_alloc_at _ _ _ _ rfl]; rfl
  have HB := Lib.hid hb1
  have HW := Lib.hid hW1
  have HBL := Lib.hid (below_any t least W1)
  have hsa := ba_app
  have hs1 : (⟨#[40]⟩ : ByteArray).size = 1 := rfl
  have hs2 : (⟨#[41]⟩ : ByteArray).size = 1 := rfl
  have y1 : ¬ 9223372036854775807 < 1 + A.size := by omega
  have y2 : ¬ 9223372036854775807 < 1 + A.size + 1 := by omega
  clear hb1 hW1
  unfold innB
  by_cases h : t < least
  · rw [decide_eq_true h] at HBL
    rw [if_pos h]
    clear h
    go_enter Tryd.func79, Tryd.ntmps79
    go_upto_region 1 with fail
    rw [← HW.out]
    clear HW
    go_wp2_with fail
    refine HBL.out.mono ?_
    rintro e w2 ⟨rfl, rfl⟩
    go_wp2_with fail
    go_ret
    exact ⟨rfl, HB.out⟩
  · rw [decide_eq_false h] at HBL
    rw [if_neg h]
    clear h
    go_enter Tryd.func79, Tryd.ntmps79
    go_upto_region 1 with fail
    rw [← HW.out]
    clear HW
    go_wp2_with fail
    refine HBL.out.mono ?_
    rintro e w2 ⟨rfl, rfl⟩
    go_wp2_with fail
    go_ret
    exact ⟨rfl, HB.out⟩
theorem set2_keep {W : World} {p : Nat} {q : Addr} {x0 x1 v : Value} (h : W.cell? q = some v) (hne : q.block ≠ p) : ((W.setCell ⟨p, 0, none⟩ x0).setCell ⟨p, 1, none⟩ x1).cell? q = some v := by
  have h0 : (⟨p, 0, none⟩ : Addr) ≠ q := fun e => hne (by rw [← e])
  have h1 : (⟨p, 1, none⟩ : Addr) ≠ q := fun e => hne (by rw [← e])
  rw [World.cell?_setCell_other _ _ _ _ h1, World.cell?_setCell_other _ _ _ _ h0]
  exact h
theorem set2_bel {W V : World} {p B : Nat} {x0 x1 : Value} (h : Below B V W) (hp : B ≤ p) : Below B V ((W.setCell ⟨p, 0, none⟩ x0).setCell ⟨p, 1, none⟩ x1) := (h.setCell (p := ⟨p, 0, none⟩) hp x0).setCell (p := ⟨p, 1, none⟩) hp x1
theorem set2_cells {W : World} {p : Nat} {T : TypeId} {y0 y1 x0 x1 : Value} (h : W.heap[p]? = some (.cells #[y0, y1] T (0, 0))) : ((W.setCell ⟨p, 0, none⟩ x0).setCell ⟨p, 1, none⟩ x1).cell? ⟨p, 0, none⟩ = some x0 ∧ ((W.setCell ⟨p, 0, none⟩ x0).setCell ⟨p, 1, none⟩ x1).cell? ⟨p, 1, none⟩ = some x1 := by
  have b0 := cell_of_row W p 0 _ _ _ h
  have b1 := cell_of_row W p 1 _ _ _ h
  simp at b0 b1
  constructor <;> simp [World.cell?_setCell_other, World.cell?_setCell_same, b0, b1]
theorem ret_piece {Q : Ending → World → Prop} {ds : Act} {F : World} {p : Nat} {x0 x1 : Value} (hp : ds.tmps[6]?.getD undef = .pointer (some ⟨p, 0, none⟩)) (hd : ds.defers = []) (c0 : F.cell? ⟨p, 0, none⟩ = some x0) (c1 : F.cell? ⟨p, 1, none⟩ = some x1) (h : Q (.returned (.agg #[x0, x1])) F) :
    bodyPost Tryd.prog Tryd.f80 Q Exit.ret ds F :=
  bodyPost_ret (v := .agg #[x0, x1]) (by simp [results, Tryd.results80, go_sem, hp, c0, c1]) hd h
theorem two_is {op : Int} (h : op = 16 ∨ op = 17 ∨ op = 18) (ta tb : Int) (A B : ByteArray) : (innB ta A (Sh.la op) ++ (⟨#[32]⟩ ++ ⟨(Sh.sgn op).toArray⟩ ++ ⟨#[32]⟩) ++ innB tb B (Sh.lb op) : ByteArray) = ⟨(Sh.two op ta tb A.data.toList B.data.toList).toArray⟩ := by
  apply ba_eq
  unfold Sh.two
  rw [if_pos h]
  simp [innB_list]
theorem two_un {op : Int} (h : ¬ (op = 16 ∨ op = 17 ∨ op = 18)) (ta tb : Int) (A B : ByteArray) : (⟨(Sh.sgn op).toArray⟩ ++ ⟨#[32, 91]⟩ ++ A ++ ⟨#[32, 85, 32]⟩ ++ B ++ ⟨#[93]⟩ : ByteArray) = ⟨(Sh.two op ta tb A.data.toList B.data.toList).toArray⟩ := by
  apply ba_eq
  unfold Sh.two
  rw [if_neg h]
  simp
set_option maxHeartbeats 16000000 in
theorem join_any (op ta tb : Int) (A B : ByteArray) (w : World) (hA : A.size ≤ 100000) (hB : B.size ≤ 100000) :
    Calls Tryd.prog 80 #[.int .i64 op, .agg #[.int .i64 ta, .string A], .agg #[.int .i64 tb, .string B]] w fun e w' => e = .returned (.agg #[.int .i64 (Sh.tg op), .string ⟨(Sh.two op ta tb A.data.toList B.data.toList).toArray⟩]) ∧ Below w.heap.size w w' := by
  obtain ⟨W3, hW3⟩ : ∃ W3 : World, W3 = ((w.alloc (.cells #[.int .i64 ta, .string A] 124)).alloc (.cells #[.int .i64 tb, .string B] 124)).alloc (.cells #[.int .i64 0, .string { data := #[] }] 124) := ⟨_, rfl⟩
  have hb : Below w.heap.size w W3 ∧ W3.cell? ⟨w.heap.size, 0, none⟩ = some (.int .i64 ta) ∧ W3.cell? ⟨w.heap.size, 1, none⟩ = some (.string A) ∧ W3.cell? ⟨w.heap.size + 1, 0, none⟩ = some (.int .i64 tb) ∧ W3.cell? ⟨w.heap.size + 1, 1, none⟩ = some (.string B) ∧ W3.heap[w.heap.size + 1 + 1]? = some (.cells #[.int .i64 0, .string { data := #[] }] 124 (0, 0)) ∧ W3.heap.size = w.heap.size + 1 + 1 + 1 := by
    rw [hW3]
    have h1 := sh_bn w (.cells #[.int .i64 ta, .string A] 124)
    have z1 : (w.alloc (.cells #[.int .i64 ta, .string A] 124)).heap.size = w.heap.size + 1 := by simp
    have a0 : (w.alloc (.cells #[.int .i64 ta, .string A] 124)).cell? ⟨w.heap.size, 0, none⟩ = some (.int .i64 ta) := by rw [World.cell?_alloc_at _ _ _ _ rfl]; rfl
    have a1 : (w.alloc (.cells #[.int .i64 ta, .string A] 124)).cell? ⟨w.heap.size, 1, none⟩ = some (.string A) := by rw [World.cell?_alloc_at _ _ _ _ rfl]; rfl
    generalize (w.alloc (.cells #[.int .i64 ta, .string A] 124)) = V1 at *
    have h2 := sh_bn V1 (.cells #[.int .i64 tb, .string B] 124)
    have z2 : (V1.alloc (.cells #[.int .i64 tb, .string B] 124)).heap.size = w.heap.size + 1 + 1 := by simp [z1]
    have d0 : (V1.alloc (.cells #[.int .i64 tb, .string B] 124)).cell? ⟨w.heap.size + 1, 0, none⟩ = some (.int .i64 tb) := by rw [World.cell?_alloc_at _ _ _ _ z1.symm]; rfl
    have d1 : (V1.alloc (.cells #[.int .i64 tb, .string B] 124)).cell? ⟨w.heap.size + 1, 1, none⟩ = some (.string B) := by rw [World.cell?_alloc_at _ _ _ _ z1.symm]; rfl
    have a0' := sh_mono a0 h2 (Nat.le_refl _)
    have a1' := sh_mono a1 h2 (Nat.le_refl _)
    generalize (V1.alloc (.cells #[.int .i64 tb, .string B] 124)) = V2 at *
    have h3 := sh_bn V2 (.cells #[.int .i64 0, .string { data := #[] }] 124)
    have hk := heap_alloc_new V2 (.cells #[.int .i64 0, .string { data := #[] }] 124)
    rw [z2] at hk
    refine ⟨h1.trans ((h2.trans (h3.mono h2.size)).mono h1.size), sh_mono a0' h3 (Nat.le_refl _), sh_mono a1' h3 (Nat.le_refl _), sh_mono d0 h3 (Nat.le_refl _), sh_mono d1 h3 (Nat.le_refl _), hk, by simp [z2]⟩
  obtain ⟨hbw, c0, c1, d0, d1, hk, hz⟩ := hb
  have HB := Lib.hid hbw
  have HW := Lib.hid hW3
  have HSG := Lib.hid (fun W => sign_any op W)
  unfold StrQ at HSG
  have HKP : Hid (∀ (W : World) (e : Ending) (w' : World) (r : Value) (cs : Array Value), W.heap[w.heap.size + 1 + 1]? = some (.cells cs 124 (0, 0)) → (e = .returned r ∧ Below W.heap.size W w') → e = .returned r ∧ w'.heap[w.heap.size + 1 + 1]? = some (.cells cs 124 (0, 0)) ∧ Below W.heap.size W w') := Lib.hid fun W e w' r cs h1 h2 => ⟨h2.1, (h2.2.block _ (obj_lt h1)).trans h1, h2.2⟩
  have HWA : Hid (∀ least W, W.heap[w.heap.size + 1 + 1]? = some (.cells #[.int .i64 0, .string { data := #[] }] 124 (0, 0)) → Calls Tryd.prog 79 #[.agg #[.int .i64 ta, .string A], .int .i64 least] W fun e w' => e = .returned (.string (innB ta A least)) ∧ w'.heap[w.heap.size + 1 + 1]? = some (.cells #[.int .i64 0, .string { data := #[] }] 124 (0, 0)) ∧ Below W.heap.size W w') := Lib.hid fun least W h => (within_any ta least A W hA).mono fun e w' h2 => HKP.out W e w' _ _ h h2
  have HWB : Hid (∀ least W, W.heap[w.heap.size + 1 + 1]? = some (.cells #[.int .i64 0, .string { data := #[] }] 124 (0, 0)) → Calls Tryd.prog 79 #[.agg #[.int .i64 tb, .string B], .int .i64 least] W fun e w' => e = .returned (.string (innB tb B least)) ∧ w'.heap[w.heap.size + 1 + 1]? = some (.cells #[.int .i64 0, .string { data := #[] }] 124 (0, 0)) ∧ Below W.heap.size W w') := Lib.hid fun least W h => (within_any tb least B W hB).mono fun e w' h2 => HKP.out W e w' _ _ h h2
  have HSN : Hid (∀ W, W.heap[w.heap.size + 1 + 1]? = some (.cells #[.int .i64 0, .string { data := #[] }] 124 (0, 0)) → Calls Tryd.prog 44 #[.int .i64 op] W fun e w' => e = .returned (.string ⟨(Sh.sgn op).toArray⟩) ∧ w'.heap[w.heap.size + 1 + 1]? = some (.cells #[.int .i64 0, .string { data := #[] }] 124 (0, 0)) ∧ Below W.heap.size W w') := Lib.hid fun W h => (sign_any op W).mono fun e w' h2 => HKP.out W e w' _ _ h ⟨h2.1, by rw [← h2.2]; exact Below.refl _ _⟩
  have z1 : (⟨(Sh.sgn op).toArray⟩ : ByteArray).size ≤ 8 := by rw [ba_size]; exact Sh.sgn_len _
  have za := innB_size ta A
  have zb := innB_size tb B
  have HT1 : Hid (op = 16 ∨ op = 17 ∨ op = 18 → (innB ta A (Sh.la op) ++ (⟨#[32]⟩ ++ ⟨(Sh.sgn op).toArray⟩ ++ ⟨#[32]⟩) ++ innB tb B (Sh.lb op) : ByteArray) = ⟨(Sh.two op ta tb A.data.toList B.data.toList).toArray⟩) := Lib.hid fun h => two_is h ta tb A B
  have HT2 : Hid (¬ (op = 16 ∨ op = 17 ∨ op = 18) → (⟨(Sh.sgn op).toArray⟩ ++ ⟨#[32, 91]⟩ ++ A ++ ⟨#[32, 85, 32]⟩ ++ B ++ ⟨#[93]⟩ : ByteArray) = ⟨(Sh.two op ta tb A.data.toList B.data.toList).toArray⟩) := Lib.hid fun h => two_un h ta tb A B
  have hsa := ba_app
  have hs1 : (⟨#[32]⟩ : ByteArray).size = 1 := rfl
  have hs2 : (⟨#[32, 91]⟩ : ByteArray).size = 2 := rfl
  have hs3 : (⟨#[32, 85, 32]⟩ : ByteArray).size = 3 := rfl
  have hs4 : (⟨#[93]⟩ : ByteArray).size = 1 := rfl
  have hn0 : w.heap.size ≠ w.heap.size + 1 + 1 := by omega
  have hn1 : w.heap.size + 1 ≠ w.heap.size + 1 + 1 := by omega
  have HBZ : Hid (∀ W : World, Below W3.heap.size W3 W → Below (w.heap.size + 1 + 1) W3 W) := Lib.hid fun W h => h.mono (by omega)
  have HDR : Below (w.heap.size + 1 + 1) W3 W3.drew := (Below.refl _ _).drew
  have HRF : Below (w.heap.size + 1 + 1) W3 W3 := Below.refl _ _
  have HLT : Hid (∀ W : World, Below (w.heap.size + 1 + 1) W3 W → w.heap.size + 1 + 1 ≤ W.heap.size) := Lib.hid fun W h => by have := h.size; omega
  have HFIN : Hid (∀ W : World, Below (w.heap.size + 1 + 1) W3 W → Below w.heap.size w W) := Lib.hid fun W h => hbw.trans (h.mono (by omega))
  clear hW3 hbw HKP
  generalize (⟨(Sh.two op ta tb A.data.toList B.data.toList).toArray⟩ : ByteArray) = RT at *
  generalize (⟨(Sh.sgn op).toArray⟩ : ByteArray) = SG at *
  have y1 : ¬ 9223372036854775807 < 1 + SG.size := by omega
  have y2 : ¬ 9223372036854775807 < 1 + SG.size + 1 := by omega
  by_cases h18 : op = 18
  · subst h18
    have HT : Hid ((innB ta A 2 ++ (⟨#[32]⟩ ++ SG ++ ⟨#[32]⟩) ++ innB tb B 1 : ByteArray) = RT) := Lib.hid (HT1.out (by decide))
    have za1 := za 2
    have zb1 := zb 1
    have y3 : ¬ 9223372036854775807 < (innB ta A 2).size + (1 + SG.size + 1) := by omega
    have y4 : ¬ 9223372036854775807 < (innB ta A 2).size + (1 + SG.size + 1) + (innB tb B 1).size := by omega
    replace HWA := Lib.hid (HWA.out 2)
    replace HWB := Lib.hid (HWB.out 1)
    clear HT1 HT2 za zb
    go_enter Tryd.func80, Tryd.ntmps80
    go_upto_region 1 with fail
    rw [← HW.out]
    clear HW
    go_wp2_with fail
    refine (HSG.out _).mono ?_
    rintro e w1 ⟨rfl, rfl⟩
    clear HSG HSN
    go_wp2_with fail
    have hkd : W3.drew.heap[w.heap.size + 1 + 1]? = some (.cells #[.int .i64 0, .string { data := #[] }] 124 (0, 0)) := hk
    go_region_held3 (fun w' => w'.cell? ⟨w.heap.size, 0, none⟩ = some (.int .i64 ta) ∧ w'.cell? ⟨w.heap.size, 1, none⟩ = some (.string A) ∧ w'.cell? ⟨w.heap.size + 1, 0, none⟩ = some (.int .i64 tb) ∧ w'.cell? ⟨w.heap.size + 1, 1, none⟩ = some (.string B) ∧ Below (w.heap.size + 1 + 1) W3 w')
      (first
        | exact ⟨c0, c1, d0, d1, HDR⟩
        | exact ⟨c0, c1, d0, d1, HRF⟩
        | (go_split_ands
           with_reducible exact ⟨set2_keep (by assumption) hn0, set2_keep (by assumption) hn0, set2_keep (by assumption) hn1, set2_keep (by assumption) hn1, set2_bel (by assumption) (Nat.le_refl _)⟩)
        | (go_split_ands
           refine ⟨?_, ?_, ?_, ?_, ?_⟩
           · exact sh_mono (by assumption) hb (Nat.le_refl _)
           · exact sh_mono (by assumption) hb (Nat.le_refl _)
           · exact sh_mono (by assumption) hb (Nat.le_refl _)
           · exact sh_mono (by assumption) hb (Nat.le_refl _)
           · exact Below.trans (by assumption) (hb.mono (HLT.out _ (by assumption))))
        | go_keep)
      (first | (go_at_call 79; first | ((with_reducible refine (HWA.out _ (by assumption)).mono ?_); rintro e' w2 ⟨rfl, hk2, hb⟩; have b0 := cell_of_row w2 (w.heap.size + 1 + 1) 0 _ _ _ hk2; have b1 := cell_of_row w2 (w.heap.size + 1 + 1) 1 _ _ _ hk2; have g0 := frozen_of_row w2 (w.heap.size + 1 + 1) 0 _ _ hk2; have g1 := frozen_of_row w2 (w.heap.size + 1 + 1) 1 _ _ hk2; simp at b0 b1) | ((with_reducible refine (HWB.out _ (by assumption)).mono ?_); rintro e' w2 ⟨rfl, hk2, hb⟩; have b0 := cell_of_row w2 (w.heap.size + 1 + 1) 0 _ _ _ hk2; have b1 := cell_of_row w2 (w.heap.size + 1 + 1) 1 _ _ _ hk2; have g0 := frozen_of_row w2 (w.heap.size + 1 + 1) 0 _ _ hk2; have g1 := frozen_of_row w2 (w.heap.size + 1 + 1) 1 _ _ hk2; simp at b0 b1)))
    all_goals
      rename_i hh
      obtain ⟨-, -, -, -, hbl⟩ := hh
      go_wp2_with fail
      refine ret_piece (p := w.heap.size + 1 + 1) rfl rfl (set2_cells hk2).1 (set2_cells hk2).2 ⟨?_, HFIN.out _ hbl⟩
      rw [← HT.out]
      try rfl
  · by_cases h17 : op = 17
    · subst h17
      have HT : Hid ((innB ta A 2 ++ (⟨#[32]⟩ ++ SG ++ ⟨#[32]⟩) ++ innB tb B 3 : ByteArray) = RT) := Lib.hid (HT1.out (by decide))
      have za1 := za 2
      have zb1 := zb 3
      have y3 : ¬ 9223372036854775807 < (innB ta A 2).size + (1 + SG.size + 1) := by omega
      have y4 : ¬ 9223372036854775807 < (innB ta A 2).size + (1 + SG.size + 1) + (innB tb B 3).size := by omega
      replace HWA := Lib.hid (HWA.out 2)
      replace HWB := Lib.hid (HWB.out 3)
      clear HT1 HT2 za zb
      go_enter Tryd.func80, Tryd.ntmps80
      go_upto_region 1 with fail
      rw [← HW.out]
      clear HW
      go_wp2_with fail
      refine (HSG.out _).mono ?_
      rintro e w1 ⟨rfl, rfl⟩
      clear HSG HSN
      go_wp2_with fail
      have hkd : W3.drew.heap[w.heap.size + 1 + 1]? = some (.cells #[.int .i64 0, .string { data := #[] }] 124 (0, 0)) := hk
      go_region_held3 (fun w' => w'.cell? ⟨w.heap.size, 0, none⟩ = some (.int .i64 ta) ∧ w'.cell? ⟨w.heap.size, 1, none⟩ = some (.string A) ∧ w'.cell? ⟨w.heap.size + 1, 0, none⟩ = some (.int .i64 tb) ∧ w'.cell? ⟨w.heap.size + 1, 1, none⟩ = some (.string B) ∧ Below (w.heap.size + 1 + 1) W3 w')
        (first
          | exact ⟨c0, c1, d0, d1, HDR⟩
          | exact ⟨c0, c1, d0, d1, HRF⟩
          | (go_split_ands
             with_reducible exact ⟨set2_keep (by assumption) hn0, set2_keep (by assumption) hn0, set2_keep (by assumption) hn1, set2_keep (by assumption) hn1, set2_bel (by assumption) (Nat.le_refl _)⟩)
          | (go_split_ands
             refine ⟨?_, ?_, ?_, ?_, ?_⟩
             · exact sh_mono (by assumption) hb (Nat.le_refl _)
             · exact sh_mono (by assumption) hb (Nat.le_refl _)
             · exact sh_mono (by assumption) hb (Nat.le_refl _)
             · exact sh_mono (by assumption) hb (Nat.le_refl _)
             · exact Below.trans (by assumption) (hb.mono (HLT.out _ (by assumption))))
          | go_keep)
        (first | (go_at_call 79; first | ((with_reducible refine (HWA.out _ (by assumption)).mono ?_); rintro e' w2 ⟨rfl, hk2, hb⟩; have b0 := cell_of_row w2 (w.heap.size + 1 + 1) 0 _ _ _ hk2; have b1 := cell_of_row w2 (w.heap.size + 1 + 1) 1 _ _ _ hk2; have g0 := frozen_of_row w2 (w.heap.size + 1 + 1) 0 _ _ hk2; have g1 := frozen_of_row w2 (w.heap.size + 1 + 1) 1 _ _ hk2; simp at b0 b1) | ((with_reducible refine (HWB.out _ (by assumption)).mono ?_); rintro e' w2 ⟨rfl, hk2, hb⟩; have b0 := cell_of_row w2 (w.heap.size + 1 + 1) 0 _ _ _ hk2; have b1 := cell_of_row w2 (w.heap.size + 1 + 1) 1 _ _ _ hk2; have g0 := frozen_of_row w2 (w.heap.size + 1 + 1) 0 _ _ hk2; have g1 := frozen_of_row w2 (w.heap.size + 1 + 1) 1 _ _ hk2; simp at b0 b1)))
      all_goals
        rename_i hh
        obtain ⟨-, -, -, -, hbl⟩ := hh
        go_wp2_with fail
        refine ret_piece (p := w.heap.size + 1 + 1) rfl rfl (set2_cells hk2).1 (set2_cells hk2).2 ⟨?_, HFIN.out _ hbl⟩
        rw [← HT.out]
        try rfl
    · by_cases h16 : op = 16
      · subst h16
        have HT : Hid ((innB ta A 3 ++ (⟨#[32]⟩ ++ SG ++ ⟨#[32]⟩) ++ innB tb B 4 : ByteArray) = RT) := Lib.hid (HT1.out (by decide))
        have za1 := za 3
        have zb1 := zb 4
        have y3 : ¬ 9223372036854775807 < (innB ta A 3).size + (1 + SG.size + 1) := by omega
        have y4 : ¬ 9223372036854775807 < (innB ta A 3).size + (1 + SG.size + 1) + (innB tb B 4).size := by omega
        replace HWA := Lib.hid (HWA.out 3)
        replace HWB := Lib.hid (HWB.out 4)
        clear HT1 HT2 za zb
        go_enter Tryd.func80, Tryd.ntmps80
        go_upto_region 1 with fail
        rw [← HW.out]
        clear HW
        go_wp2_with fail
        refine (HSG.out _).mono ?_
        rintro e w1 ⟨rfl, rfl⟩
        clear HSG HSN
        go_wp2_with fail
        have hkd : W3.drew.heap[w.heap.size + 1 + 1]? = some (.cells #[.int .i64 0, .string { data := #[] }] 124 (0, 0)) := hk
        go_region_held3 (fun w' => w'.cell? ⟨w.heap.size, 0, none⟩ = some (.int .i64 ta) ∧ w'.cell? ⟨w.heap.size, 1, none⟩ = some (.string A) ∧ w'.cell? ⟨w.heap.size + 1, 0, none⟩ = some (.int .i64 tb) ∧ w'.cell? ⟨w.heap.size + 1, 1, none⟩ = some (.string B) ∧ Below (w.heap.size + 1 + 1) W3 w')
          (first
            | exact ⟨c0, c1, d0, d1, HDR⟩
            | exact ⟨c0, c1, d0, d1, HRF⟩
            | (go_split_ands
               with_reducible exact ⟨set2_keep (by assumption) hn0, set2_keep (by assumption) hn0, set2_keep (by assumption) hn1, set2_keep (by assumption) hn1, set2_bel (by assumption) (Nat.le_refl _)⟩)
            | (go_split_ands
               refine ⟨?_, ?_, ?_, ?_, ?_⟩
               · exact sh_mono (by assumption) hb (Nat.le_refl _)
               · exact sh_mono (by assumption) hb (Nat.le_refl _)
               · exact sh_mono (by assumption) hb (Nat.le_refl _)
               · exact sh_mono (by assumption) hb (Nat.le_refl _)
               · exact Below.trans (by assumption) (hb.mono (HLT.out _ (by assumption))))
            | go_keep)
          (first | (go_at_call 79; first | ((with_reducible refine (HWA.out _ (by assumption)).mono ?_); rintro e' w2 ⟨rfl, hk2, hb⟩; have b0 := cell_of_row w2 (w.heap.size + 1 + 1) 0 _ _ _ hk2; have b1 := cell_of_row w2 (w.heap.size + 1 + 1) 1 _ _ _ hk2; have g0 := frozen_of_row w2 (w.heap.size + 1 + 1) 0 _ _ hk2; have g1 := frozen_of_row w2 (w.heap.size + 1 + 1) 1 _ _ hk2; simp at b0 b1) | ((with_reducible refine (HWB.out _ (by assumption)).mono ?_); rintro e' w2 ⟨rfl, hk2, hb⟩; have b0 := cell_of_row w2 (w.heap.size + 1 + 1) 0 _ _ _ hk2; have b1 := cell_of_row w2 (w.heap.size + 1 + 1) 1 _ _ _ hk2; have g0 := frozen_of_row w2 (w.heap.size + 1 + 1) 0 _ _ hk2; have g1 := frozen_of_row w2 (w.heap.size + 1 + 1) 1 _ _ hk2; simp at b0 b1)))
        all_goals
          rename_i hh
          obtain ⟨-, -, -, -, hbl⟩ := hh
          go_wp2_with fail
          refine ret_piece (p := w.heap.size + 1 + 1) rfl rfl (set2_cells hk2).1 (set2_cells hk2).2 ⟨?_, HFIN.out _ hbl⟩
          rw [← HT.out]
          try rfl
      · have e18 : (op == 18) = false := by rw [beq_eq_false_iff_ne]; exact h18
        have e17 : (op == 17) = false := by rw [beq_eq_false_iff_ne]; exact h17
        have e16 : (op == 16) = false := by rw [beq_eq_false_iff_ne]; exact h16
        have HT : Hid ((SG ++ ⟨#[32, 91]⟩ ++ A ++ ⟨#[32, 85, 32]⟩ ++ B ++ ⟨#[93]⟩ : ByteArray) = RT) := Lib.hid (HT2.out (by omega))
        have HTG : Hid (Sh.tg op = 4) := Lib.hid (by unfold Sh.tg; rw [if_neg h18, if_neg h17, if_neg h16])
        have y5 : ¬ 9223372036854775807 < SG.size + 2 := by omega
        have y6 : ¬ 9223372036854775807 < SG.size + 2 + A.size := by omega
        have y7 : ¬ 9223372036854775807 < SG.size + 2 + A.size + 3 := by omega
        have y8 : ¬ 9223372036854775807 < SG.size + 2 + A.size + 3 + B.size := by omega
        have y9 : ¬ 9223372036854775807 < SG.size + 2 + A.size + 3 + B.size + 1 := by omega
        clear HT1 HT2 za zb HWA HWB h18 h17 h16
        rw [HTG.out]
        go_enter Tryd.func80, Tryd.ntmps80
        go_upto_region 1 with fail
        rw [← HW.out]
        clear HW
        go_wp2_with fail
        refine (HSG.out _).mono ?_
        rintro e w1 ⟨rfl, rfl⟩
        clear HSG
        go_wp2_with fail
        have hkd : W3.drew.heap[w.heap.size + 1 + 1]? = some (.cells #[.int .i64 0, .string { data := #[] }] 124 (0, 0)) := hk
        go_region_held3 (fun w' => w'.cell? ⟨w.heap.size, 0, none⟩ = some (.int .i64 ta) ∧ w'.cell? ⟨w.heap.size, 1, none⟩ = some (.string A) ∧ w'.cell? ⟨w.heap.size + 1, 0, none⟩ = some (.int .i64 tb) ∧ w'.cell? ⟨w.heap.size + 1, 1, none⟩ = some (.string B) ∧ Below (w.heap.size + 1 + 1) W3 w')
          (first
            | exact ⟨c0, c1, d0, d1, HDR⟩
            | exact ⟨c0, c1, d0, d1, HRF⟩
            | (go_split_ands
               with_reducible exact ⟨set2_keep (by assumption) hn0, set2_keep (by assumption) hn0, set2_keep (by assumption) hn1, set2_keep (by assumption) hn1, set2_bel (by assumption) (Nat.le_refl _)⟩)
            | (go_split_ands
               refine ⟨?_, ?_, ?_, ?_, ?_⟩
               · exact sh_mono (by assumption) hb (Nat.le_refl _)
               · exact sh_mono (by assumption) hb (Nat.le_refl _)
               · exact sh_mono (by assumption) hb (Nat.le_refl _)
               · exact sh_mono (by assumption) hb (Nat.le_refl _)
               · exact Below.trans (by assumption) (hb.mono (HLT.out _ (by assumption))))
            | go_keep)
          (first | (go_at_call 44; ((with_reducible refine (HSN.out _ (by assumption)).mono ?_); rintro e' w2 ⟨rfl, hk2, hb⟩; have b0 := cell_of_row w2 (w.heap.size + 1 + 1) 0 _ _ _ hk2; have b1 := cell_of_row w2 (w.heap.size + 1 + 1) 1 _ _ _ hk2; have g0 := frozen_of_row w2 (w.heap.size + 1 + 1) 0 _ _ hk2; have g1 := frozen_of_row w2 (w.heap.size + 1 + 1) 1 _ _ hk2; simp at b0 b1)))
        all_goals
          rename_i hh
          obtain ⟨-, -, -, -, hbl⟩ := hh
          go_wp2_with fail
          refine ret_piece (p := w.heap.size + 1 + 1) rfl rfl (set2_cells hk2).1 (set2_cells hk2).2 ⟨?_, HFIN.out _ hbl⟩
          rw [← HT.out]
          try rfl
end Go.Proofs.YtbplkphjjfgkmaaDoor
