/-
  show.word, show.atom: by walks.
-/
import Derived.Test.YtbplkphjjfgkmaaDoorShNm
import Derived.Test.YtbplkphjjfgkmaaDoorNmAwake
import Derived.Deep.RegionHeld3
import Derived.Deep.Cut
namespace Go.Proofs.YtbplkphjjfgkmaaDoor
open Go.RowKit
set_option linter.unusedVariables false
set_option linter.unusedSimpArgs false

theorem op_zero {x : Oper} {l : List Oper} : (List.toArray (x :: l))[0]? = some x := rfl
theorem op_succ {x o : Oper} {l : List Oper} {i : Nat} (h : (List.toArray l)[i]? = some o) : (List.toArray (x :: l))[i + 1]? = some o := by simpa using h
theorem sh_mono {w w' : World} {p : Addr} {v : Value} {B : Nat} (h : w.cell? p = some v) (hb : Below B w w') (hB : w.heap.size ≤ B) : w'.cell? p = some v := (hb.cell (Nat.lt_of_lt_of_le (lt_of_cell h) hB)).trans h
theorem ba_list (s : ByteArray) : (⟨s.data.toList.toArray⟩ : ByteArray) = s := rfl
theorem ba_size (l : List UInt8) : (⟨l.toArray⟩ : ByteArray).size = l.length := by simp [ByteArray.size]
theorem ba_app (a b : ByteArray) : (a ++ b).size = a.size + b.size := ByteArray.size_append
theorem ba_eq {a : ByteArray} {l : List UInt8} (h : a.data.toList = l) : a = ⟨l.toArray⟩ := by rw [← h]
/-- A text and whether it may be. -/
def TxOk (l : List UInt8) (b : Bool) (w : World) (e : Ending) (w' : World) : Prop := e = .returned (.tuple #[.string ⟨l.toArray⟩, .bool b]) ∧ Below w.heap.size w w'
theorem sh_bn (w : World) (o : Obj) : Below w.heap.size w (w.alloc o) := (Below.refl _ _).alloc (Nat.le_refl _) o
set_option maxHeartbeats 4000000 in
theorem word_any (nm : ByteArray) (v : Int) (w : World) (hv : -9223372036854775808 ≤ v ∧ v ≤ 9223372036854775807) (ht : Tab10 w) :
    Calls Tryd.prog 141 #[.agg #[.string nm, .int .i64 v]] w (TxOk (Sh.wordL nm v) (Sh.wordOk nm) w) := by
  have hb1 := sh_bn w (.cells #[.string nm, .int .i64 v] 52)
  obtain ⟨W1, hW1⟩ : ∃ W1 : World, W1 = w.alloc (.cells #[.string nm, .int .i64 v] 52) := ⟨_, rfl⟩
  rw [← hW1] at hb1
  have c0 : W1.cell? ⟨w.heap.size, 0, none⟩ = some (.string nm) := by rw [hW1, World.cell?_alloc_at _ _ _ _ rfl]; rfl
  have c1 : W1.cell? ⟨w.heap.size, 1, none⟩ = some (.int .i64 v) := by rw [hW1, World.cell?_alloc_at _ _ _ _ rfl]; rfl
  have HB := Lib.hid hb1
  have HW := Lib.hid hW1
  have HP := Lib.hid (print_tab v W1 hv (ht.below hb1))
  have HN : Hid (∀ W, Below W1.heap.size W1 W → Calls Tryd.prog 42 #[.string nm] W fun e w' => e = .returned (.bool (Sh.nameB nm.data.toList)) ∧ Below W.heap.size W w') := Lib.hid fun W _ => sname_any nm W
  have HDR : Below W1.heap.size W1 W1.drew := (Below.refl _ _).drew
  have HRF : Below W1.heap.size W1 W1 := Below.refl _ _
  clear hb1 hW1 ht
  go_enter Tryd.func141, Tryd.ntmps141
  go_upto_region 1 with fail
  rw [← HW.out]
  clear HW
  by_cases h0 : nm.size = 0
  · have HL : Hid (Sh.wordL nm v = Lib.itoa v ∧ Sh.wordOk nm = true) := Lib.hid ⟨if_pos h0, by unfold Sh.wordOk; rw [decide_eq_true h0]; rfl⟩
    have := size0 h0
    subst this
    clear h0
    go_wp2_with fail
    refine HP.out.mono ?_
    rintro e w2 ⟨rfl, hb2⟩
    have HB2 := Lib.hid (HB.out.trans (hb2.mono HB.out.size))
    clear hb2
    go_wp2_with fail
    go_ret2
    exact ⟨by rw [HL.out.1, HL.out.2]; rfl, HB2.out⟩
  · have he := ne_empty h0
    have HL : Hid (Sh.wordL nm v = nm.data.toList ∧ Sh.wordOk nm = Sh.nameB nm.data.toList) := Lib.hid ⟨if_neg h0, by unfold Sh.wordOk; rw [decide_eq_false h0]; rfl⟩
    go_wp2_with fail
    go_region_held3 (fun w' => w'.cell? ⟨w.heap.size, 0, none⟩ = some (.string nm) ∧ w'.cell? ⟨w.heap.size, 1, none⟩ = some (.int .i64 v) ∧ Below W1.heap.size W1 w')
      (first
        | exact ⟨c0, c1, HDR⟩
        | exact ⟨c0, c1, HRF⟩
        | (go_split_ands
           refine ⟨?_, ?_, ?_⟩
           · exact sh_mono (by assumption) hb (Nat.le_refl _)
           · exact sh_mono (by assumption) hb (Nat.le_refl _)
           · exact Below.trans (by assumption) (hb.mono (Below.size (by assumption))))
        | go_keep)
      (first | (go_at_call 42; ((with_reducible refine (HN.out _ (by first | assumption | (go_split_ands; assumption))).mono ?_); rintro e' w2 ⟨rfl, hb⟩)))
    rename_i hh
    obtain ⟨-, -, hbl⟩ := hh
    have HF := Lib.hid (HB.out.trans (hbl.mono HB.out.size))
    clear hbl
    go_wp2_with fail
    go_ret2
    exact ⟨by rw [HL.out.1, HL.out.2]; rfl, HF.out⟩
theorem atom_op {x : It} (h : 9 ≤ x.op ∧ x.op ≤ 11) : Sh.atomL x = Sh.sgn x.op ++ 32 :: x.nm.data.toList ∧ Sh.atomOk x = Sh.nameB x.nm.data.toList := ⟨if_pos h, if_pos h⟩
theorem atom_did {x : It} (h : x.op = 12) : Sh.atomL x = Sh.sgn x.op ++ 32 :: (x.us.data.toList ++ 32 :: x.nm.data.toList) ∧ Sh.atomOk x = (Sh.nameB x.us.data.toList && Sh.nameB x.nm.data.toList) := by
  unfold Sh.atomL Sh.atomOk
  rw [if_neg (by omega), if_pos h, if_neg (by omega), if_pos h]
  exact ⟨rfl, rfl⟩
theorem atom_cmp {x : It} (h : 3 ≤ x.op ∧ x.op ≤ 8) : Sh.atomL x = Sh.wordL x.ln x.lv ++ 32 :: (Sh.sgn x.op ++ 32 :: Sh.wordL x.rn x.rv) ∧ Sh.atomOk x = (Sh.wordOk x.ln && Sh.wordOk x.rn) := by
  unfold Sh.atomL Sh.atomOk
  rw [if_neg (by omega), if_neg (by omega), if_pos h, if_neg (by omega), if_neg (by omega), if_pos h]
  exact ⟨rfl, rfl⟩
theorem atom_no {x : It} (h : ¬ (3 ≤ x.op ∧ x.op ≤ 12)) : Sh.atomL x = Sh.sgn x.op ∧ Sh.atomOk x = true := by
  unfold Sh.atomL Sh.atomOk
  rw [if_neg (by omega), if_neg (by omega), if_neg (by omega), if_neg (by omega), if_neg (by omega), if_neg (by omega)]
  exact ⟨rfl, rfl⟩
set_option maxHeartbeats 16000000 in
theorem atom_any (x : It) (w : World) (hx : Sh.few x) (ht : Tab10 w) :
    Calls Tryd.prog 78 #[.agg #[.int .i64 x.op, .string x.ln, .int .i64 x.lv, .string x.rn, .int .i64 x.rv, .string x.nm, .string x.us, .int .i64 x.line, .int .i64 x.col]] w (TxOk (Sh.atomL x) (Sh.atomOk x) w) := by
  have hb1 := sh_bn w (.cells #[.int .i64 x.op, .string x.ln, .int .i64 x.lv, .string x.rn, .int .i64 x.rv, .string x.nm, .string x.us, .int .i64 x.line, .int .i64 x.col] 54)
  obtain ⟨W1, hW1⟩ : ∃ W1 : World, W1 = w.alloc (.cells #[.int .i64 x.op, .string x.ln, .int .i64 x.lv, .string x.rn, .int .i64 x.rv, .string x.nm, .string x.us, .int .i64 x.line, .int .i64 x.col] 54) := ⟨_, rfl⟩
  rw [← hW1] at hb1
  have c0 : W1.cell? ⟨w.heap.size, 0, none⟩ = some (.int .i64 x.op) := by rw [hW1, World.cell?_alloc_at _ _ _ _ rfl]; rfl
  have c1 : W1.cell? ⟨w.heap.size, 1, none⟩ = some (.string x.ln) := by rw [hW1, World.cell?_alloc_at _ _ _ _ rfl]; rfl
  have c2 : W1.cell? ⟨w.heap.size, 2, none⟩ = some (.int .i64 x.lv) := by rw [hW1, World.cell?_alloc_at _ _ _ _ rfl]; rfl
  have c3 : W1.cell? ⟨w.heap.size, 3, none⟩ = some (.string x.rn) := by rw [hW1, World.cell?_alloc_at _ _ _ _ rfl]; rfl
  have c4 : W1.cell? ⟨w.heap.size, 4, none⟩ = some (.int .i64 x.rv) := by rw [hW1, World.cell?_alloc_at _ _ _ _ rfl]; rfl
  have c5 : W1.cell? ⟨w.heap.size, 5, none⟩ = some (.string x.nm) := by rw [hW1, World.cell?_alloc_at _ _ _ _ rfl]; rfl
  have c6 : W1.cell? ⟨w.heap.size, 6, none⟩ = some (.string x.us) := by rw [hW1, World.cell?_alloc_at _ _ _ _ rfl]; rfl
  have c7 : W1.cell? ⟨w.heap.size, 7, none⟩ = some (.int .i64 x.line) := by rw [hW1, World.cell?_alloc_at _ _ _ _ rfl]; rfl
  have c8 : W1.cell? ⟨w.heap.size, 8, none⟩ = some (.int .i64 x.col) := by rw [hW1, World.cell?_alloc_at _ _ _ _ rfl]; rfl
  have HB := Lib.hid hb1
  have HW := Lib.hid hW1
  have HSG := Lib.hid (fun W => sign_any x.op W)
  have HSN : Hid (∀ W, Below W1.heap.size W1 W → Calls Tryd.prog 44 #[.int .i64 x.op] W fun e w' => e = .returned (.string ⟨(Sh.sgn x.op).toArray⟩) ∧ Below W.heap.size W w') := Lib.hid fun W _ => (sign_any x.op W).mono fun e w' h => ⟨h.1, by rw [← h.2]; exact Below.refl _ _⟩
  have HCM := Lib.hid (fun W => comparison_any x.op W)
  have HNM : Hid (∀ W, Below W1.heap.size W1 W → Calls Tryd.prog 42 #[.string x.nm] W fun e w' => e = .returned (.bool (Sh.nameB x.nm.data.toList)) ∧ Below W.heap.size W w') := Lib.hid fun W _ => sname_any x.nm W
  have HNU : Hid (∀ W, Below W1.heap.size W1 W → Calls Tryd.prog 42 #[.string x.us] W fun e w' => e = .returned (.bool (Sh.nameB x.us.data.toList)) ∧ Below W.heap.size W w') := Lib.hid fun W _ => sname_any x.us W
  have HWL : Hid (∀ W, Below W1.heap.size W1 W → Calls Tryd.prog 141 #[.agg #[.string x.ln, .int .i64 x.lv]] W (TxOk (Sh.wordL x.ln x.lv) (Sh.wordOk x.ln) W)) := Lib.hid fun W h => word_any x.ln x.lv W hx.lv ((ht.below hb1).below h)
  have HWR : Hid (∀ W, Below W1.heap.size W1 W → Calls Tryd.prog 141 #[.agg #[.string x.rn, .int .i64 x.rv]] W (TxOk (Sh.wordL x.rn x.rv) (Sh.wordOk x.rn) W)) := Lib.hid fun W h => word_any x.rn x.rv W hx.rv ((ht.below hb1).below h)
  have HDR : Below W1.heap.size W1 W1.drew := (Below.refl _ _).drew
  have HRF : Below W1.heap.size W1 W1 := Below.refl _ _
  have z1 : (⟨(Sh.sgn x.op).toArray⟩ : ByteArray).size ≤ 8 := by rw [ba_size]; exact Sh.sgn_len _
  have z2 : (⟨(Sh.wordL x.ln x.lv).toArray⟩ : ByteArray).size ≤ 60 := by rw [ba_size]; exact Sh.wordL_len hx.ln hx.lv
  have z3 : (⟨(Sh.wordL x.rn x.rv).toArray⟩ : ByteArray).size ≤ 60 := by rw [ba_size]; exact Sh.wordL_len hx.rn hx.rv
  have z4 := hx.nm
  have z5 := hx.us
  have hsa := ba_app
  have hs1 : (⟨#[32]⟩ : ByteArray).size = 1 := rfl
  have HA1 : Hid (9 ≤ x.op ∧ x.op ≤ 11 → (⟨(Sh.sgn x.op).toArray⟩ ++ ⟨#[32]⟩ ++ x.nm : ByteArray) = ⟨(Sh.atomL x).toArray⟩ ∧ Sh.nameB x.nm.data.toList = Sh.atomOk x) := Lib.hid fun h => ⟨by rw [(atom_op h).1]; apply ba_eq; simp, (atom_op h).2.symm⟩
  have HA2 : Hid (x.op = 12 → (⟨(Sh.sgn x.op).toArray⟩ ++ ⟨#[32]⟩ ++ x.us ++ ⟨#[32]⟩ ++ x.nm : ByteArray) = ⟨(Sh.atomL x).toArray⟩ ∧ (Sh.nameB x.us.data.toList && Sh.nameB x.nm.data.toList) = Sh.atomOk x) := Lib.hid fun h => ⟨by rw [(atom_did h).1]; apply ba_eq; simp, (atom_did h).2.symm⟩
  have HA3 : Hid (3 ≤ x.op ∧ x.op ≤ 8 → (⟨(Sh.wordL x.ln x.lv).toArray⟩ ++ ⟨#[32]⟩ ++ ⟨(Sh.sgn x.op).toArray⟩ ++ ⟨#[32]⟩ ++ ⟨(Sh.wordL x.rn x.rv).toArray⟩ : ByteArray) = ⟨(Sh.atomL x).toArray⟩ ∧ (Sh.wordOk x.ln && Sh.wordOk x.rn) = Sh.atomOk x) := Lib.hid fun h => ⟨by rw [(atom_cmp h).1]; apply ba_eq; simp, (atom_cmp h).2.symm⟩
  have HA4 : Hid (¬ (3 ≤ x.op ∧ x.op ≤ 12) → (⟨(Sh.sgn x.op).toArray⟩ : ByteArray) = ⟨(Sh.atomL x).toArray⟩ ∧ true = Sh.atomOk x) := Lib.hid fun h => ⟨by rw [(atom_no h).1], (atom_no h).2.symm⟩
  have HCY : Hid (3 ≤ x.op ∧ x.op ≤ 8 → (⟨(cmpL x.op).toArray⟩ : ByteArray).toList.isEmpty = false) := Lib.hid fun h => ne_empty (by
    rw [ba_size]
    have : x.op = 3 ∨ x.op = 4 ∨ x.op = 5 ∨ x.op = 6 ∨ x.op = 7 ∨ x.op = 8 := by omega
    rcases this with e | e | e | e | e | e <;> rw [e] <;> decide)
  have HCN : Hid (¬ (3 ≤ x.op ∧ x.op ≤ 8) → cmpL x.op = []) := Lib.hid fun h => if_neg h
  clear hb1 hW1 ht hx
  unfold TxOk at *
  unfold StrQ at HSG HCM
  generalize (⟨(Sh.atomL x).toArray⟩ : ByteArray) = RT at *
  generalize Sh.atomOk x = RB at *
  generalize (⟨(Sh.sgn x.op).toArray⟩ : ByteArray) = SG at *
  generalize (⟨(Sh.wordL x.ln x.lv).toArray⟩ : ByteArray) = WL at *
  generalize (⟨(Sh.wordL x.rn x.rv).toArray⟩ : ByteArray) = WR at *
  generalize Sh.nameB x.nm.data.toList = bn at *
  generalize Sh.nameB x.us.data.toList = bu at *
  generalize Sh.wordOk x.ln = bl at *
  generalize Sh.wordOk x.rn = br at *
  have y0 : ¬ 9223372036854775807 < SG.size + 1 := by omega
  have y1 : ¬ 9223372036854775807 < SG.size + 1 + x.nm.size := by omega
  have y2 : ¬ 9223372036854775807 < SG.size + 1 + x.us.size := by omega
  have y3 : ¬ 9223372036854775807 < SG.size + 1 + x.us.size + 1 := by omega
  have y4 : ¬ 9223372036854775807 < SG.size + 1 + x.us.size + 1 + x.nm.size := by omega
  have y5 : ¬ 9223372036854775807 < WL.size + 1 := by omega
  have y6 : ¬ 9223372036854775807 < WL.size + 1 + SG.size := by omega
  have y7 : ¬ 9223372036854775807 < WL.size + 1 + SG.size + 1 := by omega
  have y8 : ¬ 9223372036854775807 < WL.size + 1 + SG.size + 1 + WR.size := by omega
  go_enter Tryd.func78, Tryd.ntmps78
  go_upto_region 1 with fail
  rw [← HW.out]
  clear HW
  generalize x.op = op at *
  by_cases hA : 9 ≤ op ∧ op ≤ 11
  · obtain ⟨e1, e2⟩ := HA1.out hA
    have HE1 := Lib.hid e1
    have HE2 := Lib.hid e2
    clear HA1 HA2 HA3 HA4 HCM HCY HCN HWL HWR HNU e1 e2 HSG
    have : op = 9 ∨ op = 10 ∨ op = 11 := by omega
    clear hA
    rcases this with rfl | rfl | rfl
    · go_wp2_with fail
      go_region_held3 (fun w' => w'.cell? ⟨w.heap.size, 0, none⟩ = some (.int .i64 9) ∧ w'.cell? ⟨w.heap.size, 1, none⟩ = some (.string x.ln) ∧ w'.cell? ⟨w.heap.size, 2, none⟩ = some (.int .i64 x.lv) ∧ w'.cell? ⟨w.heap.size, 3, none⟩ = some (.string x.rn) ∧ w'.cell? ⟨w.heap.size, 4, none⟩ = some (.int .i64 x.rv) ∧ w'.cell? ⟨w.heap.size, 5, none⟩ = some (.string x.nm) ∧ w'.cell? ⟨w.heap.size, 6, none⟩ = some (.string x.us) ∧ w'.cell? ⟨w.heap.size, 7, none⟩ = some (.int .i64 x.line) ∧ w'.cell? ⟨w.heap.size, 8, none⟩ = some (.int .i64 x.col) ∧ Below W1.heap.size W1 w')
        (first
          | exact ⟨c0, c1, c2, c3, c4, c5, c6, c7, c8, HDR⟩
          | exact ⟨c0, c1, c2, c3, c4, c5, c6, c7, c8, HRF⟩
          | (go_split_ands
             refine ⟨?_, ?_, ?_, ?_, ?_, ?_, ?_, ?_, ?_, ?_⟩
             · exact sh_mono (by assumption) hb (Nat.le_refl _)
             · exact sh_mono (by assumption) hb (Nat.le_refl _)
             · exact sh_mono (by assumption) hb (Nat.le_refl _)
             · exact sh_mono (by assumption) hb (Nat.le_refl _)
             · exact sh_mono (by assumption) hb (Nat.le_refl _)
             · exact sh_mono (by assumption) hb (Nat.le_refl _)
             · exact sh_mono (by assumption) hb (Nat.le_refl _)
             · exact sh_mono (by assumption) hb (Nat.le_refl _)
             · exact sh_mono (by assumption) hb (Nat.le_refl _)
             · exact Below.trans (by assumption) (hb.mono (Below.size (by assumption))))
          | go_keep)
        (first | (go_at_call 44; ((with_reducible refine (HSN.out _ (by first | assumption | (go_split_ands; assumption))).mono ?_); rintro e' w2 ⟨rfl, hb⟩)) | (go_at_call 42; ((with_reducible refine (HNM.out _ (by first | assumption | (go_split_ands; assumption))).mono ?_); rintro e' w2 ⟨rfl, hb⟩)))
      rename_i hh
      obtain ⟨-, -, -, -, -, -, -, -, -, hbl⟩ := hh
      have HF := Lib.hid (HB.out.trans (hbl.mono HB.out.size))
      clear hbl
      go_wp2_with fail
      go_ret2
      exact ⟨by rw [← HE2.out, ← HE1.out]; rfl, HF.out⟩
    · go_wp2_with fail
      go_region_held3 (fun w' => w'.cell? ⟨w.heap.size, 0, none⟩ = some (.int .i64 10) ∧ w'.cell? ⟨w.heap.size, 1, none⟩ = some (.string x.ln) ∧ w'.cell? ⟨w.heap.size, 2, none⟩ = some (.int .i64 x.lv) ∧ w'.cell? ⟨w.heap.size, 3, none⟩ = some (.string x.rn) ∧ w'.cell? ⟨w.heap.size, 4, none⟩ = some (.int .i64 x.rv) ∧ w'.cell? ⟨w.heap.size, 5, none⟩ = some (.string x.nm) ∧ w'.cell? ⟨w.heap.size, 6, none⟩ = some (.string x.us) ∧ w'.cell? ⟨w.heap.size, 7, none⟩ = some (.int .i64 x.line) ∧ w'.cell? ⟨w.heap.size, 8, none⟩ = some (.int .i64 x.col) ∧ Below W1.heap.size W1 w')
        (first
          | exact ⟨c0, c1, c2, c3, c4, c5, c6, c7, c8, HDR⟩
          | exact ⟨c0, c1, c2, c3, c4, c5, c6, c7, c8, HRF⟩
          | (go_split_ands
             refine ⟨?_, ?_, ?_, ?_, ?_, ?_, ?_, ?_, ?_, ?_⟩
             · exact sh_mono (by assumption) hb (Nat.le_refl _)
             · exact sh_mono (by assumption) hb (Nat.le_refl _)
             · exact sh_mono (by assumption) hb (Nat.le_refl _)
             · exact sh_mono (by assumption) hb (Nat.le_refl _)
             · exact sh_mono (by assumption) hb (Nat.le_refl _)
             · exact sh_mono (by assumption) hb (Nat.le_refl _)
             · exact sh_mono (by assumption) hb (Nat.le_refl _)
             · exact sh_mono (by assumption) hb (Nat.le_refl _)
             · exact sh_mono (by assumption) hb (Nat.le_refl _)
             · exact Below.trans (by assumption) (hb.mono (Below.size (by assumption))))
          | go_keep)
        (first | (go_at_call 44; ((with_reducible refine (HSN.out _ (by first | assumption | (go_split_ands; assumption))).mono ?_); rintro e' w2 ⟨rfl, hb⟩)) | (go_at_call 42; ((with_reducible refine (HNM.out _ (by first | assumption | (go_split_ands; assumption))).mono ?_); rintro e' w2 ⟨rfl, hb⟩)))
      rename_i hh
      obtain ⟨-, -, -, -, -, -, -, -, -, hbl⟩ := hh
      have HF := Lib.hid (HB.out.trans (hbl.mono HB.out.size))
      clear hbl
      go_wp2_with fail
      go_ret2
      exact ⟨by rw [← HE2.out, ← HE1.out]; rfl, HF.out⟩
    · go_wp2_with fail
      go_region_held3 (fun w' => w'.cell? ⟨w.heap.size, 0, none⟩ = some (.int .i64 11) ∧ w'.cell? ⟨w.heap.size, 1, none⟩ = some (.string x.ln) ∧ w'.cell? ⟨w.heap.size, 2, none⟩ = some (.int .i64 x.lv) ∧ w'.cell? ⟨w.heap.size, 3, none⟩ = some (.string x.rn) ∧ w'.cell? ⟨w.heap.size, 4, none⟩ = some (.int .i64 x.rv) ∧ w'.cell? ⟨w.heap.size, 5, none⟩ = some (.string x.nm) ∧ w'.cell? ⟨w.heap.size, 6, none⟩ = some (.string x.us) ∧ w'.cell? ⟨w.heap.size, 7, none⟩ = some (.int .i64 x.line) ∧ w'.cell? ⟨w.heap.size, 8, none⟩ = some (.int .i64 x.col) ∧ Below W1.heap.size W1 w')
        (first
          | exact ⟨c0, c1, c2, c3, c4, c5, c6, c7, c8, HDR⟩
          | exact ⟨c0, c1, c2, c3, c4, c5, c6, c7, c8, HRF⟩
          | (go_split_ands
             refine ⟨?_, ?_, ?_, ?_, ?_, ?_, ?_, ?_, ?_, ?_⟩
             · exact sh_mono (by assumption) hb (Nat.le_refl _)
             · exact sh_mono (by assumption) hb (Nat.le_refl _)
             · exact sh_mono (by assumption) hb (Nat.le_refl _)
             · exact sh_mono (by assumption) hb (Nat.le_refl _)
             · exact sh_mono (by assumption) hb (Nat.le_refl _)
             · exact sh_mono (by assumption) hb (Nat.le_refl _)
             · exact sh_mono (by assumption) hb (Nat.le_refl _)
             · exact sh_mono (by assumption) hb (Nat.le_refl _)
             · exact sh_mono (by assumption) hb (Nat.le_refl _)
             · exact Below.trans (by assumption) (hb.mono (Below.size (by assumption))))
          | go_keep)
        (first | (go_at_call 44; ((with_reducible refine (HSN.out _ (by first | assumption | (go_split_ands; assumption))).mono ?_); rintro e' w2 ⟨rfl, hb⟩)) | (go_at_call 42; ((with_reducible refine (HNM.out _ (by first | assumption | (go_split_ands; assumption))).mono ?_); rintro e' w2 ⟨rfl, hb⟩)))
      rename_i hh
      obtain ⟨-, -, -, -, -, -, -, -, -, hbl⟩ := hh
      have HF := Lib.hid (HB.out.trans (hbl.mono HB.out.size))
      clear hbl
      go_wp2_with fail
      go_ret2
      exact ⟨by rw [← HE2.out, ← HE1.out]; rfl, HF.out⟩
  · by_cases hB : op = 12
    · obtain ⟨e1, e2⟩ := HA2.out hB
      have HE1 := Lib.hid e1
      have HE2 := Lib.hid e2
      clear HA1 HA2 HA3 HA4 HCM HCY HCN HWL HWR e1 e2 HSG hA
      subst hB
      cases bu
      · go_wp2_with fail
        refine wp_region_held_drew (S := fun w' => w'.cell? ⟨w.heap.size, 0, none⟩ = some (.int .i64 12) ∧ w'.cell? ⟨w.heap.size, 1, none⟩ = some (.string x.ln) ∧ w'.cell? ⟨w.heap.size, 2, none⟩ = some (.int .i64 x.lv) ∧ w'.cell? ⟨w.heap.size, 3, none⟩ = some (.string x.rn) ∧ w'.cell? ⟨w.heap.size, 4, none⟩ = some (.int .i64 x.rv) ∧ w'.cell? ⟨w.heap.size, 5, none⟩ = some (.string x.nm) ∧ w'.cell? ⟨w.heap.size, 6, none⟩ = some (.string x.us) ∧ w'.cell? ⟨w.heap.size, 7, none⟩ = some (.int .i64 x.line) ∧ w'.cell? ⟨w.heap.size, 8, none⟩ = some (.int .i64 x.col) ∧ Below W1.heap.size W1 w') (by kernel_rfl) (by exact ⟨c0, c1, c2, c3, c4, c5, c6, c7, c8, HDR⟩) (fun hHeld => ?_)
        refine wpAnyH_take (i := 0) (v := ?_) (op_zero) (by kernel_rfl) (by kernel_rfl) (by kernel_rfl) (fun _ _ _ h => h) (Or.inl ⟨by rfl, ?_⟩) (by assumption) ?_
        rotate_left
        · ((intro w hSw; (try dsimp only at hSw); go_simp) <;> with_reducible rfl)
        try simp only [Act.put, List.setIfInBounds_toArray, List.set_cons_zero, List.set_cons_succ]
        refine wpAnyH_take (i := 1) (v := ?_) (op_succ (op_zero)) (by kernel_rfl) (by kernel_rfl) (by kernel_rfl) (fun _ _ _ h => h) (Or.inl ⟨by rfl, ?_⟩) (by assumption) ?_
        rotate_left
        · ((intro w hSw; (try dsimp only at hSw); go_simp) <;> with_reducible rfl)
        try simp only [Act.put, List.setIfInBounds_toArray, List.set_cons_zero, List.set_cons_succ]
        refine wpAnyH_take (i := 4) (v := ?_) (op_succ (op_succ (op_succ (op_succ (op_zero))))) (by kernel_rfl) (by kernel_rfl) (by kernel_rfl) (fun _ _ _ h => h) (Or.inl ⟨by rfl, ?_⟩) (by assumption) ?_
        rotate_left
        · ((intro w hSw; (try dsimp only at hSw); go_simp) <;> with_reducible rfl)
        try simp only [Act.put, List.setIfInBounds_toArray, List.set_cons_zero, List.set_cons_succ]
        refine wpAnyH_take (i := 5) (v := ?_) (op_succ (op_succ (op_succ (op_succ (op_succ (op_zero)))))) (by kernel_rfl) (by kernel_rfl) (by kernel_rfl) (fun _ _ _ h => h) (Or.inl ⟨by rfl, ?_⟩) (by assumption) ?_
        rotate_left
        · ((intro w hSw; (try dsimp only at hSw); go_simp) <;> with_reducible rfl)
        try simp only [Act.put, List.setIfInBounds_toArray, List.set_cons_zero, List.set_cons_succ]
        refine wpAnyH_take (i := 8) (v := ?_) (op_succ (op_succ (op_succ (op_succ (op_succ (op_succ (op_succ (op_succ (op_zero))))))))) (by kernel_rfl) (by kernel_rfl) (by kernel_rfl) (fun _ _ _ h => h) (Or.inl ⟨by rfl, ?_⟩) (by assumption) ?_
        rotate_left
        · ((intro w hSw; (try dsimp only at hSw); go_simp) <;> with_reducible rfl)
        try simp only [Act.put, List.setIfInBounds_toArray, List.set_cons_zero, List.set_cons_succ]
        refine wpAnyH_take (i := 9) (v := ?_) (op_succ (op_succ (op_succ (op_succ (op_succ (op_succ (op_succ (op_succ (op_succ (op_zero)))))))))) (by kernel_rfl) (by kernel_rfl) (by kernel_rfl) (fun _ _ _ h => h) (Or.inl ⟨by rfl, ?_⟩) (by assumption) ?_
        rotate_left
        · ((intro w hSw; (try dsimp only at hSw); go_simp) <;> with_reducible rfl)
        try simp only [Act.put, List.setIfInBounds_toArray, List.set_cons_zero, List.set_cons_succ]
        refine wpAnyH_take (i := 11) (v := ?_) (op_succ (op_succ (op_succ (op_succ (op_succ (op_succ (op_succ (op_succ (op_succ (op_succ (op_succ (op_zero)))))))))))) (by kernel_rfl) (by kernel_rfl) (by kernel_rfl) (fun _ _ _ h => h) (Or.inl ⟨by rfl, ?_⟩) (by assumption) ?_
        rotate_left
        · ((intro w hSw; (try dsimp only at hSw); go_simp) <;> with_reducible rfl)
        try simp only [Act.put, List.setIfInBounds_toArray, List.set_cons_zero, List.set_cons_succ]
        refine wpAnyH_take (i := 12) (v := ?_) (op_succ (op_succ (op_succ (op_succ (op_succ (op_succ (op_succ (op_succ (op_succ (op_succ (op_succ (op_succ (op_zero))))))))))))) (by kernel_rfl) (by kernel_rfl) (by kernel_rfl) (fun _ _ _ h => h) (Or.inl ⟨by rfl, ?_⟩) (by assumption) ?_
        rotate_left
        · ((intro w hSw; (try dsimp only at hSw); go_simp) <;> with_reducible rfl)
        try simp only [Act.put, List.setIfInBounds_toArray, List.set_cons_zero, List.set_cons_succ]
        refine wpAnyH_ready (rs := [2]) (by kernel_rfl) (by simp) ?_
        refine AllReadyH.cons (op_succ (op_succ (op_zero))) (fun K hK => ?_) AllReadyH.nil
        go_simp
        go_at_call 44
        refine (HSN.out _ (by first | assumption | (go_split_ands; assumption))).mono ?_
        rintro e' w2 ⟨rfl, hb⟩
        try (go_wp2_with fail)
        refine hK.out _ _ ?_ (fun hHeld2 => ?_)
        · try dsimp only
          go_split_ands
          refine ⟨?_, ?_, ?_, ?_, ?_, ?_, ?_, ?_, ?_, ?_⟩
          · exact sh_mono (by assumption) hb (Nat.le_refl _)
          · exact sh_mono (by assumption) hb (Nat.le_refl _)
          · exact sh_mono (by assumption) hb (Nat.le_refl _)
          · exact sh_mono (by assumption) hb (Nat.le_refl _)
          · exact sh_mono (by assumption) hb (Nat.le_refl _)
          · exact sh_mono (by assumption) hb (Nat.le_refl _)
          · exact sh_mono (by assumption) hb (Nat.le_refl _)
          · exact sh_mono (by assumption) hb (Nat.le_refl _)
          · exact sh_mono (by assumption) hb (Nat.le_refl _)
          · exact Below.trans (by assumption) (hb.mono (Below.size (by assumption)))
        clear hK K
        try simp only [Act.put, List.setIfInBounds_toArray, List.set_cons_zero, List.set_cons_succ]
        refine wpAnyH_take (i := 3) (v := ?_) (op_succ (op_succ (op_succ (op_zero)))) (by kernel_rfl) (by kernel_rfl) (by kernel_rfl) (fun _ _ _ h => h) (Or.inl ⟨by rfl, ?_⟩) (by assumption) ?_
        rotate_left
        · ((intro w hSw; (try dsimp only at hSw); go_simp) <;> with_reducible rfl)
        try simp only [Act.put, List.setIfInBounds_toArray, List.set_cons_zero, List.set_cons_succ]
        refine wpAnyH_take (i := 6) (v := ?_) (op_succ (op_succ (op_succ (op_succ (op_succ (op_succ (op_zero))))))) (by kernel_rfl) (by kernel_rfl) (by kernel_rfl) (fun _ _ _ h => h) (Or.inl ⟨by rfl, ?_⟩) (by assumption) ?_
        rotate_left
        · ((intro w hSw; (try dsimp only at hSw); go_simp) <;> with_reducible rfl)
        try simp only [Act.put, List.setIfInBounds_toArray, List.set_cons_zero, List.set_cons_succ]
        refine wpAnyH_take (i := 7) (v := ?_) (op_succ (op_succ (op_succ (op_succ (op_succ (op_succ (op_succ (op_zero)))))))) (by kernel_rfl) (by kernel_rfl) (by kernel_rfl) (fun _ _ _ h => h) (Or.inl ⟨by rfl, ?_⟩) (by assumption) ?_
        rotate_left
        · ((intro w hSw; (try dsimp only at hSw); go_simp) <;> with_reducible rfl)
        try simp only [Act.put, List.setIfInBounds_toArray, List.set_cons_zero, List.set_cons_succ]
        refine wpAnyH_take (i := 10) (v := ?_) (op_succ (op_succ (op_succ (op_succ (op_succ (op_succ (op_succ (op_succ (op_succ (op_succ (op_zero))))))))))) (by kernel_rfl) (by kernel_rfl) (by kernel_rfl) (fun _ _ _ h => h) (Or.inl ⟨by rfl, ?_⟩) (by assumption) ?_
        rotate_left
        · ((intro w hSw; (try dsimp only at hSw); go_simp) <;> with_reducible rfl)
        try simp only [Act.put, List.setIfInBounds_toArray, List.set_cons_zero, List.set_cons_succ]
        refine wpAnyH_ready (rs := [13]) (by kernel_rfl) (by simp) ?_
        refine AllReadyH.cons (op_succ (op_succ (op_succ (op_succ (op_succ (op_succ (op_succ (op_succ (op_succ (op_succ (op_succ (op_succ (op_succ (op_zero)))))))))))))) (fun K hK => ?_) AllReadyH.nil
        go_simp
        go_at_call 42
        refine (HNU.out _ (by first | assumption | (go_split_ands; assumption))).mono ?_
        rintro e' w3 ⟨rfl, hb⟩
        try (go_wp2_with fail)
        refine hK.out _ _ ?_ (fun hHeld3 => ?_)
        · try dsimp only
          go_split_ands
          refine ⟨?_, ?_, ?_, ?_, ?_, ?_, ?_, ?_, ?_, ?_⟩
          · exact sh_mono (by assumption) hb (Nat.le_refl _)
          · exact sh_mono (by assumption) hb (Nat.le_refl _)
          · exact sh_mono (by assumption) hb (Nat.le_refl _)
          · exact sh_mono (by assumption) hb (Nat.le_refl _)
          · exact sh_mono (by assumption) hb (Nat.le_refl _)
          · exact sh_mono (by assumption) hb (Nat.le_refl _)
          · exact sh_mono (by assumption) hb (Nat.le_refl _)
          · exact sh_mono (by assumption) hb (Nat.le_refl _)
          · exact sh_mono (by assumption) hb (Nat.le_refl _)
          · exact Below.trans (by assumption) (hb.mono (Below.size (by assumption)))
        clear hK K
        try simp only [Act.put, List.setIfInBounds_toArray, List.set_cons_zero, List.set_cons_succ]
        refine wpAnyH_take (i := 14) (v := ?_) (op_succ (op_succ (op_succ (op_succ (op_succ (op_succ (op_succ (op_succ (op_succ (op_succ (op_succ (op_succ (op_succ (op_succ (op_zero))))))))))))))) (by kernel_rfl) (by kernel_rfl) (by kernel_rfl) (fun _ _ _ h => h) (Or.inl ⟨by rfl, ?_⟩) (by assumption) ?_
        rotate_left
        · ((intro w hSw; (try dsimp only at hSw); go_simp) <;> with_reducible rfl)
        try simp only [Act.put, List.setIfInBounds_toArray, List.set_cons_zero, List.set_cons_succ]
        refine wpAnyH_take (i := 15) (op_succ (op_succ (op_succ (op_succ (op_succ (op_succ (op_succ (op_succ (op_succ (op_succ (op_succ (op_succ (op_succ (op_succ (op_succ (op_zero)))))))))))))))) (by kernel_rfl) (by kernel_rfl) (by kernel_rfl) (fun _ _ _ h => h) (Or.inr ⟨by rfl, rfl⟩) (by assumption) ?_
        try simp only [Act.put, List.setIfInBounds_toArray, List.set_cons_zero, List.set_cons_succ]
        refine wpAnyH_take (i := 16) (op_succ (op_succ (op_succ (op_succ (op_succ (op_succ (op_succ (op_succ (op_succ (op_succ (op_succ (op_succ (op_succ (op_succ (op_succ (op_succ (op_zero))))))))))))))))) (by kernel_rfl) (by kernel_rfl) (by kernel_rfl) (fun _ _ _ h => h) (Or.inr ⟨by rfl, rfl⟩) (by assumption) ?_
        try simp only [Act.put, List.setIfInBounds_toArray, List.set_cons_zero, List.set_cons_succ]
        refine wpAnyH_take (i := 17) (op_succ (op_succ (op_succ (op_succ (op_succ (op_succ (op_succ (op_succ (op_succ (op_succ (op_succ (op_succ (op_succ (op_succ (op_succ (op_succ (op_succ (op_zero)))))))))))))))))) (by kernel_rfl) (by kernel_rfl) (by kernel_rfl) (fun _ _ _ h => h) (Or.inr ⟨by rfl, rfl⟩) (by assumption) ?_
        try simp only [Act.put, List.setIfInBounds_toArray, List.set_cons_zero, List.set_cons_succ]
        refine wpAnyH_take (i := 18) (v := ?_) (op_succ (op_succ (op_succ (op_succ (op_succ (op_succ (op_succ (op_succ (op_succ (op_succ (op_succ (op_succ (op_succ (op_succ (op_succ (op_succ (op_succ (op_succ (op_zero))))))))))))))))))) (by kernel_rfl) (by kernel_rfl) (by kernel_rfl) (fun _ _ _ h => h) (Or.inl ⟨by rfl, ?_⟩) (by assumption) ?_
        rotate_left
        · ((intro w hSw; (try dsimp only at hSw); go_simp) <;> with_reducible rfl)
        try simp only [Act.put, List.setIfInBounds_toArray, List.set_cons_zero, List.set_cons_succ]
        refine wpAnyH_take (i := 19) (v := ?_) (op_succ (op_succ (op_succ (op_succ (op_succ (op_succ (op_succ (op_succ (op_succ (op_succ (op_succ (op_succ (op_succ (op_succ (op_succ (op_succ (op_succ (op_succ (op_succ (op_zero)))))))))))))))))))) (by kernel_rfl) (by kernel_rfl) (by kernel_rfl) (fun _ _ _ h => h) (Or.inl ⟨by rfl, ?_⟩) (by assumption) ?_
        rotate_left
        · ((intro w hSw; (try dsimp only at hSw); go_simp) <;> with_reducible rfl)
        try simp only [Act.put, List.setIfInBounds_toArray, List.set_cons_zero, List.set_cons_succ]
        refine wpAnyH_take (i := 20) (v := ?_) (op_succ (op_succ (op_succ (op_succ (op_succ (op_succ (op_succ (op_succ (op_succ (op_succ (op_succ (op_succ (op_succ (op_succ (op_succ (op_succ (op_succ (op_succ (op_succ (op_succ (op_zero))))))))))))))))))))) (by kernel_rfl) (by kernel_rfl) (by kernel_rfl) (fun _ _ _ h => h) (Or.inl ⟨by rfl, ?_⟩) (by assumption) ?_
        rotate_left
        · ((intro w hSw; (try dsimp only at hSw); go_simp) <;> with_reducible rfl)
        try simp only [Act.put, List.setIfInBounds_toArray, List.set_cons_zero, List.set_cons_succ]
        refine wpAnyH_done (by kernel_rfl) ?_ _
        have hh := hHeld3
        obtain ⟨-, -, -, -, -, -, -, -, -, hbl⟩ := hh
        have HF := Lib.hid (HB.out.trans (hbl.mono HB.out.size))
        clear hbl
        go_wp2_with fail
        go_ret2
        exact ⟨by rw [← HE2.out, ← HE1.out]; rfl, HF.out⟩
      · go_wp2_with fail
        go_region_held3 (fun w' => w'.cell? ⟨w.heap.size, 0, none⟩ = some (.int .i64 12) ∧ w'.cell? ⟨w.heap.size, 1, none⟩ = some (.string x.ln) ∧ w'.cell? ⟨w.heap.size, 2, none⟩ = some (.int .i64 x.lv) ∧ w'.cell? ⟨w.heap.size, 3, none⟩ = some (.string x.rn) ∧ w'.cell? ⟨w.heap.size, 4, none⟩ = some (.int .i64 x.rv) ∧ w'.cell? ⟨w.heap.size, 5, none⟩ = some (.string x.nm) ∧ w'.cell? ⟨w.heap.size, 6, none⟩ = some (.string x.us) ∧ w'.cell? ⟨w.heap.size, 7, none⟩ = some (.int .i64 x.line) ∧ w'.cell? ⟨w.heap.size, 8, none⟩ = some (.int .i64 x.col) ∧ Below W1.heap.size W1 w')
          (first
            | exact ⟨c0, c1, c2, c3, c4, c5, c6, c7, c8, HDR⟩
            | exact ⟨c0, c1, c2, c3, c4, c5, c6, c7, c8, HRF⟩
            | (go_split_ands
               refine ⟨?_, ?_, ?_, ?_, ?_, ?_, ?_, ?_, ?_, ?_⟩
               · exact sh_mono (by assumption) hb (Nat.le_refl _)
               · exact sh_mono (by assumption) hb (Nat.le_refl _)
               · exact sh_mono (by assumption) hb (Nat.le_refl _)
               · exact sh_mono (by assumption) hb (Nat.le_refl _)
               · exact sh_mono (by assumption) hb (Nat.le_refl _)
               · exact sh_mono (by assumption) hb (Nat.le_refl _)
               · exact sh_mono (by assumption) hb (Nat.le_refl _)
               · exact sh_mono (by assumption) hb (Nat.le_refl _)
               · exact sh_mono (by assumption) hb (Nat.le_refl _)
               · exact Below.trans (by assumption) (hb.mono (Below.size (by assumption))))
            | go_keep)
          (first | (go_at_call 44; ((with_reducible refine (HSN.out _ (by first | assumption | (go_split_ands; assumption))).mono ?_); rintro e' w2 ⟨rfl, hb⟩)) | (go_at_call 42; first | ((with_reducible refine (HNU.out _ (by first | assumption | (go_split_ands; assumption))).mono ?_); rintro e' w2 ⟨rfl, hb⟩) | ((with_reducible refine (HNM.out _ (by first | assumption | (go_split_ands; assumption))).mono ?_); rintro e' w2 ⟨rfl, hb⟩)))
        rename_i hh
        obtain ⟨-, -, -, -, -, -, -, -, -, hbl⟩ := hh
        have HF := Lib.hid (HB.out.trans (hbl.mono HB.out.size))
        clear hbl
        go_wp2_with fail
        go_ret2
        exact ⟨by rw [← HE2.out, ← HE1.out]; rfl, HF.out⟩
    · have e9 : (op == 9) = false := by rw [beq_eq_false_iff_ne]; omega
      have e10 : (op == 10) = false := by rw [beq_eq_false_iff_ne]; omega
      have e11 : (op == 11) = false := by rw [beq_eq_false_iff_ne]; omega
      have e12 : (op == 12) = false := by rw [beq_eq_false_iff_ne]; omega
      by_cases hC : 3 ≤ op ∧ op ≤ 8
      · obtain ⟨e1, e2⟩ := HA3.out hC
        have HE1 := Lib.hid e1
        have HE2 := Lib.hid e2
        have hcy := HCY.out hC
        clear HA1 HA2 HA3 HA4 HCY HCN e1 e2 hA hB hC HNM HNU HSN
        generalize (⟨(cmpL op).toArray⟩ : ByteArray) = CT at *
        go_wp2_with fail
        refine (HCM.out _).mono ?_
        rintro e w2 ⟨rfl, rfl⟩
        go_wp2_with fail
        refine (HWL.out _ (Below.refl _ _)).mono ?_
        rintro e w3 ⟨rfl, hb3⟩
        have HB3 := Lib.hid hb3
        have d0 := sh_mono c0 hb3 (Nat.le_refl _); have d3 := sh_mono c3 hb3 (Nat.le_refl _); have d4 := sh_mono c4 hb3 (Nat.le_refl _)
        clear hb3
        go_wp2_with fail
        refine (HWR.out _ HB3.out).mono ?_
        rintro e w4 ⟨rfl, hb4⟩
        have HB4 := Lib.hid (HB3.out.trans (hb4.mono HB3.out.size))
        have f0 := sh_mono d0 hb4 (Nat.le_refl _)
        clear hb4 c0 c1 c2 c3 c4 c5 c6 c7 c8 d0 d3 d4
        cases bl
        all_goals
          go_wp2_with fail
          refine (HSG.out _).mono ?_
          rintro e w5 ⟨rfl, rfl⟩
          go_wp2_with fail
          go_ret2
          exact ⟨by rw [← HE2.out, ← HE1.out]; rfl, HB.out.trans (HB4.out.mono HB.out.size)⟩
      · obtain ⟨e1, e2⟩ := HA4.out (by omega)
        have HE1 := Lib.hid e1
        have HE2 := Lib.hid e2
        have hcn := HCN.out hC
        clear HA1 HA2 HA3 HA4 HCY HCN e1 e2 hA hB hC HNM HNU HSN HWL HWR
        rw [hcn] at HCM
        go_wp2_with fail
        refine (HCM.out _).mono ?_
        rintro e w2 ⟨rfl, rfl⟩
        go_wp2_with fail
        refine (HSG.out _).mono ?_
        rintro e w5 ⟨rfl, rfl⟩
        go_wp2_with fail
        go_ret2
        exact ⟨by rw [← HE2.out, ← HE1.out]; rfl, HB.out⟩
end Go.Proofs.YtbplkphjjfgkmaaDoor
