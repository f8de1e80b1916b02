/-
  Names: the law on which tables there are, what is wrong first, and what any name is, by a walk.
-/
import Derived.Test.YtgjbchkplpdeiaaNamAw
import Derived.Test.YtgjbchkplpdeiaaNamChk
namespace Go.Proofs.Ytgjbchkplpdeiaa
open Go.RowKit Go.Maps
set_option linter.unusedVariables false
set_option linter.unusedSimpArgs false

theorem chk_good {l : List St} (hg : Nm.Good l) {w w' : World} {e : Ending} (h : ChkAns l w e w') : e = .returned (.agg #[.int .i64 0, .int .i64 0, .int .i64 0]) ∧ Below w.heap.size w w' := by
  rcases h with ⟨_, h1, h2⟩ | ⟨i, hi, _, hne, _⟩
  · exact ⟨h1, h2⟩
  · exact (Nm.good_bad hi hg hne).elim
theorem chk_bad {l : List St} {i : Nat} (hi : i < l.length) (hg : Nm.Good (l.take i)) (hne : Nm.errOf (l.take i) l[i] ≠ 0) {w w' : World} {e : Ending} (h : ChkAns l w e w') :
    e = .returned (.agg #[.int .i64 (Nm.errOf (l.take i) l[i]), .int .i64 l[i].line, .int .i64 l[i].col]) ∧ Below w.heap.size w w' := by
  rcases h with ⟨h0, _⟩ | ⟨i', hi', hg', hne', h1, h2⟩
  · exact (Nm.good_bad hi h0 hne).elim
  · obtain rfl : i = i' := Nm.bad_one hi hi' hg hg' hne hne'
    exact ⟨h1, h2⟩
theorem cells_later {W w2 : World} {F : Nat} {t : TypeId} {x y z : Value} (h : W.heap[F]? = some (.cells #[x, y, z] t (0, 0))) (hb : Below W.heap.size W w2) :
    (w2.cell? ⟨F, 0, none⟩ = some x ∧ w2.cell? ⟨F, 1, none⟩ = some y ∧ w2.cell? ⟨F, 2, none⟩ = some z) ∧ F < w2.heap.size := by
  have h1 : w2.heap[F]? = some (.cells #[x, y, z] t (0, 0)) := (hb.block F (Array.getElem?_eq_some_iff.1 h).1).trans h
  exact ⟨rcells3 h1, (Array.getElem?_eq_some_iff.1 h1).1⟩
theorem sameF_refl (a b c : Int) : sameF a b c a b c = true := by simp [sameF]
theorem cnt_all (l : List St) (k : Int) : Nm.cnt (l.take l.length) k = Nm.cnt l k := by rw [List.take_length]
set_option maxHeartbeats 2000000 in
theorem namesFinds_walk (a : Option Addr) (c : Nat) (l : List St) (s : ByteArray) (k : Int) (w : World) (hl : RdS w a l) (hf : ∀ x ∈ l, x.fit) (hm : l.length ≤ maxLen) (hs : s.size ≤ maxLen) (bk : -9223372036854775808 ≤ k ∧ k ≤ 9223372036854775807) :
    Calls Try.prog 8 #[.slice a l.length c, .string s, .int .i64 k] w fun e w' => e = .returned (.bool true) ∧ Below w.heap.size w w' := by
  have hm2 : l.length ≤ 9223372036854775807 := by unfold maxLen at hm; omega
  have HAW : Hid (∀ w', Below w.heap.size w w' → Calls Try.prog 27 #[] w' fun e w2 => e = .returned (.bool true) ∧ Below w.heap.size w w2) := Lib.hid fun w' hb => (nawake_any w').mono fun e w2 h => ⟨h.1, hb.trans (h.2.mono hb.size)⟩
  have hu : ∀ b : Bool, ¬ (some undef = some (Value.bool b)) := fun b h => by cases h
  by_cases h80 : (80 : Int) < (l.length : Int)
  · clear hl hf
    go_enter Try.func8, Try.ntmps8
    go_wp2_with fail
    refine (HAW.out w (Below.refl _ _)).mono ?_
    rintro e w2 ⟨rfl, hb⟩
    have HB := Lib.hid hb
    clear hb
    go_wp2_with fail
    go_ret
    exact ⟨rfl, HB.out⟩
  · have HBD := Lib.hid (build_any a c l w hl hf hm2)
    have HL := Lib.hid hl
    have HCK : Hid (∀ w2, Below w.heap.size w w2 → Calls Try.prog 29 #[.slice a l.length c] w2 (ChkAns l w2)) := Lib.hid fun w2 hb => rcheck_any a c l w2 (hl.mono hb (Nat.le_refl _)) hf hm2
    have HS := Lib.hid hs
    have BK := Lib.hid bk
    clear hl hf hs bk
    go_enter Try.func8, Try.ntmps8
    go_wp2_with fail
    refine (HBD.out).mono ?_
    clear HBD
    rintro e w1 (⟨hg, p, cs, vn, vp, b1, b2, D1, D2, rfl, hi, hb⟩ | ⟨i, hi, hg, hne, rfl, hb⟩)
    · have hsz : w.heap.size + 1 ≤ w1.heap.size := by have := lt_of_cell (hi.cell 0 |>.trans hi.c0); have := hi.base; simp only at *; omega
      have HI : Hid (∀ w2, Below w1.heap.size w1 w2 → IsN w2 (w.heap.size + 1) p cs vn vp b1 b2 D1 D2 l ∧ Below w.heap.size w w2) := Lib.hid fun w2 h => ⟨hi.still hsz h, hb.trans (h.mono hb.size)⟩
      have HG := Lib.hid hg
      clear hi hb hg
      go_wp2_with fail
      have hW1 := heap_alloc_new w1 (.cells #[.int .i64 0, .int .i64 0, .int .i64 0] 43)
      have HB1 := Lib.hid (bel_alloc w1 (.cells #[.int .i64 0, .int .i64 0, .int .i64 0] 43))
      generalize w1.alloc (.cells #[.int .i64 0, .int .i64 0, .int .i64 0] 43) = W1 at *
      have HW1 := Lib.hid hW1
      clear hW1
      refine (HCK.out W1 (HI.out W1 HB1.out).2).mono ?_
      rintro e w2 hck
      obtain ⟨rfl, hb2⟩ := chk_good HG.out hck
      have HB2 := Lib.hid (HB1.out.trans (hb2.mono HB1.out.size))
      obtain ⟨⟨f0, f1, f2⟩, hFl⟩ := cells_later HW1.out hb2
      have f0a : ∀ o, (w2.alloc o).cell? ⟨w1.heap.size, 0, none⟩ = some (.int .i64 0) := fun o => by rw [World.cell?_alloc_past _ _ _ hFl]; exact f0
      have f1a : ∀ o, (w2.alloc o).cell? ⟨w1.heap.size, 1, none⟩ = some (.int .i64 0) := fun o => by rw [World.cell?_alloc_past _ _ _ hFl]; exact f1
      have f2a : ∀ o, (w2.alloc o).cell? ⟨w1.heap.size, 2, none⟩ = some (.int .i64 0) := fun o => by rw [World.cell?_alloc_past _ _ _ hFl]; exact f2
      have hq : ∀ w, (Op.equalIn 10000 43 (.agg #[.int .i64 0, .int .i64 0, .int .i64 0]) (.agg #[.int .i64 0, .int .i64 0, .int .i64 0])).run Try.prog w = .ok true w := fun w => by rw [neqFault]; rfl
      clear hb2 hck f0 f1 f2 hFl HCK HW1
      have HB3 : Hid (∀ o, Below w1.heap.size w1 (w2.alloc o)) := Lib.hid fun o => HB2.out.trans ((bel_alloc w2 o).mono HB2.out.size)
      have HCT : Hid (∀ w3, Below w1.heap.size w1 w3 → Calls Try.prog 32 #[.pointer (some ⟨p, 0, none⟩), .int .i64 k] w3 fun e w4 => e = .returned (.int .i64 (Nm.cnt l k : Nat)) ∧ w3 = w4) := Lib.hid fun w3 h => count_any k (HI.out w3 h).1
      have HAL : Hid (∀ w3, Below w1.heap.size w1 w3 → Calls Try.prog 35 #[.slice a l.length c, .int .i64 (l.length : Nat), .int .i64 k] w3 fun e w4 => e = .returned (.int .i64 (Nm.cnt l k : Nat)) ∧ w3 = w4) := Lib.hid fun w3 h => by
        have := ahead_any a c l l.length k w3 (HL.out.mono (HI.out w3 h).2 (Nat.le_refl _)) (Nat.le_refl _) hm2
        rwa [cnt_all] at this
      obtain ⟨r0, hr0⟩ := Nm.fnd_some l s l.length
      have HRF : Hid (∀ w3, Below w1.heap.size w1 w3 → Calls Try.prog 34 #[.slice a l.length c, .int .i64 (l.length : Nat), .string s] w3 fun e w4 => e = .returned (.int .i64 r0) ∧ Below w3.heap.size w3 w4) := Lib.hid fun w3 h => rfind_is a c l l.length s w3 (HL.out.mono (HI.out w3 h).2 (Nat.le_refl _)) (Nat.le_refl _) hm2 r0 hr0
      have HRN : Hid (∀ w3, Below w1.heap.size w1 w3 → Calls Try.prog 36 #[.slice a l.length c, .string s, .int .i64 k] w3 fun e w4 => e = .returned (.tuple #[.int .i64 (Nm.needOf l k r0).1, .int .i64 (Nm.needOf l k r0).2]) ∧ Below w3.heap.size w3 w4) := Lib.hid fun w3 h => rneed_any a c l s k w3 (HL.out.mono (HI.out w3 h).2 (Nat.le_refl _)) hm2 r0 hr0
      have hcc : (((Nm.cnt l k : Nat) : Int) == ((Nm.cnt l k : Nat) : Int)) = true := by simp
      rcases hr0 with ⟨hr0, hno⟩ | ⟨i0, hr0, hi0, ⟨hi0', hnm, hnn⟩, _⟩
      · have hnot : s ∉ Nm.names l := fun h => by
          obtain ⟨j, hj⟩ := Nm.mem_names.1 h
          exact hno j (by obtain ⟨h1, _⟩ := hj; exact h1) hj
        have HFD : Hid (∀ w3, Below w1.heap.size w1 w3 → Calls Try.prog 30 #[.pointer (some ⟨p, 0, none⟩), .string s] w3 fun e w4 => e = .returned (.tuple #[.int .i64 0, .int .i64 0, .bool false]) ∧ w3 = w4) := Lib.hid fun w3 h => find_no s HS.out (HI.out w3 h).1 hnot
        have HND : Hid (∀ w3, Below w1.heap.size w1 w3 → Calls Try.prog 31 #[.pointer (some ⟨p, 0, none⟩), .string s, .int .i64 k] w3 fun e w4 => e = .returned (.tuple #[.int .i64 0, .int .i64 7]) ∧ w3 = w4) := Lib.hid fun w3 h => need_no s k HS.out (HI.out w3 h).1 hnot
        have hnd : Nm.needOf l k r0 = (0, 7) := by rw [hr0]; rfl
        rw [hnd] at HRN
        rw [hr0] at HRF
        clear hno hnot hnd hr0
        generalize Nm.cnt l k = ct at *
        go_wp2_with fail
        refine (HFD.out _ (HB3.out _)).mono ?_
        rintro e w4 ⟨rfl, rfl⟩
        go_wp2_with fail
        refine (HND.out _ (HB3.out _)).mono ?_
        rintro e w4 ⟨rfl, rfl⟩
        go_wp2_with fail
        refine (HRF.out _ (HB3.out _)).mono ?_
        rintro e w4 ⟨rfl, hb4⟩
        have HB4 := Lib.hid ((HB3.out _).trans (hb4.mono (HB3.out _).size))
        clear hb4
        go_wp2_with fail
        refine (HRN.out _ HB4.out).mono ?_
        rintro e w5 ⟨rfl, hb5⟩
        have HB5 := Lib.hid (HB4.out.trans (hb5.mono HB4.out.size))
        clear hb5
        go_wp2_with fail
        refine (HCT.out _ HB5.out).mono ?_
        rintro e w6 ⟨rfl, rfl⟩
        go_wp2_with fail
        refine (HAL.out _ HB5.out).mono ?_
        rintro e w6 ⟨rfl, rfl⟩
        go_wp2_with fail
        refine (HAW.out _ (HI.out _ HB5.out).2).mono ?_
        rintro e w9 ⟨rfl, hb9⟩
        have HB9 := Lib.hid hb9
        clear hb9
        go_wp2_with fail
        go_ret
        exact ⟨rfl, HB9.out⟩
      · obtain ⟨j, n, hn, hp, _, hnt⟩ := Nm.place_of i0 hi0' hnm
        rw [hnn] at hn
        have HFD : Hid (∀ w3, Below w1.heap.size w1 w3 → Calls Try.prog 30 #[.pointer (some ⟨p, 0, none⟩), .string s] w3 fun e w4 => e = .returned (.tuple #[.int .i64 l[i0].kind, .int .i64 (n : Nat), .bool true]) ∧ ∃ m, w4 = w3.drewN m) := Lib.hid fun w3 h => find_yes s HS.out (HI.out w3 h).1 j _ n hn hp
        have hnd : Nm.needOf l k r0 = (if l[i0].kind = k then (n : Int) else 0, if l[i0].kind = k then 0 else 8) := by
          unfold Nm.needOf
          rw [hr0, if_neg (by omega)]
          by_cases hk : l[i0].kind = k
          · rw [if_pos hk, if_pos hk, if_pos (by simp [hi0', hk])]
            rw [hnt, hk]; rfl
          · rw [if_neg hk, if_neg hk, if_neg (by simp [hi0', hk])]
        have HND : Hid (∀ w3, Below w1.heap.size w1 w3 → Calls Try.prog 31 #[.pointer (some ⟨p, 0, none⟩), .string s, .int .i64 k] w3 fun e w4 => e = .returned (.tuple #[.int .i64 (Nm.needOf l k r0).1, .int .i64 (Nm.needOf l k r0).2]) ∧ ∃ m, w4 = w3.drewN m) := Lib.hid fun w3 h => by
          rw [hnd]; exact need_yes s k HS.out (HI.out w3 h).1 j _ n hn hp
        have HAI : Hid (∀ w3, Below w1.heap.size w1 w3 → Calls Try.prog 35 #[.slice a l.length c, .int .i64 (i0 : Nat), .int .i64 l[i0].kind] w3 fun e w4 => e = .returned (.int .i64 (n : Nat)) ∧ w3 = w4) := Lib.hid fun w3 h => by
          rw [hnt]; exact ahead_any a c l i0 l[i0].kind w3 (HL.out.mono (HI.out w3 h).2 (Nat.le_refl _)) (by omega) hm2
        have HK0 : Hid (∀ w3, Below w1.heap.size w1 w3 → ∃ b off, a = some ⟨b, off, none⟩ ∧ w3.cell? ⟨b, off + i0 * 12, none⟩ = some (.int .i64 l[i0].kind)) := Lib.hid fun w3 h => by
          obtain ⟨b, off, ha, hrg⟩ := (HL.out.mono (HI.out w3 h).2 (Nat.le_refl _)).at (by omega)
          refine ⟨b, off, ha, ?_⟩
          have := hrg i0 hi0' 0 _ rfl
          simpa using this
        have hkk : (l[i0].kind != l[i0].kind) = false := by simp
        have hnn2 : (((n : Nat) : Int) != ((n : Nat) : Int)) = false := by simp
        have hge : decide ((0 : Int) ≤ (i0 : Int)) = true := by simp
        have hge2 : (0 : Int) ≤ (i0 : Int) := by omega
        rw [hr0] at HRF
        have hpp : ((Nm.needOf l k r0).1 == (Nm.needOf l k r0).1) = true := by simp
        have hee : ((Nm.needOf l k r0).2 == (Nm.needOf l k r0).2) = true := by simp
        clear hnd hn hp hnt hnm hnn hr0
        generalize (Nm.needOf l k r0).1 = pn at *
        generalize (Nm.needOf l k r0).2 = en at *
        generalize l[i0].kind = ki at *
        generalize Nm.cnt l k = ct at *
        go_wp2_with fail
        refine (HFD.out _ (HB3.out _)).mono ?_
        rintro e w4 ⟨rfl, m4, hd4⟩
        have HB4 := Lib.hid (hd4 ▸ nbelow_dn (HB3.out _) m4 : Below w1.heap.size w1 w4)
        clear hd4
        go_wp2_with fail
        refine (HND.out _ HB4.out).mono ?_
        rintro e w5 ⟨rfl, m5, hd5⟩
        have HB5 := Lib.hid (hd5 ▸ nbelow_dn HB4.out m5 : Below w1.heap.size w1 w5)
        clear hd5
        go_wp2_with fail
        refine (HRF.out _ HB5.out).mono ?_
        rintro e w6 ⟨rfl, hb6⟩
        have HB6 := Lib.hid (HB5.out.trans (hb6.mono HB5.out.size))
        clear hb6
        obtain ⟨b, off, ha, c0⟩ := HK0.out w6 HB6.out
        subst ha
        go_wp2_with fail
        refine (HAI.out _ HB6.out).mono ?_
        rintro e w7 ⟨rfl, rfl⟩
        go_wp2_with fail
        refine (HRN.out _ HB6.out).mono ?_
        rintro e w7 ⟨rfl, hb7⟩
        have HB7 := Lib.hid (HB6.out.trans (hb7.mono HB6.out.size))
        clear hb7 c0
        go_wp2_with fail
        refine (HCT.out _ HB7.out).mono ?_
        rintro e w8 ⟨rfl, rfl⟩
        go_wp2_with fail
        refine (HAL.out _ HB7.out).mono ?_
        rintro e w8 ⟨rfl, rfl⟩
        go_wp2_with fail
        refine (HAW.out _ (HI.out _ HB7.out).2).mono ?_
        rintro e w9 ⟨rfl, hb9⟩
        have HB9 := Lib.hid hb9
        clear hb9
        go_wp2_with fail
        go_ret
        exact ⟨rfl, HB9.out⟩
    · have HI : Hid (∀ w2, Below w1.heap.size w1 w2 → Below w.heap.size w w2) := Lib.hid fun w2 h => hb.trans (h.mono hb.size)
      have HCB : Hid (∀ w2, Below w.heap.size w w2 → Calls Try.prog 29 #[.slice a l.length c] w2 fun e w3 => e = .returned (.agg #[.int .i64 (Nm.errOf (l.take i) l[i]), .int .i64 l[i].line, .int .i64 l[i].col]) ∧ Below w2.heap.size w2 w3) := Lib.hid fun w2 h => (HCK.out w2 h).mono fun e w3 h3 => chk_bad hi hg hne h3
      have he0 : (Nm.errOf (l.take i) l[i] == 0) = false := by rw [beq_eq_false_iff_ne]; exact hne
      clear hb hne hg HCK
      generalize Nm.errOf (l.take i) l[i] = er at *
      generalize l[i] = x at *
      go_wp2_with fail
      have hW1 := heap_alloc_new w1 (.cells #[.int .i64 er, .int .i64 x.line, .int .i64 x.col] 43)
      have HB1 := Lib.hid (bel_alloc w1 (.cells #[.int .i64 er, .int .i64 x.line, .int .i64 x.col] 43))
      generalize w1.alloc (.cells #[.int .i64 er, .int .i64 x.line, .int .i64 x.col] 43) = W1 at *
      have HW1 := Lib.hid hW1
      clear hW1
      refine (HCB.out W1 (HI.out W1 HB1.out)).mono ?_
      rintro e w2 ⟨rfl, hb2⟩
      have HB2 := Lib.hid (HB1.out.trans (hb2.mono HB1.out.size))
      obtain ⟨⟨f0, f1, f2⟩, hFl⟩ := cells_later HW1.out hb2
      have f0a : ∀ o, (w2.alloc o).cell? ⟨w1.heap.size, 0, none⟩ = some (.int .i64 er) := fun o => by rw [World.cell?_alloc_past _ _ _ hFl]; exact f0
      have f1a : ∀ o, (w2.alloc o).cell? ⟨w1.heap.size, 1, none⟩ = some (.int .i64 x.line) := fun o => by rw [World.cell?_alloc_past _ _ _ hFl]; exact f1
      have f2a : ∀ o, (w2.alloc o).cell? ⟨w1.heap.size, 2, none⟩ = some (.int .i64 x.col) := fun o => by rw [World.cell?_alloc_past _ _ _ hFl]; exact f2
      have hq : ∀ w, (Op.equalIn 10000 43 (.agg #[.int .i64 er, .int .i64 x.line, .int .i64 x.col]) (.agg #[.int .i64 er, .int .i64 x.line, .int .i64 x.col])).run Try.prog w = .ok true w := fun w => by rw [neqFault, sameF_refl]
      have HB3 : Hid (∀ o, Below w1.heap.size w1 (w2.alloc o)) := Lib.hid fun o => HB2.out.trans ((bel_alloc w2 o).mono HB2.out.size)
      clear hb2 f0 f1 f2 hFl HW1
      have HFD : Hid (∀ w3, Calls Try.prog 30 #[.pointer none, .string s] w3 fun e w4 => e = .returned (.tuple #[.int .i64 0, .int .i64 0, .bool false]) ∧ w3 = w4) := Lib.hid fun w3 => find_nil s w3
      have HND : Hid (∀ w3, Calls Try.prog 31 #[.pointer none, .string s, .int .i64 k] w3 fun e w4 => e = .returned (.tuple #[.int .i64 0, .int .i64 7]) ∧ w3 = w4) := Lib.hid fun w3 => need_nil s k w3
      have HCT : Hid (∀ w3, Calls Try.prog 32 #[.pointer none, .int .i64 k] w3 fun e w4 => e = .returned (.int .i64 0) ∧ w3 = w4) := Lib.hid fun w3 => count_nil k w3
      have HNM : Hid (∀ w3, Calls Try.prog 33 #[.pointer none, .int .i64 k, .int .i64 0] w3 fun e w4 => e = .returned (.string { data := #[] }) ∧ w3 = w4) := Lib.hid fun w3 => name_nil k 0 w3
      go_wp2_with fail
      refine (HFD.out _).mono ?_
      rintro e w4 ⟨rfl, rfl⟩
      go_wp2_with fail
      refine (HND.out _).mono ?_
      rintro e w4 ⟨rfl, rfl⟩
      go_wp2_with fail
      refine (HCT.out _).mono ?_
      rintro e w4 ⟨rfl, rfl⟩
      go_wp2_with fail
      refine (HNM.out _).mono ?_
      rintro e w4 ⟨rfl, rfl⟩
      go_wp2_with fail
      refine (HAW.out _ (HI.out _ (HB3.out _))).mono ?_
      rintro e w9 ⟨rfl, hb9⟩
      have HB9 := Lib.hid hb9
      clear hb9
      go_wp2_with fail
      go_ret
      exact ⟨rfl, HB9.out⟩
end Go.Proofs.Ytgjbchkplpdeiaa
