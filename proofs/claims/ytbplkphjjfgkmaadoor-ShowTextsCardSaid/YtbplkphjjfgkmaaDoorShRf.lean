/-
  ref.Formula, the law's great, and the law ShowTexts: by walks.
-/
import Derived.Test.YtbplkphjjfgkmaaDoorShTxt
import Derived.Test.YtbplkphjjfgkmaaDoorShAw
namespace Go.Proofs.YtbplkphjjfgkmaaDoor
open Go.RowKit
set_option linter.unusedVariables false
set_option linter.unusedSimpArgs false

theorem rtext_any (b off c : Nat) (l : List It) (hf : fm l = true) (hx : ∀ x ∈ l, Sh.few x) {s e : Nat} {p : Tr.Pt} (h : Tr.Span (opsOf l) s e p) : TextOk b off c l p := by
  induction h with
  | leaf i h1 h2 =>
    have hi : i < l.length := by rw [opsOf_len] at h1; exact h1
    have hop : (opsOf l).getD i 0 = l[i].op := opsOf_at hi
    exact rtext_leaf b off c l i hf hi (by rw [← hop]; exact h2) (part_eq hf (Tr.Span.leaf i h1 h2)) (hx _ (List.getElem_mem hi))
  | one s e k h1 h2 h3 ih =>
    have hi : e + 1 < l.length := by rw [opsOf_len] at h1; exact h1
    have hop : (opsOf l).getD (e + 1) 0 = l[e + 1].op := opsOf_at hi
    exact rtext_one b off c l (e + 1) k hf hi (by rw [← hop]; exact h2) (part_eq hf (Tr.Span.one s e k h1 h2 h3)) ih (by rw [h3.le.2.2.1]; omega) (txB_small hf hx h3)
  | two s m e ka kb h1 h2 h3 h4 ih1 ih2 =>
    have hi : e + 1 < l.length := by rw [opsOf_len] at h1; exact h1
    have hop : (opsOf l).getD (e + 1) 0 = l[e + 1].op := opsOf_at hi
    have := h4.le
    exact rtext_two b off c l (e + 1) ka kb hf hi (by rw [← hop]; exact h2) (part_eq hf (Tr.Span.two s m e ka kb h1 h2 h3 h4)) ih1 (by rw [h3.le.2.2.1]; omega) (txB_small hf hx h3) ih2 (by rw [h4.le.2.2.1]; omega) (txB_small hf hx h4)
set_option maxRecDepth 100000 in
set_option maxHeartbeats 4000000 in
theorem rformula_any (a : Option Addr) (c : Nat) (l : List It) (w : World) (hl : RdI w a l) (hm : l.length ≤ maxLen) (hx : ∀ x ∈ l, Sh.few x) :
    Calls Tryd.prog 41 #[.slice a l.length c] w (FmAns l w) := by
  have hu : ∀ b : Bool, ¬ (some undef = some (Value.bool b)) := fun b h => by cases h
  have HC := Lib.hid (rcheck_any a c l w hl hm)
  cases hf : fm l with
  | false =>
    have HN := Lib.hid (Sh.ans_no hf)
    have hz := chk_no hf
    have hz2 : (chk l != 0) = true := by rcases hz with h | h | h <;> rw [h] <;> decide
    clear hz hl hm hx hf
    unfold FmAns
    rw [HN.out]
    generalize chk l = z at *
    go_enter Tryd.func41, Tryd.ntmps41
    go_wp2_with fail
    refine HC.out.mono ?_
    rintro e w2 ⟨rfl, rfl⟩
    go_wp2_with fail
    go_ret2
    exact ⟨rfl, Below.refl _ _⟩
  | true =>
    obtain ⟨hp, h64, -⟩ := fm_yes hf
    have hz : chk l = 0 := chk_ok hf
    rw [hz] at HC
    obtain ⟨b, off, ha, hrg⟩ := hl.at hp
    subst ha
    obtain ⟨m, hlm⟩ : ∃ m, l.length = m + 1 := ⟨l.length - 1, by omega⟩
    have HF := Lib.hid hf
    have HTX : Hid (∀ W, Below w.heap.size w W → Calls Tryd.prog 83 #[.slice (some ⟨b, off, none⟩) l.length c, .int .i64 (m : Int)] W fun e w' => e = .returned (.string (Sh.txB l (partAt l (l.length - 1)))) ∧ Below W.heap.size W w') := Lib.hid fun W hW => by
      obtain ⟨s, hsp⟩ := part_span hf (j := l.length - 1) (by omega)
      have h := rtext_any b off c l hf hx hsp W (hl.mono hW (Nat.le_refl _))
      rw [hsp.le.2.2.1] at h
      rw [show (m : Int) = ((l.length - 1 : Nat) : Int) by omega]
      exact h
    have HWM : Hid (IntKind.i64.wrap ((l.length : Int) - 1) = (m : Int)) := Lib.hid ((IntWalk.i64_in _ (by omega)).trans (by omega))
    have HR := Lib.hid hrg
    clear hz hl hm hx hf hrg hlm
    go_enter Tryd.func41, Tryd.ntmps41
    go_wp2_with fail
    refine HC.out.mono ?_
    rintro e wc ⟨rfl, rfl⟩
    clear HC
    go_wp2_with fail
    go_loopw [5] (fun v5 wr => ∃ (i : Nat), v5 = .int .i64 i ∧ i ≤ l.length ∧ Hid (Below w.heap.size w wr) ∧ Hid (∀ j (hj : j < l.length), j < i → Sh.atomOk l[j] = true)) (fun v5 _ => l.length - (intOf v5).toNat)
    case atStart => exact ⟨0, rfl, by omega, Lib.hid (Below.refl _ _), Lib.hid fun j hj h => by omega⟩
    case round =>
      obtain ⟨i, rfl, hi, HB, HOK⟩ := hrel
      by_cases hlt : i < l.length
      · have hrw0 : wr.rangeAt b (off + i * 9) l[i].cells := fun j v hj => sh_mono (HR.out i hlt j v hj) HB.out (Nat.le_refl _)
        have HBAD : Hid (Sh.atomOk l[i] = false → Sh.ans l = (ByteArray.empty, 17)) := Lib.hid fun h => Sh.ans_bad HF.out hlt h
        have HOK2 : Hid (Sh.atomOk l[i] = true → ∀ j (hj : j < l.length), j < i + 1 → Sh.atomOk l[j] = true) := Lib.hid fun h j hj h2 => by
          by_cases e : j = i
          · subst e; exact h
          · exact HOK.out j hj (by omega)
        clear HOK
        generalize l[i] = x at *
        have hrw : wr.rangeAt b (off + i * 9) [.int .i64 x.op, .string x.ln, .int .i64 x.lv, .string x.rn, .int .i64 x.rv, .string x.nm, .string x.us, .int .i64 x.line, .int .i64 x.col] := hrw0
        clear hrw0
        have HNM := Lib.hid (rnamed_any x wr)
        generalize Sh.atomOk x = ok at *
        go_wp2_with (first | (refine wpList_load_mid rfl 54 (.tmp 19) rfl b (off + i * 9) rfl _ _ hrw Tryd.underlying54 rfl sizeItem ?_))
        refine HNM.out.mono ?_
        rintro e w3 ⟨rfl, hb3⟩
        have HB3 := Lib.hid (HB.out.trans (hb3.mono HB.out.size))
        clear hb3 HNM
        cases ok with
        | false =>
          have HAN := Lib.hid (HBAD.out rfl)
          go_wp2_with fail
          go_ret2
          exact ⟨by rw [HAN.out]; rfl, HB3.out⟩
        | true =>
          go_wp2_with fail
          go_roundw
          case rel => exact ⟨i + 1, by go_num, by omega, HB3, Lib.hid (HOK2.out (by first | rfl | trivial))⟩
          case measure => simp [intOf] <;> omega
      · have hie : i = l.length := by omega
        subst hie
        have HAN := Lib.hid (Sh.ans_ok HF.out (fun j hj => HOK.out j hj hj))
        have hwm := HWM.out
        have HTW := Lib.hid (HTX.out _ HB.out)
        clear HOK HTX HWM
        generalize Sh.txB l (partAt l (l.length - 1)) = T at *
        go_wp2_with fail
        refine HTW.out.mono ?_
        rintro e w3 ⟨rfl, hb3⟩
        have HB3 := Lib.hid (HB.out.trans (hb3.mono HB.out.size))
        clear hb3 HTW
        go_wp2_with fail
        go_ret2
        exact ⟨by rw [HAN.out]; rfl, HB3.out⟩
/-- No name of an item is too long. -/
def Sml (x : It) : Prop := x.nm.size ≤ 60 ∧ x.us.size ≤ 60 ∧ x.ln.size ≤ 60 ∧ x.rn.size ≤ 60
def GrAns06 (l : List It) (w : World) (e : Ending) (w' : World) : Prop := ∃ g : Bool, e = .returned (.bool g) ∧ w = w' ∧ (g = false → ∀ j (hj : j < l.length), Sml l[j])
set_option maxRecDepth 100000 in
set_option maxHeartbeats 4000000 in
theorem great06_any (a : Option Addr) (c : Nat) (l : List It) (w : World) (hl : RdI w a l) (hm : l.length ≤ maxLen) :
    Calls Tryd.prog 38 #[.slice a l.length c] w (GrAns06 l w) := by
  have hu : ∀ b : Bool, ¬ (some undef = some (Value.bool b)) := fun b h => by cases h
  have hm2 : l.length ≤ 9223372036854775807 := by unfold maxLen at hm; omega
  have HL := Lib.hid hl
  clear hl hm
  go_enter Tryd.func38, Tryd.ntmps38
  go_wp2_with fail
  go_loopw [3] (fun v3 wr => ∃ i : Nat, v3 = .int .i64 i ∧ i ≤ l.length ∧ w = wr ∧ Hid (∀ j (hj : j < l.length), j < i → Sml l[j])) (fun v3 _ => l.length - (intOf v3).toNat)
  case atStart => exact ⟨0, rfl, by omega, rfl, Lib.hid fun j hj h => by omega⟩
  case round =>
    obtain ⟨i, rfl, hi, rfl, HP⟩ := hrel
    by_cases hlt : i < l.length
    · obtain ⟨b, off, rfl, hrg⟩ := HL.out.at (Nat.lt_of_le_of_lt (Nat.zero_le _) hlt)
      have HS : Hid (Sml l[i] → Hid (∀ j (hj : j < l.length), j < i + 1 → Sml l[j])) := Lib.hid fun h => Lib.hid fun j hj h2 => by
        by_cases e : j = i
        · subst e; exact h
        · exact HP.out j hj (by omega)
      have hrw := hrg i hlt
      clear hrg HP
      generalize l[i] = x at *
      have c5 : w.cell? ⟨b, off + i * 9 + 5, none⟩ = some (.string x.nm) := hrw 5 _ rfl
      have c6 : w.cell? ⟨b, off + i * 9 + 6, none⟩ = some (.string x.us) := hrw 6 _ rfl
      have c1 : w.cell? ⟨b, off + i * 9 + 1, none⟩ = some (.string x.ln) := hrw 1 _ rfl
      have c3 : w.cell? ⟨b, off + i * 9 + 3, none⟩ = some (.string x.rn) := hrw 3 _ rfl
      clear hrw
      by_cases h80 : 80 < i
      · have h80' : (80 : Int) < (i : Int) := by omega
        go_wp2_with fail
        go_ret
        exact ⟨true, rfl, rfl, fun h => by cases h⟩
      · have h80' : ¬ (80 : Int) < (i : Int) := by omega
        by_cases h0 : x.nm.size ≤ 60
        · have i0 : ¬ (60 : Int) < (x.nm.size : Int) := by omega
          by_cases h1 : x.us.size ≤ 60
          · have i1 : ¬ (60 : Int) < (x.us.size : Int) := by omega
            by_cases h2 : x.ln.size ≤ 60
            · have i2 : ¬ (60 : Int) < (x.ln.size : Int) := by omega
              by_cases h3 : x.rn.size ≤ 60
              · have i3 : ¬ (60 : Int) < (x.rn.size : Int) := by omega
                go_wp2_with fail
                go_roundw
                case rel => exact ⟨i + 1, by go_num, by omega, (by first | rfl | trivial), HS.out ⟨h0, h1, h2, h3⟩⟩
                case measure => simp [intOf] <;> omega
              · have i3 : (60 : Int) < (x.rn.size : Int) := by omega
                go_wp2_with fail
                go_ret
                exact ⟨true, rfl, rfl, fun h => by cases h⟩
            · have i2 : (60 : Int) < (x.ln.size : Int) := by omega
              go_wp2_with fail
              go_ret
              exact ⟨true, rfl, rfl, fun h => by cases h⟩
          · have i1 : (60 : Int) < (x.us.size : Int) := by omega
            go_wp2_with fail
            go_ret
            exact ⟨true, rfl, rfl, fun h => by cases h⟩
        · have i0 : (60 : Int) < (x.nm.size : Int) := by omega
          go_wp2_with fail
          go_ret
          exact ⟨true, rfl, rfl, fun h => by cases h⟩
    · have hie : i = l.length := by omega
      subst hie
      have HF := Lib.hid (fun j hj => HP.out j hj hj)
      clear HP
      go_wp2_with fail
      go_ret
      exact ⟨false, rfl, rfl, fun _ => HF.out⟩
set_option maxRecDepth 100000 in
set_option maxHeartbeats 4000000 in
theorem showTexts_walk (a : Option Addr) (c : Nat) (l : List It) (w : World) (hl : RdI w a l) (hok : ∀ x ∈ l, x.ok) (hm : l.length ≤ maxLen) (ht : Tab10 w) :
    Calls Tryd.prog 11 #[.slice a l.length c] w fun e w' => e = .returned (.bool true) ∧ Below w.heap.size w w' := by
  have hu : ∀ b : Bool, ¬ (some undef = some (Value.bool b)) := fun b h => by cases h
  have HG := Lib.hid (great06_any a c l w hl hm)
  have HX : Hid ((∀ j (hj : j < l.length), Sml l[j]) → ∀ x ∈ l, Sh.few x) := Lib.hid fun h x hx => by
    obtain ⟨j, hj, rfl⟩ := List.mem_iff_getElem.1 hx
    have h1 := h j hj
    have h2 := hok _ hx
    exact ⟨h1.1, h1.2.1, h1.2.2.1, h1.2.2.2, h2.lv, h2.rv⟩
  have HFM : Hid ((∀ x ∈ l, Sh.few x) → Calls Tryd.prog 40 #[.slice a l.length c] w (FmAns l w)) := Lib.hid fun h => formula_any a c l w hl hm h ht
  have HRF : Hid ((∀ x ∈ l, Sh.few x) → ∀ W, Below w.heap.size w W → Calls Tryd.prog 41 #[.slice a l.length c] W (FmAns l W)) := Lib.hid fun h W hW => rformula_any a c l W (hl.mono hW (Nat.le_refl _)) hm h
  have HAW : Hid (∀ w', Below w.heap.size w w' → Calls Tryd.prog 39 #[] w' fun e w2 => e = .returned (.bool true) ∧ Below w.heap.size w w2) := Lib.hid fun w' hb => (awake06_any w' (ht.below hb)).mono fun e w2 h => ⟨h.1, hb.trans (h.2.mono hb.size)⟩
  clear hl hok hm ht
  unfold FmAns at HFM HRF
  generalize (Sh.ans l).1 = S at *
  generalize (Sh.ans l).2 = z at *
  go_enter Tryd.func11, Tryd.ntmps11
  go_wp2_with fail
  refine HG.out.mono ?_
  rintro e w1 ⟨g, rfl, rfl, hg⟩
  cases g with
  | true =>
    clear hg HX HFM HRF
    go_wp2_with fail
    refine (HAW.out _ (Below.refl _ _)).mono ?_
    rintro e w2 ⟨rfl, hb2⟩
    have HB2 := Lib.hid hb2
    clear hb2
    go_wp2_with fail
    go_ret
    exact ⟨rfl, HB2.out⟩
  | false =>
    have hfew := HX.out (hg rfl)
    replace HFM := Lib.hid (HFM.out hfew)
    replace HRF := Lib.hid (HRF.out hfew)
    clear hg HX hfew
    go_wp2_with fail
    refine HFM.out.mono ?_
    rintro e w2 ⟨rfl, hb2⟩
    have HB2 := Lib.hid hb2
    clear hb2 HFM
    go_wp2_with fail
    refine (HRF.out _ HB2.out).mono ?_
    rintro e w3 ⟨rfl, hb3⟩
    have HB3 := Lib.hid (HB2.out.trans (hb3.mono HB2.out.size))
    clear hb3 HRF HB2
    go_wp2_with fail
    refine (HAW.out _ HB3.out).mono ?_
    rintro e w4 ⟨rfl, hb4⟩
    have HB4 := Lib.hid hb4
    clear hb4
    go_wp2_with fail
    go_ret
    exact ⟨rfl, HB4.out⟩
end Go.Proofs.YtbplkphjjfgkmaaDoor
