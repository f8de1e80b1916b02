/-
  nest.firstRound, Circle, Roots, warderref10.Circle, Roots: by walks.
-/
import Derived.Test.YtgjbchkplpdeiaaNestTree
import Derived.Deep.LoopGhost
namespace Go.Proofs.Ytgjbchkplpdeiaa
open Go.RowKit
set_option linter.unusedVariables false
set_option linter.unusedSimpArgs false

set_option maxHeartbeats 1000000 in
theorem firstRound_any (a : Option Addr) (c : Nat) (l : List Int) (x : Int) (w : World) (hl : Reads w a (l.map (Value.int .i64))) (hm : l.length ≤ 1000000) (hC : Ns.C l x) :
    Calls Try.prog 69 #[.slice a l.length c, .int .i64 x] w fun e w' => ∃ f, e = .returned (.int .i64 f) ∧ Ns.Least l x f ∧ w = w' := by
  have hu : ∀ b : Bool, ¬ (some undef = some (Value.bool b)) := fun b h => by cases h
  obtain ⟨hx0, hx1⟩ := (Ns.isP_iff _ _).1 hC.1
  obtain ⟨d, hd⟩ := Ns.C_it hC
  obtain ⟨b, off, rfl, hc⟩ := hl.at (by simp; omega)
  have hcx := int_cell hc x hx0 hx1
  have HI := Lib.hid (fun i h0 h1 => int_cell hc i h0 h1)
  have HX := Lib.hid (And.intro hC hd)
  clear hc hl hC hd
  go_enter Try.func69, Try.ntmps69
  go_wp2_with fail
  go_loopg [5, 6] d (fun gk v5 v6 wr => ∃ (j : Nat) (f k : Int), j ≤ d ∧ d - j = gk ∧ v5 = .int .i64 f ∧ v6 = .int .i64 k ∧ Ns.it l (j + 1) x = k ∧ (∃ m, m ≤ j ∧ f = Ns.it l m x) ∧ (∀ m, m ≤ j → f ≤ Ns.it l m x) ∧ w = wr)
  case atStart => exact ⟨0, x, Ns.nx l x, by omega, rfl, rfl, rfl, rfl, ⟨0, by omega, rfl⟩, fun m h => by rw [show m = 0 by omega]; exact Int.le_refl _, rfl⟩
  case round =>
    obtain ⟨j, f, k, hj, hgk, rfl, rfl, hk, hf1, hf2, rfl⟩ := hrel
    have hkp : Ns.C l k := by rw [← hk]; exact Ns.it_C (HX.out).1 _
    obtain ⟨hk0, hk1⟩ := (Ns.isP_iff _ _).1 hkp.1
    have hck := HI.out k hk0 hk1
    have hfb : f ≤ x := by have := hf2 0 (by omega); exact this
    have hfp : Ns.C l f := by obtain ⟨m, _, e⟩ := hf1; rw [e]; exact Ns.it_C (HX.out).1 _
    obtain ⟨hf0, hf3⟩ := (Ns.isP_iff _ _).1 hfp.1
    have HF := Lib.hid (And.intro hf1 hf2)
    have HK := Lib.hid hk
    clear hf1 hf2 hk hkp hfp
    by_cases hkx : k = x
    · have hb : (k != x) = false := by simp [hkx]
      have HKX := Lib.hid hkx
      clear hkx
      go_wp2_with fail
      go_ret
      refine ⟨f, rfl, ⟨?_, fun z hz => ?_⟩, rfl⟩
      · obtain ⟨m, _, e⟩ := (HF.out).1
        rw [e]; exact Ns.it_R (HX.out).1 _
      · obtain ⟨m, rfl⟩ := Ns.R_it hz
        exact Ns.it_all (by rw [HK.out, HKX.out]) (HF.out).2 m
    · have hb : (k != x) = true := by simp [hkx]
      have hjd : j ≠ d := fun e => hkx (by rw [← HK.out, e, (HX.out).2])
      have HKX := Lib.hid hkx
      clear hkx
      have hit : Ns.it l (j + 1 + 1) x = Ns.nx l k := by rw [Ns.it_succ, HK.out]
      have HIT := Lib.hid hit
      clear hit
      generalize Ns.nx l k = y at *
      by_cases hfk : f ≤ k
      · go_wp2_with fail
        go_roundg (d - (j + 1))
        case measure => omega
        case rel =>
          refine ⟨j + 1, f, y, by omega, rfl, rfl, rfl, HIT.out, ?_, fun m hm => ?_, rfl⟩
          · obtain ⟨m, hm, e2⟩ := (HF.out).1
            exact ⟨m, by omega, e2⟩
          · by_cases e : m ≤ j
            · exact (HF.out).2 m e
            · rw [show m = j + 1 by omega, HK.out]; omega
      · go_wp2_with fail
        go_roundg (d - (j + 1))
        case measure => omega
        case rel =>
          refine ⟨j + 1, k, y, by omega, rfl, rfl, rfl, HIT.out, ⟨j + 1, by omega, HK.out.symm⟩, fun m hm => ?_, rfl⟩
          by_cases e : m ≤ j
          · have := (HF.out).2 m e; omega
          · rw [show m = j + 1 by omega, HK.out]; omega
theorem getD_at (B : List Int) (k : Nat) (h : k < B.length) : B[k]'h = B.getD k 0 := by rw [List.getD_eq_getElem?_getD, List.getElem?_eq_getElem h]; rfl
set_option maxHeartbeats 4000000 in
theorem circle_any (a : Option Addr) (c : Nat) (l : List Int) (w : World) (hl : Reads w a (l.map (Value.int .i64))) (hm : l.length ≤ 1000000) :
    Calls Try.prog 44 #[.slice a l.length c] w fun e w' => e = .returned (.int .i64 (Ns.circ l)) ∧ Below w.heap.size w w' := by
  have hu : ∀ b : Bool, ¬ (some undef = some (Value.bool b)) := fun b h => by cases h
  have PL := Lib.hid (fun a c i w => isPlace_any a l.length c i w hm)
  have HL := Lib.hid hl
  have FR := Lib.hid (fun x w hl hC => firstRound_any a c l x w hl hm hC)
  clear hl
  go_enter Try.func44, Try.ntmps44
  go_wp2_with (at_make; refine make_one rfl _ _ 63 rfl 3 (.int .i64 0) 8 Try.underlying63 Try.info3 rfl _ l.length rfl rfl rfl (by omega) (by unfold maxLen; omega) ?_; intro w1 own1 keep1; rw [show List.replicate l.length (Value.int .i64 0) = (List.replicate l.length (0 : Int)).map (Value.int .i64) by rw [List.map_replicate]] at own1; have bel1 := keep1.below (fun _ hf => hf.elim) (Nat.le_refl _); have OB := Lib.hid (And.intro own1 bel1); clear own1 keep1 bel1)
  go_loopw [4, 5, 6, 7, 13] (fun v4 _ _ _ v13 wr => ∃ (k : Nat) (found : Int) (B : List Int), k ≤ l.length ∧ v13 = .int .i64 k ∧ v4 = .int .i64 found ∧ Ns.Gone l B found ∧ (∀ j : Nat, j < k → B.getD j 0 ≠ 0) ∧ (∀ j : Nat, j < l.length → B.getD j 0 < (k : Int) + 1) ∧ wr.ownsRow w.heap.size 3 1 (.slice (some ⟨w.heap.size, 0, none⟩) l.length l.length) l.length (B.map (Value.int .i64)) ∧ Below w.heap.size w wr) (fun _ _ _ _ v13 _ => l.length - (intOf v13).toNat)
  case atStart => exact ⟨0, -1, _, by omega, rfl, rfl, Ns.Gone.none l, fun j h => by omega, fun j h => by
    rw [List.getD_eq_getElem?_getD, List.getElem?_replicate, if_pos h]; decide, (OB.out).1, (OB.out).2⟩
  case round =>
    obtain ⟨k, found, B, hk, rfl, rfl, hG, hall, hlow, hown, hbel⟩ := hrel
    have HG := Lib.hid (And.intro hG (And.intro hall hlow))
    have hBl := hG.len
    clear hG hall hlow
    by_cases hlt : k < l.length
    · go_wp2_with fail
      go_loopg [6] l.length (fun gk v6 wr => ∃ (x : Int) (P B2 : List Int), v6 = .int .i64 x ∧ Ns.Walk l B k x ((k : Int) + 1) P B2 ∧ l.length - P.length = gk ∧ wr.ownsRow w.heap.size 3 1 (.slice (some ⟨w.heap.size, 0, none⟩) l.length l.length) l.length (B2.map (Value.int .i64)) ∧ Below w.heap.size w wr)
      case atStart => exact ⟨k, [], B, rfl, Ns.Walk.start hBl (by omega) (HG.out).2.2, by simp, hown, hbel⟩
      case round =>
        obtain ⟨x, P, B2, rfl, hW, hgk, hown2, hbel2⟩ := hrel
        have hlr := (HL.out).mono hbel2 (Nat.le_refl _)
        have hB2 := hW.len
        by_cases hp : Ns.isP l.length x = true
        · obtain ⟨hx0, hx1⟩ := (Ns.isP_iff _ _).1 hp
          obtain ⟨b, off, rfl, hc⟩ := hlr.at (by simp; omega)
          have hcx := int_cell hc x hx0 hx1
          have hcb := hown2.cellAt x.toNat (by omega)
          rw [List.getElem?_map, List.getElem?_eq_getElem (by omega), getD_at B2 x.toNat (by omega)] at hcb
          simp only [Option.map_some] at hcb
          have hfz := hown2.frozenAt x.toNat
          have hgs := (hown2.lt w.heap.size rfl).2
          have st2 := (hown2.stored x.toNat (.int .i64 ((k : Int) + 1))).1
          rw [← List.map_set] at st2
          have hkg : Keeps (fun j => j = w.heap.size) wr (wr.setCell ⟨w.heap.size, x.toNat, none⟩ (.int .i64 ((k : Int) + 1))) := Keeps.setCell _ _ _ rfl
          have bel3 := hbel2.trans (hkg.below (fun j hj => by omega) hbel2.size)
          have hlr2 := (HL.out).mono bel3 (Nat.le_refl _)
          have hcx2 : (wr.setCell ⟨w.heap.size, x.toNat, none⟩ (.int .i64 ((k : Int) + 1))).cell? ⟨b, off + x.toNat, none⟩ = some (.int .i64 (Ns.nx l x)) := by
            obtain ⟨b', off', e1, hc'⟩ := hlr2.at (by simp; omega)
            simp only [Option.some.injEq, Addr.mk.injEq, and_true] at e1
            obtain ⟨rfl, rfl⟩ := e1
            exact int_cell hc' x hx0 hx1
          have HP := Lib.hid hp
          have HW := Lib.hid hW
          have HR := Lib.hid (And.intro hlr hlr2)
          have HC := Lib.hid hc
          clear hp hW hlr hlr2 hc
          generalize hgb : B2.getD x.toNat 0 = m at *
          have HGB := Lib.hid hgb
          clear hgb
          by_cases hm0 : m = 0
          · subst hm0
            have hWn := (HW.out).go HP.out HGB.out
            have hfit := Ns.fit l.length _ hWn.nodup (fun y hy => (hWn.new y hy).1)
            simp only [List.length_cons] at hfit
            have HWN := Lib.hid hWn
            clear hWn
            generalize Ns.nx l x = y at *
            go_wp2_with fail
            refine (PL.out _ _ _ _).mono ?_
            rintro e w2 ⟨rfl, rfl⟩
            rw [HP.out]
            go_wp2_with fail
            go_roundg (l.length - (P.length + 1))
            case measure => omega
            case rel => exact ⟨y, _, _, rfl, HWN.out, by simp, st2, bel3⟩
          · have hb0 : (m == 0) = false := by simp [hm0]
            have HM0 := Lib.hid hm0
            clear hm0
            by_cases hmk : m = (k : Int) + 1
            · have hbk : (m == (k : Int) + 1) = true := by simp [hmk]
              have hin := (HW.out).circle HP.out (HGB.out.trans hmk)
              have hCx := (HW.out).round hin
              have HIN := Lib.hid (And.intro hin hCx)
              have HMK := Lib.hid hmk
              clear hin hCx hmk
              go_wp2_with fail
              refine (PL.out _ _ _ _).mono ?_
              rintro e w2 ⟨rfl, rfl⟩
              rw [HP.out]
              go_wp2_with fail
              refine (PL.out _ _ _ _).mono ?_
              rintro e w2 ⟨rfl, rfl⟩
              rw [HP.out]
              go_wp2_with fail
              refine (FR.out x _ (HR.out).1 (HIN.out).2).mono ?_
              rintro e w2 ⟨f, rfl, hf, rfl⟩
              have hnew := (HW.out).new_end (HG.out).1 (HIN.out).1 hf
              have hall2 := (HW.out).all hlt (HG.out).2.1 (fun _ => by rw [HGB.out, HMK.out]; omega)
              have hlow2 := (HW.out).low2
              have HN := Lib.hid (And.intro hnew (And.intro hall2 hlow2))
              clear hnew hall2 hlow2 hf
              by_cases hf0 : found < 0
              · rw [if_pos (Or.inl hf0)] at HN
                go_wp2_with fail
                go_roundw
                case rel => exact ⟨k + 1, f, B2, by omega, by go_num, rfl, (HN.out).1, (HN.out).2.1, fun j hj => by have := (HN.out).2.2 j hj; omega, hown2, hbel2⟩
                case measure => simp [intOf]; omega
              · by_cases hff : f < found
                · rw [if_pos (Or.inr hff)] at HN
                  go_wp2_with fail
                  go_roundw
                  case rel => exact ⟨k + 1, f, B2, by omega, by go_num, rfl, (HN.out).1, (HN.out).2.1, fun j hj => by have := (HN.out).2.2 j hj; omega, hown2, hbel2⟩
                  case measure => simp [intOf]; omega
                · rw [if_neg (fun h => h.elim hf0 hff)] at HN
                  go_wp2_with fail
                  go_roundw
                  case rel => exact ⟨k + 1, found, B2, by omega, by go_num, rfl, (HN.out).1, (HN.out).2.1, fun j hj => by have := (HN.out).2.2 j hj; omega, hown2, hbel2⟩
                  case measure => simp [intOf]; omega
            · have hbk : (m == (k : Int) + 1) = false := by simp [hmk]
              have hnew := (HW.out).old_end (HG.out).1 (fun _ => ⟨by rw [HGB.out]; exact HM0.out, by rw [HGB.out]; exact hmk⟩)
              have hall2 := (HW.out).all hlt (HG.out).2.1 (fun _ => by rw [HGB.out]; exact HM0.out)
              have hlow2 := (HW.out).low2
              have HN := Lib.hid (And.intro hnew (And.intro hall2 hlow2))
              clear hnew hall2 hlow2 hmk
              go_wp2_with fail
              refine (PL.out _ _ _ _).mono ?_
              rintro e w2 ⟨rfl, rfl⟩
              rw [HP.out]
              go_wp2_with fail
              refine (PL.out _ _ _ _).mono ?_
              rintro e w2 ⟨rfl, rfl⟩
              rw [HP.out]
              go_wp2_with fail
              go_roundw
              case rel => exact ⟨k + 1, found, B2, by omega, by go_num, rfl, (HN.out).1, (HN.out).2.1, fun j hj => by have := (HN.out).2.2 j hj; omega, hown2, hbel2⟩
              case measure => simp [intOf]; omega
        · have hpf : Ns.isP l.length x = false := by simpa using hp
          have hnew := hW.old_end (HG.out).1 (fun h => absurd h hp)
          have hall2 := hW.all hlt (HG.out).2.1 (fun h => absurd h hp)
          have hlow2 := hW.low2
          have HN := Lib.hid (And.intro hnew (And.intro hall2 hlow2))
          have HPF := Lib.hid hpf
          clear hnew hall2 hlow2 hp hpf hW
          go_wp2_with fail
          refine (PL.out _ _ _ _).mono ?_
          rintro e w2 ⟨rfl, rfl⟩
          rw [HPF.out]
          go_wp2_with fail
          refine (PL.out _ _ _ _).mono ?_
          rintro e w2 ⟨rfl, rfl⟩
          rw [HPF.out]
          go_wp2_with fail
          go_roundw
          case rel => exact ⟨k + 1, found, B2, by omega, by go_num, rfl, (HN.out).1, (HN.out).2.1, fun j hj => by have := (HN.out).2.2 j hj; omega, hown2, hbel2⟩
          case measure => simp [intOf]; omega
    · have hkl : k = l.length := by omega
      subst hkl
      have hfin := (HG.out).1.circ (HG.out).2.1
      have HF := Lib.hid hfin
      clear hfin
      go_wp2_with fail
      go_ret
      exact ⟨by rw [HF.out]; rfl, hbel⟩
set_option maxHeartbeats 1000000 in
theorem rcircle_any (a : Option Addr) (c : Nat) (l : List Int) (w : World) (hl : Reads w a (l.map (Value.int .i64))) (hm : l.length ≤ 1000000) :
    Calls Try.prog 45 #[.slice a l.length c] w fun e w' => e = .returned (.int .i64 (Ns.circ l)) ∧ w = w' := by
  have hu : ∀ b : Bool, ¬ (some undef = some (Value.bool b)) := fun b h => by cases h
  have IS := Lib.hid (fun x i w hl => is_any a c l x i w hl hm)
  have HL := Lib.hid hl
  clear hl
  go_enter Try.func45, Try.ntmps45
  go_wp2_with fail
  go_loopw [3] (fun v3 wr => ∃ k : Nat, k ≤ l.length ∧ v3 = .int .i64 k ∧ (∀ j : Nat, j < k → ¬ Ns.C l j) ∧ w = wr) (fun v3 _ => l.length - (intOf v3).toNat)
  case atStart => exact ⟨0, by omega, rfl, fun j hj => by omega, rfl⟩
  case round =>
    obtain ⟨k, hk, rfl, hno, rfl⟩ := hrel
    have HNO := Lib.hid hno
    clear hno
    by_cases hlt : k < l.length
    · by_cases his : Ns.is l (k : Int) (k : Int) = true
      · have hfin : Ns.circ l = (k : Int) := Ns.circ_some ((Ns.is_C l k).1 his) (fun j hj hC => by
          by_cases e : j < k
          · exact absurd hC (HNO.out j e)
          · omega)
        have HF := Lib.hid (And.intro hfin his)
        clear hfin his
        go_wp2_with fail
        refine (IS.out k k _ HL.out).mono ?_
        rintro e w1 ⟨rfl, rfl⟩
        rw [(HF.out).2]
        go_wp2_with fail
        go_ret
        exact ⟨by rw [(HF.out).1]; rfl, rfl⟩
      · have hf : Ns.is l (k : Int) (k : Int) = false := by simpa using his
        have HF := Lib.hid (And.intro hf his)
        clear hf his
        go_wp2_with fail
        refine (IS.out k k _ HL.out).mono ?_
        rintro e w1 ⟨rfl, rfl⟩
        rw [(HF.out).1]
        go_wp2_with fail
        go_roundw
        case rel => exact ⟨k + 1, by omega, by go_num, fun j hj => by
          by_cases e : j < k
          · exact HNO.out j e
          · rw [show j = k by omega, ← Ns.is_C]; exact (HF.out).2, trivial⟩
        case measure => simp [intOf]; omega
    · have hfin : Ns.circ l = -1 := Ns.circ_none (fun j hj => HNO.out j (by omega))
      have HF := Lib.hid hfin
      clear hfin
      go_wp2_with fail
      go_ret
      exact ⟨by rw [HF.out]; rfl, rfl⟩
set_option maxHeartbeats 2000000 in
theorem roots_any (a : Option Addr) (c : Nat) (l : List Int) (w : World) (hl : Reads w a (l.map (Value.int .i64))) (hm : l.length ≤ 1000000) :
    Calls Try.prog 46 #[.slice a l.length c] w (ListAns (Ns.rootsTo l l.length) w) := by
  have hu : ∀ b : Bool, ¬ (some undef = some (Value.bool b)) := fun b h => by cases h
  have PL := Lib.hid (fun a c i w => isPlace_any a l.length c i w hm)
  have HL := Lib.hid hl
  clear hl
  go_enter Try.func46, Try.ntmps46
  go_wp2_with fail
  go_loopw [3, 4, 5, 8] (fun v3 _ _ v8 wr => ∃ k : Nat, k ≤ l.length ∧ v8 = .int .i64 k ∧ wr.ownsRow w.heap.size 3 1 v3 (Ns.rootsTo l k).length ((Ns.rootsTo l k).map (Value.int .i64)) ∧ Below w.heap.size w wr) (fun _ _ _ v8 _ => l.length - (intOf v8).toNat)
  case atStart => exact ⟨0, by omega, rfl, (by exact World.ownsRow_nil _ _ _ _), Below.refl _ _⟩
  case round =>
    obtain ⟨k, hk, rfl, hown, hnx⟩ := hrel
    have hOl := Ns.rootsTo_len l k
    by_cases hlt : k < l.length
    · have hs := Ns.rootsTo_succ l k
      generalize hO : Ns.rootsTo l k = O at *
      obtain ⟨xa, xc, hx⟩ := own_len hown
      subst hx
      have hlr := (HL.out).mono hnx (Nat.le_refl _)
      obtain ⟨b, off, rfl, hc⟩ := hlr.at (by simp; omega)
      have hcx := int_cell hc k (by omega) (by omega)
      rw [Int.toNat_natCast] at hcx
      have hsz := hnx.size
      have HS := Lib.hid hs
      clear hc hlr hO hs
      by_cases hr : Ns.rootB l k = true
      · have hpf : Ns.isP l.length (Ns.nx l k) = false := by unfold Ns.rootB at hr; simpa using hr
        have HP := Lib.hid (And.intro hpf hr)
        clear hpf hr
        generalize Ns.nx l k = y at *
        go_wp2_with fail
        refine (PL.out _ _ _ _).mono ?_
        rintro e w2 ⟨rfl, rfl⟩
        rw [(HP.out).1]
        go_wp2_with (at_builtin; refine append_at (v := .slice xa O.length xc) rfl _ _ 63 rfl 3 (.int .i64 0) 1 8 Try.underlying63 Try.info3 rfl (by decide) rfl hown hsz _ rfl (by simp [Value.oneCell']) rfl (by simp) (by decide) (by omega) ?_; intro g cap w5 own5 keep5 where5; have bel5 := hnx.trans (keep5.below (fun j hj => (hown.lt j hj).1) hsz))
        go_roundw
        case rel => exact ⟨k + 1, by omega, by go_num, by rw [HS.out, if_pos (HP.out).2]; have := own5; rw [List.length_append, List.map_append]; exact this, bel5⟩
        case measure => simp [intOf]; omega
      · have hpt : Ns.isP l.length (Ns.nx l k) = true := by unfold Ns.rootB at hr; simpa using hr
        have HP := Lib.hid (And.intro hpt hr)
        clear hpt hr
        generalize Ns.nx l k = y at *
        go_wp2_with fail
        refine (PL.out _ _ _ _).mono ?_
        rintro e w2 ⟨rfl, rfl⟩
        rw [(HP.out).1]
        go_wp2_with fail
        go_roundw
        case rel => exact ⟨k + 1, by omega, by go_num, by rw [HS.out, if_neg (HP.out).2, List.append_nil]; exact hown, hnx⟩
        case measure => simp [intOf]; omega
    · have hkl : k = l.length := by omega
      subst hkl
      obtain ⟨xa, xc, hx⟩ := own_len hown
      subst hx
      go_wp2_with fail
      go_ret
      exact ⟨_, rfl, hown, hnx⟩
set_option maxHeartbeats 2000000 in
theorem rroots_any (a : Option Addr) (c : Nat) (l : List Int) (w : World) (hl : Reads w a (l.map (Value.int .i64))) (hm : l.length ≤ 1000000) :
    Calls Try.prog 47 #[.slice a l.length c] w (ListAns (Ns.rootsTo l l.length) w) := by
  have hu : ∀ b : Bool, ¬ (some undef = some (Value.bool b)) := fun b h => by cases h
  have UP := Lib.hid (fun i w hl => up_any a c l i 1 w hl hm (by omega))
  have HL := Lib.hid hl
  clear hl
  go_enter Try.func47, Try.ntmps47
  go_wp2_with fail
  go_loopw [3, 4] (fun v3 v4 wr => ∃ k : Nat, k ≤ l.length ∧ v4 = .int .i64 k ∧ wr.ownsRow w.heap.size 3 1 v3 (Ns.rootsTo l k).length ((Ns.rootsTo l k).map (Value.int .i64)) ∧ Below w.heap.size w wr) (fun _ v4 _ => l.length - (intOf v4).toNat)
  case atStart => exact ⟨0, by omega, rfl, (by exact World.ownsRow_nil _ _ _ _), Below.refl _ _⟩
  case round =>
    obtain ⟨k, hk, rfl, hown, hnx⟩ := hrel
    have hOl := Ns.rootsTo_len l k
    by_cases hlt : k < l.length
    · have hs := Ns.rootsTo_succ l k
      generalize hO : Ns.rootsTo l k = O at *
      obtain ⟨xa, xc, hx⟩ := own_len hown
      subst hx
      have hlr := (HL.out).mono hnx (Nat.le_refl _)
      have hsz := hnx.size
      have hpk : Ns.isP l.length (k : Int) = true := (Ns.isP_iff _ _).2 (by omega)
      have HS := Lib.hid hs
      have HLR := Lib.hid hlr
      clear hlr hO hs
      by_cases hr : Ns.rootB l k = true
      · have hup : Ns.up l 1 (k : Int) = -1 := by
          unfold Ns.rootB at hr
          simp only [Bool.not_eq_true'] at hr
          simp [Ns.up, hpk, hr]
        have HP := Lib.hid (And.intro hup hr)
        clear hup hr hpk
        go_wp2_with fail
        refine (UP.out k _ HLR.out).mono ?_
        rintro e w2 ⟨rfl, rfl⟩
        rw [(HP.out).1]
        go_wp2_with (at_builtin; refine append_at (v := .slice xa O.length xc) rfl _ _ 63 rfl 3 (.int .i64 0) 1 8 Try.underlying63 Try.info3 rfl (by decide) rfl hown hsz _ rfl (by simp [Value.oneCell']) rfl (by simp) (by decide) (by omega) ?_; intro g cap w5 own5 keep5 where5; have bel5 := hnx.trans (keep5.below (fun j hj => (hown.lt j hj).1) hsz))
        go_roundw
        case rel => exact ⟨k + 1, by omega, by go_num, by rw [HS.out, if_pos (HP.out).2]; have := own5; rw [List.length_append, List.map_append]; exact this, bel5⟩
        case measure => simp [intOf]; omega
      · have hpt : Ns.isP l.length (Ns.nx l k) = true := by unfold Ns.rootB at hr; simpa using hr
        have hup : Ns.up l 1 (k : Int) = Ns.nx l k := by simp [Ns.up, hpk, hpt]
        have hb := (Ns.isP_iff _ _).1 hpt
        have HP := Lib.hid (And.intro hup hr)
        clear hup hr hpt hpk
        go_wp2_with fail
        refine (UP.out k _ HLR.out).mono ?_
        rintro e w2 ⟨rfl, rfl⟩
        rw [(HP.out).1]
        generalize Ns.nx l k = y at *
        go_wp2_with fail
        go_roundw
        case rel => exact ⟨k + 1, by omega, by go_num, by rw [HS.out, if_neg (HP.out).2, List.append_nil]; exact hown, hnx⟩
        case measure => simp [intOf]; omega
    · have hkl : k = l.length := by omega
      subst hkl
      obtain ⟨xa, xc, hx⟩ := own_len hown
      subst hx
      go_wp2_with fail
      go_ret
      exact ⟨_, rfl, hown, hnx⟩
end Go.Proofs.Ytgjbchkplpdeiaa
