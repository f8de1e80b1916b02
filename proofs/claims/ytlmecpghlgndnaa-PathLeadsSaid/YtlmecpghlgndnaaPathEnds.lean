/-
  path.Ends, and the law's own going: by walks.
-/
import Derived.Test.YtlmecpghlgndnaaLabFroms
import Derived.Test.YtlmecpghlgndnaaLabGreat
namespace Go.Proofs.Ytlmecpghlgndnaa
open Go.RowKit
set_option linter.unusedVariables false
set_option linter.unusedSimpArgs false

theorem below_dn {B : Nat} {a w : World} (h : Below B a w) (n : Nat) : Below B a (w.drewN n) := ⟨h.os, h.tape, h.output, h.size, h.block⟩
namespace Pa
/-- Is i one of n places? -/
def okP (i : Int) (n : Nat) : Bool := decide (0 ≤ i) && decide (i < (n : Int))
theorem okP_yes {i : Int} {n : Nat} (h : okP i n = true) : 0 ≤ i ∧ i < n := by simpa [okP] using h
theorem okP_no {i : Int} {n : Nat} (h : okP i n = false) : i < 0 ∨ (n : Int) ≤ i := by
  unfold okP at h
  by_cases h0 : 0 ≤ i
  · rw [decide_eq_true h0, Bool.true_and, decide_eq_false_iff_not] at h
    omega
  · omega
/-- Where a way leads from a place. -/
def go (nx : List (List Int)) : Nat → List Int → Option Nat
  | p, [] => some p
  | p, e :: r => if okP e (Lb.row nx p).length = true then
      (if okP ((Lb.row nx p).getD e.toNat 0) nx.length = true then go nx ((Lb.row nx p).getD e.toNat 0).toNat r else none) else none
theorem go_end (nx : List (List Int)) (p : Nat) : go nx p [] = some p := rfl
theorem go_off {nx : List (List Int)} {p : Nat} {e : Int} {r : List Int} (h : okP e (Lb.row nx p).length = false) : go nx p (e :: r) = none := by
  unfold go
  rw [if_neg (by rw [h]; decide)]
theorem go_out {nx : List (List Int)} {p : Nat} {e : Int} {r : List Int} (h : okP e (Lb.row nx p).length = true) (h2 : okP ((Lb.row nx p).getD e.toNat 0) nx.length = false) : go nx p (e :: r) = none := by
  unfold go
  rw [if_pos h, if_neg (by rw [h2]; decide)]
theorem go_on {nx : List (List Int)} {p : Nat} {e : Int} {r : List Int} (h : okP e (Lb.row nx p).length = true) (h2 : okP ((Lb.row nx p).getD e.toNat 0) nx.length = true) : go nx p (e :: r) = go nx ((Lb.row nx p).getD e.toNat 0).toNat r := by
  conv => lhs; unfold go
  rw [if_pos h, if_pos h2]
/-- What Ends answers. -/
def ans (o : Option Nat) : Value := match o with
  | some p => .tuple #[.int .i64 (p : Int), .bool true]
  | none => .tuple #[.int .i64 0, .bool false]
def ends (nx : List (List Int)) (from_ : Int) (way : List Int) : Option Nat := if okP from_ nx.length = true then go nx from_.toNat way else none
end Pa

theorem place_any (i : Int) (n : Nat) (w : World) :
    Calls Try.prog 33 #[.int .i64 i, .int .i64 n] w fun e w' => e = .returned (.bool (Pa.okP i n)) ∧ w = w' := by
  have hu : ∀ b : Bool, ¬ (some undef = some (Value.bool b)) := fun b h => by cases h
  unfold Pa.okP
  by_cases h0 : 0 ≤ i
  · by_cases h1 : i < (n : Int)
    · rw [decide_eq_true h0, decide_eq_true h1]
      go_enter Try.func33, Try.ntmps33
      go_wp2
      go_ret
      exact ⟨rfl, rfl⟩
    · rw [decide_eq_true h0, decide_eq_false h1]
      go_enter Try.func33, Try.ntmps33
      go_wp2
      go_ret
      exact ⟨rfl, rfl⟩
  · rw [decide_eq_false h0]
    go_enter Try.func33, Try.ntmps33
    go_wp2
    go_ret
    exact ⟨rfl, rfl⟩

/-- path.in: as label.in. -/
theorem pin_any (a : Option Addr) (c : Nat) (A : List Bool) (i : Int) (w : World) (hl : Reads w a (A.map Value.bool)) (h0 : 0 ≤ i) :
    Calls Try.prog 34 #[.slice a A.length c, .int .i64 i] w fun e w' => e = .returned (.bool (Lb.inB A i.toNat)) ∧ w = w' := by
  by_cases h : i < (A.length : Int)
  · obtain ⟨b, off, rfl, hc⟩ := hl.at (by simp; omega)
    have hx := Reads.bool hc i.toNat (by omega)
    have hd : A[i.toNat]'(by omega) = Lb.inB A i.toNat := by unfold Lb.inB; rw [List.getD_eq_getElem?_getD, List.getElem?_eq_getElem (by omega)]; rfl
    rw [hd] at hx
    clear hd hc hl
    generalize Lb.inB A i.toNat = b at *
    go_enter Try.func34, Try.ntmps34
    go_wp2
    go_ret
    exact ⟨rfl, rfl⟩
  · have hf : Lb.inB A i.toNat = false := by
      cases hb : Lb.inB A i.toNat with
      | false => rfl
      | true => have := Lb.inB_lt hb; omega
    rw [hf]
    clear hf
    go_enter Try.func34, Try.ntmps34
    go_wp2
    go_ret
    exact ⟨rfl, rfl⟩
/-- An element of a row that came in. -/
theorem Reads.get {w : World} {a : Option Addr} {xs : List Int} (h : Reads w a (xs.map (Value.int .i64))) (j : Nat) (hj : j < xs.length) :
    ∃ b off, a = some ⟨b, off, none⟩ ∧ w.cell? ⟨b, off + j, none⟩ = some (.int .i64 (xs.getD j 0)) := by
  obtain ⟨b, off, rfl, hc⟩ := h.at (by simp; omega)
  refine ⟨b, off, rfl, ?_⟩
  rw [hc j (by simpa using hj), List.getElem?_map, List.getElem?_eq_getElem hj]
  simp [List.getD_eq_getElem?_getD, hj]

set_option maxHeartbeats 1000000 in
theorem ends_any (a a2 : Option Addr) (c c2 : Nat) (nx : List (List Int)) (way : List Int) (f : Int) (w : World) (hl : RdG w a nx) (hw : Reads w a2 (way.map (Value.int .i64)))
    (hn : nx.length ≤ 1000) (hr : ∀ i, (Lb.row nx i).length ≤ 1000) (hm : way.length ≤ 1000000) :
    Calls Try.prog 27 #[.slice a nx.length c, .int .i64 f, .slice a2 way.length c2] w fun e w' => e = .returned (Pa.ans (Pa.ends nx f way)) ∧ w = w' := by
  have hu : ∀ b : Bool, ¬ (some undef = some (Value.bool b)) := fun b h => by cases h
  have HI := Lib.hid (place_any f nx.length w)
  have HL := Lib.hid (And.intro hl hw)
  clear hl hw
  cases hok : Pa.okP f nx.length with
  | false =>
    have HA : Hid (Pa.ends nx f way = none) := Lib.hid (by unfold Pa.ends; rw [if_neg (by rw [hok]; decide)])
    rw [hok] at HI
    clear hok
    go_enter Try.func27, Try.ntmps27
    go_wp2_with (go_at_call 33; refine HI.out.mono ?_; rintro e w2 ⟨rfl, rfl⟩)
    go_ret2
    exact ⟨by rw [HA.out]; rfl, rfl⟩
  | true =>
    obtain ⟨h0, h1⟩ := Pa.okP_yes hok
    have HA : Hid (Pa.ends nx f way = Pa.go nx f.toNat way) := Lib.hid (by unfold Pa.ends; rw [if_pos hok])
    rw [hok] at HI
    obtain ⟨p0, rfl⟩ : ∃ p : Nat, f = (p : Int) := ⟨f.toNat, by omega⟩
    rw [Int.toNat_natCast] at HA
    clear hok
    go_enter Try.func27, Try.ntmps27
    go_wp2_with (go_at_call 33; refine HI.out.mono ?_; rintro e w2 ⟨rfl, rfl⟩)
    go_loopw [1, 9, 17] (fun v1 _ v17 wr => ∃ (k p : Nat), k ≤ way.length ∧ p < nx.length ∧ v17 = .int .i64 k ∧ v1 = .int .i64 p ∧ Hid (Pa.go nx p0 way = Pa.go nx p (way.drop k)) ∧ w = wr) (fun _ _ v17 _ => way.length - (intOf v17).toNat)
    case atStart => exact ⟨0, p0, by omega, by omega, rfl, rfl, Lib.hid rfl, rfl⟩
    case round =>
      obtain ⟨k, p, hk, hp, rfl, rfl, HG, rfl⟩ := hrel
      by_cases hlt : k < way.length
      · obtain ⟨b2, o2, e2, hc2⟩ := Reads.get (HL.out).2 k hlt
        obtain ⟨b1, o1, e1, ra, rc, hc1, hr1⟩ := (HL.out).1.cell p hp
        have hdr : way.drop k = way.getD k 0 :: way.drop (k + 1) := by
          rw [List.drop_eq_getElem_cons hlt]
          simp [List.getD_eq_getElem?_getD, hlt]
        have hrl := hr p
        subst e2 e1
        have HDR := Lib.hid hdr
        have HR1 := Lib.hid hr1
        clear hdr hr1
        generalize way.getD k 0 = x at *
        have HX := Lib.hid (place_any x (Lb.row nx p).length w)
        cases hk1 : Pa.okP x (Lb.row nx p).length with
        | false =>
          have HT := Lib.hid (Pa.go_off (r := way.drop (k + 1)) hk1)
          rw [hk1] at HX
          clear hk1
          go_wp2_with (go_at_call 33; refine HX.out.mono ?_; rintro e w2 ⟨rfl, rfl⟩)
          all_goals go_ret2
          all_goals exact ⟨by rw [HA.out, HG.out, HDR.out, HT.out]; rfl, rfl⟩
        | true =>
          obtain ⟨h2, h3⟩ := Pa.okP_yes hk1
          obtain ⟨y, rfl⟩ : ∃ y : Nat, x = (y : Int) := ⟨x.toNat, by omega⟩
          have hy : y < (Lb.row nx p).length := by omega
          obtain ⟨b3, o3, e3, hc3⟩ := Reads.get HR1.out y hy
          have HYZ : Hid ((Lb.row nx p).getD ((y : Int)).toNat 0 = (Lb.row nx p).getD y 0) := Lib.hid (by rw [Int.toNat_natCast])
          subst e3
          have HGO := Lib.hid (And.intro (Pa.go_on (nx := nx) (p := p) (e := (y : Int)) (r := way.drop (k + 1)) hk1) (Pa.go_out (nx := nx) (p := p) (e := (y : Int)) (r := way.drop (k + 1)) hk1))
          rw [HYZ.out] at HGO
          rw [hk1] at HX
          clear HR1 HYZ hk1
          generalize (Lb.row nx p).getD y 0 = z at *
          have HZ := Lib.hid (place_any z nx.length w)
          cases hk2 : Pa.okP z nx.length with
          | false =>
            have HT := Lib.hid ((HGO.out).2 hk2)
            rw [hk2] at HZ
            clear hk2 HGO
            go_wp2_with (go_at_call 33; first | (with_reducible refine HX.out.mono ?_; rintro e w2 ⟨rfl, rfl⟩) | (with_reducible refine HZ.out.mono ?_; rintro e w2 ⟨rfl, rfl⟩))
            all_goals go_ret2
            all_goals exact ⟨by rw [HA.out, HG.out, HDR.out, HT.out]; rfl, rfl⟩
          | true =>
            have HT := Lib.hid ((HGO.out).1 hk2)
            obtain ⟨h4, h5⟩ := Pa.okP_yes hk2
            rw [hk2] at HZ
            clear hk2 HGO
            obtain ⟨p1, rfl⟩ : ∃ p1 : Nat, z = (p1 : Int) := ⟨z.toNat, by omega⟩
            rw [Int.toNat_natCast] at HT
            go_wp2_with (go_at_call 33; first | (with_reducible refine HX.out.mono ?_; rintro e w2 ⟨rfl, rfl⟩) | (with_reducible refine HZ.out.mono ?_; rintro e w2 ⟨rfl, rfl⟩))
            go_roundw
            case rel => exact ⟨k + 1, p1, by omega, by omega, by go_num, rfl, Lib.hid (by rw [HG.out, HDR.out, HT.out]), trivial⟩
            case measure => simp [intOf]; omega
      · have HD : Hid (way.drop k = []) := Lib.hid (List.drop_eq_nil_of_le (by omega))
        go_wp2
        go_ret2
        exact ⟨by rw [HA.out, HG.out, HD.out]; rfl, rfl⟩

/-- What stands of the law's own going. -/
def Pa.St (nx : List (List Int)) (f : Int) (way : List Int) (k : Nat) (z : Int) (b : Bool) : Prop :=
  (b = true ∧ Pa.okP z nx.length = true ∧ Pa.ends nx f way = Pa.go nx z.toNat (way.drop k)) ∨ (b = false ∧ Pa.ends nx f way = none)
set_option maxHeartbeats 2000000 in
theorem pathEnds_walk (a a2 : Option Addr) (c c2 : Nat) (nx : List (List Int)) (f : Int) (way : List Int) (w : World) (hl : RdG w a nx) (hm : nx.length ≤ maxLen) (hmr : ∀ i, (Lb.row nx i).length ≤ maxLen) (hw : Reads w a2 (way.map (Value.int .i64))) (hwm : way.length ≤ maxLen)
    (HAW : Hid (∀ w', Calls Try.prog 21 #[] w' fun e w2 => e = .returned (.bool true) ∧ Below w'.heap.size w' w2)) :
    Calls Try.prog 9 #[.slice a nx.length c, .int .i64 f, .slice a2 way.length c2] w fun e w' => e = .returned (.bool true) ∧ Below w.heap.size w w' := by
  have hu : ∀ b : Bool, ¬ (some undef = some (Value.bool b)) := fun b h => by cases h
  have hwl : way.length ≤ 9223372036854775807 := by unfold maxLen at hwm; omega
  have HI := Lib.hid (And.intro hl hw)
  have GR := Lib.hid (great_any a c nx w hl hm hmr)
  clear hl hm hmr hw hwm
  go_enter Try.func9, Try.ntmps9
  go_wp2_with fail
  refine (GR.out).mono ?_
  rintro e w1 ⟨b, rfl, hb, rfl⟩
  clear GR
  cases b with
  | true =>
    go_wp2_with fail
    refine (HAW.out w).mono ?_
    rintro e w3 ⟨rfl, hb3⟩
    go_wp2_with fail
    go_ret
    exact ⟨rfl, hb3⟩
  | false =>
    obtain ⟨hn, hr⟩ := hb rfl
    clear hb
    have hn1 : nx.length ≤ 1000 := by omega
    have HR := Lib.hid (fun i => (Nat.le_trans (hr i) (by omega) : (Lb.row nx i).length ≤ 1000))
    clear hr
    by_cases h100 : 100 < way.length
    · go_wp2_with fail
      refine (HAW.out w).mono ?_
      rintro e w3 ⟨rfl, hb3⟩
      go_wp2_with fail
      go_ret
      exact ⟨rfl, hb3⟩
    · have HE : Hid (∀ w', Below w.heap.size w w' → Calls Try.prog 27 #[.slice a nx.length c, .int .i64 f, .slice a2 way.length c2] w' fun e w2 => e = .returned (Pa.ans (Pa.ends nx f way)) ∧ w' = w2) := Lib.hid (fun w' hb => ends_any a a2 c c2 nx way f w' ((HI.out).1.mono hb (Nat.le_refl _)) ((HI.out).2.mono hb (Nat.le_refl _)) hn1 (HR.out) (by omega))
      have hS0 : Pa.St nx f way 0 f (Pa.okP f nx.length) := by
        cases hok : Pa.okP f nx.length with
        | true => exact Or.inl ⟨rfl, hok, by unfold Pa.ends; rw [if_pos hok]; rfl⟩
        | false => exact Or.inr ⟨rfl, by unfold Pa.ends; rw [if_neg (by rw [hok]; decide)]⟩
      have HS0 := Lib.hid hS0
      clear hS0
      cases hok : Pa.okP f nx.length with
      | true =>
        rw [hok] at HS0
        obtain ⟨h0, h1⟩ := Pa.okP_yes hok
        clear hok
        go_wp2_with fail
        go_loopw [7, 8, 9] (fun v7 v8 v9 wr => ∃ (k : Nat) (z : Int) (b : Bool), k ≤ way.length ∧ v9 = .int .i64 k ∧ v7 = .int .i64 z ∧ v8 = .bool b ∧ Hid (Pa.St nx f way k z b) ∧ Hid (Below w.heap.size w wr)) (fun _ _ v9 _ => way.length - (intOf v9).toNat)
        case atStart => exact ⟨0, f, true, by omega, rfl, rfl, rfl, HS0, Lib.hid (Below.refl _ _)⟩
        case round =>
          obtain ⟨k, z, b, hk, rfl, rfl, rfl, HS, HB⟩ := hrel
          cases b with
          | false =>
            have hend : Pa.ends nx f way = none := by rcases HS.out with ⟨h, _⟩ | ⟨_, h⟩; exact Bool.noConfusion h; exact h
            rw [hend] at HE
            have HE2 : Hid (∀ w', Below w.heap.size w w' → Calls Try.prog 27 #[.slice a nx.length c, .int .i64 f, .slice a2 way.length c2] w' fun e w2 => e = .returned (.tuple #[.int .i64 0, .bool false]) ∧ w' = w2) := HE
            clear HE HS hend
            go_wp2_with (first | (go_at_call 27; refine (HE2.out _ HB.out).mono ?_; rintro e w2 ⟨rfl, rfl⟩) | (go_at_call 21; refine (HAW.out _).mono ?_; rintro e w5 ⟨rfl, hb5⟩))
            all_goals go_ret
            all_goals exact ⟨rfl, HB.out.trans (hb5.mono HB.out.size)⟩
          | true =>
            obtain ⟨hz, hgo⟩ : Pa.okP z nx.length = true ∧ Pa.ends nx f way = Pa.go nx z.toNat (way.drop k) := by rcases HS.out with ⟨_, h⟩ | ⟨h, _⟩; exact h; exact Bool.noConfusion h
            clear HS
            obtain ⟨hz0, hz1⟩ := Pa.okP_yes hz
            obtain ⟨p, rfl⟩ : ∃ p : Nat, z = (p : Int) := ⟨z.toNat, by omega⟩
            rw [Int.toNat_natCast] at hgo
            have HG := Lib.hid hgo
            clear hgo hz
            have hp : p < nx.length := by omega
            by_cases hlt : k < way.length
            · obtain ⟨b2, o2, e2, hc2⟩ := Reads.get ((HI.out).2.mono HB.out (Nat.le_refl _)) k hlt
              obtain ⟨b1, o1, e1, ra, rc, hc1, hr1⟩ := ((HI.out).1.mono HB.out (Nat.le_refl _)).cell p hp
              have hdr : way.drop k = way.getD k 0 :: way.drop (k + 1) := by
                rw [List.drop_eq_getElem_cons hlt]
                simp [List.getD_eq_getElem?_getD, hlt]
              have hrl := (HR.out) p
              subst e2 e1
              have HDR := Lib.hid hdr
              have HR1 := Lib.hid hr1
              clear hdr hr1
              generalize way.getD k 0 = x at *
              cases hk1 : Pa.okP x (Lb.row nx p).length with
              | false =>
                have HT := Lib.hid (Pa.go_off (r := way.drop (k + 1)) hk1)
                have hno := Pa.okP_no hk1
                clear hk1
                rcases hno with hno | hno
                · have hd0 : decide (0 ≤ x) = false := decide_eq_false (by omega)
                  go_wp2
                  go_quiet (fail)
                  go_wp2
                  go_roundw
                  case rel => exact ⟨k + 1, _, false, by omega, by go_num, rfl, by first | rfl | rw [decide_eq_false (by omega)], Lib.hid (Or.inr ⟨rfl, by rw [HG.out, HDR.out, HT.out]⟩), Lib.hid (by repeat (first | exact HB.out | apply below_dn | apply Below.drew))⟩
                  case measure => simp [intOf]; omega
                · have hx0 : 0 ≤ x := by omega
                  have hd0 : decide (0 ≤ x) = true := decide_eq_true hx0
                  have hd1 : decide (x < ((Lb.row nx p).length : Int)) = false := decide_eq_false (by omega)
                  go_wp2
                  go_quiet (fail)
                  go_wp2
                  go_roundw
                  case rel => exact ⟨k + 1, _, false, by omega, by go_num, rfl, by first | rfl | rw [decide_eq_false (by omega)], Lib.hid (Or.inr ⟨rfl, by rw [HG.out, HDR.out, HT.out]⟩), Lib.hid (by repeat (first | exact HB.out | apply below_dn | apply Below.drew))⟩
                  case measure => simp [intOf]; omega
              | true =>
                obtain ⟨h2, h3⟩ := Pa.okP_yes hk1
                obtain ⟨y, rfl⟩ : ∃ y : Nat, x = (y : Int) := ⟨x.toNat, by omega⟩
                have hy : y < (Lb.row nx p).length := by omega
                obtain ⟨b3, o3, e3, hc3⟩ := Reads.get HR1.out y hy
                have HYZ : Hid ((Lb.row nx p).getD ((y : Int)).toNat 0 = (Lb.row nx p).getD y 0) := Lib.hid (by rw [Int.toNat_natCast])
                subst e3
                have HGO := Lib.hid (And.intro (Pa.go_on (nx := nx) (p := p) (e := (y : Int)) (r := way.drop (k + 1)) hk1) (Pa.go_out (nx := nx) (p := p) (e := (y : Int)) (r := way.drop (k + 1)) hk1))
                rw [HYZ.out] at HGO
                clear HR1 HYZ hk1
                generalize (Lb.row nx p).getD y 0 = z at *
                cases hk2 : Pa.okP z nx.length with
                | false =>
                  have HT := Lib.hid ((HGO.out).2 hk2)
                  have hno := Pa.okP_no hk2
                  clear hk2 HGO
                  rcases hno with hno | hno
                  · have hd0 : decide (0 ≤ (y : Int)) = true := decide_eq_true (by omega)
                    have hd1 : decide ((y : Int) < ((Lb.row nx p).length : Int)) = true := decide_eq_true (by omega)
                    go_wp2
                    go_quiet (fail)
                    go_wp2
                    go_quiet (fail)
                    go_wp2
                    go_roundw
                    case rel => exact ⟨k + 1, _, false, by omega, by go_num, rfl, by first | rfl | rw [decide_eq_false (by omega)], Lib.hid (Or.inr ⟨rfl, by rw [HG.out, HDR.out, HT.out]⟩), Lib.hid (by repeat (first | exact HB.out | apply below_dn | apply Below.drew))⟩
                    case measure => simp [intOf]; omega
                  · have hx0 : 0 ≤ z := by omega
                    have hd0 : decide (0 ≤ (y : Int)) = true := decide_eq_true (by omega)
                    have hd1 : decide ((y : Int) < ((Lb.row nx p).length : Int)) = true := decide_eq_true (by omega)
                    go_wp2
                    go_quiet (fail)
                    go_wp2
                    go_quiet (fail)
                    go_wp2
                    go_roundw
                    case rel => exact ⟨k + 1, _, false, by omega, by go_num, rfl, by first | rfl | rw [decide_eq_false (by omega)], Lib.hid (Or.inr ⟨rfl, by rw [HG.out, HDR.out, HT.out]⟩), Lib.hid (by repeat (first | exact HB.out | apply below_dn | apply Below.drew))⟩
                    case measure => simp [intOf]; omega
                | true =>
                  have HT := Lib.hid ((HGO.out).1 hk2)
                  obtain ⟨h4, h5⟩ := Pa.okP_yes hk2
                  have HK2 := Lib.hid hk2
                  clear hk2 HGO
                  have hd0 : decide (0 ≤ (y : Int)) = true := decide_eq_true (by omega)
                  have hd1 : decide ((y : Int) < ((Lb.row nx p).length : Int)) = true := decide_eq_true (by omega)
                  go_wp2
                  go_quiet (fail)
                  go_wp2
                  go_quiet (fail)
                  go_wp2
                  go_roundw
                  case rel => exact ⟨k + 1, _, true, by omega, by go_num, rfl, rfl, Lib.hid (Or.inl ⟨rfl, HK2.out, by rw [HG.out, HDR.out, HT.out]⟩), Lib.hid (by repeat (first | exact HB.out | apply below_dn | apply Below.drew))⟩
                  case measure => simp [intOf]; omega
            · have hD : Pa.ends nx f way = some p := by rw [HG.out, List.drop_eq_nil_of_le (by omega)]; rfl
              rw [hD] at HE
              have HE2 : Hid (∀ w', Below w.heap.size w w' → Calls Try.prog 27 #[.slice a nx.length c, .int .i64 f, .slice a2 way.length c2] w' fun e w2 => e = .returned (.tuple #[.int .i64 (p : Int), .bool true]) ∧ w' = w2) := HE
              clear HE hD HG
              go_wp2_with (first | (go_at_call 27; refine (HE2.out _ HB.out).mono ?_; rintro e w2 ⟨rfl, rfl⟩) | (go_at_call 21; refine (HAW.out _).mono ?_; rintro e w5 ⟨rfl, hb5⟩))
              all_goals go_ret
              all_goals exact ⟨rfl, HB.out.trans (hb5.mono HB.out.size)⟩
      | false =>
        rw [hok] at HS0
        have hno0 := Pa.okP_no hok
        clear hok
        rcases hno0 with h0 | h1
        · go_wp2_with fail
          go_loopw [7, 8, 9] (fun v7 v8 v9 wr => ∃ (k : Nat) (z : Int) (b : Bool), k ≤ way.length ∧ v9 = .int .i64 k ∧ v7 = .int .i64 z ∧ v8 = .bool b ∧ Hid (Pa.St nx f way k z b) ∧ Hid (Below w.heap.size w wr)) (fun _ _ v9 _ => way.length - (intOf v9).toNat)
          case atStart => exact ⟨0, f, false, by omega, rfl, rfl, by first | rfl | rw [decide_eq_false (by omega)], HS0, Lib.hid (Below.refl _ _)⟩
          case round =>
            obtain ⟨k, z, b, hk, rfl, rfl, rfl, HS, HB⟩ := hrel
            cases b with
            | false =>
              have hend : Pa.ends nx f way = none := by rcases HS.out with ⟨h, _⟩ | ⟨_, h⟩; exact Bool.noConfusion h; exact h
              rw [hend] at HE
              have HE2 : Hid (∀ w', Below w.heap.size w w' → Calls Try.prog 27 #[.slice a nx.length c, .int .i64 f, .slice a2 way.length c2] w' fun e w2 => e = .returned (.tuple #[.int .i64 0, .bool false]) ∧ w' = w2) := HE
              clear HE HS hend
              go_wp2_with (first | (go_at_call 27; refine (HE2.out _ HB.out).mono ?_; rintro e w2 ⟨rfl, rfl⟩) | (go_at_call 21; refine (HAW.out _).mono ?_; rintro e w5 ⟨rfl, hb5⟩))
              all_goals go_ret
              all_goals exact ⟨rfl, HB.out.trans (hb5.mono HB.out.size)⟩
            | true =>
              obtain ⟨hz, hgo⟩ : Pa.okP z nx.length = true ∧ Pa.ends nx f way = Pa.go nx z.toNat (way.drop k) := by rcases HS.out with ⟨_, h⟩ | ⟨h, _⟩; exact h; exact Bool.noConfusion h
              clear HS
              obtain ⟨hz0, hz1⟩ := Pa.okP_yes hz
              obtain ⟨p, rfl⟩ : ∃ p : Nat, z = (p : Int) := ⟨z.toNat, by omega⟩
              rw [Int.toNat_natCast] at hgo
              have HG := Lib.hid hgo
              clear hgo hz
              have hp : p < nx.length := by omega
              by_cases hlt : k < way.length
              · obtain ⟨b2, o2, e2, hc2⟩ := Reads.get ((HI.out).2.mono HB.out (Nat.le_refl _)) k hlt
                obtain ⟨b1, o1, e1, ra, rc, hc1, hr1⟩ := ((HI.out).1.mono HB.out (Nat.le_refl _)).cell p hp
                have hdr : way.drop k = way.getD k 0 :: way.drop (k + 1) := by
                  rw [List.drop_eq_getElem_cons hlt]
                  simp [List.getD_eq_getElem?_getD, hlt]
                have hrl := (HR.out) p
                subst e2 e1
                have HDR := Lib.hid hdr
                have HR1 := Lib.hid hr1
                clear hdr hr1
                generalize way.getD k 0 = x at *
                cases hk1 : Pa.okP x (Lb.row nx p).length with
                | false =>
                  have HT := Lib.hid (Pa.go_off (r := way.drop (k + 1)) hk1)
                  have hno := Pa.okP_no hk1
                  clear hk1
                  rcases hno with hno | hno
                  · have hd0 : decide (0 ≤ x) = false := decide_eq_false (by omega)
                    go_wp2
                    go_quiet (fail)
                    go_wp2
                    go_roundw
                    case rel => exact ⟨k + 1, _, false, by omega, by go_num, rfl, by first | rfl | rw [decide_eq_false (by omega)], Lib.hid (Or.inr ⟨rfl, by rw [HG.out, HDR.out, HT.out]⟩), Lib.hid (by repeat (first | exact HB.out | apply below_dn | apply Below.drew))⟩
                    case measure => simp [intOf]; omega
                  · have hx0 : 0 ≤ x := by omega
                    have hd0 : decide (0 ≤ x) = true := decide_eq_true hx0
                    have hd1 : decide (x < ((Lb.row nx p).length : Int)) = false := decide_eq_false (by omega)
                    go_wp2
                    go_quiet (fail)
                    go_wp2
                    go_roundw
                    case rel => exact ⟨k + 1, _, false, by omega, by go_num, rfl, by first | rfl | rw [decide_eq_false (by omega)], Lib.hid (Or.inr ⟨rfl, by rw [HG.out, HDR.out, HT.out]⟩), Lib.hid (by repeat (first | exact HB.out | apply below_dn | apply Below.drew))⟩
                    case measure => simp [intOf]; omega
                | true =>
                  obtain ⟨h2, h3⟩ := Pa.okP_yes hk1
                  obtain ⟨y, rfl⟩ : ∃ y : Nat, x = (y : Int) := ⟨x.toNat, by omega⟩
                  have hy : y < (Lb.row nx p).length := by omega
                  obtain ⟨b3, o3, e3, hc3⟩ := Reads.get HR1.out y hy
                  have HYZ : Hid ((Lb.row nx p).getD ((y : Int)).toNat 0 = (Lb.row nx p).getD y 0) := Lib.hid (by rw [Int.toNat_natCast])
                  subst e3
                  have HGO := Lib.hid (And.intro (Pa.go_on (nx := nx) (p := p) (e := (y : Int)) (r := way.drop (k + 1)) hk1) (Pa.go_out (nx := nx) (p := p) (e := (y : Int)) (r := way.drop (k + 1)) hk1))
                  rw [HYZ.out] at HGO
                  clear HR1 HYZ hk1
                  generalize (Lb.row nx p).getD y 0 = z at *
                  cases hk2 : Pa.okP z nx.length with
                  | false =>
                    have HT := Lib.hid ((HGO.out).2 hk2)
                    have hno := Pa.okP_no hk2
                    clear hk2 HGO
                    rcases hno with hno | hno
                    · have hd0 : decide (0 ≤ (y : Int)) = true := decide_eq_true (by omega)
                      have hd1 : decide ((y : Int) < ((Lb.row nx p).length : Int)) = true := decide_eq_true (by omega)
                      go_wp2
                      go_quiet (fail)
                      go_wp2
                      go_quiet (fail)
                      go_wp2
                      go_roundw
                      case rel => exact ⟨k + 1, _, false, by omega, by go_num, rfl, by first | rfl | rw [decide_eq_false (by omega)], Lib.hid (Or.inr ⟨rfl, by rw [HG.out, HDR.out, HT.out]⟩), Lib.hid (by repeat (first | exact HB.out | apply below_dn | apply Below.drew))⟩
                      case measure => simp [intOf]; omega
                    · have hx0 : 0 ≤ z := by omega
                      have hd0 : decide (0 ≤ (y : Int)) = true := decide_eq_true (by omega)
                      have hd1 : decide ((y : Int) < ((Lb.row nx p).length : Int)) = true := decide_eq_true (by omega)
                      go_wp2
                      go_quiet (fail)
                      go_wp2
                      go_quiet (fail)
                      go_wp2
                      go_roundw
                      case rel => exact ⟨k + 1, _, false, by omega, by go_num, rfl, by first | rfl | rw [decide_eq_false (by omega)], Lib.hid (Or.inr ⟨rfl, by rw [HG.out, HDR.out, HT.out]⟩), Lib.hid (by repeat (first | exact HB.out | apply below_dn | apply Below.drew))⟩
                      case measure => simp [intOf]; omega
                  | true =>
                    have HT := Lib.hid ((HGO.out).1 hk2)
                    obtain ⟨h4, h5⟩ := Pa.okP_yes hk2
                    have HK2 := Lib.hid hk2
                    clear hk2 HGO
                    have hd0 : decide (0 ≤ (y : Int)) = true := decide_eq_true (by omega)
                    have hd1 : decide ((y : Int) < ((Lb.row nx p).length : Int)) = true := decide_eq_true (by omega)
                    go_wp2
                    go_quiet (fail)
                    go_wp2
                    go_quiet (fail)
                    go_wp2
                    go_roundw
                    case rel => exact ⟨k + 1, _, true, by omega, by go_num, rfl, rfl, Lib.hid (Or.inl ⟨rfl, HK2.out, by rw [HG.out, HDR.out, HT.out]⟩), Lib.hid (by repeat (first | exact HB.out | apply below_dn | apply Below.drew))⟩
                    case measure => simp [intOf]; omega
              · have hD : Pa.ends nx f way = some p := by rw [HG.out, List.drop_eq_nil_of_le (by omega)]; rfl
                rw [hD] at HE
                have HE2 : Hid (∀ w', Below w.heap.size w w' → Calls Try.prog 27 #[.slice a nx.length c, .int .i64 f, .slice a2 way.length c2] w' fun e w2 => e = .returned (.tuple #[.int .i64 (p : Int), .bool true]) ∧ w' = w2) := HE
                clear HE hD HG
                go_wp2_with (first | (go_at_call 27; refine (HE2.out _ HB.out).mono ?_; rintro e w2 ⟨rfl, rfl⟩) | (go_at_call 21; refine (HAW.out _).mono ?_; rintro e w5 ⟨rfl, hb5⟩))
                all_goals go_ret
                all_goals exact ⟨rfl, HB.out.trans (hb5.mono HB.out.size)⟩
        · go_wp2_with fail
          go_loopw [7, 8, 9] (fun v7 v8 v9 wr => ∃ (k : Nat) (z : Int) (b : Bool), k ≤ way.length ∧ v9 = .int .i64 k ∧ v7 = .int .i64 z ∧ v8 = .bool b ∧ Hid (Pa.St nx f way k z b) ∧ Hid (Below w.heap.size w wr)) (fun _ _ v9 _ => way.length - (intOf v9).toNat)
          case atStart => exact ⟨0, f, false, by omega, rfl, rfl, by first | rfl | rw [decide_eq_false (by omega)], HS0, Lib.hid (Below.refl _ _)⟩
          case round =>
            obtain ⟨k, z, b, hk, rfl, rfl, rfl, HS, HB⟩ := hrel
            cases b with
            | false =>
              have hend : Pa.ends nx f way = none := by rcases HS.out with ⟨h, _⟩ | ⟨_, h⟩; exact Bool.noConfusion h; exact h
              rw [hend] at HE
              have HE2 : Hid (∀ w', Below w.heap.size w w' → Calls Try.prog 27 #[.slice a nx.length c, .int .i64 f, .slice a2 way.length c2] w' fun e w2 => e = .returned (.tuple #[.int .i64 0, .bool false]) ∧ w' = w2) := HE
              clear HE HS hend
              go_wp2_with (first | (go_at_call 27; refine (HE2.out _ HB.out).mono ?_; rintro e w2 ⟨rfl, rfl⟩) | (go_at_call 21; refine (HAW.out _).mono ?_; rintro e w5 ⟨rfl, hb5⟩))
              all_goals go_ret
              all_goals exact ⟨rfl, HB.out.trans (hb5.mono HB.out.size)⟩
            | true =>
              obtain ⟨hz, hgo⟩ : Pa.okP z nx.length = true ∧ Pa.ends nx f way = Pa.go nx z.toNat (way.drop k) := by rcases HS.out with ⟨_, h⟩ | ⟨h, _⟩; exact h; exact Bool.noConfusion h
              clear HS
              obtain ⟨hz0, hz1⟩ := Pa.okP_yes hz
              obtain ⟨p, rfl⟩ : ∃ p : Nat, z = (p : Int) := ⟨z.toNat, by omega⟩
              rw [Int.toNat_natCast] at hgo
              have HG := Lib.hid hgo
              clear hgo hz
              have hp : p < nx.length := by omega
              by_cases hlt : k < way.length
              · obtain ⟨b2, o2, e2, hc2⟩ := Reads.get ((HI.out).2.mono HB.out (Nat.le_refl _)) k hlt
                obtain ⟨b1, o1, e1, ra, rc, hc1, hr1⟩ := ((HI.out).1.mono HB.out (Nat.le_refl _)).cell p hp
                have hdr : way.drop k = way.getD k 0 :: way.drop (k + 1) := by
                  rw [List.drop_eq_getElem_cons hlt]
                  simp [List.getD_eq_getElem?_getD, hlt]
                have hrl := (HR.out) p
                subst e2 e1
                have HDR := Lib.hid hdr
                have HR1 := Lib.hid hr1
                clear hdr hr1
                generalize way.getD k 0 = x at *
                cases hk1 : Pa.okP x (Lb.row nx p).length with
                | false =>
                  have HT := Lib.hid (Pa.go_off (r := way.drop (k + 1)) hk1)
                  have hno := Pa.okP_no hk1
                  clear hk1
                  rcases hno with hno | hno
                  · have hd0 : decide (0 ≤ x) = false := decide_eq_false (by omega)
                    go_wp2
                    go_quiet (fail)
                    go_wp2
                    go_roundw
                    case rel => exact ⟨k + 1, _, false, by omega, by go_num, rfl, by first | rfl | rw [decide_eq_false (by omega)], Lib.hid (Or.inr ⟨rfl, by rw [HG.out, HDR.out, HT.out]⟩), Lib.hid (by repeat (first | exact HB.out | apply below_dn | apply Below.drew))⟩
                    case measure => simp [intOf]; omega
                  · have hx0 : 0 ≤ x := by omega
                    have hd0 : decide (0 ≤ x) = true := decide_eq_true hx0
                    have hd1 : decide (x < ((Lb.row nx p).length : Int)) = false := decide_eq_false (by omega)
                    go_wp2
                    go_quiet (fail)
                    go_wp2
                    go_roundw
                    case rel => exact ⟨k + 1, _, false, by omega, by go_num, rfl, by first | rfl | rw [decide_eq_false (by omega)], Lib.hid (Or.inr ⟨rfl, by rw [HG.out, HDR.out, HT.out]⟩), Lib.hid (by repeat (first | exact HB.out | apply below_dn | apply Below.drew))⟩
                    case measure => simp [intOf]; omega
                | true =>
                  obtain ⟨h2, h3⟩ := Pa.okP_yes hk1
                  obtain ⟨y, rfl⟩ : ∃ y : Nat, x = (y : Int) := ⟨x.toNat, by omega⟩
                  have hy : y < (Lb.row nx p).length := by omega
                  obtain ⟨b3, o3, e3, hc3⟩ := Reads.get HR1.out y hy
                  have HYZ : Hid ((Lb.row nx p).getD ((y : Int)).toNat 0 = (Lb.row nx p).getD y 0) := Lib.hid (by rw [Int.toNat_natCast])
                  subst e3
                  have HGO := Lib.hid (And.intro (Pa.go_on (nx := nx) (p := p) (e := (y : Int)) (r := way.drop (k + 1)) hk1) (Pa.go_out (nx := nx) (p := p) (e := (y : Int)) (r := way.drop (k + 1)) hk1))
                  rw [HYZ.out] at HGO
                  clear HR1 HYZ hk1
                  generalize (Lb.row nx p).getD y 0 = z at *
                  cases hk2 : Pa.okP z nx.length with
                  | false =>
                    have HT := Lib.hid ((HGO.out).2 hk2)
                    have hno := Pa.okP_no hk2
                    clear hk2 HGO
                    rcases hno with hno | hno
                    · have hd0 : decide (0 ≤ (y : Int)) = true := decide_eq_true (by omega)
                      have hd1 : decide ((y : Int) < ((Lb.row nx p).length : Int)) = true := decide_eq_true (by omega)
                      go_wp2
                      go_quiet (fail)
                      go_wp2
                      go_quiet (fail)
                      go_wp2
                      go_roundw
                      case rel => exact ⟨k + 1, _, false, by omega, by go_num, rfl, by first | rfl | rw [decide_eq_false (by omega)], Lib.hid (Or.inr ⟨rfl, by rw [HG.out, HDR.out, HT.out]⟩), Lib.hid (by repeat (first | exact HB.out | apply below_dn | apply Below.drew))⟩
                      case measure => simp [intOf]; omega
                    · have hx0 : 0 ≤ z := by omega
                      have hd0 : decide (0 ≤ (y : Int)) = true := decide_eq_true (by omega)
                      have hd1 : decide ((y : Int) < ((Lb.row nx p).length : Int)) = true := decide_eq_true (by omega)
                      go_wp2
                      go_quiet (fail)
                      go_wp2
                      go_quiet (fail)
                      go_wp2
                      go_roundw
                      case rel => exact ⟨k + 1, _, false, by omega, by go_num, rfl, by first | rfl | rw [decide_eq_false (by omega)], Lib.hid (Or.inr ⟨rfl, by rw [HG.out, HDR.out, HT.out]⟩), Lib.hid (by repeat (first | exact HB.out | apply below_dn | apply Below.drew))⟩
                      case measure => simp [intOf]; omega
                  | true =>
                    have HT := Lib.hid ((HGO.out).1 hk2)
                    obtain ⟨h4, h5⟩ := Pa.okP_yes hk2
                    have HK2 := Lib.hid hk2
                    clear hk2 HGO
                    have hd0 : decide (0 ≤ (y : Int)) = true := decide_eq_true (by omega)
                    have hd1 : decide ((y : Int) < ((Lb.row nx p).length : Int)) = true := decide_eq_true (by omega)
                    go_wp2
                    go_quiet (fail)
                    go_wp2
                    go_quiet (fail)
                    go_wp2
                    go_roundw
                    case rel => exact ⟨k + 1, _, true, by omega, by go_num, rfl, rfl, Lib.hid (Or.inl ⟨rfl, HK2.out, by rw [HG.out, HDR.out, HT.out]⟩), Lib.hid (by repeat (first | exact HB.out | apply below_dn | apply Below.drew))⟩
                    case measure => simp [intOf]; omega
              · have hD : Pa.ends nx f way = some p := by rw [HG.out, List.drop_eq_nil_of_le (by omega)]; rfl
                rw [hD] at HE
                have HE2 : Hid (∀ w', Below w.heap.size w w' → Calls Try.prog 27 #[.slice a nx.length c, .int .i64 f, .slice a2 way.length c2] w' fun e w2 => e = .returned (.tuple #[.int .i64 (p : Int), .bool true]) ∧ w' = w2) := HE
                clear HE hD HG
                go_wp2_with (first | (go_at_call 27; refine (HE2.out _ HB.out).mono ?_; rintro e w2 ⟨rfl, rfl⟩) | (go_at_call 21; refine (HAW.out _).mono ?_; rintro e w5 ⟨rfl, hb5⟩))
                all_goals go_ret
                all_goals exact ⟨rfl, HB.out.trans (hb5.mono HB.out.size)⟩
end Go.Proofs.Ytlmecpghlgndnaa
