/-
  slices.Equal at numbers, nil or not; state.Same and the document's: by walks.
-/
import Derived.Test.YtbplkphjjfgkmaaDoorStTxt
import Derived.Test.YtbplkphjjfgkmaaDoorSame
import Derived.BigQuiet
namespace Go.Proofs.YtbplkphjjfgkmaaDoor
open Go.RowKit
set_option linter.unusedVariables false
set_option linter.unusedSimpArgs false

theorem eq_pre (xs ys : List Int) (h : xs.length = ys.length) (hall : ∀ j, j < xs.length → xs[j]? = ys[j]?) : xs = ys := by
  apply List.ext_getElem? ; intro i
  by_cases hi : i < xs.length
  · exact hall i hi
  · rw [List.getElem?_eq_none (by omega), List.getElem?_eq_none (by omega)]

set_option maxHeartbeats 400000 in
theorem s3_any (a b : Option Addr) (c d : Nat) (xs ys : List Int) (w : World) (ha : Reads w a (xs.map (Value.int .i64))) (hb : Reads w b (ys.map (Value.int .i64))) (hm : xs.length ≤ 4611686018427387904) :
    Calls Tryd.prog 19 #[.slice a xs.length c, .slice b ys.length d] w fun e w' => e = .returned (.bool (decide (xs = ys))) ∧ ∃ n, w' = w.drewN n := by
  by_cases hl : xs.length = ys.length
  · by_cases h0 : xs.length = 0
    · have e1 : xs = [] := List.eq_nil_of_length_eq_zero h0
      have e2 : ys = [] := List.eq_nil_of_length_eq_zero (by omega)
      subst e1 e2
      go_enter Tryd.func19, Tryd.ntmps19
      go_wp2
      refine wp_loop_rounds 1 ?_
      rw [rounds_succ]
      go_wp2
      go_ret
      exact ⟨rfl, 0, rfl⟩
    · obtain ⟨ba, oa, rfl, hca⟩ := ha.at (by simp; omega)
      obtain ⟨bb, ob, rfl, hcb⟩ := hb.at (by simp; omega)
      have HCA := Lib.hid (Reads.int hca)
      have HCB := Lib.hid (Reads.int hcb)
      clear hca hcb ha hb
      have HL := Lib.hid hl
      have hle : ((xs.length : Int) != (ys.length : Int)) = false := by rw [hl]; simp
      clear hl
      go_enter Tryd.func19, Tryd.ntmps19
      go_wp2
      go_loopw [5] (fun v5 wr => ∃ k : Nat, k ≤ xs.length ∧ v5 = .int .i64 k ∧ (∀ j, j < k → xs[j]? = ys[j]?) ∧ ∃ n, wr = w.drewN n) (fun v5 _ => xs.length - (intOf v5).toNat)
      case atStart => exact ⟨0, by omega, rfl, fun j hj => by omega, 0, rfl⟩
      case round =>
        obtain ⟨k, hk, rfl, hall, n, rfl⟩ := hrel
        have HALL := Lib.hid hall
        clear hall
        by_cases hlt : k < xs.length
        · have hky : k < ys.length := by rw [← HL.out]; exact hlt
          have hx := HCA.out k hlt
          have hy := HCB.out k hky
          have hgx : xs[k]? = some xs[k] := List.getElem?_eq_getElem hlt
          have hgy : ys[k]? = some ys[k] := List.getElem?_eq_getElem hky
          have HGX := Lib.hid hgx
          have HGY := Lib.hid hgy
          clear hgx hgy
          generalize hX : xs[k] = x at *
          generalize hY : ys[k] = y at *
          clear hX hY
          by_cases hxy : x = y
          · have hne : (x != y) = false := by simp [hxy]
            have HXY := Lib.hid hxy
            clear hxy
            go_wp2
            go_quiet (fail)
            go_wp2
            go_roundw
            case rel => exact ⟨k + 1, by omega, by go_num, fun j hj => by
              by_cases h : j = k
              · subst h; rw [HGX.out, HGY.out, HXY.out]
              · exact HALL.out j (by omega), by first | exact ⟨_, rfl⟩ | (simp only [World.drewN_drewN]; exact ⟨_, rfl⟩)⟩
            case measure => simp [intOf]; omega
          · have hne : (x != y) = true := by simp [hxy]
            have HXY := Lib.hid hxy
            clear hxy
            go_wp2
            go_quiet (fail)
            go_wp2
            go_ret
            exact ⟨ret_bool (by symm; rw [decide_eq_false_iff_not]; intro h; subst h; have := HGX.out.symm.trans HGY.out; exact HXY.out (by simpa using this)), by first | exact ⟨_, rfl⟩ | (simp only [World.drewN_drewN]; exact ⟨_, rfl⟩)⟩
        · have hkn : k = xs.length := by omega
          have hfin : xs = ys := eq_pre xs ys HL.out (fun j hj => HALL.out j (by omega))
          have HF := Lib.hid hfin
          clear hfin
          go_wp2
          go_ret
          exact ⟨ret_bool (by rw [decide_eq_true HF.out]), n, rfl⟩
  · have hne : ((xs.length : Int) != (ys.length : Int)) = true := by rw [bne_iff_ne]; omega
    have HL := Lib.hid hl
    clear hl
    go_enter Tryd.func19, Tryd.ntmps19
    go_wp2
    go_ret
    exact ⟨ret_bool (by symm; rw [decide_eq_false_iff_not]; intro h; exact HL.out (by rw [h])), 0, rfl⟩
set_option maxHeartbeats 400000 in
theorem equal64_any (a b : Option Addr) (c d : Nat) (xs ys : List Int) (w : World) (ha : Reads w a (xs.map (Value.int .i64))) (hb : Reads w b (ys.map (Value.int .i64))) (hm : xs.length ≤ 4611686018427387904) :
    Calls Tryd.prog 99 #[.slice a xs.length c, .slice b ys.length d] w fun e w' => e = .returned (.bool (decide (xs = ys))) ∧ ∃ n, w' = w.drewN n := by
  by_cases hl : xs.length = ys.length
  · by_cases h0 : xs.length = 0
    · have e1 : xs = [] := List.eq_nil_of_length_eq_zero h0
      have e2 : ys = [] := List.eq_nil_of_length_eq_zero (by omega)
      subst e1 e2
      go_enter Tryd.func99, Tryd.ntmps99
      go_wp2
      refine wp_loop_rounds 1 ?_
      rw [rounds_succ]
      go_wp2
      go_ret
      exact ⟨rfl, 0, rfl⟩
    · obtain ⟨ba, oa, rfl, hca⟩ := ha.at (by simp; omega)
      obtain ⟨bb, ob, rfl, hcb⟩ := hb.at (by simp; omega)
      have HCA := Lib.hid (Reads.int hca)
      have HCB := Lib.hid (Reads.int hcb)
      clear hca hcb ha hb
      have HL := Lib.hid hl
      have hle : ((xs.length : Int) != (ys.length : Int)) = false := by rw [hl]; simp
      clear hl
      go_enter Tryd.func99, Tryd.ntmps99
      go_wp2
      go_loopw [13] (fun v13 wr => ∃ k : Nat, k ≤ xs.length ∧ v13 = .int .i64 k ∧ (∀ j, j < k → xs[j]? = ys[j]?) ∧ ∃ n, wr = w.drewN n) (fun v13 _ => xs.length - (intOf v13).toNat)
      case atStart => exact ⟨0, by omega, rfl, fun j hj => by omega, 0, rfl⟩
      case round =>
        obtain ⟨k, hk, rfl, hall, n, rfl⟩ := hrel
        have HALL := Lib.hid hall
        clear hall
        by_cases hlt : k < xs.length
        · have hky : k < ys.length := by rw [← HL.out]; exact hlt
          have hx := HCA.out k hlt
          have hy := HCB.out k hky
          have hgx : xs[k]? = some xs[k] := List.getElem?_eq_getElem hlt
          have hgy : ys[k]? = some ys[k] := List.getElem?_eq_getElem hky
          have HGX := Lib.hid hgx
          have HGY := Lib.hid hgy
          clear hgx hgy
          generalize hX : xs[k] = x at *
          generalize hY : ys[k] = y at *
          clear hX hY
          by_cases hxy : x = y
          · have hne : (x != y) = false := by simp [hxy]
            have HXY := Lib.hid hxy
            clear hxy
            go_wp2
            go_quiet (fail)
            go_wp2
            go_roundw
            case rel => exact ⟨k + 1, by omega, by go_num, fun j hj => by
              by_cases h : j = k
              · subst h; rw [HGX.out, HGY.out, HXY.out]
              · exact HALL.out j (by omega), by first | exact ⟨_, rfl⟩ | (simp only [World.drewN_drewN]; exact ⟨_, rfl⟩)⟩
            case measure => simp [intOf]; omega
          · have hne : (x != y) = true := by simp [hxy]
            have HXY := Lib.hid hxy
            clear hxy
            go_wp2
            go_quiet (fail)
            go_wp2
            go_ret
            exact ⟨ret_bool (by symm; rw [decide_eq_false_iff_not]; intro h; subst h; have := HGX.out.symm.trans HGY.out; exact HXY.out (by simpa using this)), by first | exact ⟨_, rfl⟩ | (simp only [World.drewN_drewN]; exact ⟨_, rfl⟩)⟩
        · have hkn : k = xs.length := by omega
          have hfin : xs = ys := eq_pre xs ys HL.out (fun j hj => HALL.out j (by omega))
          have HF := Lib.hid hfin
          clear hfin
          go_wp2
          go_ret
          exact ⟨ret_bool (by rw [decide_eq_true HF.out]), n, rfl⟩
  · have hne : ((xs.length : Int) != (ys.length : Int)) = true := by rw [bne_iff_ne]; omega
    have HL := Lib.hid hl
    clear hl
    go_enter Tryd.func99, Tryd.ntmps99
    go_wp2
    go_ret
    exact ⟨ret_bool (by symm; rw [decide_eq_false_iff_not]; intro h; exact HL.out (by rw [h])), 0, rfl⟩

set_option maxHeartbeats 400000 in
theorem equalI_any (a b : Option Addr) (c d : Nat) (xs ys : List Int) (w : World) (ha : Reads w a (xs.map (Value.int .i64))) (hb : Reads w b (ys.map (Value.int .i64))) (hm : xs.length ≤ 4611686018427387904) :
    Calls Tryd.prog 100 #[.slice a xs.length c, .slice b ys.length d] w fun e w' => e = .returned (.bool (decide (xs = ys))) ∧ ∃ n, w' = w.drewN n := by
  by_cases hl : xs.length = ys.length
  · by_cases h0 : xs.length = 0
    · have e1 : xs = [] := List.eq_nil_of_length_eq_zero h0
      have e2 : ys = [] := List.eq_nil_of_length_eq_zero (by omega)
      subst e1 e2
      go_enter Tryd.func100, Tryd.ntmps100
      go_wp2
      refine wp_loop_rounds 1 ?_
      rw [rounds_succ]
      go_wp2
      go_ret
      exact ⟨rfl, 0, rfl⟩
    · obtain ⟨ba, oa, rfl, hca⟩ := ha.at (by simp; omega)
      obtain ⟨bb, ob, rfl, hcb⟩ := hb.at (by simp; omega)
      have HCA := Lib.hid (Reads.int hca)
      have HCB := Lib.hid (Reads.int hcb)
      clear hca hcb ha hb
      have HL := Lib.hid hl
      have hle : ((xs.length : Int) != (ys.length : Int)) = false := by rw [hl]; simp
      clear hl
      go_enter Tryd.func100, Tryd.ntmps100
      go_wp2
      go_loopw [13] (fun v13 wr => ∃ k : Nat, k ≤ xs.length ∧ v13 = .int .i64 k ∧ (∀ j, j < k → xs[j]? = ys[j]?) ∧ ∃ n, wr = w.drewN n) (fun v13 _ => xs.length - (intOf v13).toNat)
      case atStart => exact ⟨0, by omega, rfl, fun j hj => by omega, 0, rfl⟩
      case round =>
        obtain ⟨k, hk, rfl, hall, n, rfl⟩ := hrel
        have HALL := Lib.hid hall
        clear hall
        by_cases hlt : k < xs.length
        · have hky : k < ys.length := by rw [← HL.out]; exact hlt
          have hx := HCA.out k hlt
          have hy := HCB.out k hky
          have hgx : xs[k]? = some xs[k] := List.getElem?_eq_getElem hlt
          have hgy : ys[k]? = some ys[k] := List.getElem?_eq_getElem hky
          have HGX := Lib.hid hgx
          have HGY := Lib.hid hgy
          clear hgx hgy
          generalize hX : xs[k] = x at *
          generalize hY : ys[k] = y at *
          clear hX hY
          by_cases hxy : x = y
          · have hne : (x != y) = false := by simp [hxy]
            have HXY := Lib.hid hxy
            clear hxy
            go_wp2
            go_quiet (fail)
            go_wp2
            go_roundw
            case rel => exact ⟨k + 1, by omega, by go_num, fun j hj => by
              by_cases h : j = k
              · subst h; rw [HGX.out, HGY.out, HXY.out]
              · exact HALL.out j (by omega), by first | exact ⟨_, rfl⟩ | (simp only [World.drewN_drewN]; exact ⟨_, rfl⟩)⟩
            case measure => simp [intOf]; omega
          · have hne : (x != y) = true := by simp [hxy]
            have HXY := Lib.hid hxy
            clear hxy
            go_wp2
            go_quiet (fail)
            go_wp2
            go_ret
            exact ⟨ret_bool (by symm; rw [decide_eq_false_iff_not]; intro h; subst h; have := HGX.out.symm.trans HGY.out; exact HXY.out (by simpa using this)), by first | exact ⟨_, rfl⟩ | (simp only [World.drewN_drewN]; exact ⟨_, rfl⟩)⟩
        · have hkn : k = xs.length := by omega
          have hfin : xs = ys := eq_pre xs ys HL.out (fun j hj => HALL.out j (by omega))
          have HF := Lib.hid hfin
          clear hfin
          go_wp2
          go_ret
          exact ⟨ret_bool (by rw [decide_eq_true HF.out]), n, rfl⟩
  · have hne : ((xs.length : Int) != (ys.length : Int)) = true := by rw [bne_iff_ne]; omega
    have HL := Lib.hid hl
    clear hl
    go_enter Tryd.func100, Tryd.ntmps100
    go_wp2
    go_ret
    exact ⟨ret_bool (by symm; rw [decide_eq_false_iff_not]; intro h; exact HL.out (by rw [h])), 0, rfl⟩
/-- Are two states the same? -/
def sameS (s t : Sv) : Bool := decide (s.op = t.op) && decide (s.dn = t.dn) && decide (s.vals = t.vals) && decide (s.did = t.did) && decide (s.cnt = t.cnt)
theorem two_new (w : World) (s t : Sv) : Below w.heap.size w ((w.alloc (.cells #[.slice s.vala s.vals.length s.valc, .int .i64 s.op, .int .i64 s.dn, .slice s.dida s.did.length s.didc, .slice s.cnta s.cnt.length s.cntc] 78)).alloc (.cells #[.slice t.vala t.vals.length t.valc, .int .i64 t.op, .int .i64 t.dn, .slice t.dida t.did.length t.didc, .slice t.cnta t.cnt.length t.cntc] 78)) ∧ SvAt ((w.alloc (.cells #[.slice s.vala s.vals.length s.valc, .int .i64 s.op, .int .i64 s.dn, .slice s.dida s.did.length s.didc, .slice s.cnta s.cnt.length s.cntc] 78)).alloc (.cells #[.slice t.vala t.vals.length t.valc, .int .i64 t.op, .int .i64 t.dn, .slice t.dida t.did.length t.didc, .slice t.cnta t.cnt.length t.cntc] 78)) w.heap.size s ∧ SvAt ((w.alloc (.cells #[.slice s.vala s.vals.length s.valc, .int .i64 s.op, .int .i64 s.dn, .slice s.dida s.did.length s.didc, .slice s.cnta s.cnt.length s.cntc] 78)).alloc (.cells #[.slice t.vala t.vals.length t.valc, .int .i64 t.op, .int .i64 t.dn, .slice t.dida t.did.length t.didc, .slice t.cnta t.cnt.length t.cntc] 78)) (w.heap.size + 1) t := by
  have h1 := st_below_new w (.cells #[.slice s.vala s.vals.length s.valc, .int .i64 s.op, .int .i64 s.dn, .slice s.dida s.did.length s.didc, .slice s.cnta s.cnt.length s.cntc] 78)
  have h2 := sv_new w s
  have hz : (w.alloc (.cells #[.slice s.vala s.vals.length s.valc, .int .i64 s.op, .int .i64 s.dn, .slice s.dida s.did.length s.didc, .slice s.cnta s.cnt.length s.cntc] 78)).heap.size = w.heap.size + 1 := by simp
  generalize (w.alloc (.cells #[.slice s.vala s.vals.length s.valc, .int .i64 s.op, .int .i64 s.dn, .slice s.dida s.did.length s.didc, .slice s.cnta s.cnt.length s.cntc] 78)) = W1 at *
  have h3 := st_below_new W1 (.cells #[.slice t.vala t.vals.length t.valc, .int .i64 t.op, .int .i64 t.dn, .slice t.dida t.did.length t.didc, .slice t.cnta t.cnt.length t.cntc] 78)
  have h4 := sv_new W1 t
  rw [hz] at h4
  exact ⟨h1.trans (h3.mono h1.size), h2.mono h3 (by omega), h4⟩
theorem st_dn {B : Nat} {a w : World} (h : Below B a w) (n : Nat) : Below B a (w.drewN n) := ⟨h.os, h.tape, h.output, h.size, h.block⟩
set_option maxHeartbeats 8000000 in
theorem same_state (s t : Sv) (w : World) (hs : RdSv w s) (ht : RdSv w t) (h1 : s.vals.length ≤ 150) (h2 : s.did.length ≤ 150) (h3 : s.cnt.length ≤ 150) :
    Calls Tryd.prog 55 #[s.val, t.val] w fun e w' => e = .returned (.bool (sameS s t)) ∧ Below w.heap.size w w' := by
  have hb := two_new w s t
  unfold Sv.val
  go_enter Tryd.func55, Tryd.ntmps55
  go_upto_region 1 with fail
  generalize ((w.alloc (.cells #[.slice s.vala s.vals.length s.valc, .int .i64 s.op, .int .i64 s.dn, .slice s.dida s.did.length s.didc, .slice s.cnta s.cnt.length s.cntc] 78)).alloc (.cells #[.slice t.vala t.vals.length t.valc, .int .i64 t.op, .int .i64 t.dn, .slice t.dida t.did.length t.didc, .slice t.cnta t.cnt.length t.cntc] 78)) = W at *
  obtain ⟨hB, hS, hT⟩ := hb
  have s0 := hS.c0; have s1 := hS.c1; have s2 := hS.c2; have s3 := hS.c3; have s4 := hS.c4
  have t0 := hT.c0; have t1 := hT.c1; have t2 := hT.c2; have t3 := hT.c3; have t4 := hT.c4
  obtain ⟨b1, e1⟩ : ∃ b, decide (s.op = t.op) = b := ⟨_, rfl⟩
  obtain ⟨b2, e2⟩ : ∃ b, decide (s.dn = t.dn) = b := ⟨_, rfl⟩
  obtain ⟨b3, e3⟩ : ∃ b, decide (s.vals = t.vals) = b := ⟨_, rfl⟩
  obtain ⟨b4, e4⟩ : ∃ b, decide (s.did = t.did) = b := ⟨_, rfl⟩
  obtain ⟨b5, e5⟩ : ∃ b, decide (s.cnt = t.cnt) = b := ⟨_, rfl⟩
  have HV : Hid (∀ W', (∃ n, W' = W.drewN n) → Calls Tryd.prog 99 #[.slice s.vala s.vals.length s.valc, .slice t.vala t.vals.length t.valc] W' fun e w' => e = .returned (.bool b3) ∧ ∃ n, w' = W'.drewN n) := Lib.hid fun W' ⟨n, hn⟩ => by
    rw [← e3, hn]
    exact equal64_any _ _ _ _ _ _ _ (hs.vals.mono (st_dn hB n) (Nat.le_refl _)) (ht.vals.mono (st_dn hB n) (Nat.le_refl _)) (by omega)
  have HD : Hid (∀ W', (∃ n, W' = W.drewN n) → Calls Tryd.prog 100 #[.slice s.dida s.did.length s.didc, .slice t.dida t.did.length t.didc] W' fun e w' => e = .returned (.bool b4) ∧ ∃ n, w' = W'.drewN n) := Lib.hid fun W' ⟨n, hn⟩ => by
    rw [← e4, hn]
    exact equalI_any _ _ _ _ _ _ _ (hs.did.mono (st_dn hB n) (Nat.le_refl _)) (ht.did.mono (st_dn hB n) (Nat.le_refl _)) (by omega)
  have HC : Hid (∀ W', (∃ n, W' = W.drewN n) → Calls Tryd.prog 100 #[.slice s.cnta s.cnt.length s.cntc, .slice t.cnta t.cnt.length t.cntc] W' fun e w' => e = .returned (.bool b5) ∧ ∃ n, w' = W'.drewN n) := Lib.hid fun W' ⟨n, hn⟩ => by
    rw [← e5, hn]
    exact equalI_any _ _ _ _ _ _ _ (hs.cnt.mono (st_dn hB n) (Nat.le_refl _)) (ht.cnt.mono (st_dn hB n) (Nat.le_refl _)) (by omega)
  have HB := Lib.hid hB
  have HA : Hid (sameS s t = (b1 && b2 && b3 && b4 && b5)) := Lib.hid (by rw [← e1, ← e2, ← e3, ← e4, ← e5]; rfl)
  have q1 : (s.op == t.op) = b1 := by rw [← e1]; by_cases h : s.op = t.op <;> simp [h]
  have q2 : (s.dn == t.dn) = b2 := by rw [← e2]; by_cases h : s.dn = t.dn <;> simp [h]
  clear hB hS hT e1 e2 e3 e4 e5 hs ht
  cases b1 <;> cases b2 <;> cases b3 <;> cases b4 <;> cases b5
  all_goals
    go_wp2_with (first
      | (go_at_call 99; (with_reducible refine (HV.out _ (by first | exact ⟨0, rfl⟩ | exact ⟨_, rfl⟩ | (simp only [World.drewN_drewN]; exact ⟨_, rfl⟩))).mono ?_); rintro e w2 ⟨rfl, n, rfl⟩)
      | (go_at_call 100; first | ((with_reducible refine (HD.out _ (by first | exact ⟨0, rfl⟩ | exact ⟨_, rfl⟩ | (simp only [World.drewN_drewN]; exact ⟨_, rfl⟩))).mono ?_); rintro e w2 ⟨rfl, n, rfl⟩) | ((with_reducible refine (HC.out _ (by first | exact ⟨0, rfl⟩ | exact ⟨_, rfl⟩ | (simp only [World.drewN_drewN]; exact ⟨_, rfl⟩))).mono ?_); rintro e w2 ⟨rfl, n, rfl⟩)))
    go_ret
    exact ⟨ret_bool (by rw [HA.out]; rfl), by first | exact HB.out | exact st_dn HB.out _ | exact st_dn (st_dn HB.out _) _ | exact st_dn (st_dn (st_dn HB.out _) _) _⟩
set_option maxHeartbeats 8000000 in
theorem rsame_state (s t : Sv) (w : World) (hs : RdSv w s) (ht : RdSv w t) (h1 : s.vals.length ≤ 150) (h2 : s.did.length ≤ 150) (h3 : s.cnt.length ≤ 150) :
    Calls Tryd.prog 54 #[s.val, t.val] w fun e w' => e = .returned (.bool (sameS s t)) ∧ Below w.heap.size w w' := by
  have hb := two_new w s t
  unfold Sv.val
  go_enter Tryd.func54, Tryd.ntmps54
  go_upto_region 1 with fail
  generalize ((w.alloc (.cells #[.slice s.vala s.vals.length s.valc, .int .i64 s.op, .int .i64 s.dn, .slice s.dida s.did.length s.didc, .slice s.cnta s.cnt.length s.cntc] 78)).alloc (.cells #[.slice t.vala t.vals.length t.valc, .int .i64 t.op, .int .i64 t.dn, .slice t.dida t.did.length t.didc, .slice t.cnta t.cnt.length t.cntc] 78)) = W at *
  obtain ⟨hB, hS, hT⟩ := hb
  have s0 := hS.c0; have s1 := hS.c1; have s2 := hS.c2; have s3 := hS.c3; have s4 := hS.c4
  have t0 := hT.c0; have t1 := hT.c1; have t2 := hT.c2; have t3 := hT.c3; have t4 := hT.c4
  obtain ⟨b1, e1⟩ : ∃ b, decide (s.op = t.op) = b := ⟨_, rfl⟩
  obtain ⟨b2, e2⟩ : ∃ b, decide (s.dn = t.dn) = b := ⟨_, rfl⟩
  obtain ⟨b3, e3⟩ : ∃ b, decide (s.vals = t.vals) = b := ⟨_, rfl⟩
  obtain ⟨b4, e4⟩ : ∃ b, decide (s.did = t.did) = b := ⟨_, rfl⟩
  obtain ⟨b5, e5⟩ : ∃ b, decide (s.cnt = t.cnt) = b := ⟨_, rfl⟩
  have HV : Hid (∀ W', (∃ n, W' = W.drewN n) → Calls Tryd.prog 19 #[.slice s.vala s.vals.length s.valc, .slice t.vala t.vals.length t.valc] W' fun e w' => e = .returned (.bool b3) ∧ ∃ n, w' = W'.drewN n) := Lib.hid fun W' ⟨n, hn⟩ => by
    rw [← e3, hn]
    exact s3_any _ _ _ _ _ _ _ (hs.vals.mono (st_dn hB n) (Nat.le_refl _)) (ht.vals.mono (st_dn hB n) (Nat.le_refl _)) (by omega)
  have HD : Hid (∀ W', (∃ n, W' = W.drewN n) → Calls Tryd.prog 98 #[.slice s.dida s.did.length s.didc, .slice t.dida t.did.length t.didc] W' fun e w' => e = .returned (.bool b4) ∧ ∃ n, w' = W'.drewN n) := Lib.hid fun W' ⟨n, hn⟩ => by
    rw [← e4, hn]
    exact same_any _ _ _ _ _ _ _ (hs.did.mono (st_dn hB n) (Nat.le_refl _)) (ht.did.mono (st_dn hB n) (Nat.le_refl _)) (by omega)
  have HC : Hid (∀ W', (∃ n, W' = W.drewN n) → Calls Tryd.prog 98 #[.slice s.cnta s.cnt.length s.cntc, .slice t.cnta t.cnt.length t.cntc] W' fun e w' => e = .returned (.bool b5) ∧ ∃ n, w' = W'.drewN n) := Lib.hid fun W' ⟨n, hn⟩ => by
    rw [← e5, hn]
    exact same_any _ _ _ _ _ _ _ (hs.cnt.mono (st_dn hB n) (Nat.le_refl _)) (ht.cnt.mono (st_dn hB n) (Nat.le_refl _)) (by omega)
  have HB := Lib.hid hB
  have HA : Hid (sameS s t = (b1 && b2 && b3 && b4 && b5)) := Lib.hid (by rw [← e1, ← e2, ← e3, ← e4, ← e5]; rfl)
  have q1 : (s.op == t.op) = b1 := by rw [← e1]; by_cases h : s.op = t.op <;> simp [h]
  have q2 : (s.dn == t.dn) = b2 := by rw [← e2]; by_cases h : s.dn = t.dn <;> simp [h]
  clear hB hS hT e1 e2 e3 e4 e5 hs ht
  cases b1 <;> cases b2 <;> cases b3 <;> cases b4 <;> cases b5
  all_goals
    go_wp2_with (first
      | (go_at_call 19; (with_reducible refine (HV.out _ (by first | exact ⟨0, rfl⟩ | exact ⟨_, rfl⟩ | (simp only [World.drewN_drewN]; exact ⟨_, rfl⟩))).mono ?_); rintro e w2 ⟨rfl, n, rfl⟩)
      | (go_at_call 98; first | ((with_reducible refine (HD.out _ (by first | exact ⟨0, rfl⟩ | exact ⟨_, rfl⟩ | (simp only [World.drewN_drewN]; exact ⟨_, rfl⟩))).mono ?_); rintro e w2 ⟨rfl, n, rfl⟩) | ((with_reducible refine (HC.out _ (by first | exact ⟨0, rfl⟩ | exact ⟨_, rfl⟩ | (simp only [World.drewN_drewN]; exact ⟨_, rfl⟩))).mono ?_); rintro e w2 ⟨rfl, n, rfl⟩)))
    go_ret
    exact ⟨ret_bool (by rw [HA.out]; rfl), by first | exact HB.out | exact st_dn HB.out _ | exact st_dn (st_dn HB.out _) _ | exact st_dn (st_dn (st_dn HB.out _) _) _⟩
end Go.Proofs.YtbplkphjjfgkmaaDoor
