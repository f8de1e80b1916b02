/-
  Norm: the maker's signs.
-/
import Derived.Test.YtofbdgpbekcibaaNrmPut
namespace Go.Proofs.Ytofbdgpbekcibaa
open Go.RowKit Go.Maps
set_option linter.unusedVariables false
set_option linter.unusedSimpArgs false

def sgn (op : Int) (a b : Nat) : Sp := ⟨op, (a : Nat), (b : Nat), 0, 0, 0, 0, 0, 0, 0⟩
/-- An instruction's numbers. -/
structure Inx where
  t0 : Int
  t1 : Int
  t2 : Int
  t3 : Int
  t4 : Int
  t5 : Int
  t6 : Int
structure Inx.ok (x : Inx) : Prop where
  t0 : wfi x.t0
  t1 : wfi x.t1
  t2 : wfi x.t2
  t3 : wfi x.t3
  t4 : wfi x.t4
  t5 : wfi x.t5
  t6 : wfi x.t6
def atm (x : Inx) : Sp := ⟨x.t0, 0, 0, x.t0, x.t1, x.t2, x.t3, x.t4, x.t5, x.t6⟩
theorem wfi_nat (n : Nat) (h : n ≤ 100000) : wfi (n : Int) := by simp [wfi, Lit.wf, IntKind.min, IntKind.max, IntKind.signed, IntKind.bits]; omega
theorem wfi_small (n : Int) (h : 0 ≤ n ∧ n ≤ 100000) : wfi n := by simp [wfi, Lit.wf, IntKind.min, IntKind.max, IntKind.signed, IntKind.bits]; omega
theorem sgn_ok (op : Int) (a b : Nat) (ho : 0 ≤ op ∧ op ≤ 100000) (ha : a ≤ 100000) (hb : b ≤ 100000) : (sgn op a b).ok :=
  ⟨wfi_small _ ho, wfi_nat a ha, wfi_nat b hb, wfi_small 0 (by omega), wfi_small 0 (by omega), wfi_small 0 (by omega), wfi_small 0 (by omega), wfi_small 0 (by omega), wfi_small 0 (by omega), wfi_small 0 (by omega)⟩
theorem atm_ok (x : Inx) (h : x.ok) : (atm x).ok := ⟨h.t0, wfi_small 0 (by omega), wfi_small 0 (by omega), h.t0, h.t1, h.t2, h.t3, h.t4, h.t5, h.t6⟩
def putP (S : List Sp) (x : Sp) : List Sp × Nat := (addL S x, (addL S x).idxOf x)
def notP (S : List Sp) (a : Nat) : List Sp × Nat := match S[a]? with
  | some y => if y.op = 15 then (S, y.a.toNat) else putP S (sgn 15 a 0)
  | none => putP S (sgn 15 a 0)
section
variable {w W w' : World} {B p b : Nat} {vs : Value} {D : RDat} {S : List Sp} {A : List Sp × Nat} {e : Ending}
theorem KR.of (h : KR W B p b vs A e w') (hb : Below w.heap.size w W) (hB : B ≤ w.heap.size) : KR w B p b vs A e w' := by
  obtain ⟨h1, h2, v2, D2, h3, h4⟩ := h
  exact ⟨h1, (hb.mono hB).trans h2, v2, D2, h3, ((Frm.refl w p b vs).still hb (Nat.le_refl _)).trans h4 hb.size⟩
theorem kput (h : IsK w B p vs b D S) (hB : B ≤ w.heap.size) (hS : S.length ≤ 10000) (x : Sp) (hx : x.ok) (hb : Below w.heap.size w W) :
    Calls Try.prog 74 #[.pointer (some ⟨p, 0, none⟩), x.val] W (KR w B p b vs (putP S x)) :=
  (kput_any (h.still hb) (Nat.le_trans hB hb.size) hS x hx).mono fun e w' hk => KR.of hk hb hB
end
section
variable {w : World} {B p b : Nat} {vs : Value} {D : RDat} {S : List Sp}
theorem kex_any (h : IsK w B p vs b D S) (hB : B ≤ w.heap.size) (hS : S.length ≤ 10000) (a : Nat) (ha : a ≤ 100000) :
    Calls Try.prog 77 #[.pointer (some ⟨p, 0, none⟩), .int .i64 (a : Nat)] w (KR w B p b vs (putP S (sgn 20 a 0))) := by
  have HP : Hid (∀ W, Below w.heap.size w W → Calls Try.prog 74 #[.pointer (some ⟨p, 0, none⟩), .agg #[.int .i64 20, .int .i64 (a : Nat), .int .i64 0, .int .i64 0, .int .i64 0, .int .i64 0, .int .i64 0, .int .i64 0, .int .i64 0, .int .i64 0]] W (KR w B p b vs (putP S (sgn 20 a 0)))) := Lib.hid fun W hb => kput h hB hS (sgn 20 a 0) (sgn_ok 20 a 0 (by omega) ha (by omega)) hb
  have HBR := Lib.hid (Below.refl w.heap.size w)
  clear h
  go_enter Try.func77, Try.ntmps77
  go_wp2_with ((with_reducible refine (HP.out _ (by repeat (first | exact HBR.out | apply rrbelow_dn | apply Below.drew))).mono ?_); rintro e w2 hk; obtain ⟨rfl, hk⟩ := hk; have HK := Lib.hid hk; clear hk)
  go_ret
  exact ⟨rfl, HK.out⟩
theorem keg_any (h : IsK w B p vs b D S) (hB : B ≤ w.heap.size) (hS : S.length ≤ 10000) (a : Nat) (ha : a ≤ 100000) :
    Calls Try.prog 78 #[.pointer (some ⟨p, 0, none⟩), .int .i64 (a : Nat)] w (KR w B p b vs (putP S (sgn 24 a 0))) := by
  have HP : Hid (∀ W, Below w.heap.size w W → Calls Try.prog 74 #[.pointer (some ⟨p, 0, none⟩), .agg #[.int .i64 24, .int .i64 (a : Nat), .int .i64 0, .int .i64 0, .int .i64 0, .int .i64 0, .int .i64 0, .int .i64 0, .int .i64 0, .int .i64 0]] W (KR w B p b vs (putP S (sgn 24 a 0)))) := Lib.hid fun W hb => kput h hB hS (sgn 24 a 0) (sgn_ok 24 a 0 (by omega) ha (by omega)) hb
  have HBR := Lib.hid (Below.refl w.heap.size w)
  clear h
  go_enter Try.func78, Try.ntmps78
  go_wp2_with ((with_reducible refine (HP.out _ (by repeat (first | exact HBR.out | apply rrbelow_dn | apply Below.drew))).mono ?_); rintro e w2 hk; obtain ⟨rfl, hk⟩ := hk; have HK := Lib.hid hk; clear hk)
  go_ret
  exact ⟨rfl, HK.out⟩
theorem kand_any (h : IsK w B p vs b D S) (hB : B ≤ w.heap.size) (hS : S.length ≤ 10000) (a : Nat) (ha : a ≤ 100000) (c : Nat) (hc : c ≤ 100000) :
    Calls Try.prog 80 #[.pointer (some ⟨p, 0, none⟩), .int .i64 (a : Nat), .int .i64 (c : Nat)] w (KR w B p b vs (putP S (sgn 16 a c))) := by
  have HP : Hid (∀ W, Below w.heap.size w W → Calls Try.prog 74 #[.pointer (some ⟨p, 0, none⟩), .agg #[.int .i64 16, .int .i64 (a : Nat), .int .i64 (c : Nat), .int .i64 0, .int .i64 0, .int .i64 0, .int .i64 0, .int .i64 0, .int .i64 0, .int .i64 0]] W (KR w B p b vs (putP S (sgn 16 a c)))) := Lib.hid fun W hb => kput h hB hS (sgn 16 a c) (sgn_ok 16 a c (by omega) ha hc) hb
  have HBR := Lib.hid (Below.refl w.heap.size w)
  clear h
  go_enter Try.func80, Try.ntmps80
  go_wp2_with ((with_reducible refine (HP.out _ (by repeat (first | exact HBR.out | apply rrbelow_dn | apply Below.drew))).mono ?_); rintro e w2 hk; obtain ⟨rfl, hk⟩ := hk; have HK := Lib.hid hk; clear hk)
  go_ret
  exact ⟨rfl, HK.out⟩
theorem keu_any (h : IsK w B p vs b D S) (hB : B ≤ w.heap.size) (hS : S.length ≤ 10000) (a : Nat) (ha : a ≤ 100000) (c : Nat) (hc : c ≤ 100000) :
    Calls Try.prog 79 #[.pointer (some ⟨p, 0, none⟩), .int .i64 (a : Nat), .int .i64 (c : Nat)] w (KR w B p b vs (putP S (sgn 26 a c))) := by
  have HP : Hid (∀ W, Below w.heap.size w W → Calls Try.prog 74 #[.pointer (some ⟨p, 0, none⟩), .agg #[.int .i64 26, .int .i64 (a : Nat), .int .i64 (c : Nat), .int .i64 0, .int .i64 0, .int .i64 0, .int .i64 0, .int .i64 0, .int .i64 0, .int .i64 0]] W (KR w B p b vs (putP S (sgn 26 a c)))) := Lib.hid fun W hb => kput h hB hS (sgn 26 a c) (sgn_ok 26 a c (by omega) ha hc) hb
  have HBR := Lib.hid (Below.refl w.heap.size w)
  clear h
  go_enter Try.func79, Try.ntmps79
  go_wp2_with ((with_reducible refine (HP.out _ (by repeat (first | exact HBR.out | apply rrbelow_dn | apply Below.drew))).mono ?_); rintro e w2 hk; obtain ⟨rfl, hk⟩ := hk; have HK := Lib.hid hk; clear hk)
  go_ret
  exact ⟨rfl, HK.out⟩
theorem katom_any (h : IsK w B p vs b D S) (hB : B ≤ w.heap.size) (hS : S.length ≤ 10000) (x : Inx) (hx : x.ok) :
    Calls Try.prog 60 #[.pointer (some ⟨p, 0, none⟩), .agg #[.int .i64 x.t0, .int .i64 x.t1, .int .i64 x.t2, .int .i64 x.t3, .int .i64 x.t4, .int .i64 x.t5, .int .i64 x.t6]] w (KR w B p b vs (putP S (atm x))) := by
  have HP : Hid (∀ W, Below w.heap.size w W → Calls Try.prog 74 #[.pointer (some ⟨p, 0, none⟩), .agg #[.int .i64 x.t0, .int .i64 0, .int .i64 0, .int .i64 x.t0, .int .i64 x.t1, .int .i64 x.t2, .int .i64 x.t3, .int .i64 x.t4, .int .i64 x.t5, .int .i64 x.t6]] W (KR w B p b vs (putP S (atm x)))) := Lib.hid fun W hb => kput h hB hS (atm x) (atm_ok x hx) hb
  have hx1 : (w.alloc (.cells #[.int .i64 x.t0, .int .i64 x.t1, .int .i64 x.t2, .int .i64 x.t3, .int .i64 x.t4, .int .i64 x.t5, .int .i64 x.t6] 70)).heap[w.heap.size]? = some (.cells #[.int .i64 x.t0, .int .i64 x.t1, .int .i64 x.t2, .int .i64 x.t3, .int .i64 x.t4, .int .i64 x.t5, .int .i64 x.t6] 70 (0, 0)) := heap_alloc_new w _
  have x0 : (w.alloc (.cells #[.int .i64 x.t0, .int .i64 x.t1, .int .i64 x.t2, .int .i64 x.t3, .int .i64 x.t4, .int .i64 x.t5, .int .i64 x.t6] 70)).cell? ⟨w.heap.size, 0, none⟩ = some (.int .i64 x.t0) := cell_of_row _ w.heap.size 0 _ _ _ hx1
  have x1 : (w.alloc (.cells #[.int .i64 x.t0, .int .i64 x.t1, .int .i64 x.t2, .int .i64 x.t3, .int .i64 x.t4, .int .i64 x.t5, .int .i64 x.t6] 70)).cell? ⟨w.heap.size, 1, none⟩ = some (.int .i64 x.t1) := cell_of_row _ w.heap.size 1 _ _ _ hx1
  have x2 : (w.alloc (.cells #[.int .i64 x.t0, .int .i64 x.t1, .int .i64 x.t2, .int .i64 x.t3, .int .i64 x.t4, .int .i64 x.t5, .int .i64 x.t6] 70)).cell? ⟨w.heap.size, 2, none⟩ = some (.int .i64 x.t2) := cell_of_row _ w.heap.size 2 _ _ _ hx1
  have x3 : (w.alloc (.cells #[.int .i64 x.t0, .int .i64 x.t1, .int .i64 x.t2, .int .i64 x.t3, .int .i64 x.t4, .int .i64 x.t5, .int .i64 x.t6] 70)).cell? ⟨w.heap.size, 3, none⟩ = some (.int .i64 x.t3) := cell_of_row _ w.heap.size 3 _ _ _ hx1
  have x4 : (w.alloc (.cells #[.int .i64 x.t0, .int .i64 x.t1, .int .i64 x.t2, .int .i64 x.t3, .int .i64 x.t4, .int .i64 x.t5, .int .i64 x.t6] 70)).cell? ⟨w.heap.size, 4, none⟩ = some (.int .i64 x.t4) := cell_of_row _ w.heap.size 4 _ _ _ hx1
  have x5 : (w.alloc (.cells #[.int .i64 x.t0, .int .i64 x.t1, .int .i64 x.t2, .int .i64 x.t3, .int .i64 x.t4, .int .i64 x.t5, .int .i64 x.t6] 70)).cell? ⟨w.heap.size, 5, none⟩ = some (.int .i64 x.t5) := cell_of_row _ w.heap.size 5 _ _ _ hx1
  have x6 : (w.alloc (.cells #[.int .i64 x.t0, .int .i64 x.t1, .int .i64 x.t2, .int .i64 x.t3, .int .i64 x.t4, .int .i64 x.t5, .int .i64 x.t6] 70)).cell? ⟨w.heap.size, 6, none⟩ = some (.int .i64 x.t6) := cell_of_row _ w.heap.size 6 _ _ _ hx1
  have HBR := Lib.hid (rbel_new w (.cells #[.int .i64 x.t0, .int .i64 x.t1, .int .i64 x.t2, .int .i64 x.t3, .int .i64 x.t4, .int .i64 x.t5, .int .i64 x.t6] 70))
  clear h hx1
  go_enter Try.func60, Try.ntmps60
  go_wp2_with ((with_reducible refine (HP.out _ (by repeat (first | exact HBR.out | apply rrbelow_dn | apply Below.drew))).mono ?_); rintro e w2 hk; obtain ⟨rfl, hk⟩ := hk; have HK := Lib.hid hk; clear hk)
  go_ret
  exact ⟨rfl, HK.out⟩
/-- The closure that tells the step of true. -/
theorem ktruth_any (h : IsK w B p vs b D S) (hB : B ≤ w.heap.size) (hS : S.length ≤ 10000) (X : Nat) (hX : w.cell? ⟨X, 0, none⟩ = some (.pointer (some ⟨p, 0, none⟩))) :
    Calls Try.prog 75 #[.pointer (some ⟨X, 0, none⟩)] w (KR w B p b vs (putP S (atm ⟨1, 0, 0, 0, 0, 0, 0⟩))) := by
  have HP : Hid (∀ W, Below w.heap.size w W → Calls Try.prog 60 #[.pointer (some ⟨p, 0, none⟩), .agg #[.int .i64 1, .int .i64 0, .int .i64 0, .int .i64 0, .int .i64 0, .int .i64 0, .int .i64 0]] W (KR w B p b vs (putP S (atm ⟨1, 0, 0, 0, 0, 0, 0⟩)))) := Lib.hid fun W hb => (katom_any (h.still hb) (Nat.le_trans hB hb.size) hS ⟨1, 0, 0, 0, 0, 0, 0⟩ ⟨wfi_small _ (by simp), wfi_small _ (by simp), wfi_small _ (by simp), wfi_small _ (by simp), wfi_small _ (by simp), wfi_small _ (by simp), wfi_small _ (by simp)⟩).mono fun e w' hk => KR.of hk hb hB
  have HBR := Lib.hid (Below.refl w.heap.size w)
  clear h
  go_enter Try.func75, Try.ntmps75
  go_wp2_with ((with_reducible refine (HP.out _ (by repeat (first | exact HBR.out | apply rrbelow_dn | apply Below.drew))).mono ?_); rintro e w2 hk; obtain ⟨rfl, hk⟩ := hk; have HK := Lib.hid hk; clear hk)
  go_ret
  exact ⟨rfl, HK.out⟩
theorem knot_any (h : IsK w B p vs b D S) (hB : B ≤ w.heap.size) (hS : S.length ≤ 10000) (a : Nat) (ha : a < S.length) (hneg : ∀ y, S[a]? = some y → y.op = 15 → 0 ≤ y.a) :
    Calls Try.prog 76 #[.pointer (some ⟨p, 0, none⟩), .int .i64 (a : Nat)] w (KR w B p b vs (notP S a)) := by
  have HP : Hid (∀ W, Below w.heap.size w W → Calls Try.prog 74 #[.pointer (some ⟨p, 0, none⟩), .agg #[.int .i64 15, .int .i64 (a : Nat), .int .i64 0, .int .i64 0, .int .i64 0, .int .i64 0, .int .i64 0, .int .i64 0, .int .i64 0, .int .i64 0]] W (KR w B p b vs (putP S (sgn 15 a 0)))) := Lib.hid fun W hb => kput h hB hS (sgn 15 a 0) (sgn_ok 15 a 0 (by omega) (by omega) (by omega)) hb
  have HBR := Lib.hid (Below.refl w.heap.size w)
  have hout := h.out
  have c0 := cell_of_row w p 0 _ _ _ h.block
  simp only [List.getElem?_toArray, List.getElem?_cons_zero] at c0
  obtain ⟨y, hy⟩ : ∃ y, S[a]? = some y := ⟨_, List.getElem?_eq_getElem ha⟩
  have hya : S[a] = y := Option.some.inj ((List.getElem?_eq_getElem ha).symm.trans hy)
  obtain ⟨g, cap, rfl⟩ : ∃ g cap, vs = .slice (some ⟨g, 0, none⟩) S.length cap := by
    rcases hout.2 with hn | ⟨g, cap, cur, rfl, _⟩
    · have : S.length = 0 := hn.2; omega
    · exact ⟨g, cap, rfl⟩
  have e1 := own_cell Sp.cells_len hout a 0 ha (by omega)
  have e2 := own_cell Sp.cells_len hout a 1 ha (by omega)
  rw [hya] at e1 e2
  have c1 : w.cell? ⟨g, a * 10, none⟩ = some (.int .i64 y.op) := e1
  have c2 : w.cell? ⟨g, a * 10 + 1, none⟩ = some (.int .i64 y.a) := e2
  clear e1 e2
  have hi0 : (0 : Int) ≤ (a : Int) := by omega
  have hi1 : (a : Int) < (S.length : Int) := by omega
  have hi2 : ((a : Nat) : Int).toNat = a := by omega
  have hn := hneg y hy
  by_cases ho : y.op = 15
  · have hA : notP S a = (S, y.a.toNat) := by unfold notP; rw [hy]; exact if_pos ho
    have hz := hn ho
    have HANS : Hid (∀ W, Below w.heap.size w W → KR w B p b (.slice (some ⟨g, 0, none⟩) S.length cap) (notP S a) (.returned (.int .i64 y.a)) W) := Lib.hid fun W hb => by
      rw [hA]
      exact ⟨by simp [Int.toNat_of_nonneg hz], hb.mono hB, _, D, h.still hb, (Frm.refl w p b _).still hb (Nat.le_refl _)⟩
    rw [ho] at c1
    clear h hout hy hya hn hneg hA HP ho
    go_enter Try.func76, Try.ntmps76
    go_wp2_with fail
    go_ret
    exact HANS.out _ (by repeat (first | exact HBR.out | apply rrbelow_dn | apply Below.drew))
  · have hA : notP S a = putP S (sgn 15 a 0) := by unfold notP; rw [hy]; exact if_neg ho
    rw [hA]
    clear h hout hy hya hn hneg hA
    go_enter Try.func76, Try.ntmps76
    go_wp2_with ((with_reducible refine (HP.out _ (by repeat (first | exact HBR.out | apply rrbelow_dn | apply Below.drew))).mono ?_); rintro e w2 hk; obtain ⟨rfl, hk⟩ := hk; have HK := Lib.hid hk; clear hk)
    go_ret
    exact ⟨rfl, HK.out⟩
end
end Go.Proofs.Ytofbdgpbekcibaa
