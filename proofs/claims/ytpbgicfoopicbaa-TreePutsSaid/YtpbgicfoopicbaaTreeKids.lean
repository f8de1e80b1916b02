/-
  tree.Kids: by a walk.
-/
import Derived.Test.YtpbgicfoopicbaaTreeOps
import Derived.Deep.RegionHeld3
namespace Go.Proofs.Ytpbgicfoopicbaa
open Go.RowKit
set_option linter.unusedVariables false
set_option linter.unusedSimpArgs false

/-- How a part tells its last item. -/
structure Ender (t : TypeId) (v : Value) (n : Nat) (f : FuncId) (rc : Value) : Prop where
  meth : ∀ w, (method 262 t v "warder/tree.end").run Try.prog w = .ok (f, rc) w
  call : ∀ w, (callFunc f #[rc]).run Try.prog w = .ok (.enter f #[rc]) w
  ans : ∀ w, Calls Try.prog f #[rc] w fun e w' => e = .returned (.int .i64 n) ∧ Below w.heap.size w w'
theorem ender (p : Tr.Pt) : ∃ t v f rc, encP p = .iface t v ∧ Ender t v p.end_ f rc := by
  cases p with
  | leaf a => exact ⟨_, _, _, _, rfl, end_leaf a, fun w => by kernel_rfl, fun w => endleaf_any a w⟩
  | one k a =>
    obtain ⟨t, v, hK⟩ := encP_form k
    refine ⟨86, .agg #[.iface t v, .int .i64 (a : Int)], _, _, by show Value.iface _ (.agg #[encP k, _]) = _; rw [hK], end_one (.iface t v) a, fun w => by kernel_rfl, fun w => endone_any t v a w⟩
  | two l r a =>
    obtain ⟨t, v, hK⟩ := encP_form l
    obtain ⟨t', v', hK'⟩ := encP_form r
    refine ⟨90, .agg #[.iface t v, .iface t' v', .int .i64 (a : Int)], _, _, by show Value.iface _ (.agg #[encP l, encP r, _]) = _; rw [hK, hK'], end_two (.iface t v) (.iface t' v') a, fun w => by kernel_rfl, fun w => endtwo_any t t' v v' a w⟩
/-- Of which a part is put. -/
def kidsOf (l : List It) (e : Int) : List Int :=
  if fm l = true ∧ 0 ≤ e ∧ e < (l.length : Int) then (if Tr.ar ((opsOf l).getD e.toNat 0) = 0 then [] else if Tr.ar ((opsOf l).getD e.toNat 0) = 1 then [e - 1] else [Tr.bw (opsOf l) e.toNat 1 - 1, e - 1]) else []
theorem kids_leaf {l : List It} (hf : fm l = true) {j a : Nat} (hj : j < l.length) (h : partAt l j = .leaf a) : kidsOf l j = [] := by
  obtain ⟨s, hsp⟩ := part_span hf hj
  rw [h] at hsp
  generalize hp : Tr.Pt.leaf a = p at hsp
  cases hsp with
  | leaf i h1 h2 => unfold kidsOf; rw [if_pos ⟨hf, by omega, by omega⟩, Int.toNat_natCast, if_pos h2]
  | one => cases hp
  | two => cases hp
theorem kids_one {l : List It} (hf : fm l = true) {j a : Nat} {k : Tr.Pt} (hj : j < l.length) (h : partAt l j = .one k a) : kidsOf l j = [(k.end_ : Int)] := by
  obtain ⟨s, hsp⟩ := part_span hf hj
  rw [h] at hsp
  generalize hp : Tr.Pt.one k a = p at hsp
  cases hsp with
  | leaf => cases hp
  | one s e k' h1 h2 h3 =>
    injection hp with hp1 hp2
    subst hp1
    unfold kidsOf
    rw [if_pos ⟨hf, by omega, by omega⟩, Int.toNat_natCast, if_neg (by omega), if_pos h2, h3.le.2.2.1]
    congr 1
    omega
  | two => cases hp
theorem kids_two {l : List It} (hf : fm l = true) {j a : Nat} {k1 k2 : Tr.Pt} (hj : j < l.length) (h : partAt l j = .two k1 k2 a) : kidsOf l j = [(k1.end_ : Int), (k2.end_ : Int)] := by
  obtain ⟨s, hsp⟩ := part_span hf hj
  rw [h] at hsp
  generalize hp : Tr.Pt.two k1 k2 a = p at hsp
  cases hsp with
  | leaf => cases hp
  | one => cases hp
  | two s m e k1' k2' h1 h2 h3 h4 =>
    injection hp with hp1 hp2 hp3
    subst hp1 hp2
    unfold kidsOf
    rw [if_pos ⟨hf, by omega, by omega⟩, Int.toNat_natCast, if_neg (by omega), if_neg (by omega), h4.begin, h3.le.2.2.1, h4.le.2.2.1]
    congr 1
    · omega
    · congr 1; omega
def IntsAns (R : List Int) (w : World) (e : Ending) (w' : World) : Prop :=
  ∃ x, e = .returned x ∧ w'.ownsRow w.heap.size 3 1 x R.length (R.map (Value.int .i64)) ∧ Below w.heap.size w w'
theorem ints_nil {w w' : World} (h : Below w.heap.size w w') : IntsAns [] w (.returned (.slice none 0 0)) w' := ⟨_, rfl, World.ownsRow_nil _ _ _ _, h⟩
theorem own_new (w : World) (B : Nat) (xs : List Value) (e : TypeId) (hB : B ≤ w.heap.size) (hm : xs.length ≤ maxLen) : (w.alloc (.cells xs.toArray e)).ownsRow B e 1 (.slice (some ⟨w.heap.size, 0, none⟩) xs.length xs.length) xs.length xs := by
  refine ⟨by simp, Or.inr ⟨w.heap.size, xs.length, xs.toArray, rfl, hB, ?_, Nat.le_refl _, hm, by simp, by simp⟩⟩
  have := heap_alloc_new w (.cells xs.toArray e)
  simpa using this
set_option maxRecDepth 100000 in
set_option maxHeartbeats 2000000 in
theorem tkids_any (a : Option Addr) (c : Nat) (l : List It) (e : Int) (w : World) (hl : RdI w a l) (hm : l.length ≤ maxLen) :
    Calls Try.prog 23 #[.slice a l.length c, .int .i64 e] w (IntsAns (kidsOf l e) w) := by
  rcases grow_two a c l w hl hm with ⟨hf, hC⟩ | ⟨hf, hC⟩
  · obtain ⟨h1, h2, h3⟩ := fm_yes hf
    have HC := Lib.hid hC
    have h2b : l.length ≤ 9223372036854775807 := by omega
    by_cases hin : 0 ≤ e ∧ e < (l.length : Int)
    · obtain ⟨j, rfl⟩ : ∃ j : Nat, e = (j : Int) := ⟨e.toNat, by omega⟩
      have hj : j < l.length := by omega
      cases hp : partAt l j with
      | leaf i =>
        rw [kids_leaf hf hj hp]
        have hta := ta_one_leaf (.agg #[.int .i64 (i : Int)])
        have htb := ta_two_leaf (.agg #[.int .i64 (i : Int)])
        have HP := Lib.hid hp
        clear hC hl hm hf h3 hin hp
        go_enter Try.func23, Try.ntmps23
        go_wp2_with fail
        refine HC.out.mono ?_
        rintro e w2 ⟨g, cap, rfl, hcell, hgl, hb⟩
        have hc1 := hcell j hj
        rw [HP.out] at hc1
        have hc2 : w2.cell? ⟨g, j, none⟩ = some (.iface 143 (.agg #[.int .i64 (i : Int)])) := hc1
        have HB := Lib.hid hb
        clear hcell HC hb hc1
        go_wp2_with fail
        go_ret
        refine ints_nil (HB.out.trans (Below.mono ?_ HB.out.size))
        exact (((Below.refl _ _).alloc (Nat.le_refl _) _).alloc (by simp) _)
      | one k i =>
        rw [kids_one hf hj hp]
        obtain ⟨t, v, f, rc, hK, EN⟩ := ender k
        have hta := ta_one (.agg #[encP k, .int .i64 (i : Int)])
        rw [hK] at hta
        have HP := Lib.hid (And.intro hp hK)
        have hme := EN.meth
        have hca := EN.call
        have HAN := Lib.hid EN.ans
        clear hC hl hm hf h3 hin hp hK EN
        generalize (k.end_ : Int) = z at *
        go_enter Try.func23, Try.ntmps23
        go_wp2_with fail
        refine HC.out.mono ?_
        rintro e w2 ⟨g, cap, rfl, hcell, hgl, hb⟩
        have hc1 := hcell j hj
        rw [(HP.out).1] at hc1
        have hc2 : w2.cell? ⟨g, j, none⟩ = some (.iface 86 (.agg #[.iface t v, .int .i64 (i : Int)])) := by rw [hc1]; show some (Value.iface _ (.agg #[encP k, _])) = _; rw [(HP.out).2]
        have HB := Lib.hid hb
        clear hcell HC hb hc1
        go_wp2_with fail
        refine (HAN.out _).mono ?_
        rintro e w3 ⟨rfl, hb3⟩
        have b3 := HB.out.trans ((below_new w2 (.cells #[.iface t v, .int .i64 (i : Int)] 86)).mono HB.out.size)
        have B3 := Lib.hid (b3.trans (hb3.mono b3.size))
        clear b3 hb3
        go_wp2_with fail
        go_ret
        exact ⟨_, rfl, own_new w3 w.heap.size [.int .i64 z] 3 B3.out.size (by simp [maxLen]), B3.out.trans ((below_new w3 _).mono B3.out.size)⟩
      | two k1 k2 i =>
        rw [kids_two hf hj hp]
        obtain ⟨t, v, f, rc, hK, EN⟩ := ender k1
        obtain ⟨t', v', f', rc', hK', EN'⟩ := ender k2
        have hta := ta_one_two (.agg #[encP k1, encP k2, .int .i64 (i : Int)])
        have htb := ta_two (.agg #[encP k1, encP k2, .int .i64 (i : Int)])
        rw [hK, hK'] at hta htb
        have HP := Lib.hid (And.intro hp (And.intro hK hK'))
        have hme := EN.meth
        have hca := EN.call
        have HAN := Lib.hid EN.ans
        have hme' := EN'.meth
        have hca' := EN'.call
        have HAN' := Lib.hid EN'.ans
        clear hC hl hm hf h3 hin hp hK hK' EN EN'
        generalize (k1.end_ : Int) = z at *
        generalize (k2.end_ : Int) = z' at *
        go_enter Try.func23, Try.ntmps23
        go_wp2_with fail
        refine HC.out.mono ?_
        rintro e w2 ⟨g, cap, rfl, hcell, hgl, hb⟩
        have hc1 := hcell j hj
        rw [(HP.out).1] at hc1
        have hc2 : w2.cell? ⟨g, j, none⟩ = some (.iface 90 (.agg #[.iface t v, .iface t' v', .int .i64 (i : Int)])) := by rw [hc1]; show some (Value.iface _ (.agg #[encP k1, encP k2, _])) = _; rw [(HP.out).2.1, (HP.out).2.2]
        have HB := Lib.hid hb
        clear hcell HC hb hc1
        go_wp2_with fail
        have hn : Below w2.heap.size w2 ((w2.alloc (.cells #[.nilIface, .int .i64 0] 86)).alloc (.cells #[.iface t v, .iface t' v', .int .i64 (i : Int)] 90)) := ((Below.refl _ _).alloc (Nat.le_refl _) _).alloc (by simp) _
        have c0 : ((w2.alloc (.cells #[.nilIface, .int .i64 0] 86)).alloc (.cells #[.iface t v, .iface t' v', .int .i64 (i : Int)] 90)).cell? ⟨w2.heap.size + 1, 0, none⟩ = some (.iface t v) := by rw [World.cell?_alloc_at _ _ _ _ (by simp)]; rfl
        have c1 : ((w2.alloc (.cells #[.nilIface, .int .i64 0] 86)).alloc (.cells #[.iface t v, .iface t' v', .int .i64 (i : Int)] 90)).cell? ⟨w2.heap.size + 1, 1, none⟩ = some (.iface t' v') := by rw [World.cell?_alloc_at _ _ _ _ (by simp)]; rfl
        obtain ⟨W, hW⟩ : ∃ W, W = (w2.alloc (.cells #[.nilIface, .int .i64 0] 86)).alloc (.cells #[.iface t v, .iface t' v', .int .i64 (i : Int)] 90) := ⟨_, rfl⟩
        rw [← hW] at hn c0 c1 ⊢
        have HN := Lib.hid hn
        clear hW hta htb hc2 hn
        generalize w2.heap.size + 1 = g9 at *
        go_region_held3 (fun w' => w'.cell? ⟨g9, 0, none⟩ = some (.iface t v) ∧ w'.cell? ⟨g9, 1, none⟩ = some (.iface t' v') ∧ Below W.heap.size W w')
          (first
            | exact ⟨c0, c1, (Below.refl _ _).drew⟩
            | (go_split_ands
               refine ⟨?_, ?_, ?_⟩
               · refine (hb.cell (p := ⟨g9, 0, none⟩) (lt_of_cell (v := .iface t v) (p := ⟨g9, 0, none⟩) (by assumption))).trans (by assumption)
               · refine (hb.cell (p := ⟨g9, 1, none⟩) (lt_of_cell (v := .iface t' v') (p := ⟨g9, 1, none⟩) (by assumption))).trans (by assumption)
               · exact Below.trans (by assumption) (hb.mono (Below.size (by assumption))))
            | (go_split_ands
               refine ⟨?_, ?_, ?_⟩
               · go_keep
               · go_keep
               · exact Below.alloc (by assumption) (Below.size (by assumption)) _)
            | go_keep)
          (first | ((with_reducible refine (HAN.out _).mono ?_); rintro e w4 ⟨rfl, hb⟩) | ((with_reducible refine (HAN'.out _).mono ?_); rintro e w4 ⟨rfl, hb⟩))
        rename_i wp hbp hh
        have hz1 : W.heap.size ≤ wp.heap.size := hbp.size
        have hz2 := hb.size
        have hz3 := HN.out.size
        have hz4 := HB.out.size
        have b5 : Below w.heap.size w W := HB.out.trans (HN.out.mono HB.out.size)
        have H5 := Lib.hid (And.intro (own_new w4 w.heap.size [.int .i64 z, .int .i64 z'] 3 (by omega) (by simp [maxLen])) (b5.trans (hh.2.2.mono b5.size)))
        clear hh b5 hbp hb hz1 hz2 hz3 hz4
        go_wp2
        go_ret
        exact ⟨_, rfl, (H5.out).1, (H5.out).2⟩
    · have hD : kidsOf l e = [] := by unfold kidsOf; rw [if_neg (fun h => hin h.2)]
      rw [hD]
      clear hC hl hm hf h3 hD
      by_cases h0 : e < 0
      · go_enter Try.func23, Try.ntmps23
        go_wp2_with fail
        refine HC.out.mono ?_
        rintro e w2 ⟨g, cap, rfl, _, _, hb⟩
        go_wp2_with fail
        go_ret
        exact ints_nil hb
      · have h4 : (l.length : Int) ≤ e := by omega
        go_enter Try.func23, Try.ntmps23
        go_wp2_with fail
        refine HC.out.mono ?_
        rintro e w2 ⟨g, cap, rfl, _, _, hb⟩
        go_wp2_with fail
        go_ret
        exact ints_nil hb
  · have hD : kidsOf l e = [] := by unfold kidsOf; rw [if_neg (fun h => by rw [hf] at h; cases h.1)]
    have hz : chk l ≠ 0 := by rcases chk_no hf with h | h | h <;> omega
    rw [hD]
    have HC := Lib.hid hC
    have hz2 : (chk l != 0) = true := by rw [bne_iff_ne]; exact hz
    clear hC hl hm hf hD hz
    generalize chk l = z at *
    go_enter Try.func23, Try.ntmps23
    go_wp2_with fail
    refine HC.out.mono ?_
    rintro e w2 ⟨rfl, hb⟩
    go_wp2_with fail
    go_ret
    exact ints_nil hb
end Go.Proofs.Ytpbgicfoopicbaa
