/-
  warderref35.Far: by a walk.
-/
import Derived.Test.YtlmecpghlgndnaaPathShort
import Derived.Test.YtlmecpghlgndnaaLabRef
namespace Go.Proofs.Ytlmecpghlgndnaa
open Go.RowKit
set_option linter.unusedVariables false
set_option linter.unusedSimpArgs false

/-- 'append(v, ys...)' to a slice of the call's own. -/
theorem append_all {P : Program} {ops : Array Oper} {rest : List Oper} {o : Oper} {a : Act} {Q : Exit → Act → World → Prop} (hgd : o.guard = none) (s x : Operand) (t : TypeId)
    (ho : o.op = .call { callee := .builtin .append, args := #[s, x], argTypes := #[t, t] })
    (e : TypeId) (z : Value) (bytes : Nat) (ht : P.underlying t = some (.slice e)) (hi : (P.info? e).map (fun i => (i.zero, i.size, i.bytes)) = some (some z, 1, bytes)) (hzs : z.cells.size = 1)
    {wr : World} {base : Nat} {v : Value} {n : Nat} {xs : List Value} (hs : a.eval s = v) (hown : wr.ownsRow base e 1 v n xs) (hbase : base ≤ wr.heap.size)
    (b m c : Nat) (ys : List Value) (hx : a.eval x = .slice (some ⟨b, 0, none⟩) m c) (hl : ys.length = m) (hys : ∀ j u, ys[j]? = some u → wr.cell? ⟨b, j, none⟩ = some u) (hu : ∀ u ∈ ys, u.oneCell' = true) (hm : 0 < m) (hby : 0 < bytes) (hbytes : (n + m) * bytes ≤ 140737488355328)
    (h : ∀ g cap w', w'.ownsRow base e 1 (.slice (some ⟨g, 0, none⟩) (n + m) cap) (n + m) (xs ++ ys) → Keeps (fun k => v.ownBlock = some k) wr w' → (v.ownBlock = some g ∨ wr.heap.size ≤ g) → wpList P ops Q rest (a.put o.dst (.slice (some ⟨g, 0, none⟩) (n + m) cap)) w') :
    wpList P ops Q (o :: rest) a wr := by
  obtain ⟨i, hi0, hz0, hz1, hz2⟩ := info_got hi
  refine wpList_append_lies _ hgd s x t ho base e i z 1 bytes ht hi0 hz0 hz1 hz2 hzs (by decide) v n xs hs hown ⟨b, 0, none⟩ m c ys hx (by omega) (fun j u hju => ?_) hu hm (by have := Nat.le_mul_of_pos_right (n + m) hby; unfold maxLen; omega) hbytes hbase _ rfl ?_
  · have hadd : (⟨b, 0, none⟩ : Addr).add j = ⟨b, j, none⟩ := by unfold Addr.add; split <;> simp_all
    rw [hadd]; exact hys j u hju
  · intro g cap w' h2 h3 h4 h5
    exact h g cap w' h2 (Keeps.grown h3 (fun k hk => hk)) (h4.imp id (fun h6 => by rw [h6]; simp))
theorem int_cell {w : World} {B g n cap : Nat} {F : List Int} {e : TypeId} (h : w.ownsRow B e 1 (.slice (some ⟨g, 0, none⟩) n cap) n (F.map (Value.int .i64))) (i : Nat) (hi : i < n) : w.cell? ⟨g, i, none⟩ = some (.int .i64 (F.getD i 0)) := by
  have hl : F.length = n := by have := h.1; simpa using this
  rw [h.cellAt i (by omega), List.getElem?_map, Lb.getD_at F i 0 (by omega)]
  rfl
theorem int_put {w : World} {B g n cap : Nat} {F : List Int} {e : TypeId} (h : w.ownsRow B e 1 (.slice (some ⟨g, 0, none⟩) n cap) n (F.map (Value.int .i64))) (i : Nat) (b : Int) : (w.setCell ⟨g, i, none⟩ (.int .i64 b)).ownsRow B e 1 (.slice (some ⟨g, 0, none⟩) n cap) n ((F.set i b).map (Value.int .i64)) := by
  have := (h.stored i (.int .i64 b)).1
  rwa [← List.map_set] at this
theorem int_len {w : World} {B n : Nat} {v : Value} {F : List Int} {e : TypeId} (h : w.ownsRow B e 1 v n (F.map (Value.int .i64))) : F.length = n := by have := h.1; simpa using this
namespace Pa
def farL (nx : List (List Int)) (A B : List Bool) (n : Nat) : List Int := (List.range nx.length).map (far nx A B n)
theorem farL_len (nx : List (List Int)) (A B : List Bool) (n : Nat) : (farL nx A B n).length = nx.length := by unfold farL; simp
theorem farL_at {nx : List (List Int)} {A B : List Bool} {n i : Nat} (hi : i < nx.length) : (farL nx A B n).getD i 0 = far nx A B n i := by
  unfold farL
  rw [List.getD_eq_getElem?_getD, List.getElem?_map, List.getElem?_range hi]; rfl
theorem farL_of {nx : List (List Int)} {A B : List Bool} {n : Nat} {L : List Int} (hl : L.length = nx.length) (h : ∀ j, j < nx.length → L.getD j 0 = far nx A B n j) : L = farL nx A B n := by
  apply List.ext_getElem?
  intro i
  by_cases hi : i < nx.length
  · rw [Lb.getD_at L i 0 (by omega), h i hi, Lb.getD_at (farL nx A B n) i 0 (by rw [farL_len]; exact hi), farL_at hi]
  · rw [List.getElem?_eq_none (by omega), List.getElem?_eq_none (by rw [farL_len]; omega)]
/-- Leads an edge to a place that is n steps from there? -/
def hit (nx : List (List Int)) (A B : List Bool) (n : Nat) (x : Int) : Bool := decide (0 ≤ x) && decide (x < (nx.length : Int)) && decide (far nx A B n x.toNat = (n : Int))
/-- How far a place is, after so many of its edges. -/
def mid (nx : List (List Int)) (A B : List Bool) (n i k : Nat) : Int :=
  if (decide (far nx A B n i < 0) && Lb.inB A i && ((Lb.row nx i).take k).any (hit nx A B n)) = true then ((n + 1 : Nat) : Int) else far nx A B n i
theorem hit_low {nx : List (List Int)} {A B : List Bool} {n : Nat} {x : Int} (h : ¬ 0 ≤ x) : hit nx A B n x = false := by unfold hit; rw [decide_eq_false h]; simp
theorem hit_high {nx : List (List Int)} {A B : List Bool} {n : Nat} {x : Int} (h : ¬ x < (nx.length : Int)) : hit nx A B n x = false := by unfold hit; rw [decide_eq_false h]; simp
theorem hit_eq {nx : List (List Int)} {A B : List Bool} {n x : Nat} (h : x < nx.length) : hit nx A B n (x : Int) = decide (far nx A B n x = (n : Int)) := by
  unfold hit
  rw [decide_eq_true (show (0 : Int) ≤ (x : Int) by omega), decide_eq_true (show (x : Int) < (nx.length : Int) by omega), Int.toNat_natCast]; simp
theorem mid_start (nx : List (List Int)) (A B : List Bool) (n i : Nat) : mid nx A B n i 0 = far nx A B n i := by
  unfold mid; rw [if_neg (by simp)]
theorem mid_end {nx : List (List Int)} {A B : List Bool} {n i k : Nat} (hk : (Lb.row nx i).length ≤ k) : mid nx A B n i k = far nx A B (n + 1) i := by
  unfold mid
  rw [List.take_of_length_le hk]; rfl
theorem mid_no {nx : List (List Int)} {A B : List Bool} {n i k : Nat} (hk : k < (Lb.row nx i).length) (h : far nx A B n i < 0 → Lb.inB A i = true → hit nx A B n ((Lb.row nx i).getD k 0) = false) : mid nx A B n i (k + 1) = mid nx A B n i k := by
  unfold mid
  rw [List.take_succ_eq_append_getElem hk, List.any_append, getD_get _ k 0 hk]
  by_cases h1 : far nx A B n i < 0
  · cases h2 : Lb.inB A i with
    | false => simp
    | true => simp only [List.any_cons, List.any_nil, h h1 h2, Bool.or_false]
  · rw [decide_eq_false h1]; simp
theorem mid_yes {nx : List (List Int)} {A B : List Bool} {n i k : Nat} (hk : k < (Lb.row nx i).length) (h1 : far nx A B n i < 0) (h2 : Lb.inB A i = true) (h : hit nx A B n ((Lb.row nx i).getD k 0) = true) : mid nx A B n i (k + 1) = ((n + 1 : Nat) : Int) := by
  unfold mid
  rw [List.take_succ_eq_append_getElem hk, List.any_append, getD_get _ k 0 hk, if_pos]
  rw [decide_eq_true h1, h2, List.any_cons, h]; simp
end Pa
/-- Two rows of ints, the one read, the other one written. -/
structure Fst (w : World) (nx : List (List Int)) (g7 c7 g10 c10 : Nat) (L M : List Int) (wr : World) : Prop where
  far : wr.ownsRow w.heap.size 3 1 (.slice (some ⟨g7, 0, none⟩) nx.length c7) nx.length (L.map (Value.int .i64))
  now : wr.ownsRow w.heap.size 3 1 (.slice (some ⟨g10, 0, none⟩) nx.length c10) nx.length (M.map (Value.int .i64))
  ne : g7 ≠ g10
  below : Below w.heap.size w wr
theorem Fst.set {w wr : World} {nx : List (List Int)} {g7 c7 g10 c10 : Nat} {L M : List Int} (h : Fst w nx g7 c7 g10 c10 L M wr) (i : Nat) (z : Int) : Fst w nx g7 c7 g10 c10 L (M.set i z) (wr.setCell ⟨g10, i, none⟩ (.int .i64 z)) := by
  have k : Keeps (fun j => j = g10) wr (wr.setCell ⟨g10, i, none⟩ (.int .i64 z)) := Keeps.setCell _ _ _ rfl
  have hg := (h.now.lt g10 rfl).1
  exact ⟨k.own h.far (fun j hj e => by simp [Value.ownBlock] at hj; exact h.ne (by rw [hj, e])), int_put h.now i z, h.ne, h.below.trans (k.below (fun j e => by omega) h.below.size)⟩
theorem own_empty (w : World) (B : Nat) (e : TypeId) (size : Nat) (hB : B ≤ w.heap.size) : (w.alloc (.cells #[] e)).ownsRow B e size (.slice (some ⟨w.heap.size, 0, none⟩) 0 0) 0 [] := by
  refine ⟨by simp, Or.inr ⟨w.heap.size, 0, #[], rfl, hB, ?_, by simp, by decide, by simp, by simp⟩⟩
  have := heap_alloc_new w (.cells #[] e)
  simpa using this
def FarAns (nx : List (List Int)) (A B : List Bool) (w : World) (e : Ending) (w' : World) : Prop :=
  ∃ g c, e = .returned (.slice (some ⟨g, 0, none⟩) nx.length c) ∧ w'.ownsRow w.heap.size 3 1 (.slice (some ⟨g, 0, none⟩) nx.length c) nx.length ((Pa.farL nx A B nx.length).map (Value.int .i64)) ∧ Below w.heap.size w w'
set_option maxRecDepth 100000 in
set_option maxHeartbeats 8000000 in
theorem far_any (a a2 a3 : Option Addr) (c c2 c3 : Nat) (nx : List (List Int)) (A Bs : List Bool) (w : World) (hl : RdG w a nx) (hA : Reads w a2 (A.map Value.bool)) (hB : Reads w a3 (Bs.map Value.bool)) (hn : nx.length ≤ 1000) (hr : ∀ i, (Lb.row nx i).length ≤ 1000) :
    Calls Try.prog 36 #[.slice a nx.length c, .slice a2 A.length c2, .slice a3 Bs.length c3] w (FarAns nx A Bs w) := by
  have hu : ∀ b : Bool, ¬ (some undef = some (Value.bool b)) := fun b h => by cases h
  have HL := Lib.hid (And.intro hl (And.intro hA hB))
  clear hl hA hB
  go_enter Try.func36, Try.ntmps36
  go_wp2_with (at_make; refine make_one rfl _ _ 34 rfl 3 (.int .i64 0) 8 Try.underlying34 Try.info3 rfl _ nx.length rfl rfl rfl (by omega) (by unfold maxLen; omega) ?_; intro w1 own1 keep1; rw [show List.replicate nx.length (Value.int .i64 0) = (List.replicate nx.length (0 : Int)).map (Value.int .i64) by rw [List.map_replicate]] at own1)
  have H1 := Lib.hid (And.intro own1 (keep1.below (fun _ hf => hf.elim) (Nat.le_refl _)))
  clear own1 keep1
  go_loopw [8] (fun v8 wr => ∃ (k : Nat) (L : List Int), v8 = .int .i64 k ∧ k ≤ nx.length ∧ wr.ownsRow w.heap.size 3 1 (.slice (some ⟨w.heap.size, 0, none⟩) nx.length nx.length) nx.length (L.map (Value.int .i64)) ∧ (∀ j, j < k → L.getD j 0 = Pa.far nx A Bs 0 j) ∧ Below w.heap.size w wr) (fun v8 _ => nx.length - (intOf v8).toNat)
  case atStart => exact ⟨0, _, rfl, by omega, (H1.out).1, fun j hj => by omega, (H1.out).2⟩
  case round =>
    obtain ⟨k, L, rfl, hk, hown, hL, hb⟩ := hrel
    by_cases hlt : k < nx.length
    · have hLl := int_len hown
      have c1 := int_cell hown k hlt
      have f1 := hown.frozenAt k
      have hgl := hown.lt w.heap.size rfl
      have hset : ∀ z : Int, (wr.setCell ⟨w.heap.size, k, none⟩ (.int .i64 z)).ownsRow w.heap.size 3 1 (.slice (some ⟨w.heap.size, 0, none⟩) nx.length nx.length) nx.length ((L.set k z).map (Value.int .i64)) := fun z => int_put hown k z
      have hkb : ∀ z : Int, Below w.heap.size w (wr.setCell ⟨w.heap.size, k, none⟩ (.int .i64 z)) := fun z => hb.trans ((Keeps.setCell (S := fun j => j = w.heap.size) wr ⟨w.heap.size, k, none⟩ (.int .i64 z) rfl).below (fun j e => by omega) hb.size)
      have H2 := Lib.hid (And.intro hown (And.intro hL (And.intro hset hkb)))
      have IS := Lib.hid (ris_any a3 c3 Bs k _ ((HL.out).2.2.mono (hkb (-1)) (Nat.le_refl _)))
      rw [Int.toNat_natCast, decide_eq_true (show (0 : Int) ≤ k by omega), Bool.true_and] at IS
      generalize L.getD k 0 = z0 at c1
      clear hown hL hb hset hkb
      cases hB : Lb.inB Bs k with
      | true =>
        have HB := Lib.hid (show Pa.far nx A Bs 0 k = 0 by unfold Pa.far; rw [if_pos hB])
        rw [hB] at IS
        clear hB
        have c2 := int_cell ((H2.out).2.2.1 (-1)) k hlt
        have f2 := ((H2.out).2.2.1 (-1)).frozenAt k
        generalize (L.set k (-1)).getD k 0 = z2 at c2
        go_wp2_with (go_at_call 19; refine IS.out.mono ?_; rintro e w3 ⟨rfl, rfl⟩)
        go_roundw
        case rel =>
          refine ⟨k + 1, (L.set k (-1)).set k 0, by go_num, by omega, int_put ((H2.out).2.2.1 (-1)) k 0, fun j hj => ?_, ((H2.out).2.2.2 (-1)).trans ((Keeps.setCell (S := fun j => j = w.heap.size) _ ⟨w.heap.size, k, none⟩ (.int .i64 0) rfl).below (fun j e => by omega) ((H2.out).2.2.2 (-1)).size)⟩
          rw [Lb.getD_set _ k j 0 0 (by simp; omega)]
          by_cases e : j = k
          · rw [if_pos e, e, HB.out]
          · rw [if_neg e, Lb.getD_set L k j (-1) 0 (by omega), if_neg e]; exact (H2.out).2.1 j (by omega)
        case measure => simp [intOf]; omega
      | false =>
        have HB := Lib.hid (show Pa.far nx A Bs 0 k = -1 by unfold Pa.far; rw [if_neg (by rw [hB]; decide)])
        rw [hB] at IS
        clear hB
        go_wp2_with (go_at_call 19; refine IS.out.mono ?_; rintro e w3 ⟨rfl, rfl⟩)
        go_roundw
        case rel => exact ⟨k + 1, L.set k (-1), by go_num, by omega, (H2.out).2.2.1 (-1), fun j hj => by
          rw [Lb.getD_set L k j (-1) 0 (by omega)]
          by_cases e : j = k
          · rw [if_pos e, e, HB.out]
          · rw [if_neg e]; exact (H2.out).2.1 j (by omega), (H2.out).2.2.2 (-1)⟩
        case measure => simp [intOf]; omega
    · have hk2 : k = nx.length := by omega
      subst hk2
      have hLe := Pa.farL_of (int_len hown) hL
      subst hLe
      have H3 := Lib.hid (And.intro hown hb)
      have hgl := hown.lt w.heap.size rfl
      clear hown hL hb
      go_wp2_with fail
      go_loopw [7, 9] (fun v7 v9 wr => ∃ (n g cp : Nat), v9 = .int .i64 ((n : Int) + 1) ∧ n ≤ nx.length ∧ v7 = .slice (some ⟨g, 0, none⟩) nx.length cp ∧ wr.ownsRow w.heap.size 3 1 v7 nx.length ((Pa.farL nx A Bs n).map (Value.int .i64)) ∧ Below w.heap.size w wr) (fun _ v9 _ => nx.length + 1 - (intOf v9).toNat)
      case atStart => exact ⟨0, _, _, by go_num, by omega, rfl, (H3.out).1, (H3.out).2⟩
      case round =>
        obtain ⟨n, g7, c7, rfl, hnn, rfl, hown, hb⟩ := hrel
        by_cases hlt : n < nx.length
        · have own0 := own_empty wr w.heap.size 3 1 hb.size
          have k0 : Keeps (fun _ => False) wr (wr.alloc (.cells #[] 3)) := Keeps.alloc _ _ _
          have ownf := k0.own hown (fun _ _ hf => hf)
          have b0 := hb.trans (k0.below (fun _ hf => hf.elim) hb.size)
          have hgl7 := hown.lt g7 rfl
          have HF := Lib.hid (And.intro ownf b0)
          have hb0 := b0.size
          have hbz := hb.size
          clear hown hb k0 ownf b0
          go_wp2_with (at_builtin; refine append_all rfl _ _ 34 rfl 3 (.int .i64 0) 8 Try.underlying34 Try.info3 rfl rfl own0 hb0 g7 nx.length c7 ((Pa.farL nx A Bs n).map (Value.int .i64)) rfl (by rw [List.length_map, Pa.farL_len]) (fun j u hju => by rw [(HF.out).1.cellAt j (by have := (List.getElem?_eq_some_iff.1 hju).1; rw [List.length_map, Pa.farL_len] at this; omega)]; exact hju) (fun u hu2 => by obtain ⟨q, _, rfl⟩ := List.mem_map.1 hu2; rfl) (by omega) (by decide) (by omega) ?_; intro g5 cap5 w5 own5 keep5 where5; rw [Nat.zero_add, List.nil_append] at own5)
          have fst : Fst w nx g7 c7 g5 cap5 (Pa.farL nx A Bs n) (Pa.farL nx A Bs n) w5 := by
            have hne : g7 ≠ wr.heap.size := by omega
            refine ⟨keep5.own (HF.out).1 (fun j hj e => ?_), own5, ?_, (HF.out).2.trans (keep5.below (fun j e => ?_) (HF.out).2.size)⟩
            · have h1 : g7 = j := Option.some.inj hj
              have h2 : wr.heap.size = j := Option.some.inj e
              omega
            · rcases where5 with h | h
              · have h1 : wr.heap.size = g5 := Option.some.inj h
                omega
              · simp at h; omega
            · have h2 : wr.heap.size = j := Option.some.inj e
              omega
          have H5 := Lib.hid fst
          clear own5 keep5 where5 own0 fst HF hb0
          go_wp2_with fail
          obtain ⟨wo, hwo⟩ : ∃ wo : World, wo = wr := ⟨_, rfl⟩
          go_loopw [11] (fun v11 wr => ∃ (k : Nat) (M : List Int), v11 = .int .i64 k ∧ k ≤ nx.length ∧ Fst w nx g7 c7 g5 cap5 (Pa.farL nx A Bs n) M wr ∧ (∀ j, j < k → M.getD j 0 = Pa.far nx A Bs (n + 1) j) ∧ (∀ j, k ≤ j → j < nx.length → M.getD j 0 = Pa.far nx A Bs n j)) (fun v11 _ => nx.length - (intOf v11).toNat)
          case atStart => exact ⟨0, _, rfl, by omega, H5.out, fun j hj => by omega, fun j _ hj => Pa.farL_at hj⟩
          case round =>
            obtain ⟨k, M, rfl, hk, hF, hM1, hM2⟩ := hrel
            by_cases hkl : k < nx.length
            · have HM := Lib.hid (And.intro hF (And.intro hM1 hM2))
              clear hF hM1 hM2
              go_wp2_with fail
              obtain ⟨wo2, hwo2⟩ : ∃ wo : World, wo = wr := ⟨_, rfl⟩
              obtain ⟨b1, o1, e1, ra, rc, cn0, rdn⟩ := (HL.out).1.cell k hkl
              subst e1
              have hrl := hr k
              have HR := Lib.hid (And.intro cn0 rdn)
              clear cn0 rdn
              go_loopw [12] (fun v12 wr => ∃ (kk : Nat) (M : List Int), v12 = .int .i64 kk ∧ kk ≤ (Lb.row nx k).length ∧ Fst w nx g7 c7 g5 cap5 (Pa.farL nx A Bs n) M wr ∧ (∀ j, j < k → M.getD j 0 = Pa.far nx A Bs (n + 1) j) ∧ (∀ j, k < j → j < nx.length → M.getD j 0 = Pa.far nx A Bs n j) ∧ M.getD k 0 = Pa.mid nx A Bs n k kk) (fun v12 _ => (Lb.row nx k).length - (intOf v12).toNat)
              case atStart => exact ⟨0, M, rfl, by omega, (HM.out).1, (HM.out).2.1, fun j hj hjl => (HM.out).2.2 j (by omega) hjl, by rw [Pa.mid_start]; exact (HM.out).2.2 k (Nat.le_refl _) hkl⟩
              case round =>
                obtain ⟨kk, M, rfl, hkk, hF, hM1, hM2, hMk⟩ := hrel
                have cn := (hF.below.cell (p := ⟨b1, o1 + k, none⟩) (lt_of_cell (HR.out).1)).trans (HR.out).1
                by_cases hlt2 : kk < (Lb.row nx k).length
                · obtain ⟨b3, o3, e3, cx⟩ := Reads.get ((HR.out).2.mono hF.below (Nat.le_refl _)) kk hlt2
                  subst e3
                  have cf := int_cell hF.far k hkl
                  rw [Pa.farL_at hkl] at cf
                  have IS := Lib.hid (ris_any a2 c2 A k wr ((HL.out).2.1.mono hF.below (Nat.le_refl _)))
                  rw [Int.toNat_natCast, decide_eq_true (show (0 : Int) ≤ k by omega), Bool.true_and] at IS
                  have HN := Lib.hid (fun h => Pa.mid_no (nx := nx) (A := A) (B := Bs) (n := n) (i := k) hlt2 h)
                  have HY := Lib.hid (fun h1 h2 h3 => Pa.mid_yes (nx := nx) (A := A) (B := Bs) (n := n) (i := k) hlt2 h1 h2 h3)
                  have HM := Lib.hid (And.intro hF (And.intro hM1 (And.intro hM2 hMk)))
                  have hgl5 := hF.now.lt g5 rfl
                  have hgl72 := hF.far.lt g7 rfl
                  have hML := int_len hF.now
                  clear hF hM1 hM2 hMk
                  obtain ⟨x, hx⟩ : ∃ x, (Lb.row nx k).getD kk 0 = x := ⟨_, rfl⟩
                  rw [hx] at cx HN HY
                  obtain ⟨z, hz⟩ : ∃ z, Pa.far nx A Bs n k = z := ⟨_, rfl⟩
                  have hzb := Pa.far_le nx A Bs k n
                  rw [hz] at cf HN HY hzb
                  clear hx hz
                  by_cases h1 : z < 0
                  · cases hA : Lb.inB A k with
                    | false =>
                      have HN1 := Lib.hid (HN.out (fun _ h => by rw [hA] at h; cases h))
                      rw [hA] at IS
                      clear hA
                      go_wp2_with (go_at_call 19; refine IS.out.mono ?_; rintro e w3 ⟨rfl, rfl⟩)
                      go_roundw
                      case rel => exact ⟨kk + 1, M, by go_num, by omega, (HM.out).1, (HM.out).2.1, (HM.out).2.2.1, by rw [HN1.out]; exact (HM.out).2.2.2⟩
                      case measure => simp [intOf]; omega
                    | true =>
                      rw [hA] at IS
                      by_cases hx0 : 0 ≤ x
                      · by_cases hx1 : x < (nx.length : Int)
                        · obtain ⟨q, rfl⟩ : ∃ q : Nat, x = (q : Int) := ⟨x.toNat, by omega⟩
                          have hql : q < nx.length := by omega
                          have cq := int_cell (HM.out).1.far q hql
                          rw [Pa.farL_at hql] at cq
                          have hq := Pa.hit_eq (A := A) (B := Bs) (n := n) hql
                          obtain ⟨y, hy⟩ : ∃ y, Pa.far nx A Bs n q = y := ⟨_, rfl⟩
                          rw [hy] at cq hq
                          clear hy
                          by_cases hyn : y = (n : Int)
                          · have HY1 := Lib.hid (HY.out h1 hA (by rw [hq, decide_eq_true hyn]))
                            have hyb : (y == (n : Int)) = true := by simpa using hyn
                            have HF2 := Lib.hid ((HM.out).1.set k ((n : Int) + 1))
                            have fz := (HM.out).1.now.frozenAt k
                            have cw := int_cell (HM.out).1.now k hkl
                            generalize M.getD k 0 = mk at cw
                            clear hyn hA hq
                            go_wp2_with (go_at_call 19; refine IS.out.mono ?_; rintro e w3 ⟨rfl, rfl⟩)
                            go_roundw
                            case rel =>
                              refine ⟨kk + 1, M.set k ((n : Int) + 1), by go_num, by omega, HF2.out, fun j hj => ?_, fun j hj hjl => ?_, ?_⟩
                              · rw [Lb.getD_set M k j _ 0 (by omega), if_neg (by omega)]; exact (HM.out).2.1 j hj
                              · rw [Lb.getD_set M k j _ 0 (by omega), if_neg (by omega)]; exact (HM.out).2.2.1 j hj hjl
                              · rw [Lb.getD_set M k k _ 0 (by omega), if_pos rfl, HY1.out]; rfl
                            case measure => simp [intOf]; omega
                          · have HN1 := Lib.hid (HN.out (fun _ _ => by rw [hq, decide_eq_false hyn]))
                            have hyb : (y == (n : Int)) = false := by simpa using hyn
                            clear hyn hA hq
                            go_wp2_with (go_at_call 19; refine IS.out.mono ?_; rintro e w3 ⟨rfl, rfl⟩)
                            go_roundw
                            case rel => exact ⟨kk + 1, M, by go_num, by omega, (HM.out).1, (HM.out).2.1, (HM.out).2.2.1, by rw [HN1.out]; exact (HM.out).2.2.2⟩
                            case measure => simp [intOf]; omega
                        · have HN1 := Lib.hid (HN.out (fun _ _ => Pa.hit_high hx1))
                          clear hA
                          go_wp2_with (go_at_call 19; refine IS.out.mono ?_; rintro e w3 ⟨rfl, rfl⟩)
                          go_roundw
                          case rel => exact ⟨kk + 1, M, by go_num, by omega, (HM.out).1, (HM.out).2.1, (HM.out).2.2.1, by rw [HN1.out]; exact (HM.out).2.2.2⟩
                          case measure => simp [intOf]; omega
                      · have HN1 := Lib.hid (HN.out (fun _ _ => Pa.hit_low hx0))
                        clear hA
                        go_wp2_with (go_at_call 19; refine IS.out.mono ?_; rintro e w3 ⟨rfl, rfl⟩)
                        go_roundw
                        case rel => exact ⟨kk + 1, M, by go_num, by omega, (HM.out).1, (HM.out).2.1, (HM.out).2.2.1, by rw [HN1.out]; exact (HM.out).2.2.2⟩
                        case measure => simp [intOf]; omega
                  · have HN1 := Lib.hid (HN.out (fun h => absurd h h1))
                    go_wp2_with fail
                    go_roundw
                    case rel => exact ⟨kk + 1, M, by go_num, by omega, (HM.out).1, (HM.out).2.1, (HM.out).2.2.1, by rw [HN1.out]; exact (HM.out).2.2.2⟩
                    case measure => simp [intOf]; omega
                · have HM := Lib.hid (And.intro hF (And.intro hM1 (And.intro hM2 (hMk.trans (Pa.mid_end (by omega))))))
                  clear hF hM1 hM2 hMk
                  go_wp2_with fail
                  go_roundw
                  case rel => exact ⟨k + 1, M, by go_num, by omega, (HM.out).1, fun j hj => by
                    by_cases e : j = k
                    · rw [e]; exact (HM.out).2.2.2
                    · exact (HM.out).2.1 j (by omega), fun j hj hjl => (HM.out).2.2.1 j (by omega) hjl⟩
                  case measure => simp [intOf]; omega
            · have hk2 : k = nx.length := by omega
              subst hk2
              have hMe := Pa.farL_of (int_len hF.now) hM1
              subst hMe
              have HM := Lib.hid hF
              clear hF hM1 hM2
              go_wp2_with fail
              go_roundw
              case rel => exact ⟨n + 1, g5, cap5, by go_num, by omega, rfl, (HM.out).now, (HM.out).below⟩
              case measure => simp [intOf]; omega
        · have hn2 : n = nx.length := by omega
          subst hn2
          have H6 := Lib.hid (And.intro hown hb)
          clear hown hb
          go_wp2_with fail
          go_ret
          exact ⟨_, _, rfl, (H6.out).1, (H6.out).2⟩
end Go.Proofs.Ytlmecpghlgndnaa
