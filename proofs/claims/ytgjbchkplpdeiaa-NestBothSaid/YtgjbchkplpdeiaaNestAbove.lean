/-
  warderref10.has, Is, Above; nest.Above, Deep: by walks.
-/
import Derived.Test.YtgjbchkplpdeiaaNestPlain
import Derived.ScopeJumps
namespace Go.Proofs.Ytgjbchkplpdeiaa
open Go.RowKit
set_option linter.unusedVariables false
set_option linter.unusedSimpArgs false

set_option maxHeartbeats 800000 in
theorem rhas_any (a : Option Addr) (c : Nat) (l : List Int) (n : Int) (w : World) (hl : Reads w a (l.map (Value.int .i64))) (hm : l.length ≤ 1000000) :
    Calls Try.prog 67 #[.slice a l.length c, .int .i64 n] w fun e w' => e = .returned (.bool (decide (n ∈ l))) ∧ w = w' := by
  go_enter Try.func67, Try.ntmps67
  go_wp2
  go_loopw [5] (fun v5 wr => ∃ j : Nat, j ≤ l.length ∧ v5 = .int .i64 j ∧ n ∉ l.take j ∧ w = wr) (fun v5 _ => l.length - (intOf v5).toNat)
  case atStart => exact ⟨0, by omega, rfl, by simp, rfl⟩
  case round =>
    obtain ⟨j, hj, rfl, hno, rfl⟩ := hrel
    have HNO := Lib.hid hno
    clear hno
    by_cases hlt : j < l.length
    · obtain ⟨b, off, rfl, hc⟩ := hl.at (by simp; omega)
      have hx := Reads.int hc j hlt
      have ht : l.take (j + 1) = l.take j ++ [l[j]] := List.take_succ_eq_append_getElem hlt
      have hmem : l[j] ∈ l := List.getElem_mem hlt
      have HT := Lib.hid ht
      have HM := Lib.hid hmem
      have HC := Lib.hid hc
      clear ht hc hmem
      generalize l[j] = x at *
      by_cases hxn : x = n
      · have hxb : (x == n) = true := by simp [hxn]
        have HX := Lib.hid hxn
        clear hxn
        go_wp2
        go_ret
        exact ⟨ret_bool (by rw [← HX.out, decide_eq_true HM.out]), rfl⟩
      · have hxb : (x == n) = false := by simp [hxn]
        have HX := Lib.hid hxn
        clear hxn
        go_wp2
        go_roundw
        case rel => exact ⟨j + 1, by omega, by go_num, by rw [HT.out]; simp only [List.mem_append, List.mem_singleton]; exact fun h => h.elim HNO.out (fun e => HX.out e.symm), trivial⟩
        case measure => simp [intOf]; omega
    · have hno2 : n ∉ l := by have := HNO.out; rwa [List.take_of_length_le (by omega)] at this
      have HN2 := Lib.hid hno2
      clear hno2
      go_wp2
      go_ret
      exact ⟨ret_bool (by rw [decide_eq_false HN2.out]), rfl⟩
set_option maxHeartbeats 800000 in
theorem is_any (a : Option Addr) (c : Nat) (l : List Int) (x i : Int) (w : World) (hl : Reads w a (l.map (Value.int .i64))) (hm : l.length ≤ 1000000) :
    Calls Try.prog 68 #[.slice a l.length c, .int .i64 x, .int .i64 i] w fun e w' => e = .returned (.bool (Ns.is l x i)) ∧ w = w' := by
  have hu : ∀ b : Bool, ¬ (some undef = some (Value.bool b)) := fun b h => by cases h
  have UP := Lib.hid (fun w hl k hk => up_any a c l i k w hl hm hk)
  have HL := Lib.hid hl
  clear hl
  go_enter Try.func68, Try.ntmps68
  go_wp2
  go_loopw [7] (fun v7 wr => ∃ j : Nat, j ≤ l.length ∧ v7 = .int .i64 ((j : Int) + 1) ∧ (∀ k, k < j → (decide (0 ≤ x) && (Ns.up l (k + 1) i == x)) = false) ∧ w = wr) (fun v7 _ => l.length + 1 - (intOf v7).toNat)
  case atStart => exact ⟨0, by omega, rfl, fun k hk => by omega, rfl⟩
  case round =>
    obtain ⟨j, hj, rfl, hno, rfl⟩ := hrel
    have HNO := Lib.hid hno
    clear hno
    by_cases hlt : j < l.length
    · have hle : (j : Int) + 1 ≤ (l.length : Int) := by omega
      by_cases h0 : 0 ≤ x
      · by_cases hx : Ns.up l (j + 1) i = x
        · have hfin : Ns.is l x i = true := by
            unfold Ns.is
            rw [decide_eq_true h0, Bool.true_and, List.any_eq_true]
            exact ⟨j, List.mem_range.2 hlt, by rw [hx]; simp⟩
          have HF := Lib.hid hfin
          have HX := Lib.hid hx
          have hxx : (x == x) = true := by simp
          clear hfin hx
          go_wp2_with fail
          refine (UP.out _ HL.out (j + 1) (by omega)).mono ?_
          rintro e w1 ⟨rfl, rfl⟩
          rw [HX.out]
          go_wp2_with fail
          go_ret
          exact ⟨ret_bool HF.out.symm, rfl⟩
        · have hxb : (Ns.up l (j + 1) i == x) = false := by simp [hx]
          have HX := Lib.hid hx
          have hup := Ns.up_bounds hm (j + 1) i
          clear hx
          go_wp2_with fail
          refine (UP.out _ HL.out (j + 1) (by omega)).mono ?_
          rintro e w1 ⟨rfl, rfl⟩
          generalize hg : Ns.up l (j + 1) i = y at *
          have HG := Lib.hid hg
          clear hg
          go_wp2_with fail
          go_roundw
          case rel => exact ⟨j + 1, by omega, by go_num, fun k hk => by
            by_cases e : k = j
            · rw [e, HG.out]; simp [HX.out]
            · exact HNO.out k (by omega), trivial⟩
          case measure => simp [intOf]; omega
      · go_wp2_with fail
        go_roundw
        case rel => exact ⟨j + 1, by omega, by go_num, fun k hk => by rw [decide_eq_false h0]; rfl, trivial⟩
        case measure => simp [intOf]; omega
    · have hle : ¬ (j : Int) + 1 ≤ (l.length : Int) := by omega
      have hfin : Ns.is l x i = false := by
        unfold Ns.is
        by_cases h0 : 0 ≤ x
        · rw [decide_eq_true h0, Bool.true_and, List.any_eq_false]
          intro k hk
          have := HNO.out k (by have := List.mem_range.1 hk; omega)
          rw [decide_eq_true h0, Bool.true_and] at this
          rw [this]; simp
        · rw [decide_eq_false h0]; rfl
      have HF := Lib.hid hfin
      clear hfin
      go_wp2_with fail
      go_ret
      exact ⟨ret_bool HF.out.symm, rfl⟩
/-- A list of ints of the call's own that is handed back. -/
def ListAns (xs : List Int) (w : World) (e : Ending) (w' : World) : Prop :=
  ∃ x, e = .returned x ∧ w'.ownsRow w.heap.size 3 1 x xs.length (xs.map (Value.int .i64)) ∧ Below w.heap.size w w'
set_option maxHeartbeats 2000000 in
theorem rabove_any (a : Option Addr) (c : Nat) (l : List Int) (i : Int) (w : World) (hl : Reads w a (l.map (Value.int .i64))) (hm : l.length ≤ 1000000) :
    Calls Try.prog 40 #[.slice a l.length c, .int .i64 i] w (ListAns (Ns.aboveL l i) w) := by
  have hu : ∀ b : Bool, ¬ (some undef = some (Value.bool b)) := fun b h => by cases h
  have UP := Lib.hid (fun w hl k hk => up_any a c l i k w hl hm hk)
  have HAS := Lib.hid (fun a c l n w hl hm => rhas_any a c l n w hl hm)
  have HL := Lib.hid hl
  clear hl
  go_enter Try.func40, Try.ntmps40
  go_wp2
  go_loopw [5, 6] (fun v5 v6 wr => ∃ (O : List Int) (at_ : Int), O.length ≤ l.length ∧ v6 = .int .i64 ((O.length : Int) + 1) ∧ (∀ j, Ns.up l (O.length + 1 + j) i = Ns.up l j at_) ∧ Ns.aboveL l i = O ++ Ns.chain l (l.length - O.length) (O.reverse ++ [i]) at_ ∧ wr.ownsRow w.heap.size 3 1 v5 O.length (O.map (Value.int .i64)) ∧ Below w.heap.size w wr) (fun _ v6 _ => l.length + 1 - (intOf v6).toNat)
  case atStart =>
    by_cases hp : Ns.isP l.length i = true
    · exact ⟨[], Ns.nx l i, by simp, rfl, fun j => by rw [show [].length + 1 + j = j + 1 by simp; omega, Ns.up, if_pos hp], by unfold Ns.aboveL; rw [if_pos hp]; rfl, (by exact World.ownsRow_nil _ _ _ _), Below.refl _ _⟩
    · have hpf : Ns.isP l.length i = false := by simpa using hp
      have h1 : Ns.isP l.length (-1) = false := by unfold Ns.isP; simp
      exact ⟨[], -1, by simp, rfl, fun j => by rw [Ns.up_no l _ i hpf, Ns.up_no l _ _ h1], by unfold Ns.aboveL; rw [if_neg hp, Ns.chain_stop l _ _ _ (by rw [h1]; simp)]; rfl, (by exact World.ownsRow_nil _ _ _ _), Below.refl _ _⟩
  case round =>
    obtain ⟨O, x, hO, rfl, hup, hab, hown, hnx⟩ := hrel
    obtain ⟨xa, xc, hx⟩ := own_len hown
    subst hx
    have hup0 := hup 0
    rw [Nat.add_zero] at hup0
    have HUP := Lib.hid hup
    have HAB := Lib.hid hab
    clear hup hab
    by_cases hlt : O.length < l.length
    · have hle : (O.length : Int) + 1 ≤ (l.length : Int) := by omega
      have hlr := (HL.out).mono hnx (Nat.le_refl _)
      have HLR := Lib.hid hlr
      clear hlr
      by_cases hp : Ns.isP l.length x = true
      · have hpx := (Ns.isP_iff _ _).1 hp
        obtain ⟨hp0, hp1⟩ := hpx
        have hux : Ns.up l (O.length + 1) i = x := by rw [hup0]; simp only [Ns.up, if_pos hp]
        have HUX := Lib.hid hux
        have HP := Lib.hid hp
        clear hux hup0 hp
        by_cases hin : x ∈ O.reverse ++ [i]
        · have hst := Ns.chain_stop l (l.length - O.length) (O.reverse ++ [i]) x (fun h => h.2 hin)
          have hfin : Ns.aboveL l i = O := by rw [HAB.out, hst, List.append_nil]
          have HF := Lib.hid hfin
          clear hst hfin
          by_cases hxi : x = i
          · have hxb : (x == i) = true := by simp [hxi]
            have HXI := Lib.hid hxi
            clear hxi hin
            go_wp2_with fail
            refine (UP.out _ HLR.out (O.length + 1) (by omega)).mono ?_
            rintro e w1 ⟨rfl, rfl⟩
            rw [HUX.out]
            go_wp2_with fail
            go_ret
            exact ⟨_, rfl, by rw [HF.out]; exact hown, hnx⟩
          · have hxO : x ∈ O := by
              rcases List.mem_append.1 hin with h | h
              · exact List.mem_reverse.1 h
              · exact absurd (List.mem_singleton.1 h) hxi
            have hxb : (x == i) = false := by simp [hxi]
            have hmb : decide (x ∈ O) = true := decide_eq_true hxO
            have HXI := Lib.hid (And.intro hxi hxO)
            clear hxi hin hxO
            have hro : Reads wr xa (O.map (Value.int .i64)) := by
              obtain ⟨a2, c2, h2, h3⟩ := Reads.of_ints hown
              simp only [Value.slice.injEq] at h2
              rw [h2.1]; exact h3
            have HRO := Lib.hid hro
            clear hro
            go_wp2_with fail
            refine (UP.out _ HLR.out (O.length + 1) (by omega)).mono ?_
            rintro e w1 ⟨rfl, rfl⟩
            rw [HUX.out]
            go_wp2_with fail
            refine (HAS.out xa xc O x _ HRO.out (by omega)).mono ?_
            rintro e w1 ⟨rfl, rfl⟩
            rw [hmb]
            go_wp2_with fail
            go_ret
            exact ⟨_, rfl, by rw [HF.out]; exact hown, hnx⟩
        · have hxi : x ≠ i := fun e => hin (by rw [e]; simp)
          have hxO : x ∉ O := fun e => hin (List.mem_append.2 (Or.inl (List.mem_reverse.2 e)))
          have hxb : (x == i) = false := by simp [hxi]
          have hmb : decide (x ∈ O) = false := decide_eq_false hxO
          have hgo := Ns.chain_go l (l.length - (O.length + 1)) (O.reverse ++ [i]) x ⟨HP.out, hin⟩
          rw [show l.length - (O.length + 1) + 1 = l.length - O.length by omega] at hgo
          have hab2 : Ns.aboveL l i = (O ++ [x]) ++ Ns.chain l (l.length - (O ++ [x]).length) ((O ++ [x]).reverse ++ [i]) (Ns.nx l x) := by
            rw [HAB.out, hgo]; simp
          have hup2 : ∀ j, Ns.up l ((O ++ [x]).length + 1 + j) i = Ns.up l j (Ns.nx l x) := fun j => by
            have := HUP.out (j + 1)
            rw [Ns.up, if_pos HP.out] at this
            rw [← this]; congr 1; simp; omega
          have HA2 := Lib.hid hab2
          have HU2 := Lib.hid hup2
          clear hgo hab2 hup2 hin hxi hxO
          have hro : Reads wr xa (O.map (Value.int .i64)) := by
            obtain ⟨a2, c2, h2, h3⟩ := Reads.of_ints hown
            simp only [Value.slice.injEq] at h2
            rw [h2.1]; exact h3
          have HRO := Lib.hid hro
          clear hro
          have hsz := hnx.size
          go_wp2_with fail
          refine (UP.out _ HLR.out (O.length + 1) (by omega)).mono ?_
          rintro e w1 ⟨rfl, rfl⟩
          rw [HUX.out]
          go_wp2_with fail
          refine (HAS.out xa xc O x _ HRO.out (by omega)).mono ?_
          rintro e w1 ⟨rfl, rfl⟩
          rw [hmb]
          go_wp2_with (at_builtin; refine append_at (v := .slice xa O.length xc) rfl _ _ 63 rfl 3 (.int .i64 0) 1 8 Try.underlying63 Try.info3 rfl (by decide) rfl hown hsz _ rfl (by simp [Value.oneCell']) rfl rfl (by decide) (by omega) ?_; intro g cap w5 own5 keep5 where5; have bel5 := hnx.trans (keep5.below (fun j hj => (hown.lt j hj).1) hsz))
          go_roundw
          case rel => exact ⟨O ++ [x], Ns.nx l x, by simp <;> omega, by simp <;> omega, HU2.out, HA2.out, by have := own5; rw [List.length_append, List.map_append]; exact this, bel5⟩
          case measure => simp [intOf]; omega
      · have hpf : Ns.isP l.length x = false := by simpa using hp
        have hux : Ns.up l (O.length + 1) i = -1 := by rw [hup0]; simp only [Ns.up, if_neg hp]
        have hst := Ns.chain_stop l (l.length - O.length) (O.reverse ++ [i]) x (fun h => hp h.1)
        have hfin : Ns.aboveL l i = O := by rw [HAB.out, hst, List.append_nil]
        have HF := Lib.hid hfin
        have HUX := Lib.hid hux
        clear hst hfin hux hup0 hp hpf
        go_wp2_with fail
        refine (UP.out _ HLR.out (O.length + 1) (by omega)).mono ?_
        rintro e w1 ⟨rfl, rfl⟩
        rw [HUX.out]
        go_wp2_with fail
        go_ret
        exact ⟨_, rfl, by rw [HF.out]; exact hown, hnx⟩
    · have hle : ¬ (O.length : Int) + 1 ≤ (l.length : Int) := by omega
      have hfin : Ns.aboveL l i = O := by rw [HAB.out, show l.length - O.length = 0 by omega]; simp [Ns.chain]
      have HF := Lib.hid hfin
      clear hfin hup0
      go_wp2_with fail
      go_ret
      exact ⟨_, rfl, by rw [HF.out]; exact hown, hnx⟩
/-- How many are true. -/
def trues : List Bool → Nat
  | [] => 0
  | b :: l => (if b then 1 else 0) + trues l
theorem trues_le : ∀ (l : List Bool), trues l ≤ l.length
  | [] => by simp [trues]
  | b :: l => by have := trues_le l; unfold trues; split <;> simp <;> omega
theorem trues_set : ∀ (l : List Bool) (k : Nat), l[k]? = some false → trues (l.set k true) = trues l + 1
  | [], k, h => by simp at h
  | b :: l, 0, h => by simp at h; subst h; simp [trues]; omega
  | b :: l, k + 1, h => by
    have := trues_set l k (by simpa using h)
    simp only [List.set_cons_succ, trues, this]; omega
theorem trues_lt : ∀ (l : List Bool) (k : Nat), l[k]? = some false → trues l < l.length
  | [], k, h => by simp at h
  | b :: l, 0, h => by simp at h; subst h; have := trues_le l; simp [trues]; omega
  | b :: l, k + 1, h => by
    have := trues_lt l k (by simpa using h)
    unfold trues; split <;> simp <;> omega
theorem trues_rep (n : Nat) : trues (List.replicate n false) = 0 := by
  induction n with
  | zero => rfl
  | succ n ih => rw [List.replicate_succ]; simp [trues, ih]
theorem Try.infoB : (Try.prog.info? 4).map (fun i => (i.zero, i.size, i.bytes)) = some (some (.bool false), 1, 1) := by kernel_rfl
theorem wp_scope_label {P : Program} {a : Act} {w : World} {Q : Exit → Act → World → Prop} {c rest : Code} (l : Nat) (J : Act → World → Prop) (μ : Act → World → Nat) (hf : findLabel c l = some (Code.skip.seq rest))
    (pass : ∀ a w, J a w → rest.wp P (Exit.jump l (fun a' w' => J a' w' ∧ μ a' w' < μ a w) Q) a w)
    (first : (∀ a w, J a w → rest.wp P (Exit.jump l J Q) a w) → c.wp P (Exit.jump l J Q) a w) : (Code.scope c).wp P Q a w :=
  wp_scope_jumps l J μ hf (first (fun a w h => wp_mono (pass a w h) (fun e a' w' h2 => by
    cases e with
    | goto l' => exact ⟨h2.1, h2.2.1⟩
    | _ => exact h2))) (fun a w h => wp_seq (wp_skip (pass a w h)))
def sliceLen : Value → Nat
  | .slice _ n _ => n
  | _ => 0
/-- What holds where Above comes to its label. -/
structure AboveAt (w : World) (l : List Int) (i : Int) (g : Nat) (v5 : Value) (O : List Int) (S : List Bool) (cur : Int) (wr : World) : Prop where
  own : wr.ownsRow w.heap.size 3 1 v5 O.length (O.map (Value.int .i64))
  seen : wr.ownsRow w.heap.size 4 1 (.slice (some ⟨g, 0, none⟩) l.length l.length) l.length (S.map Value.bool)
  below : Below w.heap.size w wr
  place : 0 ≤ cur ∧ cur < (l.length : Int)
  new : S[cur.toNat]? = some false
  count : trues S = O.length
  marks : ∀ x : Nat, x < l.length → ((S.set cur.toNat true)[x]? = some true ↔ (x : Int) ∈ O.reverse ++ [i])
  all : Ns.aboveL l i = O ++ Ns.chain l (l.length - O.length) (O.reverse ++ [i]) (Ns.nx l cur)
set_option maxHeartbeats 2000000 in
theorem above_any (a : Option Addr) (c : Nat) (l : List Int) (i : Int) (w : World) (hl : Reads w a (l.map (Value.int .i64))) (hm : l.length ≤ 1000000) :
    Calls Try.prog 38 #[.slice a l.length c, .int .i64 i] w (ListAns (Ns.aboveL l i) w) := by
  have hu : ∀ b : Bool, ¬ (some undef = some (Value.bool b)) := fun b h => by cases h
  have PL := Lib.hid (fun a c i w => isPlace_any a l.length c i w hm)
  have HL := Lib.hid hl
  clear hl
  by_cases hp : Ns.isP l.length i = true
  · have hpx := (Ns.isP_iff _ _).1 hp
    obtain ⟨hp0, hp1⟩ := hpx
    have HP := Lib.hid hp
    go_enter Try.func38, Try.ntmps38
    go_wp2_with fail
    refine wp_scope_label 0 (fun a' wr => ∃ (v5 : Value) (O : List Int) (S : List Bool) (cur : Int) (u16 u17 u18 u19 u20 u21 u22 u23 u24 u25 u26 u27 u28 u29 u30 u31 u32 u33 u34 u35 u36 u37 : Value), AboveAt w l i w.heap.size v5 O S cur wr ∧
      a' = { tmps := #[.slice a l.length c, .int .i64 i, undef, undef, .slice none 0 0, v5, .slice (some ⟨w.heap.size, 0, none⟩) l.length l.length, .int .i64 cur, .slice a l.length c, .int .i64 i, .bool true, .bool false, .slice a l.length c, .int .i64 l.length, .slice (some ⟨w.heap.size, 0, none⟩) l.length l.length, .int .i64 i, u16, u17, u18, u19, u20, u21, u22, u23, u24, u25, u26, u27, u28, u29, u30, u31, u32, u33, u34, u35, u36, u37], defers := [] }) (fun a' _ => l.length - sliceLen (a'.tmps.getD 5 undef)) rfl ?_ ?_
    · rintro a' wr ⟨v5, O, S, cur, u16, u17, u18, u19, u20, u21, u22, u23, u24, u25, u26, u27, u28, u29, u30, u31, u32, u33, u34, u35, u36, u37, rel, rfl⟩
      obtain ⟨own, seen, below, place, new, count, marks, all⟩ := rel
      obtain ⟨xa, xc, hx⟩ := own_len own
      subst hx
      obtain ⟨hc0, hc1⟩ := place
      have hlr := (HL.out).mono below (Nat.le_refl _)
      obtain ⟨b, off, rfl, hc⟩ := hlr.at (by simp; omega)
      have hx := int_cell hc cur hc0 hc1
      have hcl := new
      have hSl : S.length = l.length := by have := seen.1; simpa using this
      have hOl : O.length + 1 ≤ l.length := by have := trues_lt S _ new; omega
      have seen2 := (seen.stored cur.toNat (.bool true)).1
      rw [← List.map_set] at seen2
      have hkg : Keeps (fun j => j = w.heap.size) wr (wr.setCell ⟨w.heap.size, cur.toNat, none⟩ (.bool true)) := Keeps.setCell _ _ _ rfl
      have own2 := hkg.own own (fun j hj e0 => by subst e0; exact lie_apart own seen (by decide) _ hj rfl)
      have bel2 := below.trans (hkg.below (fun j hj => by omega) below.size)
      have hgs := (seen.lt w.heap.size rfl).2
      have hfz := seen.frozenAt cur.toNat
      have hlr2 := (HL.out).mono bel2 (Nat.le_refl _)
      have hc2 : (wr.setCell ⟨w.heap.size, cur.toNat, none⟩ (.bool true)).cell? ⟨b, off + cur.toNat, none⟩ = some (.int .i64 (Ns.nx l cur)) := by
        obtain ⟨b', off', e1, hc'⟩ := hlr2.at (by simp; omega)
        simp only [Option.some.injEq, Addr.mk.injEq, and_true] at e1
        obtain ⟨rfl, rfl⟩ := e1
        exact int_cell hc' cur hc0 hc1
      have hcs := seen.cellAt cur.toNat (by omega)
      rw [List.getElem?_map, new] at hcs
      have ALL := Lib.hid all
      have MARKS := Lib.hid marks
      have NEW := Lib.hid new
      have CNT := Lib.hid count
      have HLR := Lib.hid (And.intro hlr hlr2)
      have HC := Lib.hid hc
      clear all marks new count hlr hlr2 hc hx hcl
      go_wp2_with fail
      refine (PL.out _ _ _ _).mono ?_
      rintro e w1 ⟨rfl, rfl⟩
      by_cases hpy : Ns.isP l.length (Ns.nx l cur) = true
      · obtain ⟨hy0, hy1⟩ := (Ns.isP_iff _ _).1 hpy
        rw [hpy]
        have hk : (Ns.nx l cur).toNat < l.length := by omega
        have hm1 := MARKS.out (Ns.nx l cur).toNat hk
        have hyc : (((Ns.nx l cur).toNat : Nat) : Int) = Ns.nx l cur := by omega
        rw [hyc] at hm1
        have hsy := seen2.cellAt (Ns.nx l cur).toNat (by omega)
        rw [List.getElem?_map] at hsy
        have HPY := Lib.hid hpy
        have HM1 := Lib.hid hm1
        have HYC := Lib.hid hyc
        clear hpy hm1 hyc
        have hlen2 : (S.set cur.toNat true).length = l.length := by simpa using hSl
        have hget : ∃ bb, (S.set cur.toNat true)[(Ns.nx l cur).toNat]? = some bb := ⟨_, List.getElem?_eq_getElem (by omega)⟩
        obtain ⟨bb, hbb⟩ := hget
        rw [hbb] at hsy
        have HBB := Lib.hid hbb
        clear hbb
        by_cases hbt : bb = true
        · subst hbt
          have hin := (HM1.out).1 HBB.out
          have hst := Ns.chain_stop l (l.length - O.length) (O.reverse ++ [i]) (Ns.nx l cur) (fun h => h.2 hin)
          have hfin : Ns.aboveL l i = O := by rw [ALL.out, hst, List.append_nil]
          have HF := Lib.hid hfin
          clear hin hst hfin
          generalize Ns.nx l cur = y at *
          simp only [Option.map_some] at hsy hcs
          go_wp2_with fail
          simp only [Exit.jump]
          go_ret
          exact ⟨_, rfl, by rw [HF.out]; exact own2, bel2⟩
        · have hbf : bb = false := by simpa using hbt
          subst hbf
          have hin : Ns.nx l cur ∉ O.reverse ++ [i] := fun h => by
            have h1 := (HM1.out).2 h
            rw [HBB.out] at h1
            cases h1
          have hgo := Ns.chain_go l (l.length - (O.length + 1)) (O.reverse ++ [i]) (Ns.nx l cur) ⟨HPY.out, hin⟩
          rw [show l.length - (O.length + 1) + 1 = l.length - O.length by omega] at hgo
          have hab2 : Ns.aboveL l i = (O ++ [Ns.nx l cur]) ++ Ns.chain l (l.length - (O ++ [Ns.nx l cur]).length) ((O ++ [Ns.nx l cur]).reverse ++ [i]) (Ns.nx l (Ns.nx l cur)) := by
            rw [ALL.out, hgo]; simp
          have hcnt2 : trues (S.set cur.toNat true) = (O ++ [Ns.nx l cur]).length := by rw [trues_set _ _ NEW.out, CNT.out]; simp
          have hmk2 : ∀ x : Nat, x < l.length → (((S.set cur.toNat true).set (Ns.nx l cur).toNat true)[x]? = some true ↔ (x : Int) ∈ (O ++ [Ns.nx l cur]).reverse ++ [i]) := fun x hx => by
            by_cases e : x = (Ns.nx l cur).toNat
            · subst e
              rw [List.getElem?_set_self (by omega), HYC.out]
              simp
            · rw [List.getElem?_set_ne (fun e2 => e e2.symm), MARKS.out x hx]
              simp
              omega
          have HA2 := Lib.hid hab2
          have HC2 := Lib.hid hcnt2
          have HM2 := Lib.hid hmk2
          have hsz := bel2.size
          clear hin hgo hab2 hcnt2 hmk2
          generalize Ns.nx l cur = y at *
          simp only [Option.map_some] at hsy hcs
          go_wp2_with (at_builtin; refine append_at (v := .slice xa O.length xc) rfl _ _ 63 rfl 3 (.int .i64 0) 1 8 Try.underlying63 Try.info3 rfl (by decide) rfl own2 hsz _ rfl (by simp [Value.oneCell']) rfl (by simp) (by decide) (by omega) ?_; intro g cap w5 own5 keep5 where5; have bel5 := bel2.trans (keep5.below (fun j hj => (own2.lt j hj).1) hsz); have seen5 := keep5.own seen2 (fun j hj e0 => lie_apart own2 seen2 (by decide) j e0 hj))
          go_step3
          refine ⟨rfl, ⟨_, O ++ [y], S.set cur.toNat true, y, _, _, _, _, _, _, _, _, _, _, _, _, _, _, _, _, _, _, _, _, _, _, ⟨by have := own5; rw [List.length_append, List.map_append]; exact this, seen5, bel5, ⟨hy0, hy1⟩, HBB.out, HC2.out, HM2.out, HA2.out⟩, rfl⟩, ?_⟩
          simp [sliceLen]
          omega
      · have hpf : Ns.isP l.length (Ns.nx l cur) = false := by simpa using hpy
        rw [hpf]
        have hst := Ns.chain_stop l (l.length - O.length) (O.reverse ++ [i]) (Ns.nx l cur) (fun h => hpy h.1)
        have hfin : Ns.aboveL l i = O := by rw [ALL.out, hst, List.append_nil]
        have HF := Lib.hid hfin
        clear hst hfin hpy hpf
        generalize Ns.nx l cur = y at *
        go_wp2_with fail
        simp only [Exit.jump]
        go_ret
        exact ⟨_, rfl, by rw [HF.out]; exact own2, bel2⟩
    · intro hfirst
      have HF := Lib.hid hfirst
      clear hfirst hp
      go_wp2_with fail
      refine (PL.out _ _ _ _).mono ?_
      rintro e w1 ⟨rfl, rfl⟩
      rw [HP.out]
      go_wp2_with (at_make; refine make_one rfl _ _ 96 rfl 4 (.bool false) 1 Try.underlying96 Try.infoB rfl _ l.length rfl rfl rfl (by omega) (by unfold maxLen; omega) ?_; intro w1 own1 keep1)
      go_step3
      rename_i hk
      refine hk _ _ (HF.out _ _ ⟨_, [], List.replicate l.length false, i, _, _, _, _, _, _, _, _, _, _, _, _, _, _, _, _, _, _, _, _, _, _, ⟨(by exact World.ownsRow_nil _ _ _ _), by rw [List.map_replicate]; exact own1, keep1.below (fun _ hf => hf.elim) (Nat.le_refl _), ⟨hp0, hp1⟩, by rw [List.getElem?_replicate, if_pos (by omega)], trues_rep _, fun x hx => ?_, by unfold Ns.aboveL; rw [if_pos HP.out]; rfl⟩, rfl⟩)
      by_cases e : x = i.toNat
      · subst e
        rw [List.getElem?_set_self (by simpa using hx)]
        simp
        omega
      · rw [List.getElem?_set_ne (fun e2 => e e2.symm), List.getElem?_replicate, if_pos hx]
        simp
        omega
  · have hpf : Ns.isP l.length i = false := by simpa using hp
    have hz : Ns.aboveL l i = [] := by unfold Ns.aboveL; rw [if_neg hp]
    have HZ := Lib.hid hz
    have HPF := Lib.hid hpf
    clear hz hp hpf
    go_enter Try.func38, Try.ntmps38
    go_wp2_with fail
    go_step3
    go_wp2_with fail
    refine (PL.out _ _ _ _).mono ?_
    rintro e w1 ⟨rfl, rfl⟩
    rw [HPF.out]
    go_wp2_with fail
    rw [Exit.noGoto_ret]
    go_ret
    exact ⟨_, rfl, by rw [HZ.out]; exact World.ownsRow_nil _ _ _ _, Below.refl _ _⟩
set_option maxHeartbeats 400000 in
theorem deep_any (a : Option Addr) (c : Nat) (l : List Int) (i : Int) (w : World) (hl : Reads w a (l.map (Value.int .i64))) (hm : l.length ≤ 1000000) :
    Calls Try.prog 41 #[.slice a l.length c, .int .i64 i] w fun e w' => e = .returned (.int .i64 ((Ns.aboveL l i).length : Nat)) ∧ Below w.heap.size w w' := by
  have H := Lib.hid (above_any a c l i w hl hm)
  go_enter Try.func41, Try.ntmps41
  go_wp2_with fail
  refine (H.out).mono ?_
  rintro e w1 ⟨x, rfl, own, bel⟩
  obtain ⟨xa, xc, rfl⟩ := own_len own
  go_wp2_with fail
  go_ret
  exact ⟨rfl, bel⟩
end Go.Proofs.Ytgjbchkplpdeiaa
