/-
  label.EU: by a walk.
-/
import Derived.Test.YtlmecpghlgndnaaLabBools
import Derived.Deep.LoopGhost
namespace Go.Proofs.Ytlmecpghlgndnaa
open Go.RowKit
set_option linter.unusedVariables false
set_option linter.unusedSimpArgs false

/-- While it is sought from where a way leads: the places found, those that wait. -/
structure Ust (w : World) (nx : List (List Int)) (A Bs : List Bool) (G0 bS : Nat) (v : Value) (F : List Bool) (St : List Int) (wr : World) : Prop where
  out : wr.ownsRow w.heap.size 4 1 (.slice (some ⟨G0, 0, none⟩) nx.length nx.length) nx.length (F.map Value.bool)
  stk : Stk wr w.heap.size bS v St
  below : Below w.heap.size w wr
  marked : ∀ x ∈ St, 0 ≤ x ∧ x < (nx.length : Int) ∧ Lb.inB F x.toNat = true
  sound : ∀ i, Lb.inB F i = true → Lb.EU nx A Bs i
section
variable {w wr w2 : World} {nx : List (List Int)} {A Bs F : List Bool} {G0 bS : Nat} {v : Value} {St : List Int}
theorem Ust.flen (h : Ust w nx A Bs G0 bS v F St wr) : F.length = nx.length := own_blen h.out
theorem Ust.mark (h : Ust w nx A Bs G0 bS v F St wr) (y : Nat) : Stk (wr.setCell ⟨G0, y, none⟩ (.bool true)) w.heap.size bS v St := by
  have hk : Keeps (fun j => j = G0) wr (wr.setCell ⟨G0, y, none⟩ (.bool true)) := Keeps.setCell _ _ _ rfl
  exact h.stk.keeps hk (fun e => lie_apart h.stk.box h.out (by decide) bS rfl (by rw [e]; rfl)) (fun j hj e => lie_apart h.stk.row h.out (by decide) j hj (by rw [e]; rfl))
theorem Ust.push (h : Ust w nx A Bs G0 bS v F St wr) (y : Nat) (hy : y < nx.length) (hE : Lb.EU nx A Bs y) {e : Ending} (hp : PushAns w.heap.size bS v St (y : Int) (wr.setCell ⟨G0, y, none⟩ (.bool true)) e w2) :
    (∃ r, e = .returned r) ∧ ∃ v', Ust w nx A Bs G0 bS v' (F.set y true) (St ++ [(y : Int)]) w2 ∧ Keeps (fun j => j = G0 ∨ j = bS ∨ v.ownBlock = some j) wr w2 ∧ ∀ j, v'.ownBlock = some j → v.ownBlock = some j ∨ wr.heap.size ≤ j := by
  obtain ⟨hr, v', hs, hk, hb⟩ := hp
  have hk1 : Keeps (fun j => j = G0) wr (wr.setCell ⟨G0, y, none⟩ (.bool true)) := Keeps.setCell _ _ _ rfl
  have hfl := h.flen
  have o1 := bool_stored h.out y true
  have o2 := hk.own o1 (fun j hj e => by
    simp [Value.ownBlock] at hj
    subst hj
    rcases e with e | e
    · exact lie_apart h.stk.box h.out (by decide) bS rfl (by rw [e]; rfl)
    · exact lie_apart h.stk.row h.out (by decide) _ e rfl)
  have hg := (h.out.lt G0 rfl).1
  have hbx := h.stk.box.lt
  have kk := (hk1.weaken (fun j _ e => Or.inl e : ∀ j, j < wr.heap.size → j = G0 → (j = G0 ∨ j = bS ∨ v.ownBlock = some j))).trans (hk.weaken (fun j _ e => e.elim (fun e => Or.inr (Or.inl e)) (fun e => Or.inr (Or.inr e))))
  refine ⟨hr, v', ⟨o2, hs, h.below.trans (kk.below (fun j e => ?_) h.below.size), fun x hx => ?_, fun i hi => ?_⟩, kk, fun j hj => (hb j hj).imp id (fun h1 => by simpa using h1)⟩
  · rcases e with e | e | e
    · omega
    · omega
    · exact (h.stk.row.lt j e).1
  · rcases List.mem_append.1 hx with h1 | h1
    · have h2 := h.marked x h1
      refine ⟨h2.1, h2.2.1, ?_⟩
      rw [inB_set _ _ _ _ (by omega)]
      split
      · rfl
      · exact h2.2.2
    · rw [List.mem_singleton.1 h1]
      refine ⟨by omega, by omega, ?_⟩
      rw [inB_set _ _ _ _ (by omega), if_pos (by omega)]
  · rw [inB_set _ _ _ _ (by omega)] at hi
    by_cases e : i = y
    · rw [e]; exact hE
    · rw [if_neg e] at hi; exact h.sound i hi
end
/-- The ways that lead to each place lie elsewhere. -/
structure Gap (wr : World) (nx : List (List Int)) (B1 g : Nat) (vs : List Value) (v : Value) : Prop where
  grid : Grid wr B1 34 3 g nx.length vs (Lb.rowsF nx.length (Lb.fr nx nx.length))
  apart : ∀ j, v.ownBlock = some j → ¬ GridIn g vs j
theorem Gap.push {wr w2 : World} {nx : List (List Int)} {B1 g G0 bS : Nat} {vs : List Value} {v v' : Value} (h : Gap wr nx B1 g vs v) (hG : G0 < B1) (hS : bS < B1) (k : Keeps (fun j => j = G0 ∨ j = bS ∨ v.ownBlock = some j) wr w2) (hb : ∀ j, v'.ownBlock = some j → v.ownBlock = some j ∨ wr.heap.size ≤ j) : Gap w2 nx B1 g vs v' := by
  refine ⟨h.grid.keeps k (fun j hj e => ?_), fun j hj hg => ?_⟩
  · have := (h.grid.in_lt j hj).1
    rcases e with e | e | e
    · omega
    · omega
    · exact h.apart j e hj
  · rcases hb j hj with h1 | h1
    · exact h.apart j h1 hg
    · have := (h.grid.in_lt j hg).2; omega
theorem Gap.pop {wr w2 : World} {nx : List (List Int)} {B1 g bS : Nat} {vs : List Value} {v v' : Value} (h : Gap wr nx B1 g vs v) (hS : bS < B1) (k : Keeps (fun j => j = bS) wr w2) (hb : v'.ownBlock = v.ownBlock) : Gap w2 nx B1 g vs v' :=
  ⟨h.grid.keeps k (fun j hj e => by have := (h.grid.in_lt j hj).1; omega), fun j hj => h.apart j (by rw [← hb]; exact hj)⟩
/-- What leads to a found place by the one set is found, but for those that wait. -/
def ShutU (nx : List (List Int)) (A F : List Bool) (St : List Int) : Prop := ∀ t : Nat, Lb.inB F t = true → (t : Int) ∉ St → ∀ i, i < nx.length → Lb.inB A i = true → Lb.E nx i t → Lb.inB F i = true
def ShutUBut (nx : List (List Int)) (A F : List Bool) (St : List Int) (q j : Nat) : Prop := (∀ t : Nat, t ≠ q → Lb.inB F t = true → (t : Int) ∉ St → ∀ i, i < nx.length → Lb.inB A i = true → Lb.E nx i t → Lb.inB F i = true) ∧ ∀ x ∈ (Lb.fr nx nx.length q).take j, Lb.inB A x.toNat = true → Lb.inB F x.toNat = true
theorem shutU_pop {nx : List (List Int)} {A F : List Bool} {St : List Int} {x : Int} (h : ShutU nx A F (St ++ [x])) (h0 : 0 ≤ x) : ShutUBut nx A F St x.toNat 0 :=
  ⟨fun t ht hf hn => h t hf (fun hm => by
    rcases List.mem_append.1 hm with h1 | h1
    · exact hn h1
    · have := List.mem_singleton.1 h1; omega), fun y hy => by simp at hy⟩
theorem shutU_done {nx : List (List Int)} {A F : List Bool} {St : List Int} {q j : Nat} (h : ShutUBut nx A F St q j) (hj : (Lb.fr nx nx.length q).length ≤ j) : ShutU nx A F St := fun t hf hn i hi ha hE => by
  by_cases e : t = q
  · subst e
    have h2 := h.2
    rw [List.take_of_length_le hj] at h2
    have := h2 i (Lb.mem_fr hi hE.2)
    rw [Int.toNat_natCast] at this
    exact this ha
  · exact h.1 t e hf hn i hi ha hE
theorem shutU_old {nx : List (List Int)} {A F : List Bool} {St : List Int} {q j : Nat} (h : ShutUBut nx A F St q j) (y : Nat) (ht : (Lb.fr nx nx.length q).take (j + 1) = (Lb.fr nx nx.length q).take j ++ [(y : Int)]) (hy : Lb.inB A y = true → Lb.inB F y = true) : ShutUBut nx A F St q (j + 1) := by
  refine ⟨h.1, fun x hx => ?_⟩
  rw [ht] at hx
  rcases List.mem_append.1 hx with h1 | h1
  · exact h.2 x h1
  · rw [List.mem_singleton.1 h1, Int.toNat_natCast]; exact hy
theorem shutU_new {nx : List (List Int)} {A F : List Bool} {St : List Int} {q j : Nat} (h : ShutUBut nx A F St q j) (y : Nat) (ht : (Lb.fr nx nx.length q).take (j + 1) = (Lb.fr nx nx.length q).take j ++ [(y : Int)]) (hyl : y < F.length) : ShutUBut nx A (F.set y true) (St ++ [(y : Int)]) q (j + 1) := by
  have hset : ∀ i, Lb.inB F i = true → Lb.inB (F.set y true) i = true := fun i hi => by
    rw [inB_set _ _ _ _ hyl]; split
    · rfl
    · exact hi
  constructor
  · intro t ht2 hf hn i hi ha hE
    have hty : t ≠ y := fun e => hn (List.mem_append.2 (Or.inr (List.mem_singleton.2 (by omega))))
    rw [inB_set _ _ _ _ hyl, if_neg hty] at hf
    exact hset _ (h.1 t ht2 hf (fun h1 => hn (List.mem_append.2 (Or.inl h1))) i hi ha hE)
  · intro x hx ha
    rw [ht] at hx
    rcases List.mem_append.1 hx with h1 | h1
    · exact hset _ (h.2 x h1 ha)
    · rw [List.mem_singleton.1 h1, Int.toNat_natCast, inB_set _ _ _ _ hyl, if_pos rfl]
theorem shutU_end {nx : List (List Int)} {A Bs F : List Bool} (h : ShutU nx A F []) (hb : ∀ i, i < nx.length → Lb.inB Bs i = true → Lb.inB F i = true) (hF : F.length = nx.length) (hs : ∀ i, Lb.inB F i = true → Lb.EU nx A Bs i) : Lb.IsSet nx.length (Lb.EU nx A Bs) F := by
  refine ⟨hF, fun i _ => ⟨hs i, fun hE => ?_⟩⟩
  induction hE with
  | base i hi hbi => exact hb i hi hbi
  | step i t hi ha hE hU ih => exact h t (ih hU.lt) (by simp) i hi ha hE
set_option maxHeartbeats 8000000 in
theorem eu_any (a a2 a3 : Option Addr) (c c2 c3 : Nat) (nx : List (List Int)) (A Bs : List Bool) (w : World) (hl : RdG w a nx) (hA : Reads w a2 (A.map Value.bool)) (hB : Reads w a3 (Bs.map Value.bool)) (hn : nx.length ≤ 1000) (hr : ∀ i, (Lb.row nx i).length ≤ 1000) :
    Calls Try.prog 15 #[.slice a nx.length c, .slice a2 A.length c2, .slice a3 Bs.length c3] w (BoolsAns (Lb.IsSet nx.length (Lb.EU nx A Bs)) w) := by
  have hu : ∀ b : Bool, ¬ (some undef = some (Value.bool b)) := fun b h => by cases h
  have HL := Lib.hid (And.intro hl (And.intro hA hB))
  clear hl hA hB
  go_enter Try.func15, Try.ntmps15
  go_wp2_with (at_make; refine make_one rfl _ _ 23 rfl 4 (.bool false) 1 Try.underlying23 Try.infoB rfl _ nx.length rfl rfl rfl (by omega) (by unfold maxLen; omega) ?_; intro w1 own1 keep1; rw [show List.replicate nx.length (Value.bool false) = (List.replicate nx.length false).map Value.bool by rw [List.map_replicate]] at own1)
  have hg1 := (own1.lt w.heap.size rfl).2
  have u0 : Ust w nx A Bs w.heap.size w1.heap.size (.slice none 0 0) (List.replicate nx.length false) [] (w1.alloc (.cells #[.slice none 0 0] 46)) := by
    have hk : Keeps (fun _ => False) w1 (w1.alloc (.cells #[.slice none 0 0] 46)) := Keeps.alloc _ _ _
    refine ⟨hk.own own1 (fun _ _ hf => hf), ⟨box_new _ _ _ _ (by omega), World.ownsRow_nil _ _ _ _⟩, (keep1.below (fun _ hf => hf.elim) (Nat.le_refl _)).trans (hk.below (fun _ hf => hf.elim) (by omega)), fun x hx => by simp at hx, fun i hi => absurd hi (by rw [inB_rep]; simp)⟩
  have U0 := Lib.hid u0
  clear u0 own1 keep1
  generalize (w1.alloc (.cells #[.slice none 0 0] 46)) = w2 at *
  generalize w1.heap.size = bS at *
  go_loopw [9, 20] (fun _ v20 wr => ∃ (k : Nat) (v : Value) (F : List Bool) (St : List Int), k ≤ nx.length ∧ v20 = .int .i64 k ∧ Ust w nx A Bs w.heap.size bS v F St wr ∧ (∀ t, Lb.inB F t = true → (t : Int) ∈ St) ∧ (∀ i, i < k → Lb.inB Bs i = true → Lb.inB F i = true) ∧ St.length ≤ k) (fun _ v20 _ => nx.length - (intOf v20).toNat)
  case atStart => exact ⟨0, _, _, [], by omega, rfl, U0.out, fun t ht => absurd ht (by rw [inB_rep]; simp), fun i hi => by omega, by simp⟩
  case round =>
    obtain ⟨k, v, F, St, hk, rfl, hU, hin, hbs, hSl⟩ := hrel
    have hFl := hU.flen
    by_cases hlt : k < nx.length
    · have INB := Lib.hid (in_any a3 c3 Bs k wr ((HL.out).2.2.mono hU.below (Nat.le_refl _)) (by omega))
      have HU := Lib.hid (And.intro hU (And.intro hin hbs))
      have hfz := hU.out.frozenAt k
      have hgF := (hU.out.lt w.heap.size rfl).2
      obtain ⟨u, hcu⟩ : ∃ u, wr.cell? ⟨w.heap.size, k, none⟩ = some u := ⟨_, bool_cell hU.out k hlt⟩
      have hmk := hU.mark k
      have MK := Lib.hid hmk
      clear hU hin hbs hmk
      by_cases hb : Lb.inB Bs k = true
      · have HBK := Lib.hid hb
        clear hb
        go_wp2_with fail
        refine (INB.out).mono ?_
        rintro e w3 ⟨rfl, rfl⟩
        rw [Int.toNat_natCast, HBK.out]
        go_wp2_with fail
        refine (push_any w.heap.size bS v St k _ MK.out (by omega)).mono ?_
        intro e w3 hp
        obtain ⟨⟨r, rfl⟩, v', hU', _, _⟩ := (HU.out).1.push k hlt (Lb.EU.base k hlt HBK.out) hp
        have HU' := Lib.hid hU'
        clear hU' hp
        go_wp2_with fail
        go_roundw
        case rel =>
          refine ⟨k + 1, v', F.set k true, St ++ [(k : Int)], by omega, by go_num, HU'.out, fun t ht => ?_, fun i hi hbi => ?_, by simp; omega⟩
          · rw [inB_set _ _ _ _ (by omega)] at ht
            by_cases e : t = k
            · subst e; simp
            · rw [if_neg e] at ht
              exact List.mem_append.2 (Or.inl ((HU.out).2.1 t ht))
          · rw [inB_set _ _ _ _ (by omega)]
            by_cases e : i = k
            · rw [if_pos e]
            · rw [if_neg e]
              exact (HU.out).2.2 i (by omega) hbi
        case measure => simp [intOf]; omega
      · have hf : Lb.inB Bs k = false := by simpa using hb
        have HBK := Lib.hid (And.intro hf hb)
        clear hb hf
        go_wp2_with fail
        refine (INB.out).mono ?_
        rintro e w3 ⟨rfl, rfl⟩
        rw [Int.toNat_natCast, (HBK.out).1]
        go_wp2_with fail
        go_roundw
        case rel =>
          refine ⟨k + 1, v, F, St, by omega, by go_num, (HU.out).1, (HU.out).2.1, fun i hi hbi => ?_, by omega⟩
          by_cases e : i = k
          · subst e; exact absurd hbi (HBK.out).2
          · exact (HU.out).2.2 i (by omega) hbi
        case measure => simp [intOf]; omega
    · have hkl : k = nx.length := by omega
      subst hkl
      have hgF := (hU.out.lt w.heap.size rfl)
      have hbx := hU.stk.box.lt
      have hcount := Lb.cntT_le F
      have FR := Lib.hid (froms_any a c nx wr ((HL.out).1.mono hU.below (Nat.le_refl _)) hn hr)
      have HU := Lib.hid (And.intro hU (And.intro hin hbs))
      clear hU hin hbs
      go_wp2_with fail
      refine (FR.out).mono ?_
      rintro e w4 ⟨g, vs, rfl, hF⟩
      have hU4 : Ust w nx A Bs w.heap.size bS v F St w4 := by
        have hb4 := hF.below
        have k4 : Keeps (fun j => wr.heap.size ≤ j) wr w4 := ⟨hb4.os, hb4.tape, hb4.output, hb4.size, fun j hj _ => hb4.block j hj⟩
        have hU := (HU.out).1
        exact ⟨k4.own hU.out (fun j hj e => by have := (hU.out.lt j hj).2; omega), hU.stk.keeps k4 (by omega) (fun j hj e => by have := (hU.stk.row.lt j hj).2; omega), hU.below.trans (hb4.mono hU.below.size), hU.marked, hU.sound⟩
      have hG4 : Gap w4 nx wr.heap.size g vs v := ⟨hF.grid, fun j hj hg => by
        have := (hF.grid.in_lt j hg).1
        have := ((HU.out).1.stk.row.lt j hj).2
        omega⟩
      have hsh : ShutU nx A F St := fun t ht hn2 => absurd ((HU.out).2.1 t ht) hn2
      have HD := Lib.hid (And.intro hU4 (And.intro hG4 hsh))
      clear hU4 hG4 hsh hF FR
      obtain ⟨B1, hB1⟩ : ∃ B1, wr.heap.size = B1 := ⟨_, rfl⟩
      rw [hB1] at HD hbx hgF
      go_wp2_with fail
      go_loopg [11, 12, 14, 46] (3 * nx.length) (fun gk _ _ _ _ wr2 => ∃ (v : Value) (F : List Bool) (St : List Int), Ust w nx A Bs w.heap.size bS v F St wr2 ∧ Gap wr2 nx B1 g vs v ∧ ShutU nx A F St ∧ (∀ i, i < nx.length → Lb.inB Bs i = true → Lb.inB F i = true) ∧ 2 * (nx.length - Lb.cntT F) + St.length ≤ gk ∧ 2 * (nx.length - Lb.cntT F) + St.length ≤ 3 * nx.length)
      case atStart => exact ⟨v, F, St, (HD.out).1, (HD.out).2.1, (HD.out).2.2, (HU.out).2.2, by omega, by omega⟩
      case round =>
        obtain ⟨v, F, St, hU, hG, hsh, hbs, hgk, hSl⟩ := hrel
        have hFl := hU.flen
        rcases List.eq_nil_or_concat St with rfl | ⟨S2, x, rfl⟩
        · have hend := shutU_end hsh hbs hFl hU.sound
          have HE := Lib.hid (And.intro hend hU)
          have PN := Lib.hid (pop_none _ _ _ _ hU.stk)
          clear hend hU hG hsh hbs
          go_wp2_with fail
          refine (PN.out).mono ?_
          rintro e w5 ⟨rfl, rfl⟩
          go_wp2_with fail
          go_ret
          exact ⟨_, F, rfl, (HE.out).1, by rw [hFl]; exact (HE.out).2.out, (HE.out).2.below⟩
        · rw [List.concat_eq_append] at hU hsh hgk hSl
          simp only [List.length_append, List.length_singleton] at hgk hSl
          obtain ⟨hx0, hx1, hFx⟩ := hU.marked x (by simp)
          have PS := Lib.hid (pop_some _ _ _ S2 x _ hU.stk (by omega))
          have hbxl := hU.stk.box.lt
          have HU5 := Lib.hid (And.intro hU (And.intro hG (And.intro hsh (And.intro hbs hFx))))
          clear hU hG hsh hbs hFx
          go_wp2_with fail
          refine (PS.out).mono ?_
          rintro e w5 ⟨rfl, v5, hs5, hk5, hv5⟩
          have hU6 : Ust w nx A Bs w.heap.size bS v5 F S2 w5 := by
            have hU := (HU5.out).1
            exact ⟨hk5.own hU.out (fun j hj e => lie_apart hU.stk.box hU.out (by decide) bS rfl (by rw [← e]; exact hj)), hs5, hU.below.trans (hk5.below (fun j e => by have := hU.stk.box.lt; omega) hU.below.size), fun y hy => hU.marked y (List.mem_append.2 (Or.inl hy)), hU.sound⟩
          have hG6 := (HU5.out).2.1.pop hbx.2 hk5 hv5
          obtain ⟨xv, r, hvx, hrx, hcx, hox⟩ := hG6.grid.cell x.toNat (by omega)
          have hrx2 := Lb.rowsF_at nx.length (Lb.fr nx nx.length) x.toNat (by omega)
          rw [hrx] at hrx2
          have hre : r = (Lb.fr nx nx.length x.toNat).map (Value.int .i64) := Option.some.inj hrx2
          obtain ⟨xa, xc, hxe⟩ := own_len hox
          subst hxe
          have hrl : r.length ≤ 1000000 := by
            rw [hre, List.length_map]
            have := Lb.fr_len nx 1000 hr x.toNat nx.length
            have : nx.length * 1000 ≤ 1000000 := by omega
            omega
          have HX := Lib.hid (And.intro hvx (And.intro hrx hre))
          have H6 := Lib.hid (And.intro hU6 (And.intro hG6 (shutU_pop (HU5.out).2.2.1 hx0)))
          clear hvx hrx hrx2 hre hox hU6 hG6 hs5 hk5 hv5
          go_wp2_with fail
          go_loopw [14, 46] (fun _ v46 wn => ∃ (j : Nat) (v : Value) (F : List Bool) (St : List Int), j ≤ r.length ∧ v46 = .int .i64 j ∧ Ust w nx A Bs w.heap.size bS v F St wn ∧ Gap wn nx B1 g vs v ∧ ShutUBut nx A F St x.toNat j ∧ (∀ i, i < nx.length → Lb.inB Bs i = true → Lb.inB F i = true) ∧ Lb.inB F x.toNat = true ∧ 2 * (nx.length - Lb.cntT F) + St.length < gk ∧ 2 * (nx.length - Lb.cntT F) + St.length ≤ 3 * nx.length) (fun _ v46 _ => r.length - (intOf v46).toNat)
          case atStart => exact ⟨0, _, F, S2, by omega, rfl, (H6.out).1, (H6.out).2.1, (H6.out).2.2, (HU5.out).2.2.2.1, (HU5.out).2.2.2.2, by omega, by omega⟩
          case round =>
            obtain ⟨j, v7, F7, S7, hj, rfl, hU7, hG7, hsb, hbs7, hFx7, hlt7, hle7⟩ := hrel
            have hFl7 := hU7.flen
            have hcount7 := Lb.cntT_le F7
            by_cases hjl : j < r.length
            · have hor := hG7.grid.row x.toNat _ r (HX.out).1 (HX.out).2.1
              obtain ⟨g7, c7, hv7, _, hc7, hcm7, hgs7⟩ := own_some hor (by omega)
              simp only [Value.slice.injEq] at hv7
              obtain ⟨rfl, _, rfl⟩ := hv7
              have hcy := hor.cellAt j (by omega)
              have hre := (HX.out).2.2
              have hkl : j < (Lb.fr nx nx.length x.toNat).length := by rw [hre, List.length_map] at hjl; exact hjl
              rw [hre, List.getElem?_map, List.getElem?_eq_getElem hkl] at hcy
              have hmem : (Lb.fr nx nx.length x.toNat)[j] ∈ Lb.fr nx nx.length x.toNat := List.getElem_mem hkl
              have htk : (Lb.fr nx nx.length x.toNat).take (j + 1) = (Lb.fr nx nx.length x.toNat).take j ++ [(Lb.fr nx nx.length x.toNat)[j]] := List.take_succ_eq_append_getElem hkl
              obtain ⟨yy, hyy, hyl, hyx⟩ := Lb.fr_mem hmem
              rw [hyy] at hcy htk
              simp only [Option.map_some] at hcy
              have hfz := hU7.out.frozenAt yy
              have hgF7 := (hU7.out.lt w.heap.size rfl).2
              have hcu := bool_cell hU7.out yy hyl
              have INA := Lib.hid (in_any a2 c2 A yy wr ((HL.out).2.1.mono hU7.below (Nat.le_refl _)) (by omega))
              have MK := Lib.hid (hU7.mark yy)
              have H7 := Lib.hid (And.intro hU7 (And.intro hG7 (And.intro hsb (And.intro hbs7 hFx7))))
              have HT := Lib.hid (And.intro htk hyx)
              clear hU7 hG7 hsb hbs7 hFx7 hor hre hmem htk hyx hyy hkl
              by_cases hA1 : Lb.inB A yy = true
              · have HA1 := Lib.hid hA1
                clear hA1
                cases hF1 : Lb.inB F7 yy with
                | true =>
                  rw [hF1] at hcu
                  have HF1 := Lib.hid hF1
                  clear hF1
                  go_wp2_with fail
                  refine (INA.out).mono ?_
                  rintro e w8 ⟨rfl, rfl⟩
                  rw [Int.toNat_natCast, HA1.out]
                  go_wp2_with fail
                  go_roundw
                  case rel => exact ⟨j + 1, v7, F7, S7, by omega, by go_num, (H7.out).1, (H7.out).2.1, shutU_old (H7.out).2.2.1 yy (HT.out).1 (fun _ => HF1.out), (H7.out).2.2.2.1, (H7.out).2.2.2.2, hlt7, hle7⟩
                  case measure => simp [intOf]; omega
                | false =>
                  rw [hF1] at hcu
                  have hcs := Lb.cntT_set F7 yy (by omega) hF1
                  have HF1 := Lib.hid hF1
                  clear hF1
                  go_wp2_with fail
                  refine (INA.out).mono ?_
                  rintro e w8 ⟨rfl, rfl⟩
                  rw [Int.toNat_natCast, HA1.out]
                  go_wp2_with fail
                  refine (push_any w.heap.size bS v7 S7 yy _ MK.out (by omega)).mono ?_
                  intro e w9 hp
                  obtain ⟨⟨rr, rfl⟩, v', hU', hk', hb'⟩ := (H7.out).1.push yy hyl (Lb.EU.step yy x.toNat hyl HA1.out ⟨by omega, (HT.out).2⟩ ((H7.out).1.sound _ (H7.out).2.2.2.2)) hp
                  have hG' := (H7.out).2.1.push (by omega) hbx.2 hk' hb'
                  have HU' := Lib.hid (And.intro hU' hG')
                  clear hU' hp hk' hb' hG'
                  go_wp2_with fail
                  go_roundw
                  case rel =>
                    refine ⟨j + 1, v', F7.set yy true, S7 ++ [(yy : Int)], by omega, by go_num, (HU'.out).1, (HU'.out).2, shutU_new (H7.out).2.2.1 yy (HT.out).1 (by omega), fun i hi hbi => ?_, ?_, ?_, ?_⟩
                    · rw [inB_set _ _ _ _ (by omega)]
                      split
                      · rfl
                      · exact (H7.out).2.2.2.1 i hi hbi
                    · rw [inB_set _ _ _ _ (by omega)]
                      split
                      · rfl
                      · exact (H7.out).2.2.2.2
                    · rw [hcs.1]; simp; omega
                    · rw [hcs.1]; simp; omega
                  case measure => simp [intOf]; omega
              · have hf : Lb.inB A yy = false := by simpa using hA1
                have HA1 := Lib.hid (And.intro hf hA1)
                clear hA1 hf
                go_wp2_with fail
                refine (INA.out).mono ?_
                rintro e w8 ⟨rfl, rfl⟩
                rw [Int.toNat_natCast, (HA1.out).1]
                go_wp2_with fail
                go_roundw
                case rel => exact ⟨j + 1, v7, F7, S7, by omega, by go_num, (H7.out).1, (H7.out).2.1, shutU_old (H7.out).2.2.1 yy (HT.out).1 (fun h => absurd h (HA1.out).2), (H7.out).2.2.2.1, (H7.out).2.2.2.2, hlt7, hle7⟩
                case measure => simp [intOf]; omega
            · have hkl : (Lb.fr nx nx.length x.toNat).length ≤ j := by have := (HX.out).2.2; rw [this, List.length_map] at hjl; omega
              have H7 := Lib.hid (And.intro hU7 (And.intro hG7 (And.intro (shutU_done hsb hkl) hbs7)))
              clear hU7 hG7 hsb hbs7
              go_wp2_with fail
              go_roundg (2 * (nx.length - Lb.cntT F7) + S7.length)
              case measure => exact hlt7
              case rel => exact ⟨v7, F7, S7, (H7.out).1, (H7.out).2.1, (H7.out).2.2.1, (H7.out).2.2.2, Nat.le_refl _, hle7⟩
end Go.Proofs.Ytlmecpghlgndnaa
