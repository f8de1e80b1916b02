/-
  tree.grow: by a walk.
-/
import Derived.Test.YtbplkphjjfgkmaaDoorBfJoin
namespace Go.Proofs.YtbplkphjjfgkmaaDoor
open Go.RowKit
set_option linter.unusedVariables false
set_option linter.unusedSimpArgs false

theorem lie_ne {w : World} {B : Nat} {e : TypeId} {v : Value} {n size : Nat} {xs : List Value} (h : w.ownsRow B e size v n xs) {k : Nat} {cs : Array Value} {t : TypeId} {fz : Nat × Nat} (hk : w.heap[k]? = some (.cells cs t fz)) (hne : e ≠ t) : v.ownBlock ≠ some k := by
  intro hv
  rcases h.2 with ⟨rfl, _⟩ | ⟨g, cap, cur, rfl, _, hg, _⟩
  · cases hv
  · simp [Value.ownBlock] at hv
    subst hv
    rw [hk] at hg
    simp at hg
    exact hne hg.2.1.symm
theorem row_cut {w : World} {B g n cap size : Nat} {e : TypeId} {xs : List Value} (h : w.ownsRow B e size (.slice (some ⟨g, 0, none⟩) n cap) n xs) (m : Nat) (hm : m ≤ n) : w.ownsRow B e size (.slice (some ⟨g, 0, none⟩) m cap) m (xs.take (m * size)) := by
  obtain ⟨h1, h2⟩ := h
  have hle : m * size ≤ n * size := Nat.mul_le_mul_right _ hm
  refine ⟨by simp; omega, Or.inr ?_⟩
  rcases h2 with ⟨h3, _⟩ | ⟨g', cap', cur, h3, hb, hg, hn, hc, hs, ht⟩
  · simp at h3
  · simp only [Value.slice.injEq, Option.some.injEq, Addr.mk.injEq, and_true, true_and] at h3
    obtain ⟨rfl, rfl⟩ := h3
    refine ⟨g, cap, cur, rfl, hb, hg, by omega, hc, hs, ?_⟩
    rw [← ht, List.take_take]
    congr 1
    omega
theorem own_below {w w' : World} {B n size : Nat} {e : TypeId} {v : Value} {xs : List Value} (h : w.ownsRow B e size v n xs) (hb : Below w.heap.size w w') : w'.ownsRow B e size v n xs := by
  have k : Keeps (fun j => w.heap.size ≤ j) w w' := ⟨hb.os, hb.tape, hb.output, hb.size, fun j hj _ => hb.block j hj⟩
  exact k.own h (fun j hj e => by have := (h.lt j hj).2; omega)
theorem infoPart : (Tryd.prog.info? 187).map (fun i => (i.zero, i.size, i.bytes)) = some (some .nilIface, 1, 16) := by kernel_rfl
theorem sizeItem : (Tryd.prog.info? 54).map (·.size) = some 9 := by kernel_rfl
def opsOf (l : List It) : List Int := l.map (·.op)
theorem opsOf_len (l : List It) : (opsOf l).length = l.length := by unfold opsOf; simp
theorem opsOf_at {l : List It} {i : Nat} (h : i < l.length) : (opsOf l).getD i 0 = l[i].op := by
  unfold opsOf
  rw [List.getD_eq_getElem?_getD, List.getElem?_map, List.getElem?_eq_getElem h]; rfl
theorem below_dn {B : Nat} {a w : World} (h : Below B a w) (n : Nat) : Below B a (w.drewN n) := ⟨h.os, h.tape, h.output, h.size, h.block⟩
theorem encP_one (p : Tr.Pt) : (encP p).oneCell' = true := by cases p <;> rfl
theorem iface_one (t : TypeId) (v : Value) : (Value.iface t v).oneCell' = true := rfl
theorem own_cell1 {w : World} {B g n cap : Nat} {e : TypeId} {xs : List Value} (h : w.ownsRow B e 1 (.slice (some ⟨g, 0, none⟩) n cap) n xs) (i : Nat) (u : Value) (hu : xs[i]? = some u) : w.cell? ⟨g, i, none⟩ = some u := by
  have hl := h.1
  have hi := (List.getElem?_eq_some_iff.1 hu).1
  rw [h.cellAt i (by omega), hu]
theorem okF_none {l : List Int} {i : Nat} (h : Tr.run l (i + 1) = none) (hi : i < l.length) : Tr.okF l = false := by
  cases hk : Tr.okF l with
  | false => rfl
  | true =>
    obtain ⟨p, ps', h2, _⟩ := Tr.okF_yes hk
    rw [Tr.run_none h l.length (by omega)] at h2; cases h2
def GrowAns (l : List It) (w : World) (e : Ending) (w' : World) : Prop :=
  (l.length = 0 ∧ e = .returned (.tuple #[.slice none 0 0, .int .i64 12]) ∧ Below w.heap.size w w') ∨
  (64 < l.length ∧ e = .returned (.tuple #[.slice none 0 0, .int .i64 3]) ∧ Below w.heap.size w w') ∨
  (0 < l.length ∧ l.length ≤ 64 ∧ Tr.okF (opsOf l) = false ∧ e = .returned (.tuple #[.slice none 0 0, .int .i64 17]) ∧ Below w.heap.size w w') ∨
  (0 < l.length ∧ l.length ≤ 64 ∧ Tr.okF (opsOf l) = true ∧ ∃ x p ps, e = .returned (.tuple #[x, .int .i64 0]) ∧ Tr.run (opsOf l) l.length = some ([p], ps) ∧ w'.ownsRow w.heap.size 187 1 x l.length (ps.map encP) ∧ Below w.heap.size w w')
/-- While it grows: the row, the parts. -/
structure Gr (w : World) (v4 v5 : Value) (r ps : List Tr.Pt) (wr : World) : Prop where
  row : wr.ownsRow w.heap.size 187 1 v5 r.length (r.map encP)
  parts : wr.ownsRow w.heap.size 187 1 v4 ps.length (ps.map encP)
  apart : ∀ j, v4.ownBlock = some j → v5.ownBlock ≠ some j
  below : Below w.heap.size w wr
section
variable {w wr w2 : World} {v4 v5 : Value} {r ps : List Tr.Pt}
theorem Gr.later (h : Gr w v4 v5 r ps wr) (hb : Below wr.heap.size wr w2) : Gr w v4 v5 r ps w2 :=
  ⟨own_below h.row hb, own_below h.parts hb, h.apart, h.below.trans (hb.mono h.below.size)⟩
/-- The row is cut, and one put behind it; and it is put behind the parts. -/
theorem Gr.push {w3 : World} {m g5 cap5 g4 cap4 : Nat} {v5' : Value} {p : Tr.Pt} {r' : List Tr.Pt} (h : Gr w v4 v5 r ps wr) (hv : ∀ j, v5'.ownBlock = some j → v5.ownBlock = some j) (hr' : r'.length = m)
    (own5 : w2.ownsRow w.heap.size 187 1 (.slice (some ⟨g5, 0, none⟩) (m + 1) cap5) (m + 1) (r'.map encP ++ [encP p])) (k5 : Keeps (fun j => v5'.ownBlock = some j) wr w2) (l5 : v5'.ownBlock = some g5 ∨ wr.heap.size ≤ g5) :
    w2.ownsRow w.heap.size 187 1 v4 ps.length (ps.map encP) ∧ Below w.heap.size w w2 ∧
    (w3.ownsRow w.heap.size 187 1 (.slice (some ⟨g4, 0, none⟩) (ps.length + 1) cap4) (ps.length + 1) (ps.map encP ++ [encP p]) → Keeps (fun j => v4.ownBlock = some j) w2 w3 → (v4.ownBlock = some g4 ∨ w2.heap.size ≤ g4) →
      Gr w (.slice (some ⟨g4, 0, none⟩) (ps.length + 1) cap4) (.slice (some ⟨g5, 0, none⟩) (m + 1) cap5) (r' ++ [p]) (ps ++ [p]) w3) := by
  have h1 : w2.ownsRow w.heap.size 187 1 v4 ps.length (ps.map encP) := k5.own h.parts (fun j hj e => h.apart j hj (hv j e))
  have h2 : Below w.heap.size w w2 := h.below.trans (k5.below (fun j e => (h.row.lt j (hv j e)).1) h.below.size)
  have hap : ∀ j, v4.ownBlock = some j → g5 ≠ j := fun j hj e => by
    rcases l5 with h3 | h3
    · exact h.apart j hj (hv j (by rw [h3, e]))
    · have := (h.parts.lt j hj).2; omega
  refine ⟨h1, h2, fun own4 k4 l4 => ⟨?_, ?_, fun j hj e => ?_, h2.trans (k4.below (fun j e => (h1.lt j e).1) h2.size)⟩⟩
  · rw [List.length_append, List.map_append, List.length_singleton, hr']
    exact k4.own own5 (fun j hj e => hap j e (Option.some.inj hj))
  · rw [List.length_append, List.map_append, List.length_singleton]; exact own4
  · have h4 : g4 = j := Option.some.inj hj
    have h5 : g5 = j := Option.some.inj e
    rcases l4 with h6 | h6
    · exact hap g4 h6 (by omega)
    · have := (own5.lt g5 rfl).2; omega
end
set_option maxRecDepth 100000 in
set_option maxHeartbeats 1500000 in
theorem grow_any (a : Option Addr) (c : Nat) (l : List It) (w : World) (hl : RdI w a l) (hm : l.length ≤ maxLen) :
    Calls Tryd.prog 76 #[.slice a l.length c] w (GrowAns l w) := by
  have hu : ∀ b : Bool, ¬ (some undef = some (Value.bool b)) := fun b h => by cases h
  have hm2 : l.length ≤ 9223372036854775807 := by unfold maxLen at hm; omega
  by_cases h0 : l.length = 0
  · have HA : Hid (GrowAns l w (.returned (.tuple #[.slice none 0 0, .int .i64 12])) w) := Lib.hid (Or.inl ⟨h0, rfl, Below.refl _ _⟩)
    rw [h0]
    clear hl hm hm2
    go_enter Tryd.func76, Tryd.ntmps76
    go_wp2_with fail
    go_ret2
    exact HA.out
  · have hne : ((l.length : Int) == 0) = false := by rw [beq_eq_false_iff_ne]; omega
    have hpos : 0 < l.length := by omega
    by_cases h64 : 64 < l.length
    · have HA : Hid (GrowAns l w (.returned (.tuple #[.slice none 0 0, .int .i64 3])) w) := Lib.hid (Or.inr (Or.inl ⟨h64, rfl, Below.refl _ _⟩))
      clear hl hm h0
      go_enter Tryd.func76, Tryd.ntmps76
      go_wp2_with fail
      go_ret2
      exact HA.out
    · have HBAD : Hid (∀ w', Tr.okF (opsOf l) = false → Below w.heap.size w w' → GrowAns l w (.returned (.tuple #[.slice none 0 0, .int .i64 17])) w') := Lib.hid (fun w' h hb => Or.inr (Or.inr (Or.inl ⟨by omega, by omega, h, rfl, hb⟩)))
      have HOK : Hid (∀ w' x p ps, Tr.run (opsOf l) l.length = some ([p], ps) → w'.ownsRow w.heap.size 187 1 x l.length (ps.map encP) → Below w.heap.size w w' → GrowAns l w (.returned (.tuple #[x, .int .i64 0])) w') := Lib.hid (fun w' x p ps h hO hb => Or.inr (Or.inr (Or.inr ⟨by omega, by omega, Tr.okF_of (by rw [opsOf_len]; exact h), x, p, ps, rfl, h, hO, hb⟩)))
      obtain ⟨b, off, ha, hrg⟩ := hl.at hpos
      subst ha
      have HR := Lib.hid hrg
      clear hl hm h0 hrg
      go_enter Tryd.func76, Tryd.ntmps76
      go_wp2_with fail
      go_loopw [4, 5, 18] (fun v4 v5 v18 wr => ∃ (i : Nat) (r ps : List Tr.Pt), v18 = .int .i64 i ∧ i ≤ l.length ∧ Tr.run (opsOf l) i = some (r, ps) ∧ Gr w v4 v5 r ps wr ∧ (r = [] → v5 = .slice none 0 0)) (fun _ _ v18 _ => l.length - (intOf v18).toNat)
      case atStart => exact ⟨0, [], [], rfl, by omega, rfl, ⟨World.ownsRow_nil _ _ _ _, World.ownsRow_nil _ _ _ _, fun j e => by simp [Value.ownBlock] at e, Below.refl _ _⟩, fun _ => rfl⟩
      case round =>
        obtain ⟨i, r, ps, rfl, hi, hrun, hgr, hnil⟩ := hrel
        have hran := Tr.ran i r ps (by rw [opsOf_len]; exact hi) hrun
        have HPL := Lib.hid hran.plen
        have hpl64 : ps.length ≤ 64 := by have := hran.plen; omega
        have hrl := hran.rows.le.1
        by_cases hlt : i < l.length
        · have HG := Lib.hid (And.intro hgr (And.intro hrun hran))
          have hrc := HR.out i hlt
          have hrw : wr.rangeAt b (off + i * 9) l[i].cells := fun j v hv => by
            have h1 := hrc j v hv
            exact (hgr.below.cell (p := ⟨b, off + i * 9 + j, none⟩) (lt_of_cell h1)).trans h1
          have hop : (opsOf l).getD i 0 = l[i].op := opsOf_at hlt
          have hab := Tr.ar_bd l[i].op
          have HOP := Lib.hid hop
          have AR := Lib.hid (arity_any l[i].op)
          clear hgr hrun hran hrc hop
          generalize l[i] = x at *
          have hrw2 : wr.rangeAt b (off + i * 9) [.int .i64 x.op, .string x.ln, .int .i64 x.lv, .string x.rn, .int .i64 x.rv, .string x.nm, .string x.us, .int .i64 x.line, .int .i64 x.col] := hrw
          clear hrw
          by_cases hneg : Tr.ar x.op < 0
          · have AR2 : Hid (∀ w, Calls Tryd.prog 77 #[.int .i64 x.op] w fun e w' => e = .returned (.int .i64 (-1)) ∧ w = w') := Lib.hid (fun w => by
              have := AR.out w
              unfold ArAns at this
              rw [show Tr.ar x.op = -1 by omega] at this
              exact this)
            have HNO := Lib.hid (okF_none (l := opsOf l) (i := i) (by rw [Tr.run_succ (HG.out).2.1, Tr.stp_bad (by rw [HOP.out]; exact hneg)]) (by rw [opsOf_len]; exact hlt))
            clear hneg AR
            go_wp2_with (first | (refine wpList_load_mid rfl 54 (.tmp 21) rfl b (off + i * 9) rfl _ _ hrw2 Tryd.underlying54 rfl sizeItem ?_) | (go_at_call 77; refine (AR2.out _).mono ?_; rintro e w2 ⟨rfl, rfl⟩))
            go_ret2
            exact HBAD.out _ HNO.out ((HG.out).1.below.trans ((below_new wr _).mono (HG.out).1.below.size))
          · have arw : ∀ n : Int, Tr.ar x.op = n → Hid (∀ w, Calls Tryd.prog 77 #[.int .i64 x.op] w fun e w' => e = .returned (.int .i64 n) ∧ w = w') := fun n hn => Lib.hid (fun w => by
              have := AR.out w
              unfold ArAns at this
              rw [hn] at this
              exact this)
            have HARW := Lib.hid arw
            have HFEW : Hid ((r.length : Int) < Tr.ar x.op → Tr.okF (opsOf l) = false) := Lib.hid (fun h => okF_none (l := opsOf l) (i := i) (by rw [Tr.run_succ (HG.out).2.1, Tr.stp_few (by rw [HOP.out]; exact h)]) (by rw [opsOf_len]; exact hlt))
            clear arw AR
            by_cases n0 : Tr.ar x.op = 0
            · have AR2 := HARW.out 0 n0
              have HN0 := Lib.hid n0
              obtain ⟨tp, vp, hP⟩ := encP_form (.leaf i)
              have bn : Below w.heap.size w (wr.alloc (.cells #[.int .i64 x.op, .string x.ln, .int .i64 x.lv, .string x.rn, .int .i64 x.rv, .string x.nm, .string x.us, .int .i64 x.line, .int .i64 x.col] 54)) := (HG.out).1.below.trans ((below_new wr _).mono (HG.out).1.below.size)
              have JN0 : Hid (∀ (a : Option Addr) (c : Nat) (W : World), Calls Tryd.prog 140 #[.slice a 0 c, .int .i64 i] W fun e w' => e = .returned (.iface tp vp) ∧ W = w') := Lib.hid (fun a c W => by
                rw [← hP]
                exact join0_any a c i W)
              have HPP := Lib.hid hP
              by_cases hr0 : r.length = 0
              · have hre : r = [] := List.eq_nil_of_length_eq_zero hr0
                have hv5 := hnil hre
                subst hv5
                have HC := Lib.hid (World.ownsRow_nil wr w.heap.size 187 1)
                have HRE := Lib.hid hre
                clear hnil hrl n0 hr0 hre hP
                go_wp2_with (first | (refine wpList_load_mid rfl 54 (.tmp 21) rfl b (off + i * 9) rfl _ _ hrw2 Tryd.underlying54 rfl sizeItem ?_) | (go_at_call 77; refine (AR2.out _).mono ?_; rintro e w2 ⟨rfl, rfl⟩))
                have JN := Lib.hid (JN0.out none 0 (wr.alloc (.cells #[.int .i64 x.op, .string x.ln, .int .i64 x.lv, .string x.rn, .int .i64 x.rv, .string x.nm, .string x.us, .int .i64 x.line, .int .i64 x.col] 54)))
                clear JN0
                refine JN.out.mono ?_
                rintro e w2 ⟨rfl, rfl⟩
                have HG1 := Lib.hid ((HG.out).1.later (below_new wr (.cells #[.int .i64 x.op, .string x.ln, .int .i64 x.lv, .string x.rn, .int .i64 x.rv, .string x.nm, .string x.us, .int .i64 x.line, .int .i64 x.col] 54)))
                have HC1 := Lib.hid (own_below HC.out (below_new wr (.cells #[.int .i64 x.op, .string x.ln, .int .i64 x.lv, .string x.rn, .int .i64 x.rv, .string x.nm, .string x.us, .int .i64 x.line, .int .i64 x.col] 54)))
                have hsz1 := bn.size
                obtain ⟨a4, c4, hv4⟩ := own_len (HG.out).1.parts
                subst hv4
                clear bn JN
                generalize wr.alloc (.cells #[.int .i64 x.op, .string x.ln, .int .i64 x.lv, .string x.rn, .int .i64 x.rv, .string x.nm, .string x.us, .int .i64 x.line, .int .i64 x.col] 54) = W0 at *
                skip
                go_wp2_with (first
                  | (at_builtin; refine append_at (v := .slice none 0 0) rfl (.tmp 47) (.tmp 49) 117 rfl 187 .nilIface 1 16 Tryd.underlying117 infoPart rfl (by decide) rfl HC1.out hsz1 [.iface tp vp] rfl (by simp [Value.oneCell']) rfl rfl (by decide) (by omega) ?_; intro g6 cap6 w6 own6 keep6 where6; rw [← HPP.out] at own6; have PU := Lib.hid (fun g4 cap4 w3 => (HG1.out).push (w3 := w3) (g4 := g4) (cap4 := cap4) (r' := []) (fun j e => by cases e) rfl own6 keep6 where6); have hsz6 := (PU.out 0 0 wr).2.1.size; clear own6 keep6 where6)
                  | (at_builtin; refine append_at (v := .slice a4 ps.length c4) rfl (.tmp 51) (.tmp 53) 117 rfl 187 .nilIface 1 16 Tryd.underlying117 infoPart rfl (by decide) rfl (PU.out 0 0 wr).1 hsz6 [.iface tp vp] rfl (by simp [Value.oneCell']) rfl rfl (by decide) (by omega) ?_; intro g4 cap4 w7 own7 keep7 where7; rw [← HPP.out] at own7; have H7 := Lib.hid ((PU.out g4 cap4 w7).2.2 own7 keep7 where7); clear own7 keep7 where7))
                go_roundw
                case rel => exact ⟨i + 1, [] ++ [.leaf i], ps ++ [.leaf i], by go_num, by omega, by rw [Tr.run_succ (HG.out).2.1, Tr.stp_leaf (by rw [HOP.out]; exact HN0.out), HRE.out], H7.out, fun h => by simp at h⟩
                case measure => simp [intOf] <;> omega
              · have hrow := (HG.out).1.row
                obtain ⟨g5, c5, hv5, hg5, hc5, hcm5, hgl5⟩ := own_some hrow (by omega)
                subst hv5
                have HC := Lib.hid hrow
                have hr64 : r.length ≤ 64 := by omega
                clear hnil hrl n0 hr0 hP hrow
                by_cases hcc : c5 = r.length
                · subst hcc
                  go_wp2_with (first | (refine wpList_load_mid rfl 54 (.tmp 21) rfl b (off + i * 9) rfl _ _ hrw2 Tryd.underlying54 rfl sizeItem ?_) | (go_at_call 77; refine (AR2.out _).mono ?_; rintro e w2 ⟨rfl, rfl⟩))
                  have JN := Lib.hid (JN0.out (some ⟨g5, 0, none⟩) 0 (wr.alloc (.cells #[.int .i64 x.op, .string x.ln, .int .i64 x.lv, .string x.rn, .int .i64 x.rv, .string x.nm, .string x.us, .int .i64 x.line, .int .i64 x.col] 54)))
                  clear JN0
                  refine JN.out.mono ?_
                  rintro e w2 ⟨rfl, rfl⟩
                  have HG1 := Lib.hid ((HG.out).1.later (below_new wr (.cells #[.int .i64 x.op, .string x.ln, .int .i64 x.lv, .string x.rn, .int .i64 x.rv, .string x.nm, .string x.us, .int .i64 x.line, .int .i64 x.col] 54)))
                  have HC1 := Lib.hid (own_below HC.out (below_new wr (.cells #[.int .i64 x.op, .string x.ln, .int .i64 x.lv, .string x.rn, .int .i64 x.rv, .string x.nm, .string x.us, .int .i64 x.line, .int .i64 x.col] 54)))
                  have hsz1 := bn.size
                  obtain ⟨a4, c4, hv4⟩ := own_len (HG.out).1.parts
                  subst hv4
                  clear bn JN
                  generalize wr.alloc (.cells #[.int .i64 x.op, .string x.ln, .int .i64 x.lv, .string x.rn, .int .i64 x.rv, .string x.nm, .string x.us, .int .i64 x.line, .int .i64 x.col] 54) = W0 at *
                  skip
                  go_wp2_with (first
                    | (at_builtin; refine append_at (v := .slice (some ⟨g5, 0, none⟩) r.length r.length) rfl (.tmp 47) (.tmp 49) 117 rfl 187 .nilIface 1 16 Tryd.underlying117 infoPart rfl (by decide) rfl HC1.out hsz1 [.iface tp vp] rfl (by simp [Value.oneCell']) rfl rfl (by decide) (by omega) ?_; intro g6 cap6 w6 own6 keep6 where6; rw [← HPP.out] at own6; have PU := Lib.hid (fun g4 cap4 w3 => (HG1.out).push (w3 := w3) (g4 := g4) (cap4 := cap4) (r' := r) (fun j e => e) rfl own6 keep6 where6); have hsz6 := (PU.out 0 0 wr).2.1.size; clear own6 keep6 where6)
                    | (at_builtin; refine append_at (v := .slice a4 ps.length c4) rfl (.tmp 51) (.tmp 53) 117 rfl 187 .nilIface 1 16 Tryd.underlying117 infoPart rfl (by decide) rfl (PU.out 0 0 wr).1 hsz6 [.iface tp vp] rfl (by simp [Value.oneCell']) rfl rfl (by decide) (by omega) ?_; intro g4 cap4 w7 own7 keep7 where7; rw [← HPP.out] at own7; have H7 := Lib.hid ((PU.out g4 cap4 w7).2.2 own7 keep7 where7); clear own7 keep7 where7))
                  go_roundw
                  case rel => exact ⟨i + 1, r ++ [.leaf i], ps ++ [.leaf i], by go_num, by omega, by rw [Tr.run_succ (HG.out).2.1, Tr.stp_leaf (by rw [HOP.out]; exact HN0.out)], H7.out, fun h => by simp at h⟩
                  case measure => simp [intOf] <;> omega
                · go_wp2_with (first | (refine wpList_load_mid rfl 54 (.tmp 21) rfl b (off + i * 9) rfl _ _ hrw2 Tryd.underlying54 rfl sizeItem ?_) | (go_at_call 77; refine (AR2.out _).mono ?_; rintro e w2 ⟨rfl, rfl⟩))
                  have JN := Lib.hid (JN0.out (some ⟨g5, r.length, none⟩) (c5 - r.length) (wr.alloc (.cells #[.int .i64 x.op, .string x.ln, .int .i64 x.lv, .string x.rn, .int .i64 x.rv, .string x.nm, .string x.us, .int .i64 x.line, .int .i64 x.col] 54)))
                  clear JN0
                  refine JN.out.mono ?_
                  rintro e w2 ⟨rfl, rfl⟩
                  have HG1 := Lib.hid ((HG.out).1.later (below_new wr (.cells #[.int .i64 x.op, .string x.ln, .int .i64 x.lv, .string x.rn, .int .i64 x.rv, .string x.nm, .string x.us, .int .i64 x.line, .int .i64 x.col] 54)))
                  have HC1 := Lib.hid (own_below HC.out (below_new wr (.cells #[.int .i64 x.op, .string x.ln, .int .i64 x.lv, .string x.rn, .int .i64 x.rv, .string x.nm, .string x.us, .int .i64 x.line, .int .i64 x.col] 54)))
                  have hsz1 := bn.size
                  obtain ⟨a4, c4, hv4⟩ := own_len (HG.out).1.parts
                  subst hv4
                  clear bn JN
                  generalize wr.alloc (.cells #[.int .i64 x.op, .string x.ln, .int .i64 x.lv, .string x.rn, .int .i64 x.rv, .string x.nm, .string x.us, .int .i64 x.line, .int .i64 x.col] 54) = W0 at *
                  skip
                  go_wp2_with (first
                    | (at_builtin; refine append_at (v := .slice (some ⟨g5, 0, none⟩) r.length c5) rfl (.tmp 47) (.tmp 49) 117 rfl 187 .nilIface 1 16 Tryd.underlying117 infoPart rfl (by decide) rfl HC1.out hsz1 [.iface tp vp] rfl (by simp [Value.oneCell']) rfl rfl (by decide) (by omega) ?_; intro g6 cap6 w6 own6 keep6 where6; rw [← HPP.out] at own6; have PU := Lib.hid (fun g4 cap4 w3 => (HG1.out).push (w3 := w3) (g4 := g4) (cap4 := cap4) (r' := r) (fun j e => e) rfl own6 keep6 where6); have hsz6 := (PU.out 0 0 wr).2.1.size; clear own6 keep6 where6)
                    | (at_builtin; refine append_at (v := .slice a4 ps.length c4) rfl (.tmp 51) (.tmp 53) 117 rfl 187 .nilIface 1 16 Tryd.underlying117 infoPart rfl (by decide) rfl (PU.out 0 0 wr).1 hsz6 [.iface tp vp] rfl (by simp [Value.oneCell']) rfl rfl (by decide) (by omega) ?_; intro g4 cap4 w7 own7 keep7 where7; rw [← HPP.out] at own7; have H7 := Lib.hid ((PU.out g4 cap4 w7).2.2 own7 keep7 where7); clear own7 keep7 where7))
                  go_roundw
                  case rel => exact ⟨i + 1, r ++ [.leaf i], ps ++ [.leaf i], by go_num, by omega, by rw [Tr.run_succ (HG.out).2.1, Tr.stp_leaf (by rw [HOP.out]; exact HN0.out)], H7.out, fun h => by simp at h⟩
                  case measure => simp [intOf] <;> omega
            · by_cases n1 : Tr.ar x.op = 1
              · have AR2 := HARW.out 1 n1
                have HN1 := Lib.hid n1
                by_cases hr0 : r.length = 0
                · have HNO := Lib.hid (HFEW.out (by omega))
                  have hre : r = [] := List.eq_nil_of_length_eq_zero (by omega)
                  have hv5 := hnil hre
                  subst hv5
                  clear hnil hrl n0 n1 hre
                  go_wp2_with (first | (refine wpList_load_mid rfl 54 (.tmp 21) rfl b (off + i * 9) rfl _ _ hrw2 Tryd.underlying54 rfl sizeItem ?_) | (go_at_call 77; refine (AR2.out _).mono ?_; rintro e w2 ⟨rfl, rfl⟩))
                  go_ret2
                  exact HBAD.out _ HNO.out ((HG.out).1.below.trans ((below_new wr _).mono (HG.out).1.below.size))
                · obtain ⟨r', k, hr, hm⟩ := Tr.snoc_of (r := r) (n := r.length - 1) (by omega)
                  have hrow := (HG.out).1.row
                  rw [hr, List.length_append, List.length_singleton, List.map_append, List.map_singleton] at hrow
                  obtain ⟨g5, c5, hv5, hg5, hc5, hcm5, hgl5⟩ := own_some hrow (by omega)
                  subst hv5
                  obtain ⟨t, v, hK⟩ := encP_form k
                  have hck := own_cell1 hrow r'.length (.iface t v) (by rw [List.getElem?_append_right (by simp)]; simp [hK])
                  have hcut := row_cut hrow r'.length (by omega)
                  rw [Nat.mul_one, List.take_left' (by simp)] at hcut
                  obtain ⟨tp, vp, hP⟩ := encP_form (.one k i)
                  have bn : Below w.heap.size w (wr.alloc (.cells #[.int .i64 x.op, .string x.ln, .int .i64 x.lv, .string x.rn, .int .i64 x.rv, .string x.nm, .string x.us, .int .i64 x.line, .int .i64 x.col] 54)) := (HG.out).1.below.trans ((below_new wr _).mono (HG.out).1.below.size)
                  have JN : Hid (Calls Tryd.prog 140 #[.slice (some ⟨g5, r'.length, none⟩) 1 (c5 - r'.length), .int .i64 i] (wr.alloc (.cells #[.int .i64 x.op, .string x.ln, .int .i64 x.lv, .string x.rn, .int .i64 x.rv, .string x.nm, .string x.us, .int .i64 x.line, .int .i64 x.col] 54)) fun e w' => e = .returned (.iface tp vp) ∧ wr.alloc (.cells #[.int .i64 x.op, .string x.ln, .int .i64 x.lv, .string x.rn, .int .i64 x.rv, .string x.nm, .string x.us, .int .i64 x.line, .int .i64 x.col] 54) = w') := Lib.hid (by
                    rw [← hP]
                    exact join1_any g5 r'.length _ t v k hK i _ (((below_new wr _).cell (p := ⟨g5, r'.length, none⟩) (by simpa using hgl5)).trans hck))
                  have HC := Lib.hid hcut
                  have HPP := Lib.hid hP
                  have HR2 := Lib.hid hr
                  have hm64 : r'.length ≤ 64 := by omega
                  have hcne : ¬ c5 = r'.length := by omega
                  clear hnil hck hcut hrow hK hP n0 n1 hr hm hr0 hrl
                  go_wp2_with (first | (refine wpList_load_mid rfl 54 (.tmp 21) rfl b (off + i * 9) rfl _ _ hrw2 Tryd.underlying54 rfl sizeItem ?_) | (go_at_call 77; refine (AR2.out _).mono ?_; rintro e w2 ⟨rfl, rfl⟩))
                  refine JN.out.mono ?_
                  rintro e w2 ⟨rfl, rfl⟩
                  have HG1 := Lib.hid ((HG.out).1.later (below_new wr (.cells #[.int .i64 x.op, .string x.ln, .int .i64 x.lv, .string x.rn, .int .i64 x.rv, .string x.nm, .string x.us, .int .i64 x.line, .int .i64 x.col] 54)))
                  have HC1 := Lib.hid (own_below HC.out (below_new wr (.cells #[.int .i64 x.op, .string x.ln, .int .i64 x.lv, .string x.rn, .int .i64 x.rv, .string x.nm, .string x.us, .int .i64 x.line, .int .i64 x.col] 54)))
                  have hsz1 := bn.size
                  obtain ⟨a4, c4, hv4⟩ := own_len (HG.out).1.parts
                  subst hv4
                  clear bn JN
                  generalize wr.alloc (.cells #[.int .i64 x.op, .string x.ln, .int .i64 x.lv, .string x.rn, .int .i64 x.rv, .string x.nm, .string x.us, .int .i64 x.line, .int .i64 x.col] 54) = W1 at *
                  go_wp2_with (first
                    | (at_builtin; refine append_at (v := .slice (some ⟨g5, 0, none⟩) r'.length c5) rfl (.tmp 47) (.tmp 49) 117 rfl 187 .nilIface 1 16 Tryd.underlying117 infoPart rfl (by decide) rfl HC1.out hsz1 [.iface tp vp] rfl (by simp [Value.oneCell']) rfl rfl (by decide) (by omega) ?_; intro g6 cap6 w6 own6 keep6 where6; rw [← HPP.out] at own6; have PU := Lib.hid (fun g4 cap4 w3 => (HG1.out).push (w3 := w3) (g4 := g4) (cap4 := cap4) (fun j e => e) rfl own6 keep6 where6); have hsz6 := (PU.out 0 0 wr).2.1.size; clear own6 keep6 where6)
                    | (at_builtin; refine append_at (v := .slice a4 ps.length c4) rfl (.tmp 51) (.tmp 53) 117 rfl 187 .nilIface 1 16 Tryd.underlying117 infoPart rfl (by decide) rfl (PU.out 0 0 wr).1 hsz6 [.iface tp vp] rfl (by simp [Value.oneCell']) rfl rfl (by decide) (by omega) ?_; intro g4 cap4 w7 own7 keep7 where7; rw [← HPP.out] at own7; have H7 := Lib.hid ((PU.out g4 cap4 w7).2.2 own7 keep7 where7); clear own7 keep7 where7))
                  go_roundw
                  case rel => exact ⟨i + 1, r' ++ [.one k i], ps ++ [.one k i], by go_num, by omega, by rw [Tr.run_succ (HG.out).2.1, HR2.out, Tr.stp_one (by rw [HOP.out]; exact HN1.out)], H7.out, fun h => by simp at h⟩
                  case measure => simp [intOf] <;> omega
              · have n2 : Tr.ar x.op = 2 := by omega
                have AR2 := HARW.out 2 n2
                have HN2 := Lib.hid n2
                by_cases hr0 : r.length = 0
                · have HNO := Lib.hid (HFEW.out (by omega))
                  have hre : r = [] := List.eq_nil_of_length_eq_zero (by omega)
                  have hv5 := hnil hre
                  subst hv5
                  clear hnil hrl n0 n1 hre
                  go_wp2_with (first | (refine wpList_load_mid rfl 54 (.tmp 21) rfl b (off + i * 9) rfl _ _ hrw2 Tryd.underlying54 rfl sizeItem ?_) | (go_at_call 77; refine (AR2.out _).mono ?_; rintro e w2 ⟨rfl, rfl⟩))
                  go_ret2
                  exact HBAD.out _ HNO.out ((HG.out).1.below.trans ((below_new wr _).mono (HG.out).1.below.size))
                · by_cases hr1 : r.length = 1
                  · have HNO := Lib.hid (HFEW.out (by omega))
                    obtain ⟨a5, c5, hv5⟩ := own_len (HG.out).1.row
                    rw [hr1] at hv5
                    subst hv5
                    clear hnil hrl n0 n1 hr0 hr1
                    go_wp2_with (first | (refine wpList_load_mid rfl 54 (.tmp 21) rfl b (off + i * 9) rfl _ _ hrw2 Tryd.underlying54 rfl sizeItem ?_) | (go_at_call 77; refine (AR2.out _).mono ?_; rintro e w2 ⟨rfl, rfl⟩))
                    go_ret2
                    exact HBAD.out _ HNO.out ((HG.out).1.below.trans ((below_new wr _).mono (HG.out).1.below.size))
                  · obtain ⟨r', k1, k2, hr, hm⟩ := Tr.snoc2_of (r := r) (n := r.length - 2) (by omega)
                    have hrow := (HG.out).1.row
                    rw [hr, List.length_append, show ([k1, k2] : List Tr.Pt).length = 2 by rfl, List.map_append, show [k1, k2].map encP = [encP k1, encP k2] by rfl] at hrow
                    obtain ⟨g5, c5, hv5, hg5, hc5, hcm5, hgl5⟩ := own_some hrow (by omega)
                    subst hv5
                    obtain ⟨t, v, hK⟩ := encP_form k1
                    obtain ⟨t', v', hK'⟩ := encP_form k2
                    have hck := own_cell1 hrow r'.length (.iface t v) (by rw [List.getElem?_append_right (by simp)]; simp [hK])
                    have hck' := own_cell1 hrow (r'.length + 1) (.iface t' v') (by rw [List.getElem?_append_right (by simp)]; simp [hK'])
                    have hcut := row_cut hrow r'.length (by omega)
                    rw [Nat.mul_one, List.take_left' (by simp)] at hcut
                    obtain ⟨tp, vp, hP⟩ := encP_form (.two k1 k2 i)
                    have bn : Below w.heap.size w (wr.alloc (.cells #[.int .i64 x.op, .string x.ln, .int .i64 x.lv, .string x.rn, .int .i64 x.rv, .string x.nm, .string x.us, .int .i64 x.line, .int .i64 x.col] 54)) := (HG.out).1.below.trans ((below_new wr _).mono (HG.out).1.below.size)
                    have JN : Hid (Calls Tryd.prog 140 #[.slice (some ⟨g5, r'.length, none⟩) 2 (c5 - r'.length), .int .i64 i] (wr.alloc (.cells #[.int .i64 x.op, .string x.ln, .int .i64 x.lv, .string x.rn, .int .i64 x.rv, .string x.nm, .string x.us, .int .i64 x.line, .int .i64 x.col] 54)) fun e w' => e = .returned (.iface tp vp) ∧ ∃ n, w' = (wr.alloc (.cells #[.int .i64 x.op, .string x.ln, .int .i64 x.lv, .string x.rn, .int .i64 x.rv, .string x.nm, .string x.us, .int .i64 x.line, .int .i64 x.col] 54)).drewN n) := Lib.hid (by
                      rw [← hP]
                      exact join2_any g5 r'.length _ t t' v v' k1 k2 hK hK' i _ (((below_new wr _).cell (p := ⟨g5, r'.length, none⟩) (by simpa using hgl5)).trans hck) (((below_new wr _).cell (p := ⟨g5, r'.length + 1, none⟩) (by simpa using hgl5)).trans hck'))
                    have HC := Lib.hid hcut
                    have HPP := Lib.hid hP
                    have HR2 := Lib.hid hr
                    have hm64 : r'.length ≤ 64 := by omega
                    have hcne : ¬ c5 = r'.length := by omega
                    clear hnil hck hck' hcut hrow hK hK' hP n0 n1 hr hm hr0 hr1 hrl
                    go_wp2_with (first | (refine wpList_load_mid rfl 54 (.tmp 21) rfl b (off + i * 9) rfl _ _ hrw2 Tryd.underlying54 rfl sizeItem ?_) | (go_at_call 77; refine (AR2.out _).mono ?_; rintro e w2 ⟨rfl, rfl⟩))
                    refine JN.out.mono ?_
                    rintro e w2 ⟨rfl, n, rfl⟩
                    have HG1 := Lib.hid ((HG.out).1.later (below_new wr (.cells #[.int .i64 x.op, .string x.ln, .int .i64 x.lv, .string x.rn, .int .i64 x.rv, .string x.nm, .string x.us, .int .i64 x.line, .int .i64 x.col] 54)))
                    have HC1 := Lib.hid (own_below HC.out (below_new wr (.cells #[.int .i64 x.op, .string x.ln, .int .i64 x.lv, .string x.rn, .int .i64 x.rv, .string x.nm, .string x.us, .int .i64 x.line, .int .i64 x.col] 54)))
                    have hsz1 := bn.size
                    obtain ⟨a4, c4, hv4⟩ := own_len (HG.out).1.parts
                    subst hv4
                    clear bn JN
                    generalize wr.alloc (.cells #[.int .i64 x.op, .string x.ln, .int .i64 x.lv, .string x.rn, .int .i64 x.rv, .string x.nm, .string x.us, .int .i64 x.line, .int .i64 x.col] 54) = W0 at *
                    have HG1 := Lib.hid (HG1.out.later (below_dn (Below.refl _ _) n))
                    have HC1 := Lib.hid (own_below HC1.out (below_dn (Below.refl W0.heap.size W0) n))
                    have hsz1 : w.heap.size ≤ (W0.drewN n).heap.size := hsz1
                    generalize W0.drewN n = W1 at *
                    go_wp2_with (first
                      | (at_builtin; refine append_at (v := .slice (some ⟨g5, 0, none⟩) r'.length c5) rfl (.tmp 47) (.tmp 49) 117 rfl 187 .nilIface 1 16 Tryd.underlying117 infoPart rfl (by decide) rfl HC1.out hsz1 [.iface tp vp] rfl (by simp [Value.oneCell']) rfl rfl (by decide) (by omega) ?_; intro g6 cap6 w6 own6 keep6 where6; rw [← HPP.out] at own6; have PU := Lib.hid (fun g4 cap4 w3 => (HG1.out).push (w3 := w3) (g4 := g4) (cap4 := cap4) (r' := r') (fun j e => e) rfl own6 keep6 where6); have hsz6 := (PU.out 0 0 wr).2.1.size; clear own6 keep6 where6)
                      | (at_builtin; refine append_at (v := .slice a4 ps.length c4) rfl (.tmp 51) (.tmp 53) 117 rfl 187 .nilIface 1 16 Tryd.underlying117 infoPart rfl (by decide) rfl (PU.out 0 0 wr).1 hsz6 [.iface tp vp] rfl (by simp [Value.oneCell']) rfl rfl (by decide) (by omega) ?_; intro g4 cap4 w7 own7 keep7 where7; rw [← HPP.out] at own7; have H7 := Lib.hid ((PU.out g4 cap4 w7).2.2 own7 keep7 where7); clear own7 keep7 where7))
                    go_roundw
                    case rel => exact ⟨i + 1, r' ++ [.two k1 k2 i], ps ++ [.two k1 k2 i], by go_num, by omega, by rw [Tr.run_succ (HG.out).2.1, HR2.out, Tr.stp_two (by rw [HOP.out]; exact HN2.out)], H7.out, fun h => by simp at h⟩
                    case measure => simp [intOf] <;> omega
        · have hie : i = l.length := by omega
          subst hie
          have HG := Lib.hid (And.intro hgr hrun)
          obtain ⟨a5, c5, hv5⟩ := own_len hgr.row
          subst hv5
          clear hgr hnil
          by_cases h1 : r.length = 1
          · have hr1 : ((r.length : Int) != 1) = false := by rw [h1]; rfl
            obtain ⟨r', p, hr', hr2⟩ := Tr.snoc_of (r := r) (n := 0) h1
            have hr3 : r' = [] := List.eq_nil_of_length_eq_zero hr2
            have HP : Hid (r = [p]) := Lib.hid (by rw [hr', hr3]; rfl)
            clear hr' hr2 hr3 h1 hran hrun
            go_wp2_with fail
            go_ret2
            have h2 := (HG.out).2
            rw [HP.out] at h2
            refine HOK.out _ _ p ps h2 ?_ (HG.out).1.below
            have h3 := (HG.out).1.parts
            rw [HPL.out] at h3
            exact h3
          · have hr1 : ((r.length : Int) != 1) = true := by rw [bne_iff_ne]; omega
            have hno : Tr.okF (opsOf l) = false := by
              cases hk : Tr.okF (opsOf l) with
              | false => rfl
              | true =>
                obtain ⟨p, ps', h2, _⟩ := Tr.okF_yes hk
                rw [opsOf_len, hrun] at h2
                simp only [Option.some.injEq, Prod.mk.injEq] at h2
                exact absurd (by rw [h2.1]; rfl) h1
            have HNO := Lib.hid hno
            clear hno h1 hran hrun
            go_wp2_with fail
            go_ret2
            exact HBAD.out _ HNO.out (HG.out).1.below
end Go.Proofs.YtbplkphjjfgkmaaDoor
