/-
  The kids of a part, and the document's Kids.
-/
import Derived.Test.YtbplkphjjfgkmaaDoorBfTr
namespace Go.Proofs.YtbplkphjjfgkmaaDoor
open Go.RowKit
set_option linter.unusedVariables false
set_option linter.unusedSimpArgs false

/-- Of which a part is put. -/
def kidsOf (l : List It) (e : Int) : List Int :=
  if fm l = true ∧ 0 ≤ e ∧ e < (l.length : Int) then (if Tr.ar ((opsOf l).getD e.toNat 0) = 0 then [] else if Tr.ar ((opsOf l).getD e.toNat 0) = 1 then [e - 1] else [Tr.bw (opsOf l) e.toNat 1 - 1, e - 1]) else []
theorem kids_leaf {l : List It} (hf : fm l = true) {j a : Nat} (hj : j < l.length) (h : partAt l j = .leaf a) : kidsOf l j = [] := by
  obtain ⟨s, hsp⟩ := part_span hf hj
  rw [h] at hsp
  generalize hp : Tr.Pt.leaf a = p at hsp
  cases hsp with
  | leaf i h1 h2 => unfold kidsOf; rw [if_pos ⟨hf, by omega, by omega⟩, Int.toNat_natCast, if_pos h2]
  | one => cases hp
  | two => cases hp
theorem kids_one {l : List It} (hf : fm l = true) {j a : Nat} {k : Tr.Pt} (hj : j < l.length) (h : partAt l j = .one k a) : kidsOf l j = [(k.end_ : Int)] := by
  obtain ⟨s, hsp⟩ := part_span hf hj
  rw [h] at hsp
  generalize hp : Tr.Pt.one k a = p at hsp
  cases hsp with
  | leaf => cases hp
  | one s e k' h1 h2 h3 =>
    injection hp with hp1 hp2
    subst hp1
    unfold kidsOf
    rw [if_pos ⟨hf, by omega, by omega⟩, Int.toNat_natCast, if_neg (by omega), if_pos h2, h3.le.2.2.1]
    congr 1
    omega
  | two => cases hp
theorem kids_two {l : List It} (hf : fm l = true) {j a : Nat} {k1 k2 : Tr.Pt} (hj : j < l.length) (h : partAt l j = .two k1 k2 a) : kidsOf l j = [(k1.end_ : Int), (k2.end_ : Int)] := by
  obtain ⟨s, hsp⟩ := part_span hf hj
  rw [h] at hsp
  generalize hp : Tr.Pt.two k1 k2 a = p at hsp
  cases hsp with
  | leaf => cases hp
  | one => cases hp
  | two s m e k1' k2' h1 h2 h3 h4 =>
    injection hp with hp1 hp2 hp3
    subst hp1 hp2
    unfold kidsOf
    rw [if_pos ⟨hf, by omega, by omega⟩, Int.toNat_natCast, if_neg (by omega), if_neg (by omega), h4.begin, h3.le.2.2.1, h4.le.2.2.1]
    congr 1
    · omega
    · congr 1; omega
def IntsAns (R : List Int) (w : World) (e : Ending) (w' : World) : Prop :=
  ∃ x, e = .returned x ∧ w'.ownsRow w.heap.size 3 1 x R.length (R.map (Value.int .i64)) ∧ Below w.heap.size w w'
theorem ints_nil {w w' : World} (h : Below w.heap.size w w') : IntsAns [] w (.returned (.slice none 0 0)) w' := ⟨_, rfl, World.ownsRow_nil _ _ _ _, h⟩
theorem own_new (w : World) (B : Nat) (xs : List Value) (e : TypeId) (hB : B ≤ w.heap.size) (hm : xs.length ≤ maxLen) : (w.alloc (.cells xs.toArray e)).ownsRow B e 1 (.slice (some ⟨w.heap.size, 0, none⟩) xs.length xs.length) xs.length xs := by
  refine ⟨by simp, Or.inr ⟨w.heap.size, xs.length, xs.toArray, rfl, hB, ?_, Nat.le_refl _, hm, by simp, by simp⟩⟩
  have := heap_alloc_new w (.cells xs.toArray e)
  simpa using this
def Tr.kidsP : Tr.Pt → List Tr.Pt
  | .leaf _ => []
  | .one k _ => [k]
  | .two a b _ => [a, b]
theorem kidsOf_parts {l : List It} (hf : fm l = true) {j : Nat} (hj : j < l.length) : kidsOf l j = (Tr.kidsP (partAt l j)).map (fun p => (p.end_ : Int)) := by
  cases hp : partAt l j with
  | leaf a => rw [kids_leaf hf hj hp]; rfl
  | one k a => rw [kids_one hf hj hp]; rfl
  | two a b i => rw [kids_two hf hj hp]; rfl
theorem Tr.Span.uniq {l : List Int} {s e : Nat} {p : Tr.Pt} (h : Tr.Span l s e p) : ∀ {s' : Nat} {q : Tr.Pt}, Tr.Span l s' e q → q = p := by
  induction h with
  | leaf i h1 h2 =>
    intro s' q hq
    cases hq with
    | leaf => rfl
    | one => omega
    | two => omega
  | one s e k h1 h2 h3 ih =>
    intro s' q hq
    cases hq with
    | leaf => omega
    | one s2 e2 k2 g1 g2 g3 => rw [ih g3]
    | two => omega
  | two s m e a b h1 h2 h3 h4 ih1 ih2 =>
    intro s' q hq
    cases hq with
    | leaf => omega
    | one => omega
    | two s2 m2 e2 a2 b2 g1 g2 g3 g4 =>
      have hb := ih2 g4
      subst hb
      have hm : m2 = m := by have := g4.begin; have := h4.begin; omega
      subst hm
      rw [ih1 g3]
theorem part_eq {l : List It} (hf : fm l = true) {s e : Nat} {p : Tr.Pt} (h : Tr.Span (opsOf l) s e p) : partAt l e = p := by
  have he : e < l.length := by have := h.le.2.1; rw [opsOf_len] at this; exact this
  obtain ⟨s', h'⟩ := part_span hf he
  exact h.uniq h'
set_option maxHeartbeats 1000000 in
theorem rkids_any (a : Option Addr) (c : Nat) (l : List It) (e : Nat) (w : World) (hl : RdI w a l) (hf : fm l = true) (he : e < l.length) :
    Calls Tryd.prog 144 #[.slice a l.length c, .int .i64 e] w (IntsAns (kidsOf l e) w) := by
  have hu : ∀ b : Bool, ¬ (some undef = some (Value.bool b)) := fun b h => by cases h
  obtain ⟨h1, h2, _⟩ := fm_yes hf
  obtain ⟨s, hsp⟩ := part_span hf he
  have BG := Lib.hid (rbegin_any a c l e w hl h2 (by omega))
  have AR := Lib.hid (rarity_any l[e].op w)
  unfold ArAns at AR
  obtain ⟨b, off, ha, hrg⟩ := hl.at (by omega)
  subst ha
  have hop := RdI.op (hrg e he)
  have hK : kidsOf l e = if Tr.ar l[e].op = 0 then [] else if Tr.ar l[e].op = 1 then [(e : Int) - 1] else [Tr.bw (opsOf l) e 1 - 1, (e : Int) - 1] := by
    unfold kidsOf
    rw [if_pos ⟨hf, by omega, by omega⟩, Int.toNat_natCast, opsOf_at he]
  have h01 : Tr.ar l[e].op = 0 ∨ Tr.ar l[e].op = 1 ∨ (Tr.ar l[e].op = 2 ∧ 0 ≤ Tr.bw (opsOf l) e 1 ∧ Tr.bw (opsOf l) e 1 ≤ 64) := by
    rw [← opsOf_at he]
    generalize partAt l e = pp at hsp
    cases hsp with
    | leaf i g1 g2 => exact Or.inl g2
    | one s2 e2 k2 g1 g2 g3 => exact Or.inr (Or.inl g2)
    | two s2 m2 e2 a2 b2 g1 g2 g3 g4 =>
      refine Or.inr (Or.inr ⟨g2, ?_⟩)
      rw [g4.begin]
      have := g4.le
      rw [opsOf_len] at this
      omega
  rw [hK]
  clear hK hsp hrg hl hf
  generalize l[e].op = op at *
  generalize Tr.bw (opsOf l) e 1 = R at *
  obtain ⟨n, hn⟩ : ∃ n, Tr.ar op = n := ⟨_, rfl⟩
  rw [hn] at AR h01 ⊢
  clear hn
  rcases h01 with rfl | rfl | ⟨rfl, hR0, hR1⟩
  · rw [if_pos rfl]
    go_enter Tryd.func144, Tryd.ntmps144
    go_wp2_with (go_at_call 178; refine AR.out.mono ?_; rintro e w2 ⟨rfl, rfl⟩)
    go_ret
    exact ints_nil (Below.refl _ _)
  · rw [if_neg (by decide), if_pos rfl]
    go_enter Tryd.func144, Tryd.ntmps144
    go_wp2_with (go_at_call 178; refine AR.out.mono ?_; rintro e w2 ⟨rfl, rfl⟩)
    go_ret
    exact ⟨_, rfl, own_new w w.heap.size [.int .i64 ((e : Int) - 1)] 3 (Nat.le_refl _) (by simp [maxLen]), below_new w _⟩
  · rw [if_neg (by decide), if_neg (by decide)]
    go_enter Tryd.func144, Tryd.ntmps144
    go_wp2_with (first | (go_at_call 178; refine AR.out.mono ?_; rintro e w2 ⟨rfl, rfl⟩) | (go_at_call 143; refine BG.out.mono ?_; rintro e w2 ⟨rfl, rfl⟩))
    go_ret
    exact ⟨_, rfl, own_new w w.heap.size [.int .i64 (R - 1), .int .i64 ((e : Int) - 1)] 3 (Nat.le_refl _) (by simp [maxLen]), below_new w _⟩
end Go.Proofs.YtbplkphjjfgkmaaDoor
