/-
  The search by rows, in plain words.
-/
import Derived.Test.YtlmecpghlgndnaaPathPlain
namespace Go.Proofs.Ytlmecpghlgndnaa
open Go.RowKit
set_option linter.unusedVariables false
set_option linter.unusedSimpArgs false

namespace Pa
open Lb
theorem fnd_lt {H : Hw} {p : Nat} (h : fnd H p = true) : p < H.length := by
  unfold fnd at h
  rcases Nat.lt_or_ge p H.length with h1 | h1
  · exact h1
  · rw [List.getD_eq_getElem?_getD, List.getElem?_eq_none h1] at h; cases h
structure Sr (nx : List (List Int)) (B : List Bool) (f : Nat → Int) (D : Int) (d : Nat) (H : Hw) (R Bh : List Int) : Prop where
  len : H.length = nx.length
  inR : ∀ x ∈ R, ∃ p : Nat, x = (p : Int) ∧ p < nx.length ∧ fnd H p = true ∧ (0 ≤ f p → D ≤ f p + d)
  inBh : ∀ x ∈ Bh, ∃ p : Nat, x = (p : Int) ∧ p < nx.length ∧ fnd H p = true
  fd : ∀ p, fnd H p = true → Lb.inB B p = false ∧ (0 ≤ f p → 0 ≤ D ∧ D ≤ f p + d + 1 ∧ ((p : Int) ∉ Bh → D ≤ f p + d))
  dd : 0 ≤ D → (d : Int) < D
def Mid (nx : List (List Int)) (f : Nat → Int) (G : List Int) (D : Int) (d : Nat) (H : Hw) (R Bh : List Int) (j : Nat) : Prop :=
  0 ≤ D → ∃ m : Nat, D = (d : Int) + (m + 1 : Nat) ∧ ((Bad f Bh m ∧ Good nx f G H (R.drop j) (m + 1)) ∨ Good nx f G H Bh m)
structure At (nx : List (List Int)) (A : List Bool) (f : Nat → Int) (D : Int) (d : Nat) (H : Hw) (p : Nat) : Prop where
  lt : p < nx.length
  fnd : fnd H p = true
  thr : inB A p = true
  far : 0 ≤ f p → D ≤ f p + d
def Inn (nx : List (List Int)) (f : Nat → Int) (G : List Int) (D : Int) (d : Nat) (H : Hw) (R Bh : List Int) (j p k : Nat) : Prop :=
  0 ≤ D → ∃ m : Nat, D = (d : Int) + (m + 1 : Nat) ∧ ((Bad f Bh m ∧ f p ≠ ((m + 1 : Nat) : Int) ∧ Good nx f G H (R.drop (j + 1)) (m + 1)) ∨
    (Bad f Bh m ∧ f p = ((m + 1 : Nat) : Int) ∧ (∃ w, Chain H p w ∧ G = w ++ gw nx f (m + 1) p) ∧ ∀ i, i < k → ∀ x : Nat, (row nx p).getD i 0 = (x : Int) → x < nx.length → f x ≠ (m : Int)) ∨ Good nx f G H Bh m)
section
variable {nx : List (List Int)} {A B : List Bool} {f : Nat → Int} {G : List Int} {D : Int} {d : Nat} {H : Hw} {R Bh : List Int}
theorem sr_start (hd : Dst nx A B f) {f0 : Nat} (h0 : f0 < nx.length) (hB : inB B f0 = false) :
    Sr nx B f (f f0) 0 ((List.replicate nx.length (false, (0 : Int), (0 : Int))).set f0 (true, -1, 0)) [(f0 : Int)] [] ∧
    Mid nx f (gw nx f (f f0).toNat f0) (f f0) 0 ((List.replicate nx.length (false, (0 : Int), (0 : Int))).set f0 (true, -1, 0)) [(f0 : Int)] [] 0 := by
  have hl : f0 < (List.replicate nx.length (false, (0 : Int), (0 : Int))).length := by simpa using h0
  have hf : ∀ p, fnd ((List.replicate nx.length (false, (0 : Int), (0 : Int))).set f0 (true, -1, 0)) p = true → p = f0 := fun p h => by
    rw [fnd_set hl] at h
    split at h
    · assumption
    · unfold fnd at h
      rw [List.getD_eq_getElem?_getD, List.getElem?_replicate] at h
      split at h <;> simp at h
  have hf0 : fnd ((List.replicate nx.length (false, (0 : Int), (0 : Int))).set f0 (true, -1, 0)) f0 = true := by rw [fnd_set hl, if_pos rfl]
  have hne : f f0 ≠ 0 := fun e => by rw [(hd.zero f0 h0).1 e] at hB; cases hB
  refine ⟨⟨by simp, fun x hx => ?_, fun x hx => by simp at hx, fun p hp => ?_, fun h => by omega⟩, fun h => ?_⟩
  · rw [List.mem_singleton.1 hx]
    exact ⟨f0, rfl, h0, hf0, fun _ => by omega⟩
  · have := hf p hp
    subst this
    exact ⟨hB, fun h => ⟨h, by omega, fun _ => by omega⟩⟩
  · refine ⟨(f f0).toNat - 1, by omega, Or.inl ⟨fun x hx => by simp at hx, [], [], [], f0, rfl, by omega, fun x hx => by simp at hx, ?_, ?_⟩⟩
    · exact .start f0 (-1) 0 (by simpa using h0) (by rw [getD_set _ _ _ _ _ hl, if_pos rfl]) (by omega)
    · rw [show (f f0).toNat - 1 + 1 = (f f0).toNat by omega]; rfl
theorem mid_skip (hd : Dst nx A B f) {j p : Nat} (hj : j < R.length) (hp : R.getD j 0 = (p : Int)) (hA : inB A p = false) (h : Mid nx f G D d H R Bh j) : Mid nx f G D d H R Bh (j + 1) := fun h0 => by
  obtain ⟨m, h1, h2⟩ := h h0
  refine ⟨m, h1, h2.imp (fun h3 => ⟨h3.1, ?_⟩) id⟩
  have h4 := h3.2
  rw [List.drop_eq_getElem_cons hj] at h4
  have h5 : R[j] = (p : Int) := by rw [← hp, List.getD_eq_getElem?_getD, List.getElem?_eq_getElem hj]; rfl
  rw [h5] at h4
  exact h4.tail (fun e => by rw [(hd.step p m e).1] at hA; cases hA)
theorem mid_enter {j p : Nat} (hj : j < R.length) (hp : R.getD j 0 = (p : Int)) (h : Mid nx f G D d H R Bh j) : Inn nx f G D d H R Bh j p 0 := fun h0 => by
  obtain ⟨m, h1, h2⟩ := h h0
  refine ⟨m, h1, ?_⟩
  rcases h2 with ⟨h2, h4⟩ | h2
  · rw [List.drop_eq_getElem_cons hj] at h4
    have h5 : R[j] = (p : Int) := by rw [← hp, List.getD_eq_getElem?_getD, List.getElem?_eq_getElem hj]; rfl
    rw [h5] at h4
    by_cases e : f p = ((m + 1 : Nat) : Int)
    · exact Or.inr (Or.inl ⟨h2, e, h4.head e, fun i hi => by omega⟩)
    · exact Or.inl ⟨h2, e, h4.tail e⟩
  · exact Or.inr (Or.inr h2)
theorem inn_leave (hd : Dst nx A B f) {j p k : Nat} (hk : (row nx p).length ≤ k) (h : Inn nx f G D d H R Bh j p k) : Mid nx f G D d H R Bh (j + 1) := fun h0 => by
  obtain ⟨m, h1, h2⟩ := h h0
  refine ⟨m, h1, ?_⟩
  rcases h2 with h2 | ⟨_, h3, _, h4⟩ | h2
  · exact Or.inl ⟨h2.1, h2.2.2⟩
  · exfalso
    obtain ⟨_, x, hx, h5⟩ := hd.step p m h3
    obtain ⟨i, hi, h6⟩ := List.mem_iff_getElem.1 hx.2
    exact h4 i (by omega) x (by rw [List.getD_eq_getElem?_getD, List.getElem?_eq_getElem hi, h6]; rfl) hx.1 h5
  · exact Or.inr h2
/-- An edge that leads to no place, or to one that was found. -/
theorem inn_skip (hs : Sr nx B f D d H R Bh) {j p k : Nat} (h : Inn nx f G D d H R Bh j p k)
    (hx : ∀ x : Nat, (row nx p).getD k 0 = (x : Int) → x < nx.length → fnd H x = true) : Inn nx f G D d H R Bh j p (k + 1) := fun h0 => by
  obtain ⟨m, h1, h2⟩ := h h0
  refine ⟨m, h1, ?_⟩
  rcases h2 with h2 | ⟨h2, h3, h5, h4⟩ | h2
  · exact Or.inl h2
  · refine Or.inr (Or.inl ⟨h2, h3, h5, fun i hi x hxi hxl => ?_⟩)
    by_cases e : i = k
    · subst e
      intro e2
      have h6 := (hs.fd x (hx x hxi hxl)).2 (by omega)
      by_cases e3 : (x : Int) ∈ Bh
      · exact h2 _ e3 (by rw [Int.toNat_natCast]; exact e2)
      · have := h6.2.2 e3; omega
    · exact h4 i (by omega) x hxi hxl
  · exact Or.inr (Or.inr h2)
/-- A new place, not one in which the way may end. -/
theorem sr_add (hd : Dst nx A B f) (hs : Sr nx B f D d H R Bh) {j p k x : Nat} (ha : At nx A f D d H p) (hk : k < (row nx p).length) (h : Inn nx f G D d H R Bh j p k)
    (hx : (row nx p).getD k 0 = (x : Int)) (hxl : x < nx.length) (hn : fnd H x = false) (hB : inB B x = false) :
    Sr nx B f D d (H.set x (true, (p : Int), (k : Int))) R (Bh ++ [(x : Int)]) ∧ Inn nx f G D d (H.set x (true, (p : Int), (k : Int))) R (Bh ++ [(x : Int)]) j p (k + 1) ∧ At nx A f D d (H.set x (true, (p : Int), (k : Int))) p := by
  have hl : x < H.length := by rw [hs.len]; exact hxl
  have hf : ∀ q, fnd (H.set x (true, (p : Int), (k : Int))) q = if q = x then true else fnd H q := fun q => fnd_set hl
  have hE : E nx p x := ⟨hxl, by rw [← hx, List.getD_eq_getElem?_getD, List.getElem?_eq_getElem hk]; exact List.getElem_mem hk⟩
  have htri : 0 ≤ f x → 0 ≤ f p ∧ f p ≤ f x + 1 := hd.tri p x ha.thr hE
  have hxp : x ≠ p := fun e => by subst e; rw [ha.fnd] at hn; cases hn
  have hchain : (row nx p).getD k 0 = (x : Int) := hx
  refine ⟨⟨by simpa using hs.len, fun y hy => ?_, fun y hy => ?_, fun q hq => ?_, hs.dd⟩, fun h0 => ?_, ⟨ha.lt, by rw [hf]; split; rfl; exact ha.fnd, ha.thr, ha.far⟩⟩
  · obtain ⟨q, h1, h2, h3, h4⟩ := hs.inR y hy
    exact ⟨q, h1, h2, by rw [hf]; split; rfl; exact h3, h4⟩
  · rcases List.mem_append.1 hy with h1 | h1
    · obtain ⟨q, h1, h2, h3⟩ := hs.inBh y h1
      exact ⟨q, h1, h2, by rw [hf]; split; rfl; exact h3⟩
    · exact ⟨x, List.mem_singleton.1 h1, hxl, by rw [hf, if_pos rfl]⟩
  · by_cases e : q = x
    · subst e
      refine ⟨hB, fun h0 => ?_⟩
      have h1 := htri h0
      have h2 := ha.far h1.1
      have h3 := ((hs.fd p ha.fnd).2 h1.1).1
      exact ⟨h3, by omega, fun h4 => absurd (by simp) h4⟩
    · rw [hf, if_neg e] at hq
      have h1 := hs.fd q hq
      refine ⟨h1.1, fun h0 => ?_⟩
      have h2 := h1.2 h0
      exact ⟨h2.1, h2.2.1, fun h3 => h2.2.2 (fun h4 => h3 (List.mem_append.2 (Or.inl h4)))⟩
  · obtain ⟨m, h1, h2⟩ := h h0
    refine ⟨m, h1, ?_⟩
    have hbad : Bad f Bh m → f x ≠ (m : Int) → Bad f (Bh ++ [(x : Int)]) m := fun h3 h4 y hy => by
      rcases List.mem_append.1 hy with h5 | h5
      · exact h3 y h5
      · rw [List.mem_singleton.1 h5, Int.toNat_natCast]; exact h4
    rcases h2 with ⟨h2, h3, h4⟩ | ⟨h2, h3, h5, h4⟩ | h2
    · refine Or.inl ⟨hbad h2 (fun e => ?_), h3, h4.mono hn hl⟩
      have h6 := htri (by omega)
      have := ha.far h6.1
      omega
    · obtain ⟨w, h6, h7⟩ := h5
      by_cases e : f x = (m : Int)
      · have he := edge_at hk (fun i hi y hy hyl => h4 i hi y hy hyl) hx hxl e
        refine Or.inr (Or.inr ⟨Bh, [], w ++ [(k : Int)], x, rfl, e, h2, ?_, ?_⟩)
        · exact .next p x k w (by simpa using hl) (by rw [getD_set _ _ _ _ _ hl, if_pos rfl]) (h6.mono hn hl)
        · rw [h7, gw_succ, he, hx, Int.toNat_natCast]
          simp
      · refine Or.inr (Or.inl ⟨hbad h2 e, h3, ⟨w, h6.mono hn hl, h7⟩, fun i hi y hy hyl => ?_⟩)
        by_cases e2 : i = k
        · subst e2
          have : y = x := by rw [hx] at hy; omega
          subst this; exact e
        · exact h4 i (by omega) y hy hyl
    · exact Or.inr (Or.inr ((h2.mono hn hl).more _))
/-- A new place in which the way may end: this is the way. -/
theorem sr_hit (hd : Dst nx A B f) (hs : Sr nx B f D d H R Bh) {j p k x : Nat} (ha : At nx A f D d H p) (hk : k < (row nx p).length) (h : Inn nx f G D d H R Bh j p k)
    (hx : (row nx p).getD k 0 = (x : Int)) (hxl : x < nx.length) (hn : fnd H x = false) (hB : inB B x = true) :
    0 ≤ D ∧ Chain (H.set x (true, (p : Int), (k : Int))) x G := by
  have hl : x < H.length := by rw [hs.len]; exact hxl
  have hE : E nx p x := ⟨hxl, by rw [← hx, List.getD_eq_getElem?_getD, List.getElem?_eq_getElem hk]; exact List.getElem_mem hk⟩
  have hx0 : f x = 0 := (hd.zero x hxl).2 hB
  have htri := hd.tri p x ha.thr hE (by omega)
  have h2 := ha.far htri.1
  have hD := ((hs.fd p ha.fnd).2 htri.1).1
  have h3 := hs.dd hD
  refine ⟨hD, ?_⟩
  obtain ⟨m, h1, h4⟩ := h hD
  have hm : m = 0 := by omega
  subst hm
  rcases h4 with ⟨_, h5, _⟩ | ⟨_, h5, h6, h7⟩ | h5
  · exfalso; omega
  · obtain ⟨w, h8, h9⟩ := h6
    have he := edge_at hk (fun i hi y hy hyl => h7 i hi y hy hyl) hx hxl (m := 0) (by omega)
    rw [h9, gw_succ, he, gw_zero]
    exact .next p x k w (by simpa using hl) (by rw [getD_set _ _ _ _ _ hl, if_pos rfl]) (h8.mono hn hl)
  · exfalso
    obtain ⟨g, hg, hg0⟩ := h5.mem
    obtain ⟨q, e, hql, hqf⟩ := hs.inBh _ hg
    have : q = g := by omega
    subst this
    have h6 := (hs.fd q hqf).1
    rw [(hd.zero q hql).1 (by omega)] at h6
    cases h6
theorem sr_next (hd : Dst nx A B f) (hs : Sr nx B f D d H R Bh) {j : Nat} (hj : R.length ≤ j) (h : Mid nx f G D d H R Bh j) : Sr nx B f D (d + 1) H Bh [] ∧ Mid nx f G D (d + 1) H Bh [] 0 := by
  have hg : 0 ≤ D → ∃ m : Nat, D = (d : Int) + (m + 1 : Nat) ∧ Good nx f G H Bh m := fun h0 => by
    obtain ⟨m, h1, h2⟩ := h h0
    refine ⟨m, h1, ?_⟩
    rcases h2 with ⟨_, h3⟩ | h3
    · rw [List.drop_eq_nil_of_le hj] at h3
      exact h3.nil.elim
    · exact h3
  have hm : 0 ≤ D → ((d + 1 : Nat) : Int) < D := fun h0 => by
    obtain ⟨m, h1, h2⟩ := hg h0
    rcases Nat.eq_zero_or_pos m with e | e
    · exfalso
      subst e
      obtain ⟨g, hgm, hg0⟩ := h2.mem
      obtain ⟨q, e, hql, hqf⟩ := hs.inBh _ hgm
      have : q = g := by omega
      subst this
      have h6 := (hs.fd q hqf).1
      rw [(hd.zero q hql).1 (by omega)] at h6
      cases h6
    · omega
  refine ⟨⟨hs.len, fun x hx => ?_, fun x hx => by simp at hx, fun p hp => ?_, hm⟩, fun h0 => ?_⟩
  · obtain ⟨p, h1, h2, h3⟩ := hs.inBh x hx
    exact ⟨p, h1, h2, h3, fun h4 => by have := ((hs.fd p h3).2 h4).2.1; omega⟩
  · refine ⟨(hs.fd p hp).1, fun h0 => ?_⟩
    have h1 := (hs.fd p hp).2 h0
    exact ⟨h1.1, by omega, fun _ => by have := h1.2.1; omega⟩
  · obtain ⟨m, h1, h2⟩ := hg h0
    have h3 := hm h0
    refine ⟨m - 1, by omega, Or.inl ⟨fun x hx => by simp at hx, ?_⟩⟩
    rw [show m - 1 + 1 = m by omega]
    exact h2
theorem mid_stop (h : Mid nx f G D d H [] [] 0) : D < 0 := by
  rcases (by omega : D < 0 ∨ 0 ≤ D) with h0 | h0
  · exact h0
  · obtain ⟨m, _, h2⟩ := h h0
    rcases h2 with ⟨_, h3⟩ | h3
    · exact h3.nil.elim
    · exact h3.nil.elim
end
/-- How many places were not found. -/
def cntU (H : Hw) : Nat := (H.filter (fun v => !v.1)).length
theorem cntU_le (H : Hw) : cntU H ≤ H.length := List.length_filter_le _ _
theorem cntU_set : ∀ (H : Hw) (x : Nat) (v : Bool × Int × Int), x < H.length → fnd H x = false → v.1 = true → cntU (H.set x v) + 1 = cntU H
  | [], x, v, h, _, _ => by simp at h
  | u :: H, 0, v, h, e, hv => by
    have : u.1 = false := e
    unfold cntU
    simp [List.filter_cons, this, hv]
  | u :: H, x + 1, v, h, e, hv => by
    have := cntU_set H x v (by simpa using h) e hv
    unfold cntU at this ⊢
    simp only [List.set_cons_succ, List.filter_cons]
    split
    · simp only [List.length_cons]; omega
    · exact this
end Pa
end Go.Proofs.Ytlmecpghlgndnaa
