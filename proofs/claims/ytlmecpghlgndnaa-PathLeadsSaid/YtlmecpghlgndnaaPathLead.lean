/-
  Where the shortest way and the lasso lead, in plain words.
-/
import Derived.Test.YtlmecpghlgndnaaPathLawC
namespace Go.Proofs.Ytlmecpghlgndnaa
open Go.RowKit
set_option linter.unusedVariables false
set_option linter.unusedSimpArgs false

namespace Pa
open Lb
theorem go_append (nx : List (List Int)) : ∀ (a b : List Int) (p : Nat), go nx p (a ++ b) = (go nx p a).bind (fun q => go nx q b)
  | [], b, p => rfl
  | e :: a, b, p => by
    rw [List.cons_append]
    cases h1 : okP e (Lb.row nx p).length with
    | false => rw [go_off h1, go_off h1]; rfl
    | true =>
      cases h2 : okP ((Lb.row nx p).getD e.toNat 0) nx.length with
      | false => rw [go_out h1 h2, go_out h1 h2]; rfl
      | true => rw [go_on h1 h2, go_on h1 h2]; exact go_append nx a b _
/-- One step. -/
theorem go_one {nx : List (List Int)} {p e q : Nat} (he : e < (Lb.row nx p).length) (hq : (Lb.row nx p).getD e 0 = (q : Int)) (hql : q < nx.length) : go nx p [(e : Int)] = some q := by
  have h1 : okP (e : Int) (Lb.row nx p).length = true := by unfold okP; rw [decide_eq_true (by omega), decide_eq_true (by omega)]; rfl
  have h2 : okP ((Lb.row nx p).getD ((e : Int)).toNat 0) nx.length = true := by rw [Int.toNat_natCast, hq]; unfold okP; rw [decide_eq_true (by omega), decide_eq_true (by omega)]; rfl
  rw [go_on h1 h2, Int.toNat_natCast, hq, Int.toNat_natCast]; rfl
theorem gw_go {nx : List (List Int)} {A B : List Bool} {f : Nat → Int} (h : Dst nx A B f) : ∀ (m p i : Nat), p < nx.length → f p = (m : Int) → i ≤ m → ∃ q, go nx p ((gw nx f m p).take i) = some q ∧ q < nx.length ∧ f q = ((m - i : Nat) : Int)
  | m, p, 0, hp, hf, _ => ⟨p, by simp [go_end], hp, by simpa using hf⟩
  | 0, p, i + 1, _, _, hi => by omega
  | m + 1, p, i + 1, hp, hf, hi => by
    obtain ⟨h1, h2, h3, h4⟩ := edge_lt h hf
    obtain ⟨q, hq⟩ : ∃ q : Nat, (row nx p).getD (edge nx f m p) 0 = (q : Int) := ⟨((row nx p).getD (edge nx f m p) 0).toNat, by omega⟩
    rw [hq] at h3 h4
    rw [Int.toNat_natCast] at h4
    obtain ⟨r, h5, h6, h7⟩ := gw_go h m q i (by omega) h4 (by omega)
    refine ⟨r, ?_, h6, by rw [h7]; omega⟩
    rw [gw_succ, hq, Int.toNat_natCast, List.take_succ_cons, show ((edge nx f m p : Nat) : Int) :: (gw nx f m q).take i = [((edge nx f m p : Nat) : Int)] ++ (gw nx f m q).take i by rfl, go_append, go_one h1 hq (by omega)]
    exact h5
theorem shortest_take {nx : List (List Int)} {A B : List Bool} {f : Int} {R : List Int} (h : shortest nx A B f = some R) (i : Nat) (hi : i ≤ R.length) :
    ∃ q, ends nx f (R.take i) = some q ∧ (i < R.length → inB A q = true ∧ inB B q = false) ∧ (i = R.length → inB B q = true) := by
  unfold shortest at h
  split at h
  · rename_i hok
    obtain ⟨h0, h1⟩ := okP_yes hok
    split at h
    · rename_i h2
      have h3 := Option.some.inj h
      have hd := dst_F nx A B
      have hRl : R.length = (F nx A B f.toNat).toNat := by rw [← h3, gw_len]
      obtain ⟨q, h4, h5, h6⟩ := gw_go hd (F nx A B f.toNat).toNat f.toNat i (by omega) (by omega) (by omega)
      rw [h3] at h4
      refine ⟨q, by unfold ends; rw [if_pos hok, h4], fun hlt => ?_, fun he => ?_⟩
      · obtain ⟨m, hm⟩ : ∃ m : Nat, (F nx A B f.toNat).toNat - i = m + 1 := ⟨(F nx A B f.toNat).toNat - i - 1, by omega⟩
        rw [hm] at h6
        refine ⟨(hd.step q m h6).1, ?_⟩
        cases hb : inB B q with
        | false => rfl
        | true => have := (hd.zero q h5).2 hb; omega
      · exact (hd.zero q h5).1 (by rw [h6]; omega)
    · cases h
  · cases h
theorem eu_far {nx : List (List Int)} {A B : List Bool} {f : Nat → Int} (h : Dst nx A B f) {i : Nat} (hi : i < nx.length) : Lb.EU nx A B i ↔ 0 ≤ f i := by
  constructor
  · intro hE
    induction hE with
    | base i hl hb => rw [(h.zero i hl).2 hb]; omega
    | step i t hl ha hE hU ih => exact (h.tri i t ha hE (ih hE.1)).1
  · intro h0
    obtain ⟨m, hm⟩ : ∃ m : Nat, f i = (m : Int) := ⟨(f i).toNat, by omega⟩
    clear h0
    induction m generalizing i with
    | zero => exact Lb.EU.base i hi ((h.zero i hi).1 (by omega))
    | succ m ih =>
      obtain ⟨ha, x, hx, hf⟩ := h.step i m hm
      exact Lb.EU.step i x hi ha hx (ih hx.1 hf)
/-- There is a shortest way just where one leads there. -/
theorem shortest_some {nx : List (List Int)} {A B S : List Bool} (hS : IsSet nx.length (Lb.EU nx A B) S) (f : Int) : (shortest nx A B f).isSome = (decide (0 ≤ f) && inB S f.toNat) := by
  unfold shortest
  by_cases h0 : 0 ≤ f
  · by_cases h1 : f < (nx.length : Int)
    · rw [if_pos (by unfold okP; rw [decide_eq_true h0, decide_eq_true h1]; rfl), decide_eq_true h0]
      have h2 := (hS.2 f.toNat (by omega)).trans (eu_far (dst_F nx A B) (show f.toNat < nx.length by omega))
      by_cases h3 : 0 ≤ F nx A B f.toNat
      · rw [if_pos h3, h2.2 h3]; rfl
      · rw [if_neg h3]
        cases hb : inB S f.toNat with
        | false => rfl
        | true => exact absurd (h2.1 hb) h3
    · rw [if_neg (by unfold okP; rw [decide_eq_false h1]; simp)]
      cases hb : inB S f.toNat with
      | false => simp
      | true => have := Lb.inB_lt hb; rw [hS.1] at this; omega
  · rw [if_neg (by unfold okP; rw [decide_eq_false h0]; simp), decide_eq_false h0]; rfl
theorem lasso_some {nx : List (List Int)} {F : List Bool} (hF : F.length = nx.length) (f : Int) : (lasso nx F f).isSome = (decide (0 ≤ f) && inB F f.toNat) := by
  unfold lasso
  by_cases h0 : 0 ≤ f
  · by_cases h1 : f < (nx.length : Int)
    · rw [if_pos (by unfold okP; rw [decide_eq_true h0, decide_eq_true h1]; rfl), decide_eq_true h0]
      cases hb : inB F f.toNat with
      | false => rfl
      | true => rfl
    · rw [if_neg (by unfold okP; rw [decide_eq_false h1]; simp)]
      cases hb : inB F f.toNat with
      | false => simp
      | true => have := Lb.inB_lt hb; omega
  · rw [if_neg (by unfold okP; rw [decide_eq_false h0]; simp), decide_eq_false h0]; rfl
/-- The way so far leads by its places. -/
def Wy (nx : List (List Int)) (F : List Bool) (f0 : Nat) (P : List Nat) (cur : Nat) : Prop :=
  ∀ i, i ≤ P.length → go nx f0 ((P.map (fun q => (stp nx F q : Int))).take i) = some ((P ++ [cur]).getD i 0)
theorem wy_step {nx : List (List Int)} {A F : List Bool} {f0 : Nat} {P : List Nat} {cur : Nat} (hF : IsSet nx.length (Lb.EG nx A) F) (h : Wy nx F f0 P cur) (hc : cur < nx.length) (hon : inB F cur = true) : Wy nx F f0 (P ++ [cur]) (nxt nx F cur) := fun i hi => by
  have hi : i ≤ P.length + 1 := by simpa using hi
  by_cases hl : i ≤ P.length
  · rw [List.map_append, List.take_append_of_le_length (by simpa using hl), h i hl]
    congr 1
    have h9 : ((P ++ [cur]) ++ [nxt nx F cur])[i]? = (P ++ [cur])[i]? := List.getElem?_append_left (by simp; omega)
    rw [List.getD_eq_getElem?_getD, List.getD_eq_getElem?_getD, h9]
  · have : i = P.length + 1 := by omega
    subst this
    obtain ⟨h1, h2, h3, h4⟩ := stp_lt hF hc hon
    have h5 := h P.length (Nat.le_refl _)
    rw [List.take_of_length_le (by simp), List.getD_eq_getElem?_getD, List.getElem?_append_right (by simp), Nat.sub_self] at h5
    rw [List.take_of_length_le (by simp), List.map_append, go_append, h5]
    simp only [Option.bind_some, List.map_cons, List.map_nil]
    show go nx cur [(stp nx F cur : Int)] = _
    rw [go_one h1 h2 h3]
    congr 1
    rw [List.getD_eq_getElem?_getD, List.getElem?_append_right (by simp)]
    simp
theorem las_out {nx : List (List Int)} {A F : List Bool} {f0 : Nat} (hF : IsSet nx.length (Lb.EG nx A) F) : ∀ (k : Nat) (P : List Nat) (cur : Nat) (T : List Int), cntZ T ≤ k → Ls nx F f0 P cur T → Wy nx F f0 P cur →
    ∃ P' cur', las nx F (nx.length + 1) [] f0 = (P'.map (fun q => (stp nx F q : Int)), P'.idxOf cur') ∧ cur' ∈ P' ∧ Wy nx F f0 P' cur' ∧ ∀ q ∈ P', q < nx.length ∧ inB F q = true
  | k, P, cur, T, hk, hls, hw => by
    by_cases hm : cur ∈ P
    · exact ⟨P, cur, hls.stop hm, hm, hw, hls.plt⟩
    · have hz := cntZ_set T cur ((P.length : Int) + 1) (by rw [hls.tl]; exact hls.lt) (hls.new.2 hm) (by omega)
      cases k with
      | zero => omega
      | succ k => exact las_out hF k (P ++ [cur]) (nxt nx F cur) _ (by omega) (hls.step hF hm) (wy_step hF hw hls.lt hls.on)
theorem lasso_take {nx : List (List Int)} {A F : List Bool} {f : Int} {R : List Int} {n : Nat} (hF : IsSet nx.length (Lb.EG nx A) F) (h : lasso nx F f = some (R, n)) :
    n < R.length ∧ (∀ i, i ≤ R.length → ∃ q, ends nx f (R.take i) = some q ∧ inB A q = true) ∧ ends nx f (R.take n) = ends nx f R := by
  unfold lasso at h
  split at h
  · rename_i hok
    obtain ⟨h0, h1⟩ := okP_yes hok
    split at h
    · rename_i hon
      have h3 := Option.some.inj h
      have hls := Ls.start (nx := nx) (F := F) (f0 := f.toNat) (by omega) hon
      obtain ⟨P, cur, h4, h5, h6, h7⟩ := las_out hF (cntZ (List.replicate nx.length 0)) [] f.toNat _ (Nat.le_refl _) hls (fun i hi => by
        have : i = 0 := by simpa using hi
        subst this; rfl)
      rw [h3] at h4
      simp only [Prod.mk.injEq] at h4
      obtain ⟨hR, hn⟩ := h4
      have hix : P.idxOf cur < P.length := List.idxOf_lt_length_iff.2 h5
      have hRl : R.length = P.length := by rw [hR]; simp
      have hin : ∀ q, q ∈ P ++ [cur] → q < nx.length ∧ inB F q = true := fun q hq => by
        rcases List.mem_append.1 hq with h8 | h8
        · exact h7 q h8
        · rw [List.mem_singleton.1 h8]; exact h7 cur h5
      have hends : ∀ i, i ≤ R.length → ends nx f (R.take i) = some ((P ++ [cur]).getD i 0) := fun i hi => by
        unfold ends
        rw [if_pos hok, hR, h6 i (by omega)]
      refine ⟨by omega, fun i hi => ⟨_, hends i hi, ?_⟩, ?_⟩
      · have hl : i < (P ++ [cur]).length := by simp; omega
        have h8 := hin ((P ++ [cur]).getD i 0) (by rw [← getD_get _ i 0 hl]; exact List.getElem_mem hl)
        exact ((hF.2 _ h8.1).1 h8.2).out.2.1
      · have h9 := hends R.length (Nat.le_refl _)
        rw [List.take_of_length_le (Nat.le_refl _)] at h9
        rw [h9, hends n (by omega), hn, hRl]
        congr 1
        rw [List.getD_eq_getElem?_getD, List.getD_eq_getElem?_getD, List.getElem?_append_left hix, List.getElem?_append_right (Nat.le_refl _), List.getElem?_eq_getElem hix, List.getElem_idxOf hix]
        simp
    · cases h
  · cases h
end Pa
theorem Reads.take {w : World} {a : Option Addr} {xs : List Value} (h : Reads w a xs) (i : Nat) : Reads w a (xs.take i) := by
  rcases h with rfl | ⟨b, off, rfl, hc⟩
  · exact Or.inl (by simp)
  · refine Or.inr ⟨b, off, rfl, fun j hj => ?_⟩
    have hj : j < i ∧ j < xs.length := by simp at hj; omega
    rw [hc j hj.2, List.getElem?_take, if_pos hj.1]
end Go.Proofs.Ytlmecpghlgndnaa
