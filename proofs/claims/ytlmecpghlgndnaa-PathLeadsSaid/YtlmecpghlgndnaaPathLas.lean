/-
  The way that goes on for ever: in plain words, and path.Lasso by a walk.
-/
import Derived.Test.YtlmecpghlgndnaaPathRef
import Derived.Test.YtlmecpghlgndnaaLabEG
namespace Go.Proofs.Ytlmecpghlgndnaa
open Go.RowKit
set_option linter.unusedVariables false
set_option linter.unusedSimpArgs false

namespace Pa
open Lb
def onE (nx : List (List Int)) (F : List Bool) (x : Int) : Bool := decide (0 ≤ x) && decide (x < (nx.length : Int)) && inB F x.toNat
/-- The first edge that stays in the set, and where it leads. -/
def stp (nx : List (List Int)) (F : List Bool) (p : Nat) : Nat := (row nx p).findIdx (onE nx F)
def nxt (nx : List (List Int)) (F : List Bool) (p : Nat) : Nat := ((row nx p).getD (stp nx F p) 0).toNat
def las (nx : List (List Int)) (F : List Bool) : Nat → List Nat → Nat → List Int × Nat
  | 0, _, _ => ([], 0)
  | n + 1, P, p => if p ∈ P then (P.map (fun q => (stp nx F q : Int)), P.idxOf p) else las nx F n (P ++ [p]) (nxt nx F p)
def lasso (nx : List (List Int)) (F : List Bool) (f : Int) : Option (List Int × Nat) :=
  if okP f nx.length = true then (if inB F f.toNat = true then some (las nx F (nx.length + 1) [] f.toNat) else none) else none
theorem stp_lt {nx : List (List Int)} {A F : List Bool} (hF : IsSet nx.length (EG nx A) F) {p : Nat} (hp : p < nx.length) (hon : inB F p = true) :
    stp nx F p < (row nx p).length ∧ (row nx p).getD (stp nx F p) 0 = (nxt nx F p : Int) ∧ nxt nx F p < nx.length ∧ inB F (nxt nx F p) = true := by
  obtain ⟨_, _, t, h1, h2⟩ := ((hF.2 p hp).1 hon).out
  have ht := (hF.2 t h2.1).2 h1
  have hlt : stp nx F p < (row nx p).length := by
    unfold stp
    rw [List.findIdx_lt_length]
    exact ⟨(t : Int), h2.2, by unfold onE; rw [Int.toNat_natCast, ht, decide_eq_true (by omega), decide_eq_true (by have := h2.1; omega)]; rfl⟩
  have h3 := List.findIdx_getElem (xs := row nx p) (p := onE nx F) (w := hlt)
  have h4 : (row nx p).getD (stp nx F p) 0 = (row nx p)[stp nx F p] := by rw [List.getD_eq_getElem?_getD, List.getElem?_eq_getElem hlt]; rfl
  unfold onE at h3
  simp only [Bool.and_eq_true, decide_eq_true_eq] at h3
  have h5 : nxt nx F p = ((row nx p)[stp nx F p]).toNat := by unfold nxt; rw [h4]
  have h6 : ((row nx p)[stp nx F p]).toNat = ((row nx p)[(row nx p).findIdx (onE nx F)]).toNat := rfl
  refine ⟨hlt, ?_, ?_, ?_⟩
  · rw [h4, h5]; have : 0 ≤ (row nx p)[stp nx F p] := h3.1.1; omega
  · rw [h5]; have h7 : 0 ≤ (row nx p)[stp nx F p] := h3.1.1; have : (row nx p)[stp nx F p] < (nx.length : Int) := h3.1.2; omega
  · rw [h5]; exact h3.2
theorem stp_before {nx : List (List Int)} {F : List Bool} {p k : Nat} (hk : k < stp nx F p) (hl : k < (row nx p).length) : onE nx F ((row nx p).getD k 0) = false := by
  unfold stp at hk
  have := List.not_of_lt_findIdx hk
  rw [getD_get _ k 0 hl] at this
  simpa using this
theorem stp_at {nx : List (List Int)} {A F : List Bool} (hF : IsSet nx.length (EG nx A) F) {p : Nat} (hp : p < nx.length) (hon : inB F p = true) : onE nx F ((row nx p).getD (stp nx F p) 0) = true := by
  obtain ⟨h1, h2, h3, h4⟩ := stp_lt hF hp hon
  rw [h2]
  unfold onE
  rw [Int.toNat_natCast, h4, decide_eq_true (by omega), decide_eq_true (by omega)]; rfl
/-- How many stand at nought. -/
def cntZ (T : List Int) : Nat := (T.filter (fun x => decide (x = 0))).length
theorem cntZ_set : ∀ (T : List Int) (p : Nat) (v : Int), p < T.length → T.getD p 0 = 0 → v ≠ 0 → cntZ (T.set p v) + 1 = cntZ T
  | [], p, v, h, _, _ => by simp at h
  | u :: T, 0, v, h, e, hv => by
    have : u = 0 := e
    subst this
    unfold cntZ
    simp [List.filter_cons, hv]
  | u :: T, p + 1, v, h, e, hv => by
    have := cntZ_set T p v (by simpa using h) (by simpa using e) hv
    unfold cntZ at this ⊢
    simp only [List.set_cons_succ, List.filter_cons]
    split
    · simp only [List.length_cons]; omega
    · exact this
theorem cntZ_rep (n : Nat) : cntZ (List.replicate n 0) = n := by
  unfold cntZ
  rw [List.filter_eq_self.2 (fun x hx => by rw [(List.mem_replicate.1 hx).2]; rfl)]
  simp
/-- While a way goes on: the places so far, where it is, of each place how many were before it, and 1. -/
structure Ls (nx : List (List Int)) (F : List Bool) (f0 : Nat) (P : List Nat) (cur : Nat) (T : List Int) : Prop where
  tl : T.length = nx.length
  at_ : ∀ p, p < nx.length → T.getD p 0 = if p ∈ P then ((P.idxOf p + 1 : Nat) : Int) else 0
  cnt : P.length + cntZ T = nx.length
  lt : cur < nx.length
  on : inB F cur = true
  plt : ∀ p ∈ P, p < nx.length ∧ inB F p = true
  go : las nx F (nx.length + 1) [] f0 = las nx F (nx.length + 1 - P.length) P cur
theorem Ls.start {nx : List (List Int)} {F : List Bool} {f0 : Nat} (h : f0 < nx.length) (hon : inB F f0 = true) : Ls nx F f0 [] f0 (List.replicate nx.length 0) :=
  ⟨by simp, fun p hp => by rw [List.getD_eq_getElem?_getD, List.getElem?_replicate, if_pos hp]; simp, by rw [cntZ_rep]; simp, h, hon, fun p hp => by simp at hp, rfl⟩
section
variable {nx : List (List Int)} {A F : List Bool} {f0 : Nat} {P : List Nat} {cur : Nat} {T : List Int}
theorem Ls.new (h : Ls nx F f0 P cur T) : T.getD cur 0 = 0 ↔ cur ∉ P := by
  rw [h.at_ cur h.lt]
  by_cases e : cur ∈ P
  · rw [if_pos e]; constructor
    · intro h1; omega
    · intro h1; exact absurd e h1
  · rw [if_neg e]; simp [e]
theorem Ls.step (hF : IsSet nx.length (EG nx A) F) (h : Ls nx F f0 P cur T) (hn : cur ∉ P) : Ls nx F f0 (P ++ [cur]) (nxt nx F cur) (T.set cur ((P.length : Int) + 1)) := by
  obtain ⟨h1, h2, h3, h4⟩ := stp_lt hF h.lt h.on
  have h0 := h.new.2 hn
  have hlt := h.lt
  have htl := h.tl
  have hc := cntZ_set T cur ((P.length : Int) + 1) (by omega) h0 (by omega)
  have hcn := h.cnt
  refine ⟨by simpa using htl, fun p hp => ?_, by simp; omega, h3, h4, fun p hp => ?_, ?_⟩
  · rw [getD_set T cur p _ 0 (by omega)]
    by_cases e : p = cur
    · subst e
      rw [if_pos rfl, if_pos (by simp), List.idxOf_append, if_neg hn]
      simp
    · rw [if_neg e, h.at_ p hp]
      by_cases e2 : p ∈ P
      · rw [if_pos e2, if_pos (by simp [e2]), List.idxOf_append, if_pos e2]
      · rw [if_neg e2, if_neg (by simp [e2, e])]
  · rcases List.mem_append.1 hp with h5 | h5
    · exact h.plt p h5
    · rw [List.mem_singleton.1 h5]; exact ⟨h.lt, h.on⟩
  · rw [h.go, List.length_append, List.length_singleton, show nx.length + 1 - P.length = (nx.length + 1 - (P.length + 1)) + 1 by omega]
    conv => lhs; unfold las
    rw [if_neg hn]
theorem Ls.stop (h : Ls nx F f0 P cur T) (hm : cur ∈ P) : las nx F (nx.length + 1) [] f0 = (P.map (fun q => (stp nx F q : Int)), P.idxOf cur) := by
  have := h.cnt
  rw [h.go, show nx.length + 1 - P.length = (nx.length - P.length) + 1 by omega]
  unfold las
  rw [if_pos hm]
end
end Pa
def LsAns (o : Option (List Int × Nat)) (w : World) (e : Ending) (w' : World) : Prop := match o with
  | some (R, i) => ∃ x, e = .returned (.tuple #[x, .int .i64 (i : Int), .bool true]) ∧ w'.ownsRow w.heap.size 3 1 x R.length (R.map (Value.int .i64)) ∧ Below w.heap.size w w'
  | none => e = .returned (.tuple #[.slice none 0 0, .int .i64 0, .bool false]) ∧ Below w.heap.size w w'
/-- What the closure sees. -/
structure Sees (w : World) (b3 b9 gF : Nat) (a : Option Addr) (c cF : Nat) (nx : List (List Int)) (F : List Bool) : Prop where
  nexts : w.cell? ⟨b3, 0, none⟩ = some (.slice a nx.length c)
  goes : w.cell? ⟨b9, 0, none⟩ = some (.slice (some ⟨gF, 0, none⟩) nx.length cF)
  each : ∀ i, i < nx.length → w.cell? ⟨gF, i, none⟩ = some (.bool (Lb.inB F i))
set_option maxHeartbeats 1000000 in
theorem lcl_any (b3 b9 gF : Nat) (a : Option Addr) (c cF : Nat) (nx : List (List Int)) (F : List Bool) (x : Int) (w : World) (h : Sees w b3 b9 gF a c cF nx F) (hn : nx.length ≤ 1000) :
    Calls Try.prog 38 #[.int .i64 x, .pointer (some ⟨b3, 0, none⟩), .pointer (some ⟨b9, 0, none⟩)] w fun e w' => e = .returned (.bool (Pa.onE nx F x)) ∧ w = w' := by
  have hu : ∀ b : Bool, ¬ (some undef = some (Value.bool b)) := fun b h => by cases h
  have c3 := h.nexts
  have c9 := h.goes
  have HP := Lib.hid (place_any x nx.length w)
  have HE := Lib.hid h.each
  clear h
  cases hok : Pa.okP x nx.length with
  | false =>
    have HA : Hid (Pa.onE nx F x = false) := Lib.hid (by unfold Pa.onE; unfold Pa.okP at hok; rw [hok]; rfl)
    rw [hok] at HP
    clear hok
    go_enter Try.func38, Try.ntmps38
    go_wp2_with (go_at_call 33; refine HP.out.mono ?_; rintro e w2 ⟨rfl, rfl⟩)
    go_ret
    rw [HA.out]
    exact ⟨rfl, rfl⟩
  | true =>
    have HA : Hid (Pa.onE nx F x = Lb.inB F x.toNat) := Lib.hid (by unfold Pa.onE; unfold Pa.okP at hok; rw [hok]; rfl)
    obtain ⟨h0, h1⟩ := Pa.okP_yes hok
    rw [hok] at HP
    obtain ⟨q, rfl⟩ : ∃ q : Nat, x = (q : Int) := ⟨x.toNat, by omega⟩
    rw [Int.toNat_natCast] at HA
    have cq := HE.out q (by omega)
    generalize Lb.inB F q = b at *
    clear hok
    go_enter Try.func38, Try.ntmps38
    go_wp2_with (go_at_call 33; refine HP.out.mono ?_; rintro e w2 ⟨rfl, rfl⟩)
    go_ret
    rw [HA.out]
    exact ⟨rfl, rfl⟩
set_option maxHeartbeats 1000000 in
theorem lidx_any (b3 b9 gF : Nat) (a : Option Addr) (c cF : Nat) (nx : List (List Int)) (F : List Bool) (ra : Option Addr) (rc p : Nat) (w : World) (h : Sees w b3 b9 gF a c cF nx F) (hn : nx.length ≤ 1000) (hr : Reads w ra ((Lb.row nx p).map (Value.int .i64))) (hrl : (Lb.row nx p).length ≤ 1000)
    (he : Pa.stp nx F p < (Lb.row nx p).length) (hon : Pa.onE nx F ((Lb.row nx p).getD (Pa.stp nx F p) 0) = true) :
    Calls Try.prog 37 #[.slice ra (Lb.row nx p).length rc, .func (.func 38) #[] #[.pointer (some ⟨b3, 0, none⟩), .pointer (some ⟨b9, 0, none⟩)]] w fun e w' => e = .returned (.int .i64 (Pa.stp nx F p)) ∧ w = w' := by
  have HC := Lib.hid (fun x => lcl_any b3 b9 gF a c cF nx F x w h hn)
  have HR := Lib.hid hr
  have HON := Lib.hid (And.intro hon (fun k hk => Pa.stp_before (nx := nx) (F := F) (p := p) (k := k) hk (by omega)))
  obtain ⟨e, hee⟩ : ∃ e, Pa.stp nx F p = e := ⟨_, rfl⟩
  rw [hee] at he HON ⊢
  clear h hr hon hee
  go_enter Try.func37, Try.ntmps37
  go_wp2_with fail
  go_loopw [8] (fun v8 wr => ∃ k : Nat, k ≤ e ∧ v8 = .int .i64 k ∧ w = wr) (fun v8 _ => e - (intOf v8).toNat)
  case atStart => exact ⟨0, by omega, rfl, rfl⟩
  case round =>
    obtain ⟨k, hk, rfl, rfl⟩ := hrel
    obtain ⟨b1, o1, e1, cx⟩ := Reads.get HR.out k (by omega)
    subst e1
    have hkl : k < (Lb.row nx p).length := by omega
    have HX := Lib.hid (HC.out ((Lb.row nx p).getD k 0))
    by_cases hke : k = e
    · subst hke
      rw [(HON.out).1] at HX
      generalize (Lb.row nx p).getD k 0 = x at *
      go_wp2_with (go_at_call 38; refine HX.out.mono ?_; rintro e w2 ⟨rfl, rfl⟩)
      go_ret
      exact ⟨rfl, rfl⟩
    · rw [(HON.out).2 k (by omega)] at HX
      generalize (Lb.row nx p).getD k 0 = x at *
      go_wp2_with (go_at_call 38; refine HX.out.mono ?_; rintro e w2 ⟨rfl, rfl⟩)
      go_roundw
      case rel => exact ⟨k + 1, by omega, by go_num, trivial⟩
      case measure => simp [intOf]; omega
end Go.Proofs.Ytlmecpghlgndnaa
