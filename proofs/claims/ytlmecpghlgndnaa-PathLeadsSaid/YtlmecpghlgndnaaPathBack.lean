/-
  slices.Reverse of a slice of the call's own; path.back: by walks.
-/
import Derived.Test.YtlmecpghlgndnaaPathSearch
import Derived.Test.YtlmecpghlgndnaaPathShelf
import Derived.Test.YtlmecpghlgndnaaPathEnds
import Derived.Test.YtlmecpghlgndnaaRec
import Derived.Deep.LoopGhost
namespace Go.Proofs.Ytlmecpghlgndnaa
open Go.RowKit
set_option linter.unusedVariables false
set_option linter.unusedSimpArgs false

theorem put_all (xs vs : List Value) (h : xs.length = vs.length) : Rec.put xs 0 vs = vs := by
  apply List.ext_getElem?
  intro i
  rw [Rec.put_at]
  by_cases hi : i < vs.length
  · rw [if_pos ⟨by omega, by omega⟩, if_pos (by omega), Nat.sub_zero]
  · rw [if_neg (by omega), List.getElem?_eq_none (by omega), List.getElem?_eq_none (by omega)]
theorem own_below {w w' : World} {B n size : Nat} {e : TypeId} {v : Value} {xs : List Value} (h : w.ownsRow B e size v n xs) (hb : Below w.heap.size w w') : w'.ownsRow B e size v n xs := by
  have k : Keeps (fun j => w.heap.size ≤ j) w w' := ⟨hb.os, hb.tape, hb.output, hb.size, fun j hj _ => hb.block j hj⟩
  exact k.own h (fun j hj e => by have := (h.lt j hj).2; omega)
theorem reverse_own {w : World} {B : Nat} {v : Value} {xs : List Int} (h : w.ownsRow B 3 1 v xs.length (xs.map (Value.int .i64))) (hm : xs.length ≤ 1000000) :
    Calls Try.prog 39 #[v] w fun e w' => e = .returned (.tuple #[]) ∧ w'.ownsRow B 3 1 v xs.length (xs.reverse.map (Value.int .i64)) ∧ Keeps (fun j => v.ownBlock = some j) w w' := by
  rcases Nat.eq_zero_or_pos xs.length with h0 | h0
  · have : xs = [] := List.eq_nil_of_length_eq_zero h0
    subst this
    obtain ⟨a, c, hv⟩ := own_len h
    simp only [List.length_nil] at hv
    subst hv
    exact (Try.slices_Reverse_int_empty a c w).mono fun e w' ⟨h1, h2⟩ => ⟨h1, by subst h2; exact ⟨h, Keeps.refl _ _⟩⟩
  · obtain ⟨g, cap, hv, _⟩ := own_some h h0
    subst hv
    refine (Try.slices_Reverse_int_cells g 0 xs.length cap xs w (Nat.le_refl _) (by omega) (fun j hj => ?_) (fun j hj => ?_)).mono fun e w' ⟨h1, q, h2⟩ => ⟨h1, ?_⟩
    · rw [Nat.zero_add, h.cellAt j (by omega), List.getElem?_map, List.getElem?_eq_getElem hj]
      simp [List.getD_eq_getElem?_getD, hj]
    · rw [Nat.zero_add]; exact h.frozenAt j
    · subst h2
      rw [List.take_of_length_le (Nat.le_refl _)]
      have hd : Keeps (fun _ => False) w (w.drewN q) := Keeps.drewN _ _ _
      have h3 := own_put (xs.reverse.map (Value.int .i64)) 0 (w.drewN q) _ (hd.own h (fun _ _ hf => hf))
      rw [put_all _ _ (by simp)] at h3
      exact ⟨h3.1, (hd.weaken (fun j _ hf => hf.elim)).trans (h3.2.weaken (fun j _ e => by subst e; rfl))⟩
namespace Pa
/-- The cells of how a place was found. -/
def enc (v : Bool × Int × Int) : List Value := [.bool v.1, .int .i64 v.2.1, .int .i64 v.2.2]
theorem enc_len (v : Bool × Int × Int) : (enc v).length = 3 := rfl
theorem chain_at {H : Hw} {p : Nat} {w : List Int} (h : Chain H p w) : p < H.length := by cases h <;> assumption
theorem chain_end {H : Hw} {p : Nat} (h : Chain H p []) : (H.getD p (false, 0, 0)).2.1 < 0 := by
  generalize hw : ([] : List Int) = w at h
  cases h with
  | start _ z e hl hp hz => rw [hp]; exact hz
  | next q _ e w hl hp hc => simp at hw
theorem chain_on {H : Hw} {p : Nat} {w : List Int} {e : Int} (h : Chain H p (w ++ [e])) : ∃ q : Nat, (H.getD p (false, 0, 0)).2 = ((q : Int), e) ∧ Chain H q w := by
  generalize hw : w ++ [e] = w2 at h
  cases h with
  | start _ z e hl hp hz => simp at hw
  | next q _ e2 w2 hl hp hc =>
    obtain ⟨h1, h2⟩ := List.append_inj' hw rfl
    simp at h2
    subst h1 h2
    exact ⟨q, by rw [hp], hc⟩
end Pa
def IntsAns (R : List Int) (w : World) (e : Ending) (w' : World) : Prop :=
  ∃ x, e = .returned x ∧ w'.ownsRow w.heap.size 3 1 x R.length (R.map (Value.int .i64)) ∧ Below w.heap.size w w'
theorem getD_get {α : Type} (l : List α) (i : Nat) (d : α) (h : i < l.length) : l[i] = l.getD i d := by rw [List.getD_eq_getElem?_getD, List.getElem?_eq_getElem h]; rfl
theorem came_from {w w' : World} {B g n : Nat} {H : Pa.Hw} (h : w.ownsRow B 52 3 (.slice (some ⟨g, 0, none⟩) n n) n (Rec.flat Pa.enc H)) (hb : Below w.heap.size w w') (q : Nat) (hq : q < H.length) {z e : Int} (he : (H.getD q (false, 0, 0)).2 = (z, e)) :
    w'.cell? ⟨g, q * 3 + 1, none⟩ = some (.int .i64 z) := by
  have c1 := own_cell Pa.enc_len (own_below h hb) q 1 hq (by omega)
  rw [getD_get H q (false, 0, 0) hq] at c1
  have c2 : w'.cell? ⟨g, q * 3 + 1, none⟩ = some (.int .i64 (H.getD q (false, 0, 0)).2.1) := c1
  rw [he] at c2
  exact c2
set_option maxHeartbeats 2000000 in
theorem back_any (B g n : Nat) (H : Pa.Hw) (p : Nat) (way : List Int) (w : World) (hown : w.ownsRow B 52 3 (.slice (some ⟨g, 0, none⟩) n n) n (Rec.flat Pa.enc H)) (hc : Pa.Chain H p way) (hm : way.length ≤ 100000) (hn : n ≤ 1000) :
    Calls Try.prog 35 #[.slice (some ⟨g, 0, none⟩) n n, .int .i64 p] w (IntsAns way w) := by
  have hHl : H.length = n := by have := hown.1; rw [Rec.flat_len Pa.enc_len] at this; omega
  have hgl := (hown.lt g rfl).2
  have HO := Lib.hid hown
  clear hown
  go_enter Try.func35, Try.ntmps35
  go_wp2
  go_loopg [1, 5] (way.length) (fun gk v1 v5 wr => ∃ (q : Nat) (w1 cs : List Int), v1 = .int .i64 q ∧ Pa.Chain H q w1 ∧ way = w1 ++ cs.reverse ∧ wr.ownsRow w.heap.size 3 1 v5 cs.length (cs.map (Value.int .i64)) ∧ Below w.heap.size w wr ∧ w1.length ≤ gk)
  case atStart => exact ⟨p, way, [], rfl, hc, by simp, World.ownsRow_nil _ _ _ _, Below.refl _ _, Nat.le_refl _⟩
  case round =>
    obtain ⟨q, w1, cs, rfl, hch, hway, hrow, hb, hgk⟩ := hrel
    have hql := Pa.chain_at hch
    have hwl : way.length = w1.length + cs.length := by rw [hway]; simp
    have own2 := own_below HO.out hb
    have c1 := own_cell Pa.enc_len own2 q 1 hql (by omega)
    have c2 := own_cell Pa.enc_len own2 q 2 hql (by omega)
    rw [getD_get H q (false, 0, 0) hql] at c1 c2
    have c1' : wr.cell? ⟨g, q * 3 + 1, none⟩ = some (.int .i64 (H.getD q (false, 0, 0)).2.1) := c1
    have c2' : wr.cell? ⟨g, q * 3 + 2, none⟩ = some (.int .i64 (H.getD q (false, 0, 0)).2.2) := c2
    clear c1 c2 own2
    have HB := Lib.hid (And.intro hway (And.intro hrow hb))
    rcases List.eq_nil_or_concat w1 with rfl | ⟨w2, e, rfl⟩
    · have hneg := Pa.chain_end hch
      have RV := Lib.hid (reverse_own hrow (by omega))
      clear hway hrow hb hch
      generalize (H.getD q (false, 0, 0)).2.1 = z at *
      generalize (H.getD q (false, 0, 0)).2.2 = z2 at *
      go_wp2_with fail
      refine (RV.out).mono ?_
      rintro e w3 ⟨rfl, own3, k3⟩
      have H3 := Lib.hid (And.intro own3 k3)
      clear own3 k3
      go_wp2_with fail
      go_ret
      have hB := (HB.out)
      refine ⟨_, rfl, ?_, hB.2.2.trans ((H3.out).2.below (fun j e => (hB.2.1.lt j e).1) hB.2.2.size)⟩
      have h1 := (H3.out).1
      have h2 : way = cs.reverse := by have := hB.1; simpa using this
      rw [h2, List.length_reverse]
      exact h1
    · rw [List.concat_eq_append] at hch hway HB hwl hgk
      simp only [List.length_append, List.length_singleton] at hwl hgk
      obtain ⟨q2, he, hch2⟩ := Pa.chain_on hch
      rw [he] at c1' c2'
      have HC := Lib.hid hch2
      have HE := Lib.hid he
      obtain ⟨xa, xc, hx⟩ := own_len hrow
      subst hx
      have hsz := hb.size
      clear hway hb hch he hch2
      go_wp2_with (at_builtin; refine append_at (v := .slice xa cs.length xc) rfl _ _ 34 rfl 3 (.int .i64 0) 1 8 Try.underlying34 Try.info3 rfl (by decide) rfl hrow hsz _ rfl (by simp [Value.oneCell']) rfl rfl (by decide) (by omega) ?_; intro g5 cap5 w5 own5 keep5 where5; have b5 : Below w.heap.size w w5 := (HB.out).2.2.trans (keep5.below (fun j e => ((HB.out).2.1.lt j e).1) hsz); have c5 := came_from HO.out b5 q hql HE.out)
      have H5 := Lib.hid (And.intro own5 b5)
      go_roundg w2.length
      case measure => omega
      case rel =>
        refine ⟨q2, w2, cs ++ [e], rfl, HC.out, by rw [(HB.out).1]; simp, ?_, (H5.out).2, Nat.le_refl _⟩
        rw [List.length_append, List.map_append]
        exact (H5.out).1
end Go.Proofs.Ytlmecpghlgndnaa
