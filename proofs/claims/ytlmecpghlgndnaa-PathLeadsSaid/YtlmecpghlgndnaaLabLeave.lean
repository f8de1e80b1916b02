/-
  label.EG's memory; what leaves the set.
-/
import Derived.Test.YtlmecpghlgndnaaLabBools
namespace Go.Proofs.Ytlmecpghlgndnaa
open Go.RowKit
set_option linter.unusedVariables false
set_option linter.unusedSimpArgs false

/-- Two variables: a set, and how many ways of each place stand. -/
structure Two (w : World) (n bO gD bD : Nat) (F : List Bool) (D : List Int) (wr : World) : Prop where
  outb : Box wr w.heap.size bO 23 (.slice (some ⟨w.heap.size, 0, none⟩) n n)
  out : wr.ownsRow w.heap.size 4 1 (.slice (some ⟨w.heap.size, 0, none⟩) n n) n (F.map Value.bool)
  onb : Box wr w.heap.size bD 34 (.slice (some ⟨gD, 0, none⟩) n n)
  on : wr.ownsRow w.heap.size 3 1 (.slice (some ⟨gD, 0, none⟩) n n) n (D.map (Value.int .i64))
  below : Below w.heap.size w wr
theorem own_ilen {w : World} {B n : Nat} {v : Value} {D : List Int} {e : TypeId} (h : w.ownsRow B e 1 v n (D.map (Value.int .i64))) : D.length = n := by have := h.1; simpa using this
theorem int_at {w : World} {B g n : Nat} {D : List Int} {e : TypeId} (h : w.ownsRow B e 1 (.slice (some ⟨g, 0, none⟩) n n) n (D.map (Value.int .i64))) (i : Nat) (hi : i < n) : w.cell? ⟨g, i, none⟩ = some (.int .i64 (D.getD i 0)) := by
  have hl := own_ilen h
  rw [h.cellAt i (by omega), List.getElem?_map, Lb.getD_at D i 0 (by omega)]
  rfl
theorem int_stored {w : World} {B g n : Nat} {D : List Int} {e : TypeId} (h : w.ownsRow B e 1 (.slice (some ⟨g, 0, none⟩) n n) n (D.map (Value.int .i64))) (i : Nat) (x : Int) : (w.setCell ⟨g, i, none⟩ (.int .i64 x)).ownsRow B e 1 (.slice (some ⟨g, 0, none⟩) n n) n ((D.set i x).map (Value.int .i64)) := by
  have := (h.stored i (.int .i64 x)).1
  rwa [← List.map_set] at this
section
variable {w wr w2 : World} {n bO gD bD : Nat} {F : List Bool} {D : List Int}
theorem Two.flen (h : Two w n bO gD bD F D wr) : F.length = n := own_blen h.out
theorem Two.dlen (h : Two w n bO gD bD F D wr) : D.length = n := own_ilen h.on
theorem Two.lts (h : Two w n bO gD bD F D wr) : (w.heap.size ≤ bO ∧ bO < wr.heap.size) ∧ (w.heap.size ≤ gD ∧ gD < wr.heap.size) ∧ (w.heap.size ≤ bD ∧ bD < wr.heap.size) ∧ w.heap.size < wr.heap.size :=
  ⟨h.outb.lt, h.on.lt gD rfl, h.onb.lt, (h.out.lt w.heap.size rfl).2⟩
theorem Two.keeps {S : Nat → Prop} (h : Two w n bO gD bD F D wr) (k : Keeps S wr w2) (h1 : ¬ S bO) (h2 : ¬ S w.heap.size) (h3 : ¬ S bD) (h4 : ¬ S gD) (hb : ∀ j, S j → w.heap.size ≤ j) : Two w n bO gD bD F D w2 :=
  ⟨h.outb.keeps k h1, k.own h.out (fun j hj => by simp [Value.ownBlock] at hj; rw [← hj]; exact h2), h.onb.keeps k h3, k.own h.on (fun j hj => by simp [Value.ownBlock] at hj; rw [← hj]; exact h4), h.below.trans (k.below hb h.below.size)⟩
theorem Two.setF (h : Two w n bO gD bD F D wr) (i : Nat) (b : Bool) : Two w n bO gD bD (F.set i b) D (wr.setCell ⟨w.heap.size, i, none⟩ (.bool b)) := by
  have hk : Keeps (fun j => j = w.heap.size) wr (wr.setCell ⟨w.heap.size, i, none⟩ (.bool b)) := Keeps.setCell _ _ _ rfl
  refine ⟨h.outb.keeps hk (fun e => lie_apart h.outb h.out (by decide) bO rfl (by rw [e]; rfl)), bool_stored h.out i b, h.onb.keeps hk (fun e => lie_apart h.onb h.out (by decide) bD rfl (by rw [e]; rfl)), hk.own h.on (fun j hj e => lie_apart h.on h.out (by decide) j hj (by rw [e]; rfl)), h.below.trans (hk.below (fun j e => by omega) h.below.size)⟩
theorem Two.setD (h : Two w n bO gD bD F D wr) (i : Nat) (x : Int) : Two w n bO gD bD F (D.set i x) (wr.setCell ⟨gD, i, none⟩ (.int .i64 x)) := by
  have hk : Keeps (fun j => j = gD) wr (wr.setCell ⟨gD, i, none⟩ (.int .i64 x)) := Keeps.setCell _ _ _ rfl
  have hg := h.lts.2.1.1
  refine ⟨h.outb.keeps hk (fun e => lie_apart h.outb h.on (by decide) bO rfl (by rw [e]; rfl)), hk.own h.out (fun j hj e => lie_apart h.out h.on (by decide) j hj (by rw [e]; rfl)), h.onb.keeps hk (fun e => lie_apart h.onb h.on (by decide) bD rfl (by rw [e]; rfl)), int_stored h.on i x, h.below.trans (hk.below (fun j e => by omega) h.below.size)⟩
end
/-- The whole: with the ways that lead to each place, and a stack behind them. -/
structure Est (w : World) (nx : List (List Int)) (bO gD bD B1 g B2 bS : Nat) (vs : List Value) (F : List Bool) (D : List Int) (v : Value) (St : List Int) (wr : World) : Prop where
  two : Two w nx.length bO gD bD F D wr
  ord : w.heap.size < B1 ∧ bO < B1 ∧ gD < B1 ∧ bD < B1 ∧ B1 ≤ B2
  grid : Grid wr B1 34 3 g nx.length vs (Lb.rowsF nx.length (Lb.fr nx nx.length))
  glt : ∀ j, GridIn g vs j → j < B2
  stk : Stk wr B2 bS v St
section
variable {w wr w2 : World} {nx : List (List Int)} {bO gD bD B1 g B2 bS : Nat} {vs : List Value} {F : List Bool} {D : List Int} {v : Value} {St : List Int}
theorem Est.mark (h : Est w nx bO gD bD B1 g B2 bS vs F D v St wr) (i : Nat) (b : Bool) : Est w nx bO gD bD B1 g B2 bS vs (F.set i b) D v St (wr.setCell ⟨w.heap.size, i, none⟩ (.bool b)) := by
  have hk : Keeps (fun j => j = w.heap.size) wr (wr.setCell ⟨w.heap.size, i, none⟩ (.bool b)) := Keeps.setCell _ _ _ rfl
  have ho := h.ord
  have hbx := h.stk.box.lt
  exact ⟨h.two.setF i b, h.ord, h.grid.keeps hk (fun j hj e => by have := (h.grid.in_lt j hj).1; omega), h.glt, h.stk.keeps hk (by omega) (fun j hj e => by have := (h.stk.row.lt j hj).1; omega)⟩
theorem Est.down (h : Est w nx bO gD bD B1 g B2 bS vs F D v St wr) (i : Nat) (x : Int) : Est w nx bO gD bD B1 g B2 bS vs F (D.set i x) v St (wr.setCell ⟨gD, i, none⟩ (.int .i64 x)) := by
  have hk : Keeps (fun j => j = gD) wr (wr.setCell ⟨gD, i, none⟩ (.int .i64 x)) := Keeps.setCell _ _ _ rfl
  have ho := h.ord
  have hbx := h.stk.box.lt
  exact ⟨h.two.setD i x, h.ord, h.grid.keeps hk (fun j hj e => by have := (h.grid.in_lt j hj).1; omega), h.glt, h.stk.keeps hk (by omega) (fun j hj e => by have := (h.stk.row.lt j hj).1; omega)⟩
theorem Est.push (h : Est w nx bO gD bD B1 g B2 bS vs F D v St wr) (y : Int) {e : Ending} (hp : PushAns B2 bS v St y wr e w2) :
    (∃ r, e = .returned r) ∧ ∃ v', Est w nx bO gD bD B1 g B2 bS vs F D v' (St ++ [y]) w2 := by
  obtain ⟨hr, v', hs, hk, hb⟩ := hp
  have ho := h.ord
  have hbx := h.stk.box.lt
  have hv : ∀ j, v.ownBlock = some j → B2 ≤ j := fun j hj => (h.stk.row.lt j hj).1
  refine ⟨hr, v', h.two.keeps hk ?_ ?_ ?_ ?_ (fun j e => ?_), h.ord, h.grid.keeps hk (fun j hj e => ?_), h.glt, hs⟩
  · rintro (e | e)
    · omega
    · have := hv _ e; omega
  · rintro (e | e)
    · omega
    · have := hv _ e; omega
  · rintro (e | e)
    · omega
    · have := hv _ e; omega
  · rintro (e | e)
    · omega
    · have := hv _ e; omega
  · rcases e with e | e
    · omega
    · have := hv _ e; omega
  · have := h.glt j hj
    rcases e with e | e
    · omega
    · have := hv _ e; omega
theorem Est.popped (h : Est w nx bO gD bD B1 g B2 bS vs F D v St wr) {v' : Value} {S2 : List Int} (hs : Stk w2 B2 bS v' S2) (hk : Keeps (fun j => j = bS) wr w2) : Est w nx bO gD bD B1 g B2 bS vs F D v' S2 w2 := by
  have ho := h.ord
  have hbx := h.stk.box.lt
  exact ⟨h.two.keeps hk (by omega) (by omega) (by omega) (by omega) (fun j e => by omega), h.ord, h.grid.keeps hk (fun j hj e => by have := h.glt j hj; omega), h.glt, hs⟩
end
set_option maxHeartbeats 1000000 in
theorem leave_go {w wr : World} {nx : List (List Int)} {bO gD bD B1 g B2 bS : Nat} {vs : List Value} {F : List Bool} {D : List Int} {v : Value} {St : List Int} (h : Est w nx bO gD bD B1 g B2 bS vs F D v St wr) (hm : St.length ≤ 1000000) (hn : nx.length ≤ 1000) (i : Nat) (hi : i < nx.length) (hF : Lb.inB F i = true) (hD : D.getD i 0 = 0) :
    Calls Try.prog 32 #[.int .i64 i, .pointer (some ⟨bO, 0, none⟩), .pointer (some ⟨bD, 0, none⟩), .pointer (some ⟨bS, 0, none⟩)] wr fun e w' => (∃ r, e = .returned r) ∧ ∃ v', Est w nx bO gD bD B1 g B2 bS vs (F.set i false) D v' (St ++ [(i : Int)]) w' := by
  have hu : ∀ b : Bool, ¬ (some undef = some (Value.bool b)) := fun b h => by cases h
  have ho := h.two.outb.cell
  have hd := h.two.onb.cell
  have hlt := h.two.lts
  have hci := bool_cell h.two.out i hi
  have hcd := int_at h.two.on i hi
  rw [hF] at hci
  rw [hD] at hcd
  have hfz := h.two.out.frozenAt i
  have hk : Keeps (fun j => j = w.heap.size) wr (wr.setCell ⟨w.heap.size, i, none⟩ (.bool false)) := Keeps.setCell _ _ _ rfl
  have hE := h.mark i false
  have HP := Lib.hid (push_any B2 bS v St (i : Int) _ hE.stk hm)
  have HE := Lib.hid hE
  clear hE hk h hF hD
  go_enter Try.func32, Try.ntmps32
  go_wp2_with fail
  refine (HP.out).mono ?_
  intro e w3 hp
  obtain ⟨⟨r, rfl⟩, v', hE'⟩ := (HE.out).push (i : Int) hp
  go_wp2_with fail
  go_end0
  exact ⟨⟨_, rfl⟩, v', hE'⟩
set_option maxHeartbeats 1000000 in
theorem leave_no {w wr : World} {nx : List (List Int)} {bO gD bD B1 g B2 bS : Nat} {vs : List Value} {F : List Bool} {D : List Int} {v : Value} {St : List Int} (h : Est w nx bO gD bD B1 g B2 bS vs F D v St wr) (hn : nx.length ≤ 1000) (i : Nat) (hi : i < nx.length) (hs : Lb.inB F i = true → D.getD i 0 ≠ 0) :
    Calls Try.prog 32 #[.int .i64 i, .pointer (some ⟨bO, 0, none⟩), .pointer (some ⟨bD, 0, none⟩), .pointer (some ⟨bS, 0, none⟩)] wr fun e w' => (∃ r, e = .returned r) ∧ wr = w' := by
  have hu : ∀ b : Bool, ¬ (some undef = some (Value.bool b)) := fun b h => by cases h
  have ho := h.two.outb.cell
  have hd := h.two.onb.cell
  have hlt := h.two.lts
  have hci := bool_cell h.two.out i hi
  have hcd := int_at h.two.on i hi
  clear h
  cases hF : Lb.inB F i with
  | false =>
    rw [hF] at hci
    clear hF hs
    go_enter Try.func32, Try.ntmps32
    go_wp2_with fail
    go_end0
    exact ⟨⟨_, rfl⟩, rfl⟩
  | true =>
    rw [hF] at hci
    have h0 := hs hF
    clear hF hs
    generalize D.getD i 0 = x at *
    have hb : (x == 0) = false := by simp [h0]
    clear h0
    go_enter Try.func32, Try.ntmps32
    go_wp2_with fail
    go_end0
    exact ⟨⟨_, rfl⟩, rfl⟩
end Go.Proofs.Ytlmecpghlgndnaa
