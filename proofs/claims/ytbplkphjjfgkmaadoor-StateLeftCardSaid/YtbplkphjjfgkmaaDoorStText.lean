/-
  state.Text: by a walk.
-/
import Derived.Test.YtbplkphjjfgkmaaDoorStPlain
import Derived.Test.YtbplkphjjfgkmaaDoorStShelf
import Derived.Test.YtbplkphjjfgkmaaDoorNmAwake
import Derived.Test.YtbplkphjjfgkmaaDoorApp
import Derived.Test.YtbplkphjjfgkmaaDoorStOpen
import Derived.Lib.OthersKept
namespace Go.Proofs.YtbplkphjjfgkmaaDoor
open Go.RowKit
set_option linter.unusedVariables false
set_option linter.unusedSimpArgs false

theorem info64 : (Tryd.prog.info? 2).map (fun i => (i.zero, i.size, i.bytes)) = some (some (.int .i64 0), 1, 8) := by kernel_rfl
namespace St
/-- The numbers of a state's text, list by list. -/
def acc (v : List Int) (o n : Int) (d c : List Int) : Nat → List Int
  | 0 => (((v.length : Nat) : Int) :: v) ++ [o, n]
  | 1 => (((v.length : Nat) : Int) :: v) ++ [o, n] ++ (((d.length : Nat) : Int) :: d)
  | _ => nums v o n d c
theorem acc1 (v : List Int) (o n : Int) (d c : List Int) : acc v o n d c 1 = acc v o n d c 0 ++ [((d.length : Nat) : Int)] ++ d := by simp [acc]
theorem acc2 (v : List Int) (o n : Int) (d c : List Int) : acc v o n d c 2 = acc v o n d c 1 ++ [((c.length : Nat) : Int)] ++ c := by simp [acc, nums]
end St
theorem ints_one (l : List Int) : ∀ u ∈ l.map (Value.int .i64), u.oneCell' = true := fun u hu => by
  obtain ⟨x, _, rfl⟩ := List.mem_map.1 hu
  rfl
theorem st_own_new (w : World) (B p : Nat) (xs : List Value) (e : TypeId) (hp : w.heap.size = p) (hB : B ≤ p) (hm : xs.length ≤ maxLen) : (w.alloc (.cells xs.toArray e)).ownsRow B e 1 (.slice (some ⟨p, 0, none⟩) xs.length xs.length) xs.length xs := by
  subst hp
  refine ⟨by simp, Or.inr ⟨w.heap.size, xs.length, xs.toArray, rfl, hB, ?_, Nat.le_refl _, hm, by simp, by simp⟩⟩
  have := heap_alloc_new w (.cells xs.toArray e)
  simpa using this
theorem st_reads_new (w : World) (xs : List Value) (e : TypeId) (p : Nat) (hp : w.heap.size = p) : Reads (w.alloc (.cells xs.toArray e)) (some ⟨p, 0, none⟩) xs := by
  subst hp
  exact Or.inr ⟨w.heap.size, 0, rfl, fun j hj => by
    rw [Nat.zero_add]
    simp⟩
theorem st_below_new (w : World) (o : Obj) : Below w.heap.size w (w.alloc o) := (Keeps.alloc (fun _ => False) w o).below (fun _ h => h.elim) (Nat.le_refl _)
theorem st_own_below {w w' : World} {B n size : Nat} {e : TypeId} {v : Value} {xs : List Value} (h : w.ownsRow B e size v n xs) (hb : Below w.heap.size w w') : w'.ownsRow B e size v n xs := by
  refine ⟨h.1, ?_⟩
  rcases h.2 with hn | ⟨g, cap, cur, rfl, h1, h2, rest⟩
  · exact .inl hn
  · exact .inr ⟨g, cap, cur, rfl, h1, by rw [hb.block g (Array.getElem?_eq_some_iff.1 h2).1]; exact h2, rest⟩
/-- The row of numbers while it grows, beside a row of two lists. -/
structure TxO (W1 : World) (B b : Nat) (u0 u1 : Value) (v3 : Value) (q : List Int) (wr : World) : Prop where
  own : wr.ownsRow B 2 1 v3 q.length (q.map (Value.int .i64))
  bel : Below B W1 wr
  c0 : wr.cell? ⟨b, 0, none⟩ = some u0
  c1 : wr.cell? ⟨b, 1, none⟩ = some u1
  ne : v3.ownBlock ≠ some b
  lt : b < wr.heap.size
  bb : B ≤ wr.heap.size
theorem keeps_cell {S : Nat → Prop} {w w' : World} (h : Keeps S w w') {b j : Nat} {u : Value} (hc : w.cell? ⟨b, j, none⟩ = some u) (hs : ¬ S b) : w'.cell? ⟨b, j, none⟩ = some u := by
  have hb := h.block b (lt_of_cell hc) hs
  unfold World.cell? at *
  simp only [hb]
  exact hc
theorem TxO.push {W1 wr w' : World} {B b : Nat} {u0 u1 v3 v3' : Value} {q p : List Int} (h : TxO W1 B b u0 u1 v3 q wr)
    (own : w'.ownsRow B 2 1 v3' (q.length + p.length) (q.map (Value.int .i64) ++ p.map (Value.int .i64))) (k : Keeps (fun j => v3.ownBlock = some j) wr w') (wh : ∀ j, v3'.ownBlock = some j → v3.ownBlock = some j ∨ wr.heap.size ≤ j) :
    TxO W1 B b u0 u1 v3' (q ++ p) w' :=
  ⟨by rw [List.length_append, List.map_append]; exact own, h.bel.trans (k.below (fun j hj => (h.own.lt j hj).1) h.bb), keeps_cell k h.c0 h.ne, keeps_cell k h.c1 h.ne, fun e => by
    rcases wh b e with e2 | e2
    · exact h.ne e2
    · have := h.lt; omega, Nat.lt_of_lt_of_le h.lt k.size, Nat.le_trans h.bb k.size⟩
theorem TxO.later {W1 wr w' : World} {B b : Nat} {u0 u1 v3 : Value} {q : List Int} (h : TxO W1 B b u0 u1 v3 q wr) (hb : Below wr.heap.size wr w') : TxO W1 B b u0 u1 v3 q w' :=
  ⟨st_own_below h.own hb, h.bel.trans (hb.mono h.bb), (hb.cell (p := ⟨b, 0, none⟩) h.lt).trans h.c0, (hb.cell (p := ⟨b, 1, none⟩) h.lt).trans h.c1, h.ne, Nat.lt_of_lt_of_le h.lt hb.size, Nat.le_trans h.bb hb.size⟩
theorem isb_below {T e : TypeId} {B b : Nat} {bs : List Value} {w w' : World} (h : Lib.IsBuilderF T e B b bs w) (hb : Below w.heap.size w w') : Lib.IsBuilderF T e B b bs w' := by
  have hown : ∀ {v : Value}, w.ownsRowF B e 1 v bs.length bs → w'.ownsRowF B e 1 v bs.length bs := fun {v} ho => by
    refine ⟨ho.1, ?_⟩
    rcases ho.2 with hn | ⟨g, cap, cur, fz, hv, h1, h2, rest⟩
    · exact .inl hn
    · exact .inr ⟨g, cap, cur, fz, hv, h1, by rw [hb.block g (Array.getElem?_eq_some_iff.1 h2).1]; exact h2, rest⟩
  rcases h with ⟨h0, v, h1, h2, h3⟩ | ⟨h0, v, h1, h2, h3⟩
  · exact Or.inl ⟨h0, v, by rw [hb.block b (Array.getElem?_eq_some_iff.1 h1).1]; exact h1, hown h2, h3⟩
  · exact Or.inr ⟨h0, v, by rw [hb.block b (Array.getElem?_eq_some_iff.1 h1).1]; exact h1, hown h2, h3⟩
end Go.Proofs.YtbplkphjjfgkmaaDoor
