/-
  Conditions, asked of a state, in plain words; eval.number, the closure of eval.Holds: by walks.
-/
import Derived.Test.YtpbgicfoopicbaaEvalAw
import Derived.Test.YtpbgicfoopicbaaBitsHas
namespace Go.Proofs.Ytpbgicfoopicbaa
open Go.RowKit
set_option linter.unusedVariables false
set_option linter.unusedSimpArgs false

structure Ins where
  op : Int
  la : Int
  ln : Int
  ra : Int
  rn : Int
  n : Int
  us : Int
def Ins.cells (x : Ins) : List Value := [.int .i64 x.op, .int .i64 x.la, .int .i64 x.ln, .int .i64 x.ra, .int .i64 x.rn, .int .i64 x.n, .int .i64 x.us]
theorem Ins.cells_len (x : Ins) : x.cells.length = 7 := rfl
def Ins.val (x : Ins) : Value := .agg #[.int .i64 x.op, .int .i64 x.la, .int .i64 x.ln, .int .i64 x.ra, .int .i64 x.rn, .int .i64 x.n, .int .i64 x.us]
/-- A state: its numbers, and where they lie; the other lists are never looked at. -/
structure Sta where
  vals : List Int
  a : Option Addr
  c : Nat
  op : Int
  dn : Int
  did : Value
  cnt : Value
def Sta.val (s : Sta) : Value := .agg #[.slice s.a s.vals.length s.c, .int .i64 s.op, .int .i64 s.dn, s.did, s.cnt]
/-- The state's numbers lie there. -/
def RdV (w : World) (s : Sta) : Prop := Reads w s.a (s.vals.map (Value.int .i64)) ∧ s.vals.length ≤ maxLen
theorem RdV.mono {w w' : World} {B : Nat} {s : Sta} (h : RdV w s) (hb : Below B w w') (hB : w.heap.size ≤ B) : RdV w' s := ⟨h.1.mono hb hB, h.2⟩
def numV (s : Sta) (k n : Int) : Option Int := if k = -1 then some n else if k < 0 ∨ (s.vals.length : Int) ≤ k then none else some (s.vals.getD k.toNat 0)
def cmpV (s : Sta) (x : Ins) : Option Bool := match numV s x.la x.ln, numV s x.ra x.rn with
  | some a, some b => some (cmpB x.op a b)
  | _, _ => none
/-- What lies on the row. -/
def tvV : Option Bool → Value
  | none => .nilIface
  | some b => .iface 4 (.bool b)
def takeP (r : List (Option Bool)) : Option (Bool × List (Option Bool)) := match r.reverse with
  | some b :: r' => some (b, r'.reverse)
  | _ => none
theorem takeP_some (r : List (Option Bool)) (b : Bool) : takeP (r ++ [some b]) = some (b, r) := by unfold takeP; simp
theorem takeP_none (r : List (Option Bool)) : takeP (r ++ [none]) = none := by unfold takeP; simp
theorem takeP_nil : takeP [] = none := rfl
def joinB (op : Int) (a b : Bool) : Bool := if op = 16 then a && b else if op = 17 then a || b else !a || b
def stepE (s : Sta) (x : Ins) (r : List (Option Bool)) : Option (List (Option Bool)) :=
  if x.op = 1 then some (r ++ [some true])
  else if x.op = 2 then some (r ++ [some false])
  else if 3 ≤ x.op ∧ x.op ≤ 8 then some (r ++ [cmpV s x])
  else if x.op = 9 then some (r ++ [some (hasB s.op x.n)])
  else if x.op = 10 then some (r ++ [some (hasB s.dn x.n)])
  else if x.op = 15 then (takeP r).map (fun p => p.2 ++ [some !p.1])
  else if 16 ≤ x.op ∧ x.op ≤ 18 then (takeP r).bind (fun p => (takeP p.2).map (fun q => q.2 ++ [some (joinB x.op q.1 p.1)]))
  else some (r ++ [none])
def runE (s : Sta) : List Ins → List (Option Bool) → Option (List (Option Bool))
  | [], r => some r
  | x :: l, r => (stepE s x r).bind (runE s l)
theorem runE_app (s : Sta) : ∀ (l m : List Ins) (r : List (Option Bool)), runE s (l ++ m) r = (runE s l r).bind (runE s m)
  | [], m, r => rfl
  | x :: l, m, r => by
    show (stepE s x r).bind (runE s (l ++ m)) = ((stepE s x r).bind (runE s l)).bind (runE s m)
    cases stepE s x r with
    | none => rfl
    | some r' => exact runE_app s l m r'
theorem runE_take (s : Sta) {l : List Ins} {k : Nat} (hk : k < l.length) (r : List (Option Bool)) : runE s (l.take (k + 1)) r = (runE s (l.take k) r).bind (stepE s l[k]) := by
  rw [List.take_succ_eq_append_getElem hk, runE_app]
  congr 1
  funext q
  show (stepE s l[k] q).bind some = _
  cases stepE s l[k] q <;> rfl
def finE : Option (List (Option Bool)) → Option Bool
  | some [some b] => some b
  | _ => none
def askE (s : Sta) (l : List Ins) : Option Bool := if 64 < l.length then none else finE (runE s l [])
def numRes : Option Int → Value
  | some n => .tuple #[.int .i64 n, .bool true]
  | none => .tuple #[.int .i64 0, .bool false]
set_option maxHeartbeats 1000000 in
theorem num_any (s : Sta) (k n : Int) (w : World) (hs : RdV w s) : Calls Try.prog 58 #[.agg #[.slice s.a s.vals.length s.c, .int .i64 s.op, .int .i64 s.dn, s.did, s.cnt], .agg #[.int .i64 k, .int .i64 n]] w fun e w' => e = .returned (numRes (numV s k n)) ∧ Below w.heap.size w w' := by
  have hu : ∀ b : Bool, ¬ (some undef = some (Value.bool b)) := fun b h => by cases h
  have hm : s.vals.length ≤ 9223372036854775807 := by have := hs.2; unfold maxLen at this; omega
  have HB : Hid (∀ o1 o2, Below w.heap.size w ((w.alloc o1).alloc o2)) := Lib.hid (fun o1 o2 => ((Below.refl _ _).alloc (Nat.le_refl _) _).alloc (by simp) _)
  by_cases h1 : k = -1
  · have hn : numV s k n = some n := by unfold numV; rw [if_pos h1]
    rw [hn]
    subst h1
    clear hs hn
    go_enter Try.func58, Try.ntmps58
    go_wp2
    go_ret2
    exact ⟨rfl, HB.out _ _⟩
  · have hne : (k == -1) = false := by simpa using h1
    by_cases h2 : k < 0
    · have hn : numV s k n = none := by unfold numV; rw [if_neg h1, if_pos (Or.inl h2)]
      rw [hn]
      clear hs hn h1
      go_enter Try.func58, Try.ntmps58
      go_wp2
      go_ret2
      exact ⟨rfl, HB.out _ _⟩
    · by_cases h3 : (s.vals.length : Int) ≤ k
      · have hn : numV s k n = none := by unfold numV; rw [if_neg h1, if_pos (Or.inr h3)]
        rw [hn]
        clear hs hn h1
        go_enter Try.func58, Try.ntmps58
        go_wp2
        go_ret2
        exact ⟨rfl, HB.out _ _⟩
      · obtain ⟨j, rfl⟩ : ∃ j : Nat, k = (j : Int) := ⟨k.toNat, by omega⟩
        have hj : j < s.vals.length := by omega
        have hn : numV s j n = some s.vals[j] := by unfold numV; rw [if_neg h1, if_neg (by omega), Int.toNat_natCast]; simp [hj]
        rw [hn]
        obtain ⟨b, off, ha, hc⟩ := hs.1.at (by simp; omega)
        have hv := Reads.int hc j hj
        have hbl : b < w.heap.size := lt_of_cell hv
        rw [ha]
        clear hs hn h1 hc h2 h3 ha
        generalize s.vals[j] = v at *
        go_enter Try.func58, Try.ntmps58
        go_wp2
        go_ret2
        exact ⟨rfl, HB.out _ _⟩
/-- An instruction lies there. -/
structure InsAt (w : World) (p : Nat) (x : Ins) : Prop where
  c0 : w.cell? ⟨p, 0, none⟩ = some (.int .i64 x.op)
  c1 : w.cell? ⟨p, 1, none⟩ = some (.int .i64 x.la)
  c2 : w.cell? ⟨p, 2, none⟩ = some (.int .i64 x.ln)
  c3 : w.cell? ⟨p, 3, none⟩ = some (.int .i64 x.ra)
  c4 : w.cell? ⟨p, 4, none⟩ = some (.int .i64 x.rn)
  c5 : w.cell? ⟨p, 5, none⟩ = some (.int .i64 x.n)
  c6 : w.cell? ⟨p, 6, none⟩ = some (.int .i64 x.us)
theorem InsAt.keeps {S : Nat → Prop} {w w' : World} {p : Nat} {x : Ins} (h : InsAt w p x) (k : Keeps S w w') (hs : ¬ S p) : InsAt w' p x :=
  ⟨keeps_cell k h.c0 hs, keeps_cell k h.c1 hs, keeps_cell k h.c2 hs, keeps_cell k h.c3 hs, keeps_cell k h.c4 hs, keeps_cell k h.c5 hs, keeps_cell k h.c6 hs⟩
theorem InsAt.mono {w w' : World} {B p : Nat} {x : Ins} (h : InsAt w p x) (hb : Below B w w') (hB : w.heap.size ≤ B) : InsAt w' p x :=
  h.keeps (keeps_of (fun _ => False) hb hB) (fun e => e)
theorem ins_new (w : World) (x : Ins) (t : TypeId) : InsAt (w.alloc (.cells #[.int .i64 x.op, .int .i64 x.la, .int .i64 x.ln, .int .i64 x.ra, .int .i64 x.rn, .int .i64 x.n, .int .i64 x.us] t)) w.heap.size x := by
  constructor <;> (rw [World.cell?_alloc_at _ _ _ _ rfl]; rfl)
/-- A state lies there. -/
structure StaAt (w : World) (h : Nat) (s : Sta) : Prop where
  c0 : w.cell? ⟨h, 0, none⟩ = some (.slice s.a s.vals.length s.c)
  c1 : w.cell? ⟨h, 1, none⟩ = some (.int .i64 s.op)
  c2 : w.cell? ⟨h, 2, none⟩ = some (.int .i64 s.dn)
  c3 : w.cell? ⟨h, 3, none⟩ = some s.did
  c4 : w.cell? ⟨h, 4, none⟩ = some s.cnt
theorem StaAt.keeps {S : Nat → Prop} {w w' : World} {h : Nat} {s : Sta} (t : StaAt w h s) (k : Keeps S w w') (hs : ¬ S h) : StaAt w' h s :=
  ⟨keeps_cell k t.c0 hs, keeps_cell k t.c1 hs, keeps_cell k t.c2 hs, keeps_cell k t.c3 hs, keeps_cell k t.c4 hs⟩
theorem StaAt.mono {w w' : World} {B h : Nat} {s : Sta} (t : StaAt w h s) (hb : Below B w w') (hB : w.heap.size ≤ B) : StaAt w' h s :=
  t.keeps (keeps_of (fun _ => False) hb hB) (fun e => e)
theorem sta_new (w : World) (s : Sta) (t : TypeId) : StaAt (w.alloc (.cells #[.slice s.a s.vals.length s.c, .int .i64 s.op, .int .i64 s.dn, s.did, s.cnt] t)) w.heap.size s := by
  constructor <;> (rw [World.cell?_alloc_at _ _ _ _ rfl]; rfl)
end Go.Proofs.Ytpbgicfoopicbaa
