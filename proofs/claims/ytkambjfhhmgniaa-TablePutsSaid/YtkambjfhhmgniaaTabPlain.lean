/-
  Tables: what lies in memory, and how rows are chained.
-/
import Derived.Test.YtkambjfhhmgniaaSumWalks
import Derived.Test.YtkambjfhhmgniaaBitsPlain
import Derived.OneCell
namespace Go.Proofs.Ytkambjfhhmgniaa
open Go.RowKit SumPlain
set_option linter.unusedVariables false

theorem Try.infoStr : (Try.prog.info? 9).map (fun i => (i.zero, i.size, i.bytes)) = some (some (.string ByteArray.empty), 1, 16) := by kernel_rfl
theorem Try.infoU32 : (Try.prog.info? 63).map (fun i => (i.zero, i.size, i.bytes)) = some (some (.int .u32 0), 1, 4) := by kernel_rfl
namespace Tab
/-- The sum of a text; the row of a sum in a table of m rows. -/
def sm (s : ByteArray) : Nat := fnv s.data.toList
theorem sm_lt (s : ByteArray) : sm s < 4294967296 := fnv_lt _
def rw (m : Nat) (texts : List ByteArray) (k : Nat) : Nat := sm (texts.getD k ByteArray.empty) % m
/-- The last text of row r among the first n, and 1; 0: there is none. -/
def prev (m : Nat) (texts : List ByteArray) (r : Nat) : Nat → Nat
  | 0 => 0
  | n + 1 => if rw m texts n = r then n + 1 else prev m texts r n
theorem prev_le (m : Nat) (texts : List ByteArray) (r n : Nat) : prev m texts r n ≤ n := by
  induction n with
  | zero => simp [prev]
  | succ n ih => simp only [prev]; split <;> omega
theorem prev_row (m : Nat) (texts : List ByteArray) (r n : Nat) (h : 0 < prev m texts r n) : rw m texts (prev m texts r n - 1) = r := by
  induction n with
  | zero => simp [prev] at h
  | succ n ih =>
    simp only [prev] at h ⊢
    split
    · rename_i he; simpa using he
    · rename_i he; rw [if_neg he] at h; exact ih h
theorem prev_none (m : Nat) (texts : List ByteArray) (r n k : Nat) (h1 : prev m texts r n ≤ k) (h2 : k < n) : rw m texts k ≠ r := by
  induction n with
  | zero => omega
  | succ n ih =>
    simp only [prev] at h1
    split at h1
    · omega
    · rename_i he
      by_cases hk : k = n
      · subst hk; exact he
      · exact ih h1 (by omega)
theorem prev_snoc (m : Nat) (texts : List ByteArray) (s : ByteArray) (r n : Nat) (h : n ≤ texts.length) : prev m (texts ++ [s]) r n = prev m texts r n := by
  induction n with
  | zero => rfl
  | succ n ih =>
    simp only [prev, ih (by omega)]
    rw [show rw m (texts ++ [s]) n = rw m texts n by unfold rw; rw [List.getD_eq_getElem?_getD, List.getD_eq_getElem?_getD, List.getElem?_append_left (by omega)]]
theorem rw_last (m : Nat) (texts : List ByteArray) (s : ByteArray) : rw m (texts ++ [s]) texts.length = sm s % m := by
  unfold rw; simp
theorem prev_put (m : Nat) (texts : List ByteArray) (s : ByteArray) (r : Nat) : prev m (texts ++ [s]) r (texts.length + 1) = if sm s % m = r then texts.length + 1 else prev m texts r texts.length := by
  simp only [prev, rw_last, prev_snoc m texts s r texts.length (Nat.le_refl _)]

def strs (texts : List ByteArray) : List Value := texts.map Value.string
def sums (texts : List ByteArray) : List Value := texts.map (fun s => Value.int .u32 (sm s : Nat))
def aheads (m : Nat) (texts : List ByteArray) : List Value := (List.range texts.length).map (fun k => Value.int .i64 (prev m texts (rw m texts k) k : Nat))
def lasts (m : Nat) (texts : List ByteArray) : List Value := (List.range m).map (fun r => Value.int .i64 (prev m texts r texts.length : Nat))
theorem aheads_snoc (m : Nat) (texts : List ByteArray) (s : ByteArray) : aheads m (texts ++ [s]) = aheads m texts ++ [Value.int .i64 (prev m texts (sm s % m) texts.length : Nat)] := by
  unfold aheads
  rw [List.length_append, List.length_singleton, List.range_succ, List.map_append]
  congr 1
  · apply List.map_congr_left
    intro k hk
    have hk := List.mem_range.1 hk
    rw [prev_snoc m texts s _ k (by omega), show rw m (texts ++ [s]) k = rw m texts k by unfold rw; rw [List.getD_eq_getElem?_getD, List.getD_eq_getElem?_getD, List.getElem?_append_left (by omega)]]
  · simp only [List.map_cons, List.map_nil, rw_last, prev_snoc m texts s _ texts.length (Nat.le_refl _)]
theorem lasts_put (m : Nat) (texts : List ByteArray) (s : ByteArray) (hm : 0 < m) : lasts m (texts ++ [s]) = (lasts m texts).set (sm s % m) (Value.int .i64 ((texts.length + 1 : Nat) : Int)) := by
  unfold lasts
  apply List.ext_getElem?
  intro k
  rw [List.getElem?_set]
  by_cases hk : k < m
  · by_cases he : sm s % m = k
    · subst he
      simp only [List.length_append, List.length_singleton, prev_put, if_true, List.length_map, List.length_range]
      rw [if_pos (Nat.mod_lt _ hm)]
      simp [Nat.mod_lt _ hm]
    · rw [if_neg he]
      simp only [List.length_append, List.length_singleton, prev_put, List.getElem?_map, List.getElem?_range hk, Option.map_some, if_neg he]
  · have h1 : ¬ sm s % m = k := by have := Nat.mod_lt (sm s) hm; omega
    rw [if_neg h1]
    rw [List.getElem?_eq_none (by simp; omega), List.getElem?_eq_none (by simp; omega)]
end Tab

/-- A table in memory: at block p, of m rows, with these texts; its four slices own their rows. -/
structure IsTab (w : World) (B p m : Nat) (texts : List ByteArray) (vt vs va vl : Value) : Prop where
  block : w.heap[p]? = some (.cells #[vt, vs, va, vl] 67 (0, 0))
  base : B ≤ p
  otexts : w.ownsRow B 9 1 vt texts.length (Tab.strs texts)
  osums : w.ownsRow B 63 1 vs texts.length (Tab.sums texts)
  oahead : w.ownsRow B 3 1 va texts.length (Tab.aheads m texts)
  olast : w.ownsRow B 3 1 vl m (Tab.lasts m texts)
  apart : ∀ k, va.ownBlock = some k → vl.ownBlock ≠ some k
  pow : ∃ r, r ≤ 16 ∧ m = 2 ^ r
  uniq : texts.Nodup
theorem IsTab.pos {w : World} {B p m : Nat} {texts : List ByteArray} {vt vs va vl : Value} (h : IsTab w B p m texts vt vs va vl) : 0 < m ∧ m ≤ 65536 := by
  obtain ⟨r, hr, rfl⟩ := h.pow
  exact ⟨Nat.pow_pos (by decide), Nat.le_trans (Nat.pow_le_pow_right (by decide) hr) (by decide)⟩
theorem IsTab.lt {w : World} {B p m : Nat} {texts : List ByteArray} {vt vs va vl : Value} (h : IsTab w B p m texts vt vs va vl) : p < w.heap.size := (Array.getElem?_eq_some_iff.1 h.block).1
theorem cell_of_cells {w : World} {p : Nat} {cs : Array Value} {t : TypeId} {fz : Nat × Nat} (h : w.heap[p]? = some (.cells cs t fz)) (j : Nat) : w.cell? ⟨p, j, none⟩ = cs[j]? := cell_of_row w p j cs t fz h
/-- A block of the table's own is none of another type's. -/
theorem own_ne {w : World} {B : Nat} {e : TypeId} {v : Value} {n size : Nat} {xs : List Value} (h : w.ownsRow B e size v n xs) {k : Nat} {cs : Array Value} {t : TypeId} {fz : Nat × Nat} (hk : w.heap[k]? = some (.cells cs t fz)) (hne : e ≠ t) : v.ownBlock ≠ some k := by
  intro hv
  rcases h.2 with ⟨rfl, _⟩ | ⟨g, cap, cur, rfl, _, hh, _⟩
  · simp [Value.ownBlock] at hv
  · simp [Value.ownBlock] at hv
    subst hv
    rw [hh] at hk
    simp at hk
    exact hne hk.2.1
theorem own_apart {w : World} {B B' : Nat} {e e' : TypeId} {v v' : Value} {n n' size size' : Nat} {xs xs' : List Value} (h : w.ownsRow B e size v n xs) (h' : w.ownsRow B' e' size' v' n' xs') (hne : e ≠ e') : ∀ k, v.ownBlock = some k → v'.ownBlock ≠ some k := by
  intro k hk
  rcases h.2 with ⟨rfl, _⟩ | ⟨g, cap, cur, rfl, _, hh, _⟩
  · simp [Value.ownBlock] at hk
  · simp [Value.ownBlock] at hk
    subst hk
    exact own_ne h' hh (Ne.symm hne)
/-- The blocks of a table. -/
def Foot (p : Nat) (vt vs va vl : Value) (k : Nat) : Prop := k = p ∨ vt.ownBlock = some k ∨ vs.ownBlock = some k ∨ va.ownBlock = some k ∨ vl.ownBlock = some k
theorem IsTab.foot {w : World} {B p m : Nat} {texts : List ByteArray} {vt vs va vl : Value} (h : IsTab w B p m texts vt vs va vl) (k : Nat) (hk : Foot p vt vs va vl k) : B ≤ k ∧ k < w.heap.size := by
  rcases hk with rfl | hk | hk | hk | hk
  · exact ⟨h.base, h.lt⟩
  · exact h.otexts.lt k hk
  · exact h.osums.lt k hk
  · exact h.oahead.lt k hk
  · exact h.olast.lt k hk
theorem IsTab.kept {w w' : World} {B p m : Nat} {texts : List ByteArray} {vt vs va vl : Value} {S : Nat → Prop} (h : IsTab w B p m texts vt vs va vl) (hk : Keeps S w w') (hs : ∀ k, Foot p vt vs va vl k → ¬ S k) : IsTab w' B p m texts vt vs va vl :=
  ⟨by rw [hk.block p h.lt (hs p (Or.inl rfl))]; exact h.block, h.base, hk.own h.otexts (fun k e => hs k (Or.inr (Or.inl e))), hk.own h.osums (fun k e => hs k (Or.inr (Or.inr (Or.inl e)))),
    hk.own h.oahead (fun k e => hs k (Or.inr (Or.inr (Or.inr (Or.inl e))))), hk.own h.olast (fun k e => hs k (Or.inr (Or.inr (Or.inr (Or.inr e))))), h.apart, h.pow, h.uniq⟩
end Go.Proofs.Ytkambjfhhmgniaa
