/-
  What the tokens of a text are, in plain words: by the document's one loop.
-/
import Derived.Test.YtbplkphjjfgkmaaDoorTextRunes
import Derived.Test.YtbplkphjjfgkmaaDoorNumRead
import Derived.Test.YtbplkphjjfgkmaaDoorTokWords
namespace Go.Proofs.YtbplkphjjfgkmaaDoor
open Go.RowKit
set_option linter.unusedVariables false
set_option linter.unusedSimpArgs false

namespace Tk
/-- Rune number i's code; -1 behind the last one. -/
def rn (s : ByteArray) (N i : Nat) : Int := if i < N then Rn.run s (Rn.st s i).p else -1
/-- The first place from i on where P does not hold, or N. -/
def wh (N : Nat) (f : Nat → Int) (P : Int → Bool) (i : Nat) : Nat := if h : i < N ∧ P (f i) = true then wh N f P (i + 1) else i
termination_by N - i
theorem wh_go {N : Nat} {f : Nat → Int} {P : Int → Bool} {i : Nat} (h : i < N) (hp : P (f i) = true) : wh N f P i = wh N f P (i + 1) := by rw [wh, dif_pos ⟨h, hp⟩]
theorem wh_stop {N : Nat} {f : Nat → Int} {P : Int → Bool} {i : Nat} (h : ¬ (i < N ∧ P (f i) = true)) : wh N f P i = i := by rw [wh, dif_neg h]
theorem wh_ge (N : Nat) (f : Nat → Int) (P : Int → Bool) (i : Nat) : i ≤ wh N f P i := by
  by_cases h : i < N ∧ P (f i) = true
  · rw [wh_go h.1 h.2]
    have := wh_ge N f P (i + 1)
    omega
  · rw [wh_stop h]; exact Nat.le_refl _
termination_by N - i
theorem wh_le (N : Nat) (f : Nat → Int) (P : Int → Bool) (i : Nat) (hi : i ≤ N) : wh N f P i ≤ N := by
  by_cases h : i < N ∧ P (f i) = true
  · rw [wh_go h.1 h.2]
    exact wh_le N f P (i + 1) (by omega)
  · rw [wh_stop h]; exact hi
termination_by N - i
theorem wh_end (N : Nat) (f : Nat → Int) (P : Int → Bool) (i : Nat) : ¬ (wh N f P i < N ∧ P (f (wh N f P i)) = true) := by
  by_cases h : i < N ∧ P (f i) = true
  · rw [wh_go h.1 h.2]
    exact wh_end N f P (i + 1)
  · rw [wh_stop h]; exact h
termination_by N - i
theorem wh_in (N : Nat) (f : Nat → Int) (P : Int → Bool) (i j : Nat) (h1 : i ≤ j) (h2 : j < wh N f P i) : j < N ∧ P (f j) = true := by
  by_cases h : i < N ∧ P (f i) = true
  · rw [wh_go h.1 h.2] at h2
    by_cases e : i = j
    · subst e; exact h
    · exact wh_in N f P (i + 1) j (by omega) h2
  · rw [wh_stop h] at h2; omega
termination_by N - i
/-- A token. -/
structure Tok where
  kind : Int
  text : ByteArray
  num : Int
  l : Nat
  c : Nat
def Tok.cells (t : Tok) : List Value := [.int .i64 t.kind, .string t.text, .int .i64 t.num, .int .i64 t.l, .int .i64 t.c]
/-- How many runes a sign has. -/
def sign (a b : Int) : Nat := if ((a == 60 || a == 62 || a == 33) && b == 61) = true then 2 else if (a == 60 || a == 62 || a == 61 || a == 40 || a == 41 || a == 91 || a == 93 || a == 44 || a == 59) = true then 1 else 0
/-- The text from rune i up to rune j. -/
def txt (s : ByteArray) (i j : Nat) : ByteArray := s.extract (Rn.st s i).p (Rn.st s j).p
def nameE (L : List UInt8) : Int × Int := if known L = true then (2, 0) else if (L.any fun b => gr (b.toNat : Int)) = true then (1, 1) else if 16 < L.length then (1, 3) else (1, 0)
/-- The token at rune i: its kind, where it ends, its number, its error. -/
structure One where
  kind : Int
  fin : Nat
  num : Int
  err : Int
def one (s : ByteArray) (N i : Nat) : One :=
  let c := rn s N i
  if (sm c || gr c) = true then
    let e := wh N (rn s N) row i
    let k := nameE (txt s i e).data.toList
    ⟨k.1, e, 0, k.2⟩
  else if (dg c || (c == 45 && dg (rn s N (i + 1)))) = true then
    let e := wh N (rn s N) dg (i + 1)
    let v := Nm.told (txt s i e).data.toList
    ⟨3, e, v.1, v.2⟩
  else
    let n := sign c (rn s N (i + 1))
    ⟨4, i + n, 0, if n = 0 then 1 else 0⟩
inductive An where
  | toks (l : List Tok)
  | bad (e : Int) (l c : Nat)
/-- Is rune i skipped? -/
def skipc (c : Int) (b : Bool) : Bool := (b && c != 10 && c != -1) || bl c || c == 35
def beh (c : Int) (b : Bool) : Bool := c != 10 && (b || c == 35)
def tokAt (s : ByteArray) (N i : Nat) : Tok := ⟨(one s N i).kind, txt s i (one s N i).fin, (one s N i).num, (Rn.st s i).l, (Rn.st s i).c⟩
def scan (s : ByteArray) (N i : Nat) (b : Bool) (out : List Tok) : An :=
  if i < N then
    if skipc (rn s N i) b = true then scan s N (i + 1) (beh (rn s N i) b) out
    else if (one s N i).err ≠ 0 then .bad (one s N i).err (Rn.st s i).l (Rn.st s i).c
    else if out.length = 4096 then .bad 3 (Rn.st s i).l (Rn.st s i).c
    else if i < (one s N i).fin then scan s N (one s N i).fin false (out ++ [tokAt s N i])
    else .bad 0 0 0
  else .toks (out ++ [⟨5, ByteArray.empty, 0, (Rn.st s N).l, (Rn.st s N).c⟩])
termination_by N - i
theorem scan_end {s : ByteArray} {N i : Nat} {b : Bool} {out : List Tok} (h : ¬ i < N) : scan s N i b out = .toks (out ++ [⟨5, ByteArray.empty, 0, (Rn.st s N).l, (Rn.st s N).c⟩]) := by rw [scan, if_neg h]
theorem scan_skip {s : ByteArray} {N i : Nat} {b : Bool} {out : List Tok} (h : i < N) (hs : skipc (rn s N i) b = true) : scan s N i b out = scan s N (i + 1) (beh (rn s N i) b) out := by rw [scan, if_pos h, if_pos hs]
theorem scan_bad {s : ByteArray} {N i : Nat} {b : Bool} {out : List Tok} (h : i < N) (hs : skipc (rn s N i) b = false) (he : (one s N i).err ≠ 0) : scan s N i b out = .bad (one s N i).err (Rn.st s i).l (Rn.st s i).c := by rw [scan, if_pos h, if_neg (by rw [hs]; decide), if_pos he]
theorem scan_long {s : ByteArray} {N i : Nat} {b : Bool} {out : List Tok} (h : i < N) (hs : skipc (rn s N i) b = false) (he : (one s N i).err = 0) (hl : out.length = 4096) : scan s N i b out = .bad 3 (Rn.st s i).l (Rn.st s i).c := by rw [scan, if_pos h, if_neg (by rw [hs]; decide), if_neg (by simpa using he), if_pos hl]
theorem rn_out (s : ByteArray) (N i : Nat) (h : ¬ i < N) : rn s N i = -1 := by unfold rn; rw [if_neg h]
theorem rn_lt {s : ByteArray} {N i : Nat} (h : rn s N i ≠ -1) : i < N := Classical.byContradiction fun c => h (rn_out s N i c)
theorem one_fin (s : ByteArray) (N i : Nat) (hi : i < N) (he : (one s N i).err = 0) : i < (one s N i).fin ∧ (one s N i).fin ≤ N := by
  unfold one at *
  by_cases h1 : (sm (rn s N i) || gr (rn s N i)) = true
  · rw [if_pos h1]
    have hr : row (rn s N i) = true := by unfold row; rw [h1]; rfl
    have e1 : wh N (rn s N) row i = wh N (rn s N) row (i + 1) := wh_go hi hr
    have e2 := wh_ge N (rn s N) row (i + 1)
    exact ⟨by show i < wh N (rn s N) row i; omega, wh_le _ _ _ _ (by omega)⟩
  · rw [if_neg h1] at he ⊢
    by_cases h2 : (dg (rn s N i) || (rn s N i == 45 && dg (rn s N (i + 1)))) = true
    · rw [if_pos h2]
      have e2 := wh_ge N (rn s N) dg (i + 1)
      exact ⟨by show i < wh N (rn s N) dg (i + 1); omega, wh_le _ _ _ _ (by omega)⟩
    · rw [if_neg h2] at he ⊢
      have hn : sign (rn s N i) (rn s N (i + 1)) ≠ 0 := by
        intro e
        simp only [e, if_pos] at he
        exact absurd he (by decide)
      refine ⟨by show i < i + sign _ _; omega, ?_⟩
      show i + sign _ _ ≤ N
      by_cases hb : rn s N (i + 1) = 61
      · have := rn_lt (s := s) (N := N) (i := i + 1) (by rw [hb]; decide)
        have : sign (rn s N i) (rn s N (i + 1)) ≤ 2 := by
          unfold sign
          split
          · omega
          · split <;> omega
        omega
      · have : sign (rn s N i) (rn s N (i + 1)) ≤ 1 := by
          unfold sign
          rw [if_neg (by simp [hb])]
          split <;> omega
        omega
theorem scan_tok {s : ByteArray} {N i : Nat} {b : Bool} {out : List Tok} (h : i < N) (hs : skipc (rn s N i) b = false) (he : (one s N i).err = 0) (hl : out.length ≠ 4096) : scan s N i b out = scan s N (one s N i).fin false (out ++ [tokAt s N i]) := by
  rw [scan, if_pos h, if_neg (by rw [hs]; decide), if_neg (by simpa using he), if_neg hl, if_pos (one_fin s N i h he).1]
theorem scan_blanks (s : ByteArray) (N i : Nat) (out : List Tok) : scan s N i false out = scan s N (wh N (rn s N) bl i) false out := by
  by_cases h : i < N ∧ bl (rn s N i) = true
  · rw [wh_go h.1 h.2, scan_skip h.1 (by unfold skipc; rw [h.2]; simp)]
    have e : beh (rn s N i) false = false := by
      have := h.2
      unfold bl at this
      unfold beh
      simp only [Bool.or_eq_true, beq_iff_eq] at this
      rcases this with ((h | h) | h) | h <;> rw [h] <;> rfl
    rw [e]
    exact scan_blanks s N (i + 1) out
  · rw [wh_stop h]
termination_by N - i
/-- Blanks behind a remark: a new line stands there, or the end. -/
theorem scan_newline (s : ByteArray) (N i : Nat) (out : List Tok) (h : rn s N i = 10 ∨ ¬ i < N) : scan s N i true out = scan s N (wh N (rn s N) bl i) false out := by
  by_cases hi : i < N
  · have h10 : rn s N i = 10 := by rcases h with h | h; · exact h
                                   · exact absurd hi h
    have hb : bl (rn s N i) = true := by rw [h10]; rfl
    rw [wh_go hi hb, scan_skip hi (by unfold skipc; rw [hb]; simp), show beh (rn s N i) true = false by rw [h10]; rfl]
    exact scan_blanks s N (i + 1) out
  · rw [wh_stop (by intro c; exact hi c.1), scan_end hi, scan_end hi]
theorem scan_remarks (s : ByteArray) (N i : Nat) (out : List Tok) : scan s N i true out = scan s N (wh N (rn s N) rem i) true out := by
  by_cases h : i < N ∧ rem (rn s N i) = true
  · have h2 := h.2
    unfold rem at h2
    rw [wh_go h.1 h.2, scan_skip h.1 (by unfold skipc; rw [Bool.true_and, h2]; simp)]
    have e : beh (rn s N i) true = true := by
      unfold beh
      rw [Bool.and_eq_true] at h2
      rw [h2.1]; rfl
    rw [e]
    exact scan_remarks s N (i + 1) out
  · rw [wh_stop h]
termination_by N - i
theorem scan_remark (s : ByteArray) (N i : Nat) (out : List Tok) (h : rn s N i = 35) : scan s N i false out = scan s N (wh N (rn s N) rem i) true out := by
  have hi : i < N := rn_lt (by rw [h]; decide)
  have hr : rem (rn s N i) = true := by rw [h]; rfl
  rw [wh_go hi hr, scan_skip hi (by rw [h]; rfl), show beh (rn s N i) false = true by rw [h]; rfl]
  exact scan_remarks s N (i + 1) out
theorem scan_remBad (s : ByteArray) (N i : Nat) (out : List Tok) (hi : i < N) (h : rn s N i = -1) : scan s N i true out = .bad 1 (Rn.st s i).l (Rn.st s i).c := by
  have ho : (one s N i).err = 1 := by
    unfold one
    rw [h]
    rw [if_neg (by decide), if_neg (by rw [show dg (-1) = false from rfl]; simp)]
    rfl
  rw [scan_bad hi (by rw [h]; rfl) (by rw [ho]; decide), ho]
end Tk
end Go.Proofs.YtbplkphjjfgkmaaDoor
