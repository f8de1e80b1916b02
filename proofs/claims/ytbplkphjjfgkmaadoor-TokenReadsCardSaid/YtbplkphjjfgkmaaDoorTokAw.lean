/-
  Chapter 2's example; the law on words.
-/
import Derived.Test.YtbplkphjjfgkmaaDoorTokAll
namespace Go.Proofs.YtbplkphjjfgkmaaDoor
open Go.RowKit
set_option linter.unusedVariables false
set_option linter.unusedSimpArgs false

namespace Tk
def whF (N : Nat) (f : Nat → Int) (P : Int → Bool) : Nat → Nat → Nat
  | 0, i => i
  | k + 1, i => if (decide (i < N) && P (f i)) = true then whF N f P k (i + 1) else i
theorem wh_fuel (N : Nat) (f : Nat → Int) (P : Int → Bool) : ∀ k i, N - i ≤ k → wh N f P i = whF N f P k i
  | 0, i, h => wh_stop (by intro c; omega)
  | k + 1, i, h => by
    unfold whF
    by_cases c : i < N ∧ P (f i) = true
    · rw [if_pos (by simpa using c), wh_go c.1 c.2]
      exact wh_fuel N f P k (i + 1) (by omega)
    · rw [if_neg (by simpa using c), wh_stop c]
def oneF (s : ByteArray) (N i : Nat) : One :=
  let c := rn s N i
  if (sm c || gr c) = true then
    let e := whF N (rn s N) row N i
    let k := nameE (txt s i e).data.toList
    ⟨k.1, e, 0, k.2⟩
  else if (dg c || (c == 45 && dg (rn s N (i + 1)))) = true then
    let e := whF N (rn s N) dg N (i + 1)
    let v := Nm.told (txt s i e).data.toList
    ⟨3, e, v.1, v.2⟩
  else
    let n := sign c (rn s N (i + 1))
    ⟨4, i + n, 0, if n = 0 then 1 else 0⟩
theorem one_fuel (s : ByteArray) (N i : Nat) : one s N i = oneF s N i := by
  unfold one oneF
  rw [wh_fuel N (rn s N) row N i (by omega), wh_fuel N (rn s N) dg N (i + 1) (by omega)]
def scanF (s : ByteArray) (N : Nat) : Nat → Nat → Bool → List Tok → Option An
  | 0, _, _, _ => none
  | k + 1, i, b, out =>
    if i < N then
      if skipc (rn s N i) b = true then scanF s N k (i + 1) (beh (rn s N i) b) out
      else
        let o := oneF s N i
        if o.err ≠ 0 then some (.bad o.err (Rn.st s i).l (Rn.st s i).c)
        else if out.length = 4096 then some (.bad 3 (Rn.st s i).l (Rn.st s i).c)
        else if i < o.fin then scanF s N k o.fin false (out ++ [⟨o.kind, txt s i o.fin, o.num, (Rn.st s i).l, (Rn.st s i).c⟩])
        else some (.bad 0 0 0)
    else some (.toks (out ++ [⟨5, ByteArray.empty, 0, (Rn.st s N).l, (Rn.st s N).c⟩]))
theorem scan_fuel (s : ByteArray) (N : Nat) : ∀ k i b out a, scanF s N k i b out = some a → scan s N i b out = a
  | 0, _, _, _, _, h => by cases h
  | k + 1, i, b, out, a, h => by
    unfold scanF at h
    rw [scan]
    by_cases c1 : i < N
    · rw [if_pos c1] at h ⊢
      by_cases c2 : skipc (rn s N i) b = true
      · rw [if_pos c2] at h ⊢
        exact scan_fuel s N k _ _ _ _ h
      · rw [if_neg c2] at h ⊢
        simp only [← one_fuel] at h
        by_cases c3 : (one s N i).err ≠ 0
        · rw [if_pos c3] at h ⊢
          exact Option.some.inj h
        · rw [if_neg c3] at h ⊢
          by_cases c4 : out.length = 4096
          · rw [if_pos c4] at h ⊢
            exact Option.some.inj h
          · rw [if_neg c4] at h ⊢
            by_cases c5 : i < (one s N i).fin
            · rw [if_pos c5] at h ⊢
              exact scan_fuel s N k _ _ _ _ h
            · rw [if_neg c5] at h ⊢
              exact Option.some.inj h
    · rw [if_neg c1] at h ⊢
      exact Option.some.inj h
end Tk
/-- The example's text. -/
def aw2 : ByteArray := ⟨#[97, 116, 116, 114, 32, 97, 61, 45, 53, 59]⟩
def aw2T : List Tk.Tok := [⟨2, ⟨#[97, 116, 116, 114]⟩, 0, 1, 1⟩, ⟨1, ⟨#[97]⟩, 0, 1, 6⟩, ⟨4, ⟨#[61]⟩, 0, 1, 7⟩, ⟨3, ⟨#[45, 53]⟩, -5, 1, 8⟩, ⟨4, ⟨#[59]⟩, 0, 1, 10⟩, ⟨5, ByteArray.empty, 0, 1, 11⟩]
theorem aw2_p : (Rn.st aw2 10).p = 10 ∧ ∀ j, j < 10 → (Rn.st aw2 j).p < 10 := by decide +kernel
theorem aw2_ends : Ends aw2 10 := ⟨fun j hj => aw2_p.2 j hj, by rw [aw2_p.1]; exact Nat.le_refl _⟩
theorem aw2_scanF : Tk.scanF aw2 10 11 0 false [] = some (.toks aw2T) := by kernel_rfl
theorem aw2_scan : Tk.scan aw2 10 0 false [] = .toks aw2T := Tk.scan_fuel _ _ _ _ _ _ _ aw2_scanF
/-- What Tokens answers at a text whose tokens are known. -/
theorem tokens_at (s : ByteArray) (w : World) (hs : s.size ≤ 1000000) (hn : NumIs w) {N : Nat} {l : List Tk.Tok} (hE : Ends s N) (hN : N ≤ 16384) (hsc : Tk.scan s N 0 false [] = .toks l) :
    Calls Tryd.prog 25 #[.string s] w fun e w' => ∃ (v : Value) (B : Nat), e = .returned (.tuple #[v, .agg #[.int .i64 0, .int .i64 0, .int .i64 0]]) ∧ w'.ownsRow B 42 5 v l.length (Rec.flat Tk.Tok.cells l) ∧ w.heap.size ≤ B ∧ Below w.heap.size w w' := by
  refine (tokens_any s w hs hn).mono ?_
  rintro e w' (⟨M, l2, v, B, hE2, -, h2, -, he, hown, hB, hb⟩ | ⟨M, er, li, co, hE2, -, h2, -⟩ | ⟨hall, -⟩)
  · obtain rfl := ends_unique hE2 hE
    rw [hsc] at h2
    injection h2 with h2
    subst h2
    exact ⟨v, B, he, hown, hB, hb⟩
  · obtain rfl := ends_unique hE2 hE
    rw [hsc] at h2
    cases h2
  · exfalso
    have := hall N hN
    have := hE.2
    omega
set_option maxHeartbeats 4000000 in
theorem awake2_any (w : World) (hn : NumIs w) : Calls Tryd.prog 24 #[] w fun e w' => e = .returned (.bool true) ∧ Below w.heap.size w w' := by
  have HT := Lib.hid (tokens_at aw2 w (by decide) hn aw2_ends (by decide) aw2_scan)
  clear hn
  go_enter Tryd.func24, Tryd.ntmps24
  go_wp2_with fail
  refine HT.out.mono ?_
  rintro e w1 ⟨v, B, rfl, hown, hB, hb⟩
  obtain ⟨g, cap, hx, hgB, -, -, hgl⟩ := own_some hown (by decide)
  subst hx
  have hc : ∀ k, k < 30 → w1.cell? ⟨g, k, none⟩ = (Rec.flat Tk.Tok.cells aw2T)[k]? := fun k hk => hown.cellAt k (by show k < 30; exact hk)
  have c0 : w1.cell? ⟨g, 0, none⟩ = some (.int .i64 2) := hc 0 (by decide)
  have c5 : w1.cell? ⟨g, 5, none⟩ = some (.int .i64 1) := hc 5 (by decide)
  have c11 : w1.cell? ⟨g, 11, none⟩ = some (.string ⟨#[61]⟩) := hc 11 (by decide)
  have c17 : w1.cell? ⟨g, 17, none⟩ = some (.int .i64 (-5)) := hc 17 (by decide)
  have c25 : w1.cell? ⟨g, 25, none⟩ = some (.int .i64 5) := hc 25 (by decide)
  have c28 : w1.cell? ⟨g, 28, none⟩ = some (.int .i64 1) := hc 28 (by decide)
  have c29 : w1.cell? ⟨g, 29, none⟩ = some (.int .i64 11) := hc 29 (by decide)
  have HB := Lib.hid hb
  clear hc hown hB hb HT
  go_wp2
  go_ret
  exact ⟨rfl, HB.out.alloc HB.out.size _⟩
set_option maxHeartbeats 1000000 in
theorem tokenKnown_walk (s : ByteArray) (w : World) (hn : NumIs w) : Calls Tryd.prog 5 #[.string s] w fun e w' => e = .returned (.bool true) ∧ Below w.heap.size w w' := by
  have HK := Lib.hid (known_any s w)
  have HR := Lib.hid (rknown_any s w)
  have HAW : Hid (∀ w', Below w.heap.size w w' → Calls Tryd.prog 24 #[] w' fun e w2 => e = .returned (.bool true) ∧ Below w.heap.size w w2) := Lib.hid fun w' hb => (awake2_any w' (hn.below hb)).mono fun e w2 h => ⟨h.1, hb.trans (h.2.mono hb.size)⟩
  clear hn
  generalize Tk.known s.data.toList = b at *
  have hbb : (b == b) = true := by simp
  go_enter Tryd.func5, Tryd.ntmps5
  go_wp2_with fail
  refine HK.out.mono ?_
  rintro e w1 ⟨rfl, rfl⟩
  go_wp2_with fail
  refine HR.out.mono ?_
  rintro e w1 ⟨rfl, hb1⟩
  have HB1 := Lib.hid hb1
  clear hb1
  go_wp2_with fail
  refine (HAW.out _ HB1.out).mono ?_
  rintro e w2 ⟨rfl, hb2⟩
  have HB2 := Lib.hid hb2
  clear hb2
  go_wp2_with fail
  go_ret
  exact ⟨rfl, HB2.out⟩
end Go.Proofs.YtbplkphjjfgkmaaDoor
