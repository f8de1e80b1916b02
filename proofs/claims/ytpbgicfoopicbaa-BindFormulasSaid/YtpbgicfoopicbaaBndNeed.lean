/-
  Bind: what a table tells, and the document, of names; chapter 11's example.
-/
import Derived.Test.YtpbgicfoopicbaaNamBuild
import Derived.Test.YtpbgicfoopicbaaNamChk
import Derived.Test.YtpbgicfoopicbaaNamEq
import Derived.Test.YtpbgicfoopicbaaBndSame
import Derived.Test.YtpbgicfoopicbaaBndRform
namespace Go.Proofs.Ytpbgicfoopicbaa
open Go.RowKit Go.Maps
set_option linter.unusedVariables false
set_option linter.unusedSimpArgs false

noncomputable def npOf (l : List St) : NPair := fun s k => Nm.needOf l k (Classical.choose (Nm.fnd_some l s l.length))
theorem needP_of {W : World} {B p : Nat} {cs : Array Value} {vn vp : Value} {b1 b2 : Nat} {D1 D2 : Dat} {l : List St} (hI : ∀ w2, Below W.heap.size W w2 → IsN w2 B p cs vn vp b1 b2 D1 D2 l) : NeedP (npOf l) p W := by
  intro s hs k w2 hb
  have hr := Classical.choose_spec (Nm.fnd_some l s l.length)
  unfold npOf
  generalize Classical.choose (Nm.fnd_some l s l.length) = r0 at *
  rcases hr with ⟨hr0, hno⟩ | ⟨i0, hr0, hi0, ⟨hi0', hnm, hnn⟩, _⟩
  · have hnot : s ∉ Nm.names l := fun h => by
      obtain ⟨j, hj⟩ := Nm.mem_names.1 h
      exact hno j (by obtain ⟨h1, _⟩ := hj; exact h1) hj
    have hnd : Nm.needOf l k r0 = (0, 7) := by rw [hr0]; rfl
    rw [hnd]
    refine (need_no s k hs (hI w2 hb) hnot).mono ?_
    rintro e w3 ⟨h1, rfl⟩
    exact ⟨h1, Below.refl _ _⟩
  · obtain ⟨j, n, hn, hp, _, hnt⟩ := Nm.place_of i0 hi0' hnm
    rw [hnn] at hn
    have hnd : Nm.needOf l k r0 = (if l[i0].kind = k then (n : Int) else 0, if l[i0].kind = k then 0 else 8) := by
      unfold Nm.needOf
      rw [hr0, if_neg (by omega)]
      by_cases hk : l[i0].kind = k
      · rw [if_pos hk, if_pos hk, if_pos (by simp [hi0', hk])]
        rw [hnt, hk]; rfl
      · rw [if_neg hk, if_neg hk, if_neg (by simp [hi0', hk])]
    rw [hnd]
    refine (need_yes s k hs (hI w2 hb) j _ n hn hp).mono ?_
    rintro e w3 ⟨h1, m, rfl⟩
    exact ⟨h1, bbelow_dn (Below.refl _ _) m⟩
theorem needR_of {W : World} {a : Option Addr} {c : Nat} {l : List St} (hl : RdS W a l) (hm : l.length ≤ 9223372036854775807) : NeedR (npOf l) a l.length c W := by
  intro s hs k w2 hb
  exact rneed_any a c l s k w2 (hl.mono hb (Nat.le_refl _)) hm _ (Classical.choose_spec (Nm.fnd_some l s l.length))
theorem cells_later {W w2 : World} {F : Nat} {t : TypeId} {x y z : Value} (h : W.heap[F]? = some (.cells #[x, y, z] t (0, 0))) (hb : Below W.heap.size W w2) :
    (w2.cell? ⟨F, 0, none⟩ = some x ∧ w2.cell? ⟨F, 1, none⟩ = some y ∧ w2.cell? ⟨F, 2, none⟩ = some z) ∧ F < w2.heap.size := by
  have h1 : w2.heap[F]? = some (.cells #[x, y, z] t (0, 0)) := (hb.block F (Array.getElem?_eq_some_iff.1 h).1).trans h
  exact ⟨rcells3 h1, (Array.getElem?_eq_some_iff.1 h1).1⟩
theorem sameF_refl (a b c : Int) : sameF a b c a b c = true := by simp [sameF]
def bexS (k : Int) (s : ByteArray) : St := ⟨k, s, 0, 0, .int .i64 0, .slice none 0 0, .string { data := #[] }, .string { data := #[] }, .string { data := #[] }, .int .i64 0, .slice none 0 0, .bool false⟩
def bexL : List St := [bexS 1 { data := #[98] }, bexS 1 { data := #[97] }]
theorem berr_ok {L : List St} {x : St} (h1 : Nm.most x.kind ≠ 0) (h2 : (Nm.cnt L x.kind : Int) ≠ Nm.most x.kind) (h3 : x.name ∉ Nm.names L) : Nm.errOf L x = 0 := by
  unfold Nm.errOf; rw [if_neg h1, if_neg h2, if_neg (fun h => h3 h.2)]
theorem bba_ne {a b : Array UInt8} (h : a ≠ b) : ({ data := a } : ByteArray) ≠ { data := b } := fun e => h (by cases e; rfl)
theorem bexL_good : Nm.Good bexL := by
  have h1 : Nm.Good [bexS 1 { data := #[98] }] := Nm.Good.snoc .nil (berr_ok (by decide) (by decide) (by simp [Nm.names, Nm.ents, Nm.entsA]))
  exact Nm.Good.snoc h1 (berr_ok (by decide) (by decide) (by
    show _ ∉ [({ data := #[98] } : ByteArray)]
    rw [List.mem_singleton]; exact bba_ne (by decide)))
theorem bexL_fit : ∀ x ∈ bexL, x.fit := by
  have key : ∀ (b : UInt8), (bexS 1 { data := #[b] }).fit := fun b => ⟨by simp [bexS], by show 1 ≤ maxLen; unfold maxLen; omega, fun v hv => by
    simp only [bexS, St.cells, List.mem_cons, List.not_mem_nil, or_false] at hv
    rcases hv with rfl | rfl | rfl | rfl | rfl | rfl | rfl | rfl | rfl | rfl | rfl | rfl <;> rfl⟩
  intro x hx
  simp only [bexL, List.mem_cons, List.not_mem_nil, or_false] at hx
  rcases hx with rfl | rfl
  · exact key 98
  · exact key 97
theorem bexL_need : npOf bexL { data := #[97] } 1 = (1, 0) := by
  have h1 : Nm.FndAt bexL 2 { data := #[97] } 1 := Or.inr ⟨1, rfl, by decide, ⟨by decide, rfl, rfl⟩, fun j hj => by
    have : j = 0 := by omega
    subst this
    rintro ⟨_, _, h⟩
    exact bba_ne (by decide) h⟩
  have h2 := Nm.fnd_one (Classical.choose_spec (Nm.fnd_some bexL { data := #[97] } bexL.length)) h1
  unfold npOf
  rw [h2]
  rfl
def bexI : It := ⟨3, { data := #[97] }, 0, { data := #[] }, 3, { data := #[] }, { data := #[] }, 0, 0⟩
theorem bexI_ok : bexI.ok := ⟨⟨by decide, by decide⟩, by show 1 ≤ maxLen; unfold maxLen; omega, ⟨by decide, by decide⟩, by show 0 ≤ maxLen; omega, ⟨by decide, by decide⟩, by show 0 ≤ maxLen; omega, by show 0 ≤ maxLen; omega, ⟨by decide, by decide⟩, ⟨by decide, by decide⟩⟩
theorem bex_va : valS (npOf bexL) { data := #[97] } 0 = ((1, 0), 0) := by
  unfold valS
  rw [if_neg (bba_ne (by decide)), bexL_need]
theorem bex_vb : valS (npOf bexL) { data := #[] } 3 = ((-1, 3), 0) := by
  unfold valS
  rw [if_pos (show ({ data := #[] } : ByteArray) = ByteArray.empty from rfl)]
theorem bexI_err : errI (npOf bexL) bexI = 0 := by
  unfold errI
  rw [if_pos ⟨by decide, by decide⟩]
  show (if (valS (npOf bexL) { data := #[97] } 0).2 = 0 then (valS (npOf bexL) { data := #[] } 3).2 else (valS (npOf bexL) { data := #[97] } 0).2) = 0
  rw [bex_va, bex_vb]; rfl
theorem bexI_ins : insI (npOf bexL) bexI = ⟨3, 1, 0, -1, 3, 0, 0⟩ := by
  unfold insI
  rw [if_pos ⟨by decide, by decide⟩]
  show (⟨3, (valS (npOf bexL) { data := #[97] } 0).1.1, (valS (npOf bexL) { data := #[97] } 0).1.2, (valS (npOf bexL) { data := #[] } 3).1.1, (valS (npOf bexL) { data := #[] } 3).1.2, 0, 0⟩ : In7) = _
  rw [bex_va, bex_vb]
theorem bex_build (w : World) (cs : Array Value) (hcs : cs.toList = Rec.flat St.cells bexL) :
    Calls Try.prog 31 #[.slice (some ⟨w.heap.size, 0, none⟩) 2 2] (w.alloc (.cells cs 94)) fun e w' => ∃ p, e = .returned (.tuple #[.pointer (some ⟨p, 0, none⟩), .agg #[.int .i64 0, .int .i64 0, .int .i64 0]]) ∧ Below w.heap.size w w' ∧
      ∀ w2, Below w'.heap.size w' w2 → NeedP (npOf bexL) p w2 := by
  have hr : RdS (w.alloc (.cells cs 94)) (some ⟨w.heap.size, 0, none⟩) bexL := Or.inr ⟨w.heap.size, 0, rfl, fun j hj => by rw [Nat.zero_add, World.cell?_alloc_at _ _ _ _ rfl, ← Array.getElem?_toList, hcs]⟩
  refine (build_any _ _ bexL _ hr bexL_fit (by decide)).mono ?_
  rintro e w' (⟨hg, p, cs', vn, vp, b1, b2, D1, D2, he, hi, hb⟩ | ⟨i, hi, _, hne, _⟩)
  · have hb2 : Below w.heap.size w w' := (bbel_alloc w _).trans (hb.mono (by simp))
    refine ⟨p, he, hb2, fun w2 h2 => ?_⟩
    have hz : (w.alloc (.cells cs 94)).heap.size + 1 ≤ w'.heap.size := by have := lt_of_cell (hi.cell 0 |>.trans hi.c0); have := hi.base; simp only at *; omega
    exact needP_of fun w3 h3 => hi.still hz (h2.trans (h3.mono h2.size))
  · exact absurd (Nm.good_at bexL_good i hi) hne
theorem bex_form (p : Nat) (w : World) (cs : Array Value) (hcs : cs.toList = Rec.flat It.cells [bexI]) (hn : NeedP (npOf bexL) p (w.alloc (.cells cs 42))) :
    Calls Try.prog 33 #[.pointer (some ⟨p, 0, none⟩), .slice (some ⟨w.heap.size, 0, none⟩) 1 1] (w.alloc (.cells cs 42)) fun e w' => ∃ g cap, e = .returned (.tuple #[.slice (some ⟨g, 0, none⟩) 1 cap, .agg #[.int .i64 0, .int .i64 0, .int .i64 0]]) ∧ Below w.heap.size w w' ∧
      (w'.cell? ⟨g, 1, none⟩ = some (.int .i64 1) ∧ w'.cell? ⟨g, 2, none⟩ = some (.int .i64 0) ∧ w'.cell? ⟨g, 3, none⟩ = some (.int .i64 (-1)) ∧ w'.cell? ⟨g, 4, none⟩ = some (.int .i64 3)) := by
  have hr : RdI (w.alloc (.cells cs 42)) (some ⟨w.heap.size, 0, none⟩) [bexI] := Or.inr ⟨w.heap.size, 0, rfl, fun j hj => by rw [Nat.zero_add, World.cell?_alloc_at _ _ _ _ rfl, ← Array.getElem?_toList, hcs]⟩
  refine (formula_any (npOf bexL) p _ 1 [bexI] _ hr (by intro x hx; rw [List.mem_singleton.1 hx]; exact bexI_ok) (by decide) hn).mono ?_
  rintro e w' (⟨_, v, he, ho, hb⟩ | ⟨i, hi, _, hne, _⟩)
  · obtain ⟨g, cap, rfl, _⟩ := own_some ho (by decide)
    have hins : [bexI].map (insI (npOf bexL)) = [⟨3, 1, 0, -1, 3, 0, 0⟩] := by simp [bexI_ins]
    rw [hins] at ho
    refine ⟨g, cap, he, (bbel_alloc w _).trans (hb.mono (by simp)), ?_, ?_, ?_, ?_⟩
    · exact ho.cellAt 1 (by decide)
    · exact ho.cellAt 2 (by decide)
    · exact ho.cellAt 3 (by decide)
    · exact ho.cellAt 4 (by decide)
  · have : i = 0 := by simp at hi; omega
    subst this
    exact absurd bexI_err hne
end Go.Proofs.Ytpbgicfoopicbaa
