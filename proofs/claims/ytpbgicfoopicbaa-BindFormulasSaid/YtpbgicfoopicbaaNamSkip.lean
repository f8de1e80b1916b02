/-
  Names: how a statement without a name is put; and any statement.
-/
import Derived.Test.YtpbgicfoopicbaaNamPut
import Derived.Test.YtpbgicfoopicbaaNamOpen
namespace Go.Proofs.Ytpbgicfoopicbaa
open Go.RowKit Go.Maps
set_option linter.unusedVariables false
set_option linter.unusedSimpArgs false

section
variable {w : World} {B p : Nat} {cs : Array Value} {vn vp : Value} {b1 b2 : Nat} {D1 D2 : Dat} {L : List St}
theorem isn_skip {W : World} {k : Nat} {x : St} (hx : x.kind = k) (hk : k ≤ 8) (hnm : Nm.named x.kind = false) (hg : Nm.Good L) (he : Nm.errOf L x = 0) (hsz : ∀ s ∈ Nm.names L, s.size ≤ maxLen) (h1 : Nm.MapN D1 (Nm.names L)) (h2 : Nm.MapP D2 (Nm.places L))
    (M : Mid w B p W cs vn vp b1 b2 (Nm.names L).length (Nm.places L).length D1 D2 (Nm.names L) (Nm.places L))
    (C : Cells cs vn vp b1 b2 (fun j => if j = k then Nm.cnt L k + 1 else Nm.cnt L j)) :
    IsN W B p cs vn vp b1 b2 D1 D2 (L ++ [x]) := by
  have en : Nm.names (L ++ [x]) = Nm.names L := by rw [Nm.names_snoc, hnm]; simp
  have ep : Nm.places (L ++ [x]) = Nm.places L := by rw [Nm.places_snoc, hnm]; simp
  have hg2 : Nm.Good (L ++ [x]) := hg.snoc he
  have hc : ∀ j : Nat, Nm.cnt (L ++ [x]) (j : Int) = if j = k then Nm.cnt L k + 1 else Nm.cnt L j := fun j => by
    rw [Nm.cnt_snoc, hx]
    by_cases e : j = k
    · subst e; simp
    · rw [if_neg e, if_neg (by omega)]; rfl
  refine ⟨M.block, C.size, C.c0, C.c1, C.c2, C.c3, fun j _ hj => by rw [hc]; exact C.cc j hj, ?_, by rw [en]; exact M.on, by rw [ep]; exact M.op, by rw [en]; exact M.m1, by rw [ep]; exact M.m2, by rw [en]; exact h1, by rw [ep]; exact h2, M.base, M.base1, M.base2, M.apart, hg2, fun s hs => hsz s (en ▸ hs)⟩
  have h0 := C.cc 0 (by omega)
  have h3 := hg2.cnt_le 0
  have h4 : Nm.most 0 = 0 := by decide
  have h5 := hc 0
  rw [← h5] at h0
  have h6 : Nm.cnt (L ++ [x]) ((0 : Nat) : Int) = 0 := by have : ((0 : Nat) : Int) = 0 := rfl; rw [this]; omega
  rw [h6] at h0
  exact h0
set_option maxHeartbeats 1000000 in
theorem add_plain (h : IsN w B p cs vn vp b1 b2 D1 D2 L) (hb : B ≤ w.heap.size) (k : Nat) (name : ByteArray) (line col : Int) (c4 c5 c6 c7 c8 c9 c10 c11 : Value) (hc : (Nm.cnt L k : Int) ≠ Nm.most k) (h68 : k = 6 ∨ k = 8) (he0 : Nm.errOf L ⟨k, name, line, col, c4, c5, c6, c7, c8, c9, c10, c11⟩ = 0) :
    Calls Try.prog 47 #[.pointer (some ⟨p, 0, none⟩), .agg #[.int .i64 k, .string name, .int .i64 line, .int .i64 col, c4, c5, c6, c7, c8, c9, c10, c11]] w (AddNew w B p b1 b2 L ⟨k, name, line, col, c4, c5, c6, c7, c8, c9, c10, c11⟩) := by
  have hk : 1 ≤ k ∧ k ≤ 8 := by omega
  have hm2 : (Nm.most k == 0) = false := by
    rw [beq_eq_false_iff_ne]
    exact fun e => by have := Nm.most_zero.1 e; omega
  have hck2 : Nm.cnt L k ≤ 100 := by have := h.good.cnt_le k; have := Nm.most_range k; omega
  have m0 := (h.mid hb).alloc (.cells #[.int .i64 k, .string name, .int .i64 line, .int .i64 col, c4, c5, c6, c7, c8, c9, c10, c11] 94)
  have HF : Hid (∀ d, AddNew w B p b1 b2 L ⟨k, name, line, col, c4, c5, c6, c7, c8, c9, c10, c11⟩ (.returned (.int .i64 0)) (((w.alloc (.cells #[.int .i64 k, .string name, .int .i64 line, .int .i64 col, c4, c5, c6, c7, c8, c9, c10, c11] 94)).setCell ⟨p, 4 + k, none⟩ (.int .i64 ((Nm.cnt L k : Int) + 1))).drewN d)) := Lib.hid fun d =>
    have M := (m0.set (4 + k) (.int .i64 ((Nm.cnt L k : Int) + 1))).drewN d
    ⟨rfl, M.below, _, _, _, _, _, isn_skip (x := ⟨k, name, line, col, c4, c5, c6, c7, c8, c9, c10, c11⟩) rfl hk.2 (by rcases h68 with e | e <;> subst e <;> rfl) h.good he0 h.sizes h.n1 h.n2 M (h.cells.setK k hk.2 (Nm.cnt L k + 1))⟩
  have ek := h.cc k hk.1 hk.2
  have d := (m0.cell (4 + k)).trans ek
  have d2 := m0.frz (4 + k)
  have x0 := rdX w #[.int .i64 k, .string name, .int .i64 line, .int .i64 col, c4, c5, c6, c7, c8, c9, c10, c11] 0 _ rfl
  have he : (((Nm.cnt L k : Nat) : Int) == Nm.most k) = false := beq_eq_false_iff_ne.2 hc
  have hk9 : (k : Int) < 9 := by omega
  have n68 : ((k : Int) != 6) = false ∨ ((k : Int) != 6) = true ∧ ((k : Int) != 8) = false := by
    rcases h68 with e | e
    · subst e; exact Or.inl rfl
    · subst e; exact Or.inr ⟨rfl, rfl⟩
  have HM : ∀ w, Calls Try.prog 64 #[.int .i64 k] w fun e w' => e = .returned (.int .i64 (Nm.most k)) ∧ w = w' := fun w => most_any k w
  have hu : ∀ b : Bool, ¬ (some undef = some (Value.bool b)) := fun b h => by cases h
  clear h m0 hc he0 ek h68
  generalize Nm.most (k : Int) = mk at *
  generalize Nm.cnt L k = ck at *
  have HM := Lib.hid HM
  rcases n68 with n6 | ⟨n6, n8⟩
  all_goals
    go_enter Try.func47, Try.ntmps47
    go_wp2_with (first | (go_at_call 64; refine (HM.out _).mono ?_; rintro e w1 ⟨rfl, rfl⟩))
    go_quiet (fail)
    go_wp2_with fail
    go_region
    go_wp2_with fail
    go_ret
    first | exact HF.out 1 | exact HF.out 2 | exact HF.out 0 | exact HF.out 3 | exact HF.out _
/-- What any statement answers. -/
def AddAns (w : World) (B p b1 b2 : Nat) (L : List St) (x : St) (e : Ending) (w' : World) : Prop :=
  (Nm.errOf L x = 0 ∧ AddNew w B p b1 b2 L x e w') ∨ (Nm.errOf L x ≠ 0 ∧ AddBad w.heap.size w (Nm.errOf L x) e w')
theorem add_all (h : IsN w B p cs vn vp b1 b2 D1 D2 L) (hb : B ≤ w.heap.size) (x : St) (hx : x.fit) :
    Calls Try.prog 47 #[.pointer (some ⟨p, 0, none⟩), .agg #[.int .i64 x.kind, .string x.name, .int .i64 x.line, .int .i64 x.col, x.c4, x.c5, x.c6, x.c7, x.c8, x.c9, x.c10, x.c11]] w (AddAns w B p b1 b2 L x) := by
  obtain ⟨kind, name, line, col, c4, c5, c6, c7, c8, c9, c10, c11⟩ := x
  by_cases hm : Nm.most kind = 0
  · have he : Nm.errOf L ⟨kind, name, line, col, c4, c5, c6, c7, c8, c9, c10, c11⟩ = 8 := by unfold Nm.errOf; rw [if_pos hm]
    refine (add_kind kind name _ _ _ _ _ _ _ _ _ _ hm).mono fun e w' h => Or.inr ?_
    rw [he]; exact ⟨by decide, h⟩
  · have hk : ¬ (kind < 1 ∨ 8 < kind) := fun h => hm (Nm.most_zero.2 h)
    obtain ⟨k, rfl⟩ := Int.eq_ofNat_of_zero_le (a := kind) (by omega)
    have hk2 : 1 ≤ k ∧ k ≤ 8 := by omega
    by_cases hc : (Nm.cnt L k : Int) = Nm.most k
    · have he : Nm.errOf L ⟨k, name, line, col, c4, c5, c6, c7, c8, c9, c10, c11⟩ = 3 := by unfold Nm.errOf; rw [if_neg hm, if_pos hc]
      refine (add_long h hb k name _ _ _ _ _ _ _ _ _ _ hk2 hc).mono fun e w' h => Or.inr ?_
      rw [he]; exact ⟨by decide, h⟩
    · by_cases h68 : k = 6 ∨ k = 8
      · have he : Nm.errOf L ⟨k, name, line, col, c4, c5, c6, c7, c8, c9, c10, c11⟩ = 0 := by
          unfold Nm.errOf; rw [if_neg hm, if_neg hc, if_neg]
          intro hh
          have h1 := hh.1
          rcases h68 with e | e <;> subst e <;> simp [Nm.named] at h1
        exact (add_plain h hb k name line col _ _ _ _ _ _ _ _ hc h68 he).mono fun e w' h => Or.inl ⟨he, h⟩
      · have h6 : k ≠ 6 := fun e => h68 (Or.inl e)
        have h8 : k ≠ 8 := fun e => h68 (Or.inr e)
        have hnm : Nm.named (k : Int) = true := by simp [Nm.named]; omega
        by_cases hn : name ∈ Nm.names L
        · have he : Nm.errOf L ⟨k, name, line, col, c4, c5, c6, c7, c8, c9, c10, c11⟩ = 6 := by unfold Nm.errOf; rw [if_neg hm, if_neg hc, if_pos ⟨hnm, hn⟩]
          refine (add_twice h hb k name _ _ _ _ _ _ _ _ _ _ hk2 hc h6 h8 hx.name hn).mono fun e w' h => Or.inr ?_
          rw [he]; exact ⟨by decide, h⟩
        · have he : Nm.errOf L ⟨k, name, line, col, c4, c5, c6, c7, c8, c9, c10, c11⟩ = 0 := by unfold Nm.errOf; rw [if_neg hm, if_neg hc, if_neg (fun hh => hn hh.2)]
          exact (add_named h hb k name line col _ _ _ _ _ _ _ _ hk2 hc h6 h8 hx.name hn he).mono fun e w' h => Or.inl ⟨he, h⟩
end
end Go.Proofs.Ytpbgicfoopicbaa
