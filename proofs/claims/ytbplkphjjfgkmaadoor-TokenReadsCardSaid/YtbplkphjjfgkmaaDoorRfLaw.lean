/-
  The law on tokens and the document's tokens.
-/
import Derived.Test.YtbplkphjjfgkmaaDoorRfTok
namespace Go.Proofs.YtbplkphjjfgkmaaDoor
open Go.RowKit
set_option linter.unusedVariables false
set_option linter.unusedSimpArgs false

def tokV (v : Value) (er li co : Int) : Value := .tuple #[v, .agg #[.int .i64 er, .int .i64 li, .int .i64 co]]
theorem tokensR_shape {s : ByteArray} {w w' : World} {e : Ending} (h : TokensR s w e w') : ∃ v er li co, e = .returned (tokV v er li co) ∧ Below w.heap.size w w' := by
  rcases h with ⟨N, l, v, B, -, -, -, -, he, -, -, hb⟩ | ⟨N, er, li, co, -, -, -, -, he, hb⟩ | ⟨-, he, hb⟩
  · exact ⟨v, 0, 0, 0, he, hb⟩
  · exact ⟨_, er, li, co, he, hb⟩
  · exact ⟨_, 3, 0, 0, he, hb⟩
theorem rtokensR_shape {s : ByteArray} {w w' : World} {e : Ending} (h : RTokensR s w e w') : ∃ v er li co, e = .returned (tokV v er li co) ∧ Below w.heap.size w w' := by
  rcases h with ⟨N, l, v, B, -, -, -, -, he, -, -, hb⟩ | ⟨N, er, li, co, -, -, -, -, he, hb⟩ | ⟨N, -, -, he, hb⟩
  · exact ⟨v, 0, 0, 0, he, hb⟩
  · exact ⟨_, er, li, co, he, hb⟩
  · exact ⟨_, 3, 0, 0, he, hb⟩
theorem tokV_inj {v v' : Value} {a b c a' b' c' : Int} (h : Ending.returned (tokV v a b c) = .returned (tokV v' a' b' c')) : v = v' ∧ a = a' ∧ b = b' ∧ c = c' := by
  unfold tokV at h
  simpa using h
theorem scan_len {s : ByteArray} {N : Nat} {l : List Tk.Tok} (hE : Ends s N) (h : Tk.scan s N 0 false [] = .toks l) : 0 < l.length := (Tk.rises hE h).1
theorem both_same {s : ByteArray} {w w1 wa w2 : World} {va vb : Value} {er li co er2 li2 co2 : Int} (h1 : TokensR s w (.returned (tokV va er li co)) w1) (hab : Below w1.heap.size w1 wa) (h2 : RTokensR s wa (.returned (tokV vb er2 li2 co2)) w2) :
    er = er2 ∧ li = li2 ∧ co = co2 ∧ ∀ W, Below w2.heap.size w2 W → Calls Tryd.prog 27 #[va, vb] W fun e w' => e = .returned (.bool true) ∧ ∃ n, w' = W.drewN n := by
  rcases h1 with ⟨N, l, v, B, hE, hN, hsc, hl, he, hown, hB, hb⟩ | ⟨N, er', li', co', hE, hN, hsc, hne, he, hb⟩ | ⟨hall, he, hb⟩
  · obtain ⟨rfl, rfl, rfl, rfl⟩ := tokV_inj he
    rcases h2 with ⟨N2, l2, v2, B2, hE2, hN2, hsc2, hl2, he2, hown2, hB2, hb2⟩ | ⟨N2, er', li', co', hE2, hN2, hsc2, hne, he2, hb2⟩ | ⟨N2, hE2, hN2, he2, hb2⟩
    · obtain ⟨rfl, rfl, rfl, rfl⟩ := tokV_inj he2
      obtain rfl := ends_unique hE hE2
      rw [hsc] at hsc2
      injection hsc2 with hll
      subst hll
      refine ⟨rfl, rfl, rfl, fun W hW => ?_⟩
      have hpos := scan_len hE hsc
      obtain ⟨g, c, rfl, hg, hc⟩ := tok_cells hown (hab.trans (hb2.mono hab.size) |>.trans (hW.mono (Nat.le_trans hab.size hb2.size))) hpos
      obtain ⟨g2, c2, rfl, hg2, hc2⟩ := tok_cells hown2 hW hpos
      exact rsame_self W g g2 c c2 l hl hc hc2
    · obtain rfl := ends_unique hE hE2
      rw [hsc] at hsc2
      cases hsc2
    · obtain rfl := ends_unique hE hE2
      omega
  · obtain ⟨rfl, rfl, rfl, rfl⟩ := tokV_inj he
    rcases h2 with ⟨N2, l2, v2, B2, hE2, hN2, hsc2, hl2, he2, hown2, hB2, hb2⟩ | ⟨N2, er', li', co', hE2, hN2, hsc2, hne, he2, hb2⟩ | ⟨N2, hE2, hN2, he2, hb2⟩
    · obtain rfl := ends_unique hE hE2
      rw [hsc] at hsc2
      cases hsc2
    · obtain ⟨rfl, rfl, rfl, rfl⟩ := tokV_inj he2
      obtain rfl := ends_unique hE hE2
      rw [hsc] at hsc2
      injection hsc2 with e1 e2 e3
      subst e1 e2 e3
      exact ⟨rfl, rfl, rfl, fun W hW => rsame_nil W⟩
    · obtain rfl := ends_unique hE hE2
      omega
  · obtain ⟨rfl, rfl, rfl, rfl⟩ := tokV_inj he
    rcases h2 with ⟨N2, l2, v2, B2, hE2, hN2, hsc2, hl2, he2, hown2, hB2, hb2⟩ | ⟨N2, er', li', co', hE2, hN2, hsc2, hne, he2, hb2⟩ | ⟨N2, hE2, hN2, he2, hb2⟩
    · have := hall N2 hN2
      have := hE2.2
      omega
    · have := hall N2 hN2
      have := hE2.2
      omega
    · obtain ⟨rfl, rfl, rfl, rfl⟩ := tokV_inj he2
      exact ⟨rfl, rfl, rfl, fun W hW => rsame_nil W⟩
set_option maxRecDepth 1000000 in
set_option maxHeartbeats 4000000 in
theorem tokenReads_walk (s : ByteArray) (hl : s.size ≤ 9223372036854775807) (w : World) (hn : NumIs w) : Calls Tryd.prog 4 #[.string s] w fun e w' => e = .returned (.bool true) ∧ Below w.heap.size w w' := by
  have HAW : Hid (∀ w', Below w.heap.size w w' → Calls Tryd.prog 24 #[] w' fun e w2 => e = .returned (.bool true) ∧ Below w.heap.size w w2) := Lib.hid fun w' hb => (awake2_any w' (hn.below hb)).mono fun e w2 h => ⟨h.1, hb.trans (h.2.mono hb.size)⟩
  by_cases hbig : 70000 < s.size
  · have h1 : (70000 : Int) < (s.size : Int) := by omega
    clear hn
    go_enter Tryd.func4, Tryd.ntmps4
    go_wp2_with fail
    refine (HAW.out w (Below.refl _ _)).mono ?_
    rintro e w3 ⟨rfl, hb3⟩
    go_wp2_with fail
    go_ret
    exact ⟨rfl, hb3⟩
  · have h1 : ¬ (70000 : Int) < (s.size : Int) := by omega
    have HT := Lib.hid (tokens_any s w (by omega) hn)
    have HRT : Hid (∀ W, Calls Tryd.prog 26 #[.string s] W (RTokensR s W)) := Lib.hid fun W => rtokens_any s W (by omega)
    clear hn
    go_enter Tryd.func4, Tryd.ntmps4
    go_wp2_with fail
    refine HT.out.mono ?_
    clear HT
    intro e w1 h
    obtain ⟨va, er, li, co, rfl, hb⟩ := tokensR_shape h
    have HTR := Lib.hid h
    have HB := Lib.hid (hb.alloc hb.size (.cells #[.int .i64 er, .int .i64 li, .int .i64 co] 35))
    have HAB := Lib.hid ((Below.refl w1.heap.size w1).alloc (Nat.le_refl _) (.cells #[.int .i64 er, .int .i64 li, .int .i64 co] 35))
    have HF1 := Lib.hid (heap_alloc_new w1 (.cells #[.int .i64 er, .int .i64 li, .int .i64 co] 35))
    clear h hb
    unfold tokV
    go_wp2_with fail
    refine (HRT.out _).mono ?_
    clear HRT
    intro e w2 h
    obtain ⟨vb, er2, li2, co2, rfl, hb2⟩ := rtokensR_shape h
    obtain ⟨rfl, rfl, rfl, hsm⟩ := both_same HTR.out HAB.out h
    have HSM := Lib.hid (hsm _ ((Below.refl w2.heap.size w2).alloc (Nat.le_refl _) (.cells #[.int .i64 er, .int .i64 li, .int .i64 co] 35)))
    have HB2 := Lib.hid ((HB.out.trans (hb2.mono HB.out.size)).alloc (Nat.le_trans HB.out.size hb2.size) (.cells #[.int .i64 er, .int .i64 li, .int .i64 co] 35))
    have hf1 : (w2.alloc (.cells #[.int .i64 er, .int .i64 li, .int .i64 co] 35)).heap[w1.heap.size]? = some (.cells #[.int .i64 er, .int .i64 li, .int .i64 co] 35) :=
      (Below.heap_alloc _ _ _ (by have := hb2.size; simp at this; omega)).trans ((hb2.block _ (by simp)).trans HF1.out)
    have hf2 : (w2.alloc (.cells #[.int .i64 er, .int .i64 li, .int .i64 co] 35)).heap[w2.heap.size]? = some (.cells #[.int .i64 er, .int .i64 li, .int .i64 co] 35) := heap_alloc_new _ _
    clear h hb2 hsm HTR HAB HF1 HB
    unfold tokV
    go_wp2_with fail
    generalize w2.alloc (.cells #[.int .i64 er, .int .i64 li, .int .i64 co] 35) = w3 at *
    refine HSM.out.mono ?_
    rintro e w4 ⟨rfl, n, rfl⟩
    have a0 := cell_of_row w3 w1.heap.size 0 _ _ _ hf1
    have a1 := cell_of_row w3 w1.heap.size 1 _ _ _ hf1
    have a2 := cell_of_row w3 w1.heap.size 2 _ _ _ hf1
    have b0 := cell_of_row w3 w2.heap.size 0 _ _ _ hf2
    have b1 := cell_of_row w3 w2.heap.size 1 _ _ _ hf2
    have b2 := cell_of_row w3 w2.heap.size 2 _ _ _ hf2
    simp at a0 a1 a2 b0 b1 b2
    have HAW3 := Lib.hid (HAW.out (w3.drewN n) (HB2.out.trans ⟨rfl, rfl, rfl, Nat.le_refl _, fun _ _ => rfl⟩))
    clear hf1 hf2 HSM
    go_wp2_with fail
    refine HAW3.out.mono ?_
    rintro e w5 ⟨rfl, hb5⟩
    go_wp2_with fail
    go_ret
    exact ⟨rfl, hb5⟩
end Go.Proofs.YtbplkphjjfgkmaaDoor
