/-
  The law on rising places.
-/
import Derived.Test.YtbplkphjjfgkmaaDoorTokAw
namespace Go.Proofs.YtbplkphjjfgkmaaDoor
open Go.RowKit
set_option linter.unusedVariables false
set_option linter.unusedSimpArgs false

namespace Tk
def plt (a b c d : Nat) : Prop := a < c ∨ (a = c ∧ b < d)
theorem st_plt (s : ByteArray) (i j : Nat) (h : i < j) : plt (Rn.st s i).l (Rn.st s i).c (Rn.st s j).l (Rn.st s j).c := by
  induction j with
  | zero => omega
  | succ j ih =>
    have h1 : plt (Rn.st s j).l (Rn.st s j).c (Rn.st s (j + 1)).l (Rn.st s (j + 1)).c := by
      unfold plt
      show (Rn.st s j).l < (Rn.next s (Rn.st s j)).l ∨ _
      by_cases c : Rn.run s (Rn.st s j).p = 10
      · left; unfold Rn.next; dsimp only; rw [if_pos c]; omega
      · right; constructor
        · show _ = (Rn.next s (Rn.st s j)).l
          unfold Rn.next; dsimp only; rw [if_neg c]
        · show _ < (Rn.next s (Rn.st s j)).c
          unfold Rn.next; dsimp only; rw [if_neg c]; omega
    by_cases e : i = j
    · subst e; exact h1
    · have h2 := ih (by omega)
      unfold plt at *
      omega
structure Good (s : ByteArray) (i : Nat) (out : List Tok) : Prop where
  each : ∀ t ∈ out, t.kind ≠ 5 ∧ 0 < t.text.size ∧ plt t.l t.c (Rn.st s i).l (Rn.st s i).c
  pair : out.Pairwise fun a b => plt a.l a.c b.l b.c
theorem Good.up {s : ByteArray} {i j : Nat} {out : List Tok} (h : Good s i out) (hij : i ≤ j) : Good s j out := by
  by_cases e : i = j
  · subst e; exact h
  · refine ⟨fun t ht => ⟨(h.each t ht).1, (h.each t ht).2.1, ?_⟩, h.pair⟩
    have h1 := (h.each t ht).2.2
    have h2 := st_plt s i j (by omega)
    unfold plt at *
    omega
theorem nameE_kind (L : List UInt8) : (nameE L).1 ≠ 5 := by
  unfold nameE
  split
  · decide
  · split
    · decide
    · split <;> decide
theorem one_kind (s : ByteArray) (N i : Nat) : (one s N i).kind ≠ 5 := by
  unfold one
  dsimp only
  split
  · exact nameE_kind _
  · split
    · show (3 : Int) ≠ 5; decide
    · show (4 : Int) ≠ 5; decide
theorem txt_size {s : ByteArray} {N i j : Nat} (hE : Ends s N) (h : i < j) (hj : j ≤ N) : 0 < (txt s i j).size := by
  have h1 := st_in hE j hj
  have h2 := st_mono s (i + 1) j (by omega)
  have h3 : (Rn.st s (i + 1)).p = (Rn.st s i).p + Rn.wid s (Rn.st s i).p := rfl
  have h4 := Rn.wid_pos s (Rn.st s i).p
  unfold txt
  rw [ByteArray.size_extract]
  omega
theorem Good.tok {s : ByteArray} {N i : Nat} {out : List Tok} (h : Good s i out) (hE : Ends s N) (hi : i < N) (he : (one s N i).err = 0) : Good s (one s N i).fin (out ++ [tokAt s N i]) := by
  have hf := one_fin s N i hi he
  refine ⟨fun t ht => ?_, ?_⟩
  · rcases List.mem_append.1 ht with ht | ht
    · exact (h.up (j := (one s N i).fin) (by omega)).each t ht
    · rw [List.mem_singleton] at ht
      subst ht
      exact ⟨one_kind s N i, txt_size hE hf.1 hf.2, st_plt s i _ hf.1⟩
  · rw [List.pairwise_append]
    refine ⟨h.pair, List.pairwise_singleton _ _, fun a ha b hb => ?_⟩
    rw [List.mem_singleton] at hb
    subst hb
    exact (h.each a ha).2.2
theorem scan_good {s : ByteArray} {N : Nat} (hE : Ends s N) (i : Nat) (b : Bool) (out l : List Tok) (hi : i ≤ N) (hg : Good s i out) (h : scan s N i b out = .toks l) : ∃ ini, l = ini ++ [⟨5, ByteArray.empty, 0, (Rn.st s N).l, (Rn.st s N).c⟩] ∧ Good s N ini := by
  by_cases c1 : i < N
  · by_cases c2 : skipc (rn s N i) b = true
    · rw [scan_skip c1 c2] at h
      exact scan_good hE (i + 1) _ _ _ (by omega) (hg.up (by omega)) h
    · have c2' : skipc (rn s N i) b = false := by simpa using c2
      by_cases c3 : (one s N i).err = 0
      · by_cases c4 : out.length = 4096
        · rw [scan_long c1 c2' c3 c4] at h; cases h
        · have hf := one_fin s N i c1 c3
          rw [scan_tok c1 c2' c3 c4] at h
          exact scan_good hE _ _ _ _ hf.2 (hg.tok hE c1 c3) h
      · rw [scan_bad c1 c2' c3] at h; cases h
  · rw [scan_end c1] at h
    injection h with h
    have : i = N := by omega
    subst this
    exact ⟨out, h.symm, hg⟩
termination_by N - i
decreasing_by all_goals omega
theorem good_nil (s : ByteArray) : Good s 0 [] := ⟨fun t ht => (by cases ht), List.Pairwise.nil⟩
/-- What the law asks of the tokens of a text. -/
theorem rises {s : ByteArray} {N : Nat} {l : List Tok} (hE : Ends s N) (h : scan s N 0 false [] = .toks l) :
    0 < l.length ∧ ∀ j (hj : j < l.length), (j + 1 = l.length → l[j].kind = 5 ∧ l[j].text = ByteArray.empty) ∧ (j + 1 ≠ l.length → l[j].kind ≠ 5 ∧ 0 < l[j].text.size) ∧ ∀ m (hm : m + 1 = j), plt (l[m]'(by omega)).l (l[m]'(by omega)).c l[j].l l[j].c := by
  obtain ⟨ini, rfl, hg⟩ := scan_good hE 0 false [] l (Nat.zero_le _) (good_nil s) h
  have hlen : (ini ++ [(⟨5, ByteArray.empty, 0, (Rn.st s N).l, (Rn.st s N).c⟩ : Tok)]).length = ini.length + 1 := by simp
  refine ⟨by omega, fun j hj => ⟨fun e => ?_, fun e => ?_, fun m hm => ?_⟩⟩
  · have hj2 : j = ini.length := by omega
    subst hj2
    simp
  · rw [List.getElem_append_left (by omega)]
    have := hg.each _ (List.getElem_mem (show j < ini.length by omega))
    exact ⟨this.1, this.2.1⟩
  · have hp : (ini ++ [(⟨5, ByteArray.empty, 0, (Rn.st s N).l, (Rn.st s N).c⟩ : Tok)]).Pairwise fun a b => plt a.l a.c b.l b.c := by
      rw [List.pairwise_append]
      refine ⟨hg.pair, List.pairwise_singleton _ _, fun a ha b hb => ?_⟩
      rw [List.mem_singleton] at hb
      subst hb
      exact (hg.each a ha).2.2
    exact List.pairwise_iff_getElem.1 hp m j (by omega) hj (by omega)
end Tk
theorem tok_cell {w : World} {B g : Nat} {cap : Nat} {l : List Tk.Tok} (hown : w.ownsRow B 42 5 (.slice (some ⟨g, 0, none⟩) l.length cap) l.length (Rec.flat Tk.Tok.cells l)) (j : Nat) (hj : j < l.length) (t : Nat) (ht : t < 5) : w.cell? ⟨g, j * 5 + t, none⟩ = (l[j].cells)[t]? := by
  rw [hown.cellAt (j * 5 + t) (by omega)]
  exact Rec.flat_at Tk.Tok.cells_len l j t hj ht
theorem size0 {x : ByteArray} (h : 0 < x.size) : (x.toList == []) = false := by
  rw [Lib.toList_data]
  cases e : x.data.toList with
  | nil => exfalso; have : x.data.toList.length = x.size := by simp
           rw [e] at this; simp at this; omega
  | cons a r => rfl
/-- One pass over the list. -/
structure RiseC (w : World) (g n j : Nat) (k : Int) (x : ByteArray) (li co : Nat) : Prop where
  c0 : w.cell? ⟨g, j * 5, none⟩ = some (.int .i64 k)
  c1 : w.cell? ⟨g, j * 5 + 1, none⟩ = some (.string x)
  c3 : w.cell? ⟨g, j * 5 + 3, none⟩ = some (.int .i64 li)
  c4 : w.cell? ⟨g, j * 5 + 3 + 1, none⟩ = some (.int .i64 co)
set_option maxRecDepth 1000000 in
set_option maxHeartbeats 4000000 in
theorem tokenRises_walk (s : ByteArray) (hl : s.size ≤ 9223372036854775807) (w : World) (hn : NumIs w) : Calls Tryd.prog 7 #[.string s] w fun e w' => e = .returned (.bool true) ∧ Below w.heap.size w w' := by
  have HAW : Hid (∀ w', Below w.heap.size w w' → Calls Tryd.prog 24 #[] w' fun e w2 => e = .returned (.bool true) ∧ Below w.heap.size w w2) := Lib.hid fun w' hb => (awake2_any w' (hn.below hb)).mono fun e w2 h => ⟨h.1, hb.trans (h.2.mono hb.size)⟩
  by_cases hbig : 3000 < s.size
  · have h1 : (3000 : Int) < (s.size : Int) := by omega
    clear hn
    go_enter Tryd.func7, Tryd.ntmps7
    go_wp2_with fail
    refine (HAW.out w (Below.refl _ _)).mono ?_
    rintro e w3 ⟨rfl, hb3⟩
    go_wp2_with fail
    go_ret
    exact ⟨rfl, hb3⟩
  · have h1 : ¬ (3000 : Int) < (s.size : Int) := by omega
    have HT := Lib.hid (tokens_any s w (by omega) hn)
    clear hn
    go_enter Tryd.func7, Tryd.ntmps7
    go_wp2_with fail
    refine HT.out.mono ?_
    clear HT
    rintro e w1 (⟨N, l, v, B, hE, hN, hsc, hll, rfl, hown, hB, hb⟩ | ⟨N, er, li, co, hE, hN, hsc, her, rfl, hb⟩ | ⟨hall, rfl, hb⟩)
    · have HR := Lib.hid (Tk.rises hE hsc)
      have hlp := HR.out.1
      have HB := Lib.hid (hb.alloc hb.size (.cells #[.int .i64 0, .int .i64 0, .int .i64 0] 35))
      obtain ⟨ra, rc, hx⟩ := own_len hown
      subst hx
      obtain ⟨g, rfl⟩ : ∃ g, ra = some ⟨g, 0, none⟩ := by
        rcases hown.2 with ⟨e, h0⟩ | ⟨g, cap, cur, e, _⟩
        · omega
        · injection e with e _ _; exact ⟨g, e⟩
      have HC : Hid (∀ j t (hj : j < l.length) (ht : t < 5), (w1.alloc (.cells #[.int .i64 0, .int .i64 0, .int .i64 0] 35)).cell? ⟨g, j * 5 + t, none⟩ = (l[j].cells)[t]?) := Lib.hid fun j t hj ht => by
        have h1 := tok_cell hown j hj t ht
        have h2 : ∃ v, (l[j].cells)[t]? = some v := ⟨_, List.getElem?_eq_getElem (by show t < 5; exact ht)⟩
        obtain ⟨v, hv⟩ := h2
        rw [hv] at h1 ⊢
        exact (((Below.refl w1.heap.size w1).alloc (Nat.le_refl _) _).cell (p := ⟨g, j * 5 + t, none⟩) (lt_of_cell h1)).trans h1
      clear hE hsc hown hB hb
      go_wp2
      generalize w1.alloc (.cells #[.int .i64 0, .int .i64 0, .int .i64 0] 35) = w2 at *
      go_loopw [5] (fun v5 wr => ∃ j : Nat, j ≤ l.length ∧ v5 = .int .i64 j ∧ ∃ n, wr = w2.drewN n) (fun v5 _ => l.length - (intOf v5).toNat)
      case atStart => exact ⟨0, by omega, rfl, 0, rfl⟩
      case round =>
        obtain ⟨j, hj, rfl, n, rfl⟩ := hrel
        by_cases hlt : j < l.length
        · have c0 := HC.out j 0 hlt (by omega)
          have c1 := HC.out j 1 hlt (by omega)
          have c3 := HC.out j 3 hlt (by omega)
          have c4 : w2.cell? ⟨g, j * 5 + 3 + 1, none⟩ = _ := HC.out j 4 hlt (by omega)
          simp only [Tk.Tok.cells, List.getElem?_cons_zero, List.getElem?_cons_succ, Nat.add_zero] at c0 c1 c3 c4
          have HRJ := Lib.hid (HR.out.2 j hlt)
          obtain ⟨kk, hkk⟩ : ∃ x, x = l[j].kind := ⟨_, rfl⟩
          obtain ⟨xx, hxx⟩ : ∃ x, x = l[j].text := ⟨_, rfl⟩
          obtain ⟨jl, hjl⟩ : ∃ x, x = l[j].l := ⟨_, rfl⟩
          obtain ⟨jc, hjc⟩ : ∃ x, x = l[j].c := ⟨_, rfl⟩
          rw [← hkk] at c0
          rw [← hxx] at c1
          rw [← hjl] at c3
          rw [← hjc] at c4
          have HL1 : Hid (j + 1 = l.length → kk = 5 ∧ xx = ⟨#[]⟩) := Lib.hid fun e => by rw [hkk, hxx]; exact HRJ.out.1 e
          have HL2 : Hid (j + 1 ≠ l.length → (kk == 5) = false ∧ (xx.toList == []) = false) := Lib.hid fun e => by rw [hkk, hxx]; exact ⟨by simpa using (HRJ.out.2.1 e).1, size0 (HRJ.out.2.1 e).2⟩
          have HL3 : Hid (∀ m, m + 1 = j → ∃ ml mc : Nat, w2.cell? ⟨g, m * 5 + 3, none⟩ = some (.int .i64 ml) ∧ w2.cell? ⟨g, m * 5 + 3 + 1, none⟩ = some (.int .i64 mc) ∧ Tk.plt ml mc jl jc) := Lib.hid fun m hm => by
            have hml : m < l.length := by omega
            refine ⟨(l[m]'hml).l, (l[m]'hml).c, HC.out m 3 hml (by omega), HC.out m 4 hml (by omega), ?_⟩
            rw [hjl, hjc]
            exact HRJ.out.2.2 m hm
          clear HRJ hkk hxx hjl hjc
          have hlt1 : (j : Int) < (l.length : Int) := by omega
          have HLAST : Hid (∃ q q' : Bool, ((j : Int) == (l.length : Int) - 1) = q ∧ (kk == 5) = q ∧ (xx.toList == []) = q ∧ (q != q) = false) := Lib.hid (by
            by_cases hlast : j + 1 = l.length
            · obtain ⟨rfl, rfl⟩ := HL1.out hlast
              exact ⟨true, true, by simp; omega, rfl, (by rw [Lib.toList_data]; rfl), rfl⟩
            · exact ⟨false, true, by simp; omega, (HL2.out hlast).1, (HL2.out hlast).2, rfl⟩)
          clear HL1 HL2
          obtain ⟨q, -, hq, hk, hx, hqq⟩ := HLAST.out
          clear HLAST
          by_cases hj0 : j = 0
          · have hj1 : ¬ 0 < j := by omega
            clear HL3 hj0
            go_wp2
            refine wp_region_quiet_lit (by kernel_rfl) (by kernel_rfl) ?_
            simp only [List.append_eq, List.cons_append, List.nil_append]
            repeat (go_big_quiet_step (fail))
            refine wpQuiet_nil ?_
            intro _ hw'
            obtain ⟨nq, hw''⟩ := hw'
            subst hw''
            go_wp2
            go_roundw
            case rel => exact ⟨j + 1, by omega, by go_num, by first | exact ⟨_, rfl⟩ | (simp only [World.drewN_drewN]; exact ⟨_, rfl⟩)⟩
            case measure => simp [intOf]; omega
          · obtain ⟨m, hjm⟩ : ∃ m, j = m + 1 := ⟨j - 1, by omega⟩
            obtain ⟨ml, mc, d3, d4, hpl⟩ := HL3.out m hjm.symm
            clear HL3
            have hm1 : (m : Int) < (l.length : Int) := by omega
            have hj1 : 0 < j := by omega
            have hw : IntKind.i64.wrap ((j : Int) - 1) = (m : Int) := by rw [hjm]; rw [IntWalk.i64_in _ (by omega)]; omega
            by_cases hll2 : ml < jl
            · have t1 : ¬ jl < ml := by omega
              have t2 : (jl == ml) = false := by simp; omega
              have t3 : ((jl : Int) == (ml : Int)) = false := by simp; omega
              clear hpl hjm
              go_wp2
              refine wp_region_quiet_lit (by kernel_rfl) (by kernel_rfl) ?_
              simp only [List.append_eq, List.cons_append, List.nil_append]
              repeat (go_big_quiet_step (fail))
              refine wpQuiet_nil ?_
              intro _ hw'
              obtain ⟨nq, hw''⟩ := hw'
              subst hw''
              go_wp2
              go_roundw
              case rel => exact ⟨j + 1, by omega, by go_num, by first | exact ⟨_, rfl⟩ | (simp only [World.drewN_drewN]; exact ⟨_, rfl⟩)⟩
              case measure => simp [intOf]; omega
            · have heq : ml = jl := by unfold Tk.plt at hpl; omega
              have hcc : mc < jc := by unfold Tk.plt at hpl; omega
              subst heq
              have t1 : ¬ ml < ml := by omega
              have t2 : (ml == ml) = true := by simp
              have t3 : ((ml : Int) == (ml : Int)) = true := by simp
              have t4 : ¬ jc ≤ mc := by omega
              clear hpl hjm
              go_wp2
              refine wp_region_quiet_lit (by kernel_rfl) (by kernel_rfl) ?_
              simp only [List.append_eq, List.cons_append, List.nil_append]
              repeat (go_big_quiet_step (fail))
              refine wpQuiet_nil ?_
              intro _ hw'
              obtain ⟨nq, hw''⟩ := hw'
              subst hw''
              go_wp2
              go_roundw
              case rel => exact ⟨j + 1, by omega, by go_num, by first | exact ⟨_, rfl⟩ | (simp only [World.drewN_drewN]; exact ⟨_, rfl⟩)⟩
              case measure => simp [intOf]; omega
        · go_wp2_with fail
          refine (HAW.out (w2.drewN n) (HB.out.trans ⟨rfl, rfl, rfl, Nat.le_refl _, fun _ _ => rfl⟩)).mono ?_
          rintro e w3 ⟨rfl, hb3⟩
          go_wp2_with fail
          go_ret
          exact ⟨rfl, hb3⟩
    · have HB := Lib.hid (hb.alloc hb.size (.cells #[.int .i64 er, .int .i64 li, .int .i64 co] 35))
      have hne : (er != 0) = true := by simpa using her
      clear hb hE hsc
      go_wp2_with fail
      refine (HAW.out _ HB.out).mono ?_
      rintro e w3 ⟨rfl, hb3⟩
      go_wp2_with fail
      go_ret
      exact ⟨rfl, hb3⟩
    · have HB := Lib.hid (hb.alloc hb.size (.cells #[.int .i64 3, .int .i64 0, .int .i64 0] 35))
      clear hb hall
      go_wp2_with fail
      refine (HAW.out _ HB.out).mono ?_
      rintro e w3 ⟨rfl, hb3⟩
      go_wp2_with fail
      go_ret
      exact ⟨rfl, hb3⟩
end Go.Proofs.YtbplkphjjfgkmaaDoor
