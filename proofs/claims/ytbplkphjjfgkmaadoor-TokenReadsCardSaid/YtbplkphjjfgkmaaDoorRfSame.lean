/-
  The document's Same, at one list of tokens twice.
-/
import Derived.Test.YtbplkphjjfgkmaaDoorTokAgain
namespace Go.Proofs.YtbplkphjjfgkmaaDoor
open Go.RowKit
set_option linter.unusedVariables false
set_option linter.unusedSimpArgs false

set_option maxHeartbeats 2000000 in
theorem rsame_nil (w : World) : Calls Tryd.prog 27 #[.slice none 0 0, .slice none 0 0] w fun e w' => e = .returned (.bool true) ∧ ∃ n, w' = w.drewN n := by
  go_enter Tryd.func27, Tryd.ntmps27
  go_wp2
  refine wp_loop_rounds 1 ?_
  rw [rounds_succ]
  go_wp2
  go_ret
  exact ⟨rfl, 0, rfl⟩
set_option maxHeartbeats 4000000 in
theorem rsame_self (w : World) (g g2 c c2 : Nat) (l : List Tk.Tok) (hll : l.length ≤ 4097)
    (hc : ∀ j t (hj : j < l.length) (ht : t < 5), w.cell? ⟨g, j * 5 + t, none⟩ = (l[j].cells)[t]?) (hd : ∀ j t (hj : j < l.length) (ht : t < 5), w.cell? ⟨g2, j * 5 + t, none⟩ = (l[j].cells)[t]?) :
    Calls Tryd.prog 27 #[.slice (some ⟨g, 0, none⟩) l.length c, .slice (some ⟨g2, 0, none⟩) l.length c2] w fun e w' => e = .returned (.bool true) ∧ ∃ n, w' = w.drewN n := by
  have HC := Lib.hid hc
  have HD := Lib.hid hd
  clear hc hd
  have hne : ((l.length : Int) != (l.length : Int)) = false := by simp
  go_enter Tryd.func27, Tryd.ntmps27
  go_wp2
  go_loopw [5] (fun v5 wr => ∃ j : Nat, j ≤ l.length ∧ v5 = .int .i64 j ∧ ∃ n, wr = w.drewN n) (fun v5 _ => l.length - (intOf v5).toNat)
  case atStart => exact ⟨0, by omega, rfl, 0, rfl⟩
  case round =>
    obtain ⟨j, hj, rfl, n, rfl⟩ := hrel
    by_cases hlt : j < l.length
    · have hlt1 : (j : Int) < (l.length : Int) := by omega
      have c0 := HC.out j 0 hlt (by omega)
      have c1 := HC.out j 1 hlt (by omega)
      have c2 := HC.out j 2 hlt (by omega)
      have c3 := HC.out j 3 hlt (by omega)
      have c4 := HC.out j 4 hlt (by omega)
      have d0 := HD.out j 0 hlt (by omega)
      have d1 := HD.out j 1 hlt (by omega)
      have d2 := HD.out j 2 hlt (by omega)
      have d3 := HD.out j 3 hlt (by omega)
      have d4 := HD.out j 4 hlt (by omega)
      simp only [Tk.Tok.cells, List.getElem?_cons_zero, List.getElem?_cons_succ, Nat.add_zero] at c0 c1 c2 c3 c4 d0 d1 d2 d3 d4
      generalize l[j].kind = kk at *
      generalize l[j].text = xx at *
      generalize l[j].num = nn at *
      generalize l[j].l = ll at *
      generalize l[j].c = cc at *
      go_wp2_with fail
      go_quiet (fail)
      go_wp2_with fail
      go_roundw
      case rel => exact ⟨j + 1, by omega, by go_num, by first | exact ⟨_, rfl⟩ | (simp only [World.drewN_drewN]; exact ⟨_, rfl⟩)⟩
      case measure => simp [intOf]; omega
    · go_wp2_with fail
      go_ret
      exact ⟨rfl, n, rfl⟩
end Go.Proofs.YtbplkphjjfgkmaaDoor
