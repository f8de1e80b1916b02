/-
  tree.deep: by a walk.
-/
import Derived.Test.YtpbgicfoopicbaaTreePart
import Derived.Deep.RegionHeld3
import Derived.IntWalk
namespace Go.Proofs.Ytpbgicfoopicbaa
open Go.RowKit
set_option linter.unusedVariables false
set_option linter.unusedSimpArgs false

set_option maxRecDepth 100000 in
set_option maxHeartbeats 2000000 in
theorem deep_any : ∀ (p : Tr.Pt) (w : World), p.deep ≤ 1000 → Calls Try.prog 44 #[encP p] w fun e w' => e = .returned (.int .i64 p.deep) ∧ Below w.heap.size w w'
  | .leaf a, w, _ => by
    have h1 := ta_one_leaf (.agg #[.int .i64 (a : Int)])
    have h2 := ta_two_leaf (.agg #[.int .i64 (a : Int)])
    show Calls Try.prog 44 #[.iface 143 (.agg #[.int .i64 (a : Int)])] w _
    go_enter Try.func44, Try.ntmps44
    go_wp2_with fail
    go_ret
    exact ⟨rfl, Below.refl _ _⟩
  | .one k a, w, hd => by
    have h1 := ta_one (.agg #[encP k, .int .i64 (a : Int)])
    have hdk : k.deep ≤ 999 := by have : (Tr.Pt.one k a).deep = 1 + k.deep := rfl; omega
    show Calls Try.prog 44 #[.iface 86 (.agg #[encP k, .int .i64 (a : Int)])] w _
    have IH := Lib.hid (fun w => deep_any k w (by omega))
    obtain ⟨t, v, hK⟩ := encP_form k
    rw [hK] at h1 IH ⊢
    have HD := Lib.hid (show ((Tr.Pt.one k a).deep : Int) = 1 + (k.deep : Int) by show ((1 + k.deep : Nat) : Int) = _; omega)
    clear hK hd
    go_enter Try.func44, Try.ntmps44
    go_wp2_with (go_at_call 44; refine (IH.out _).mono ?_; rintro e w2 ⟨rfl, hb⟩)
    go_ret
    have hn := below_new w (.cells #[.iface t v, .int .i64 (a : Int)] 86)
    exact ⟨ret_int HD.out.symm, hn.trans (hb.mono hn.size)⟩
  | .two l r a, w, hd => by
    have h1 := ta_one_two (.agg #[encP l, encP r, .int .i64 (a : Int)])
    have h2 := ta_two (.agg #[encP l, encP r, .int .i64 (a : Int)])
    have hdl : l.deep ≤ 999 ∧ r.deep ≤ 999 := by have : (Tr.Pt.two l r a).deep = 1 + max l.deep r.deep := rfl; omega
    show Calls Try.prog 44 #[.iface 90 (.agg #[encP l, encP r, .int .i64 (a : Int)])] w _
    have IHl := Lib.hid (fun w => deep_any l w (by omega))
    have IHr := Lib.hid (fun w => deep_any r w (by omega))
    have HD := Lib.hid (show ((Tr.Pt.two l r a).deep : Int) = 1 + max (l.deep : Int) (r.deep : Int) by show ((1 + max l.deep r.deep : Nat) : Int) = _; omega)
    obtain ⟨t, v, hK⟩ := encP_form l
    obtain ⟨t', v', hK'⟩ := encP_form r
    rw [hK, hK'] at h1 h2
    rw [hK] at IHl
    rw [hK'] at IHr
    rw [hK, hK']
    clear hK hK' hd
    go_enter Try.func44, Try.ntmps44
    go_wp2_with fail
    have hn := below_new w (.cells #[.iface t v, .iface t' v', .int .i64 (a : Int)] 90)
    have c0 : (w.alloc (.cells #[.iface t v, .iface t' v', .int .i64 (a : Int)] 90)).cell? ⟨w.heap.size, 0, none⟩ = some (.iface t v) := by rw [World.cell?_alloc_at _ _ _ _ rfl]; rfl
    have c1 : (w.alloc (.cells #[.iface t v, .iface t' v', .int .i64 (a : Int)] 90)).cell? ⟨w.heap.size, 1, none⟩ = some (.iface t' v') := by rw [World.cell?_alloc_at _ _ _ _ rfl]; rfl
    have hsz : w.heap.size < (w.alloc (.cells #[.iface t v, .iface t' v', .int .i64 (a : Int)] 90)).heap.size := by simp
    obtain ⟨W, hW⟩ : ∃ W, W = w.alloc (.cells #[.iface t v, .iface t' v', .int .i64 (a : Int)] 90) := ⟨_, rfl⟩
    rw [← hW] at hn c0 c1 hsz ⊢
    clear hW h1 h2
    obtain ⟨hdl, hdr⟩ := hdl
    have hl0 : -1 ≤ (l.deep : Int) ∧ (l.deep : Int) ≤ 999 := by omega
    have hr0 : -1 ≤ (r.deep : Int) ∧ (r.deep : Int) ≤ 999 := by omega
    generalize (l.deep : Int) = dl at *
    generalize (r.deep : Int) = dr at *
    go_region_held3 (fun w' => w'.cell? ⟨w.heap.size, 0, none⟩ = some (.iface t v) ∧ w'.cell? ⟨w.heap.size, 1, none⟩ = some (.iface t' v') ∧ Below W.heap.size W w')
      (first
        | exact ⟨c0, c1, (Below.refl _ _).drew⟩
        | go_keep
        | (go_split_ands
           refine ⟨?_, ?_, ?_⟩
           · refine (hb.cell (p := ⟨w.heap.size, 0, none⟩) (lt_of_cell (v := .iface t v) (p := ⟨w.heap.size, 0, none⟩) (by assumption))).trans (by assumption)
           · refine (hb.cell (p := ⟨w.heap.size, 1, none⟩) (lt_of_cell (v := .iface t' v') (p := ⟨w.heap.size, 1, none⟩) (by assumption))).trans (by assumption)
           · exact Below.trans (by assumption) (hb.mono (Below.size (by assumption)))))
      (first | (go_at_call 44; ((with_reducible refine (IHl.out _).mono ?_); rintro e w2 ⟨rfl, hb⟩)) | (go_at_call 44; ((with_reducible refine (IHr.out _).mono ?_); rintro e w2 ⟨rfl, hb⟩)))
    rename_i hh
    have HW := Lib.hid (hn.trans (hh.2.2.mono hn.size))
    clear hh
    have hmx : IntKind.i64.wrap (1 + if dl < dr then dr else dl) = 1 + max dl dr := by
      rw [IntWalk.i64_in _ (by split <;> omega)]
      split <;> omega
    rw [hmx]
    clear hmx
    go_wp2
    all_goals go_ret
    all_goals exact ⟨ret_int HD.out.symm, HW.out⟩
end Go.Proofs.Ytpbgicfoopicbaa
