/-
  token.counted, by a walk.
-/
import Derived.Test.YtbplkphjjfgkmaaDoorTokWhile
import Derived.Test.YtbplkphjjfgkmaaDoorNmAwake
import Derived.Test.YtbplkphjjfgkmaaDoorObj
namespace Go.Proofs.YtbplkphjjfgkmaaDoor
open Go.RowKit
set_option linter.unusedVariables false
set_option linter.unusedSimpArgs false

/-- What counted answers: the token with its number, or an error. -/
def CountedR (w : World) (x : ByteArray) (l c : Int) (e : Ending) (w' : World) : Prop :=
  ∃ k m : Int, e = .returned (.tuple #[.agg #[.int .i64 k, .string x, .int .i64 m, .int .i64 l, .int .i64 c], .int .i64 (Nm.told x.data.toList).2]) ∧ ((Nm.told x.data.toList).2 = 0 → k = 3 ∧ m = (Nm.told x.data.toList).1) ∧ Below w.heap.size w w'
/-- strconv.ParseInt at digits. -/
theorem parse_is (s : ByteArray) (w : World) (hs : s.size ≤ 281474976710656) (hn : NumIs w) (h1 : Nm.body s.data.toList ≠ []) (h2 : (Nm.body s.data.toList).all Nm.dig = true) :
    Calls Tryd.prog 102 #[.string s, .int .i64 10, .int .i64 64] w fun e w' => ((∃ v, e = .returned (.tuple #[.int .i64 v, .nilIface]) ∧ Nm.told s.data.toList = (v, 0)) ∨ (∃ v t q, e = .returned (.tuple #[.int .i64 v, .iface t q]) ∧ Nm.told s.data.toList = (0, 2))) ∧ Below w.heap.size w w' := by
  obtain ⟨⟨tp, p, hvar⟩, _⟩ := hn
  have h3 := Nm.parse_digits h1 h2
  have h4 := Nm.told_parse h1 h2
  rcases h3 with ⟨v, hp⟩ | hp
  · rw [hp] at h4
    refine (Tryd.strconv_ParseInt_10_at64_ok s (by omega) v hp w).mono ?_
    rintro e w' ⟨rfl, hw⟩
    refine ⟨Or.inl ⟨v, rfl, h4⟩, ?_⟩
    rcases hw with rfl | ⟨t, rfl⟩
    · exact Below.refl _ _
    · exact Lib.bytesWorld_below _ _ _
  · rw [hp] at h4
    refine (Tryd.strconv_ParseInt_10_at64_range_var s hs hp tp p w hvar).mono ?_
    rintro e w' ⟨N, rfl, _, _, hb⟩
    exact ⟨Or.inr ⟨_, _, _, rfl, h4⟩, hb⟩
theorem infoTok5 : (Tryd.prog.info? 42).map (·.size) = some 5 := by kernel_rfl
set_option maxHeartbeats 4000000 in
theorem counted_any (x : ByteArray) (l c : Int) (w : World) (hn : NumIs w) (hs : x.size ≤ 1000000) (h1 : Nm.body x.data.toList ≠ []) (h2 : (Nm.body x.data.toList).all Nm.dig = true) :
    Calls Tryd.prog 119 #[.agg #[.int .i64 0, .string x, .int .i64 0, .int .i64 l, .int .i64 c]] w (CountedR w x l c) := by
  have HB2 : Hid (Below w.heap.size w ((w.alloc (.cells #[.int .i64 0, .string x, .int .i64 0, .int .i64 l, .int .i64 c] 42)).alloc (.cells #[.int .i64 0, .string { data := #[] }, .int .i64 0, .int .i64 0, .int .i64 0] 42))) := Lib.hid (((Below.refl _ _).alloc (Nat.le_refl _) _).alloc (by simp) _)
  have HP := Lib.hid (parse_is x ((w.alloc (.cells #[.int .i64 0, .string x, .int .i64 0, .int .i64 l, .int .i64 c] 42)).alloc (.cells #[.int .i64 0, .string { data := #[] }, .int .i64 0, .int .i64 0, .int .i64 0] 42)) (by omega) (hn.below HB2.out) h1 h2)
  have HC : Hid (∀ w3, Below ((w.alloc (.cells #[.int .i64 0, .string x, .int .i64 0, .int .i64 l, .int .i64 c] 42)).alloc (.cells #[.int .i64 0, .string { data := #[] }, .int .i64 0, .int .i64 0, .int .i64 0] 42)).heap.size ((w.alloc (.cells #[.int .i64 0, .string x, .int .i64 0, .int .i64 l, .int .i64 c] 42)).alloc (.cells #[.int .i64 0, .string { data := #[] }, .int .i64 0, .int .i64 0, .int .i64 0] 42)) w3 → w3.heap[w.heap.size]? = some (.cells #[.int .i64 0, .string x, .int .i64 0, .int .i64 l, .int .i64 c] 42 (0, 0)) ∧ w3.heap[w.heap.size + 1]? = some (.cells #[.int .i64 0, .string { data := #[] }, .int .i64 0, .int .i64 0, .int .i64 0] 42 (0, 0)) ∧ Below w.heap.size w w3) := Lib.hid fun w3 h =>
    ⟨(h.block _ (by simp; omega)).trans ((Below.heap_alloc _ _ _ (by simp)).trans (heap_alloc_new _ _)), (h.block _ (by simp)).trans (by
      have h := heap_alloc_new (w.alloc (.cells #[.int .i64 0, .string x, .int .i64 0, .int .i64 l, .int .i64 c] 42)) (.cells #[.int .i64 0, .string { data := #[] }, .int .i64 0, .int .i64 0, .int .i64 0] 42)
      simpa using h), HB2.out.trans (h.mono HB2.out.size)⟩
  clear hn h1 h2 HB2
  go_enter Tryd.func119, Tryd.ntmps119
  go_wp2_with fail
  refine HP.out.mono ?_
  rintro e w3 ⟨hc, hb⟩
  have HR := Lib.hid (HC.out w3 hb)
  clear hb HC HP
  rcases hc with ⟨v, rfl, ht⟩ | ⟨v, t, q, rfl, ht⟩
  all_goals
    have HT := Lib.hid ht
    clear ht
    have hb3 := HR.out.1
    have hr3 := HR.out.2.1
    have HBL : Hid (Below w.heap.size w w3) := Lib.hid HR.out.2.2
    have hz : w.heap.size + 1 < w3.heap.size := obj_lt hr3
    clear HR
  · have b0 := cell_of_row w3 w.heap.size 0 _ _ _ hb3
    have g0 := frozen_of_row w3 w.heap.size 0 _ _ hb3
    have b2 := cell_of_row w3 w.heap.size 2 _ _ _ hb3
    have g2 := frozen_of_row w3 w.heap.size 2 _ _ hb3
    simp at b0 b2
    have hb5 : ((w3.setCell ⟨w.heap.size, 0, none⟩ (.int .i64 3)).setCell ⟨w.heap.size, 2, none⟩ (.int .i64 v)).heap[w.heap.size]? = some (.cells #[.int .i64 3, .string x, .int .i64 v, .int .i64 l, .int .i64 c] 42 (0, 0)) := set_obj (set_obj hb3 _) _
    have hr5 : ((w3.setCell ⟨w.heap.size, 0, none⟩ (.int .i64 3)).setCell ⟨w.heap.size, 2, none⟩ (.int .i64 v)).heap[w.heap.size + 1]? = some (.cells #[.int .i64 0, .string { data := #[] }, .int .i64 0, .int .i64 0, .int .i64 0] 42 (0, 0)) := set_other (set_other hr3 (by omega) _) (by omega) _
    have HB5 := Lib.hid hb5
    have HR5 := Lib.hid hr5
    clear hb3 hr3 hb5 hr5
    go_wp2_with (first | (refine wpList_load_row rfl 42 _ rfl w.heap.size rfl 42 _ (0, 0) _ HB5.out Tryd.underlying42 rfl infoTok5 ?_) | (refine st_row rfl 42 _ _ rfl (w.heap.size + 1) #[.int .i64 3, .string x, .int .i64 v, .int .i64 l, .int .i64 c] rfl rfl 42 _ HR5.out infoTok5 rfl (by simp [Value.oneCell']) ?_; intro w6 hr6 hk6))
    have HB6 : Hid (Below w.heap.size w w6) := Lib.hid (((HBL.out.setCell (p := ⟨w.heap.size, 0, none⟩) (Nat.le_refl _) _).setCell (p := ⟨w.heap.size, 2, none⟩) (Nat.le_refl _) _).trans (hk6.below (fun k hk => by omega) (by simpa using HBL.out.size)))
    exact bodyPost_ret (v := .tuple #[.agg #[.int .i64 3, .string x, .int .i64 v, .int .i64 l, .int .i64 c], .int .i64 0]) (by simp [results, Tryd.results119, asAddr, run_loadVar_row _ _ _ _ _ _ _ hr6 Tryd.underlying42 rfl infoTok5]) rfl ⟨3, v, by rw [HT.out], fun _ => by rw [HT.out]; exact ⟨rfl, rfl⟩, HB6.out⟩
  · have HB5 := Lib.hid hb3
    have HR5 := Lib.hid hr3
    clear hb3 hr3
    go_wp2_with (first | (refine wpList_load_row rfl 42 _ rfl w.heap.size rfl 42 _ (0, 0) _ HB5.out Tryd.underlying42 rfl infoTok5 ?_) | (refine st_row rfl 42 _ _ rfl (w.heap.size + 1) #[.int .i64 0, .string x, .int .i64 0, .int .i64 l, .int .i64 c] rfl rfl 42 _ HR5.out infoTok5 rfl (by simp [Value.oneCell']) ?_; intro w6 hr6 hk6))
    have HB6 : Hid (Below w.heap.size w w6) := Lib.hid (HBL.out.trans (hk6.below (fun k hk => by omega) HBL.out.size))
    exact bodyPost_ret (v := .tuple #[.agg #[.int .i64 0, .string x, .int .i64 0, .int .i64 l, .int .i64 c], .int .i64 2]) (by simp [results, Tryd.results119, asAddr, run_loadVar_row _ _ _ _ _ _ _ hr6 Tryd.underlying42 rfl infoTok5]) rfl ⟨0, 0, by rw [HT.out], fun h => by rw [HT.out] at h; exact absurd h (by decide), HB6.out⟩
end Go.Proofs.YtbplkphjjfgkmaaDoor
