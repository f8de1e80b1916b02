/-
  tree.Put, warderref04.Exact: by walks.
-/
import Derived.Test.YtpbgicfoopicbaaPutPlain
namespace Go.Proofs.Ytpbgicfoopicbaa
open Go.RowKit
set_option linter.unusedVariables false
set_option linter.unusedSimpArgs false

theorem infoItem : (Try.prog.info? 42).map (fun i => (i.zero, i.size, i.bytes)) = some (some (.agg #[.int .i64 0, .string ⟨#[]⟩, .int .i64 0, .string ⟨#[]⟩, .int .i64 0, .string ⟨#[]⟩, .string ⟨#[]⟩, .int .i64 0, .int .i64 0]), 9, 104) := by kernel_rfl
theorem items_one (l : List It) : ∀ u ∈ Rec.flat It.cells l, u.oneCell' = true := fun u hu => by
  unfold Rec.flat at hu
  obtain ⟨x, _, hx⟩ := List.mem_flatMap.1 hu
  simp only [It.cells, List.mem_cons, List.not_mem_nil, or_false] at hx
  rcases hx with h | h | h | h | h | h | h | h | h <;> subst h <;> rfl
theorem flat_app (l m : List It) : Rec.flat It.cells (l ++ m) = Rec.flat It.cells l ++ Rec.flat It.cells m := by simp [Rec.flat]
def PutAns (op : Int) (ks : List Kd) (w : World) (e : Ending) (w' : World) : Prop :=
  (puts op ks = false ∧ e = .returned (.slice none 0 0) ∧ Below w.heap.size w w') ∨
  (puts op ks = true ∧ ∃ g cap, e = .returned (.slice (some ⟨g, 0, none⟩) ((catTo ks ks.length).length + 1) cap) ∧ w'.ownsRow w.heap.size 42 9 (.slice (some ⟨g, 0, none⟩) ((catTo ks ks.length).length + 1) cap) ((catTo ks ks.length).length + 1) (Rec.flat It.cells (putL op ks)) ∧ Below w.heap.size w w')
set_option maxRecDepth 100000 in
set_option maxHeartbeats 1500000 in
theorem put_any (a : Option Addr) (c : Nat) (op : Int) (ks : List Kd) (w : World) (hk : RdK w a ks) (h4 : ks.length ≤ 4) (hs : ∀ k ∈ ks, k.l.length ≤ 100) :
    Calls Try.prog 26 #[.int .i64 op, .slice a ks.length c] w (PutAns op ks w) := by
  have hu : ∀ b : Bool, ¬ (some undef = some (Value.bool b)) := fun b h => by cases h
  have HNO : Hid (∀ w', puts op ks = false → Below w.heap.size w w' → PutAns op ks w (.returned (.slice none 0 0)) w') := Lib.hid (fun w' h1 h2 => Or.inl ⟨h1, rfl, h2⟩)
  have AR := arity_any op w
  unfold ArAns at AR
  by_cases har : Tr.ar op = (ks.length : Int)
  · have HK := Lib.hid (And.intro hk hs)
    rw [har] at AR
    have hne : ((ks.length : Int) != (ks.length : Int)) = false := by simp
    have AR2 := Lib.hid AR
    have HAR := Lib.hid har
    clear hk hs AR har
    go_enter Try.func26, Try.ntmps26
    go_wp2_with fail
    refine AR2.out.mono ?_
    rintro e w2 ⟨rfl, rfl⟩
    clear AR2
    go_wp2_with fail
    go_loopw [5, 15] (fun v5 v15 wr => ∃ k : Nat, k ≤ ks.length ∧ v15 = .int .i64 k ∧ wr.ownsRow w.heap.size 42 9 v5 (catTo ks k).length (Rec.flat It.cells (catTo ks k)) ∧ Hid (fmTo ks k = true) ∧ Below w.heap.size w wr) (fun _ v15 _ => ks.length - (intOf v15).toNat)
    case atStart => exact ⟨0, by omega, rfl, World.ownsRow_nil _ _ _ _, Lib.hid rfl, Below.refl _ _⟩
    case round =>
      obtain ⟨k, hk, rfl, hown, HF, hb⟩ := hrel
      obtain ⟨a5, c5, hv5⟩ := own_len hown
      subst hv5
      have hcl := catTo_le (HK.out).2 k hk
      by_cases hlt : k < ks.length
      · obtain ⟨b, off, ha, hrg⟩ := (HK.out).1.at (by omega)
        subst ha
        have h0 := hrg k hlt
        have hcell : wr.cell? ⟨b, off + k, none⟩ = some (.slice ks[k].a ks[k].l.length ks[k].c) := (hb.cell (p := ⟨b, off + k, none⟩) (lt_of_cell h0)).trans h0
        have hea := (HK.out).1.each ks[k] (List.getElem_mem hlt)
        have hx100 := (HK.out).2 ks[k] (List.getElem_mem hlt)
        have hrx := hea.1.mono hb (Nat.le_refl _)
        have CK := check_any ks[k].a ks[k].c ks[k].l wr hrx hea.2
        have RX := Lib.hid hrx
        have HN := Lib.hid (And.intro (catTo_succ hlt) (And.intro (fmTo_succ hlt) (fmTo_no hlt)))
        have HO := Lib.hid (And.intro hown hb)
        clear hrg h0 hea hrx hown hb
        generalize ks[k] = x at *
        cases hf : fm x.l with
        | false =>
          have hz : (chk x.l != 0) = true := by rw [bne_iff_ne]; rcases chk_no hf with h | h | h <;> omega
          have HP : Hid (puts op ks = false) := Lib.hid (by unfold puts mayTo; rw [(HN.out).2.2 hf]; simp)
          have CK2 := Lib.hid CK
          clear CK hf
          generalize chk x.l = z at *
          go_wp2_with fail
          refine CK2.out.mono ?_
          rintro e w3 ⟨rfl, b3⟩
          have B3 := Lib.hid ((HO.out).2.trans (b3.mono (HO.out).2.size))
          clear b3
          go_wp2_with fail
          go_ret
          exact HNO.out _ HP.out B3.out
        | true =>
          rw [chk_ok hf] at CK
          have HFX := Lib.hid hf
          have CK2 := Lib.hid CK
          clear CK hf
          go_wp2_with fail
          refine CK2.out.mono ?_
          rintro e w3 ⟨rfl, b3⟩
          have RX3 := Lib.hid (RX.out.mono b3 (Nat.le_refl _))
          have HO3 := Lib.hid (own_below (HO.out).1 b3)
          have hb3 := (HO.out).2.trans (b3.mono (HO.out).2.size)
          have hsz3 := hb3.size
          have B3 := Lib.hid hb3
          clear b3 hb3 RX HO CK2
          go_wp2_with (at_builtin; refine append_any (v := .slice a5 (catTo ks k).length c5) rfl (.tmp 22) (.tmp 23) 22 rfl 42 _ 9 104 Try.underlying22 infoItem rfl (by decide) rfl HO3.out hsz3 x.a x.l.length x.c (Rec.flat It.cells x.l) rfl (Rec.flat_len It.cells_len _) RX3.out (items_one _) (by decide) (by omega) ?_; intro v6 w6 own6 keep6 where6; have H6 := Lib.hid (And.intro own6 (B3.out.trans (keep6.below (fun j hj => (HO3.out.lt j hj).1) hsz3))); clear own6 keep6 where6)
          go_roundw
          case rel => exact ⟨k + 1, by omega, by go_num, by rw [(HN.out).1, List.length_append, flat_app]; exact (H6.out).1, Lib.hid (by rw [(HN.out).2.1, HF.out, HFX.out]; rfl), (H6.out).2⟩
          case measure => simp [intOf] <;> omega
      · have hke : k = ks.length := by omega
        subst hke
        obtain ⟨n, hn⟩ : ∃ n, (catTo ks ks.length).length = n := ⟨_, rfl⟩
        have HP : Hid (puts op ks = decide (n < 64)) := Lib.hid (by unfold puts mayTo; rw [HF.out, HAR.out, hn]; simp)
        have HYES : Hid (∀ w' g cap, puts op ks = true → w'.ownsRow w.heap.size 42 9 (.slice (some ⟨g, 0, none⟩) (n + 1) cap) (n + 1) (Rec.flat It.cells (putL op ks)) → Below w.heap.size w w' → PutAns op ks w (.returned (.slice (some ⟨g, 0, none⟩) (n + 1) cap)) w') := Lib.hid (fun w' g cap h1 h2 h3 => Or.inr ⟨h1, g, cap, by rw [hn], by rw [hn]; exact h2, h3⟩)
        rw [hn] at hown hcl ⊢
        have hsz := hb.size
        have HO := Lib.hid (And.intro hown hb)
        clear hn hown hb
        by_cases h64 : 64 ≤ n
        · have HP2 : Hid (puts op ks = false) := Lib.hid (by rw [HP.out, decide_eq_false (by omega)])
          go_wp2_with fail
          go_ret
          exact HNO.out _ HP2.out (HO.out).2
        · have HP2 : Hid (puts op ks = true) := Lib.hid (by rw [HP.out, decide_eq_true (by omega)])
          go_wp2_with (at_builtin; refine append_at (v := .slice a5 n c5) rfl (.tmp 29) (.tmp 32) 22 rfl 42 _ 9 104 Try.underlying22 infoItem rfl (by decide) rfl (HO.out).1 hsz (it0 op).cells rfl (fun u hu => items_one [it0 op] u (by simpa [Rec.flat] using hu)) rfl rfl (by decide) (by omega) ?_; intro g6 cap6 w6 own6 keep6 where6; have H6 := Lib.hid (And.intro own6 ((HO.out).2.trans (keep6.below (fun j hj => ((HO.out).1.lt j hj).1) hsz))); clear own6 keep6 where6)
          go_ret
          refine HYES.out _ _ _ HP2.out ?_ (H6.out).2
          have h7 := (H6.out).1
          unfold putL
          rw [flat_app]
          simpa [Rec.flat] using h7
  · have hne : (Tr.ar op != (ks.length : Int)) = true := by rw [bne_iff_ne]; exact har
    have AR2 := Lib.hid AR
    have HP : Hid (puts op ks = false) := Lib.hid (by unfold puts mayTo; rw [beq_eq_false_iff_ne.2 har]; simp)
    clear hk hs AR har
    generalize Tr.ar op = n at *
    go_enter Try.func26, Try.ntmps26
    go_wp2_with fail
    refine AR2.out.mono ?_
    rintro e w2 ⟨rfl, rfl⟩
    go_wp2_with fail
    go_ret
    exact HNO.out _ HP.out (Below.refl _ _)
set_option maxRecDepth 100000 in
set_option maxHeartbeats 1500000 in
theorem exact_any (a a2 : Option Addr) (c c2 : Nat) (l : List It) (w : World) (hl : RdI w a l) (hm : RdI w a2 l) (hll : l.length ≤ maxLen) :
    Calls Try.prog 27 #[.slice a l.length c, .slice a2 l.length c2] w fun e w' => e = .returned (.bool true) ∧ Below w.heap.size w w' := by
  have hu : ∀ b : Bool, ¬ (some undef = some (Value.bool b)) := fun b h => by cases h
  have hl2 : l.length ≤ 9223372036854775807 := by unfold maxLen at hll; omega
  have HL := Lib.hid (And.intro hl hm)
  have hne : ((l.length : Int) != (l.length : Int)) = false := by simp
  clear hl hm hll
  go_enter Try.func27, Try.ntmps27
  go_wp2_with fail
  go_loopw [5] (fun v5 wr => ∃ k : Nat, k ≤ l.length ∧ v5 = .int .i64 k ∧ Below w.heap.size w wr) (fun v5 _ => l.length - (intOf v5).toNat)
  case atStart => exact ⟨0, by omega, rfl, Below.refl _ _⟩
  case round =>
    obtain ⟨k, hk, rfl, hb⟩ := hrel
    by_cases hlt : k < l.length
    · obtain ⟨b, off, ha, hrg⟩ := (HL.out).1.at (by omega)
      obtain ⟨b2, off2, ha2, hrg2⟩ := (HL.out).2.at (by omega)
      subst ha ha2
      have hrw := range_mono (hrg k hlt) hb (Nat.le_refl _)
      have hrm := range_mono (hrg2 k hlt) hb (Nat.le_refl _)
      have HB := Lib.hid hb
      clear hrg hrg2 hb
      generalize l[k] = x at *
      obtain ⟨d0, d1, d2, d3, d4, d5, d6, d7, d8⟩ := cells_of hrw
      obtain ⟨c0, c1, c2, c3, c4, c5, c6, c7, c8⟩ := cells_of hrm
      have hq := fun w => eqItem x x w
      unfold sameB at hq
      simp only [beq_self_eq_true, Bool.and_self, Bool.and_true] at hq
      clear hrw hrm
      go_wp2_with fail
      go_quiet (fail)
      go_wp2
      go_roundw
      case rel => exact ⟨k + 1, by omega, by go_num, by repeat (first | exact HB.out | apply below_dn | apply Below.drew)⟩
      case measure => simp [intOf] <;> omega
    · have hke : k = l.length := by omega
      subst hke
      go_wp2_with fail
      go_ret
      exact ⟨rfl, hb⟩
end Go.Proofs.Ytpbgicfoopicbaa
