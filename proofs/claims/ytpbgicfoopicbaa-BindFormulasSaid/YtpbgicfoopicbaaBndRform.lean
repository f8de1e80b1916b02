/-
  Bind: a formula's instructions: the document's.
-/
import Derived.Test.YtpbgicfoopicbaaBndForm
import Derived.Test.YtpbgicfoopicbaaBndRef
namespace Go.Proofs.Ytpbgicfoopicbaa
open Go.RowKit
set_option linter.unusedVariables false
set_option linter.unusedSimpArgs false

structure Rm (NP : NPair) (w wr : World) (v : Value) (l : List It) (k : Nat) : Prop where
  fault : wr.heap[w.heap.size]? = some (.cells #[.int .i64 0, .int .i64 0, .int .i64 0] 48 (0, 0))
  out : wr.ownsRow (w.heap.size + 1) 70 7 v k (Rec.flat In7.cells ((l.take k).map (insI NP)))
  good : ∀ j (hj : j < k) (hl : j < l.length), errI NP l[j] = 0
  below : Below w.heap.size w wr
section
variable {NP : NPair} {w wr W2 : World} {k : Nat} {v : Value} {l : List It}
theorem Rm.still (h : Rm NP w wr v l k) (hb : Below wr.heap.size wr W2) : Rm NP w W2 v l k :=
  ⟨(hb.block _ (Array.getElem?_eq_some_iff.1 h.fault).1).trans h.fault, brow_keep h.out (fun j hj => hb.block j (h.out.lt j hj).2), h.good, h.below.trans (hb.mono h.below.size)⟩
theorem Rm.grow (h : Rm NP w wr v l k) (hk : k < l.length) (he : errI NP l[k] = 0) {g cap : Nat} (ho : W2.ownsRow (w.heap.size + 1) 70 7 (.slice (some ⟨g, 0, none⟩) (k + 1) cap) (k + 1) (Rec.flat In7.cells ((l.take k).map (insI NP)) ++ (insI NP l[k]).cells)) (hkp : Keeps (fun j => v.ownBlock = some j) wr W2) :
    Rm NP w W2 (.slice (some ⟨g, 0, none⟩) (k + 1) cap) l (k + 1) := by
  have h1 := h.out.lt
  refine ⟨(hkp.block _ (Array.getElem?_eq_some_iff.1 h.fault).1 (fun e => by have := (h1 _ e).1; omega)).trans h.fault, ?_, fun j hj hl => ?_, h.below.trans (hkp.below (fun j e => by have := (h1 _ e).1; omega) h.below.size)⟩
  · rw [List.take_add_one, List.getElem?_eq_getElem hk, List.map_append]
    simp only [Option.toList_some, List.map_cons, List.map_nil]
    rw [Rec.flat_snoc]; exact ho
  · rcases Nat.lt_or_ge j k with hh | hh
    · exact h.good j hh hl
    · have : j = k := by omega
      subst this; exact he
theorem Rm.hsz (h : Rm NP w wr v l k) : w.heap.size + 1 ≤ wr.heap.size := by have := (Array.getElem?_eq_some_iff.1 h.fault).1; omega
end
set_option maxRecDepth 100000 in
set_option maxHeartbeats 1000000 in
theorem rformula_any (NP : NPair) (a' : Option Addr) (n c' : Nat) (a : Option Addr) (c : Nat) (l : List It) (w : World) (hl : RdI w a l) (hf : ∀ x ∈ l, x.ok) (hm : l.length ≤ 100) (hn : NeedR NP a' n c' w) :
    Calls Try.prog 34 #[.slice a' n c', .slice a l.length c] w (FmAns NP l w) := by
  have HL := Lib.hid hl
  have HFIT := Lib.hid hf
  have HN := Lib.hid hn
  have HF3 : Hid (Rm NP w (w.alloc (.cells #[.int .i64 0, .int .i64 0, .int .i64 0] 48)) (.slice none 0 0) l 0) := Lib.hid ⟨heap_alloc_new w _, World.ownsRow_nil _ _ _ _, fun j hj => by omega, bbel_alloc w _⟩
  clear hl hf hn
  go_enter Try.func34, Try.ntmps34
  go_wp2_with fail
  generalize w.alloc (.cells #[.int .i64 0, .int .i64 0, .int .i64 0] 48) = w3 at *
  go_loopw [6, 7] (fun v6 v7 wr => ∃ k : Nat, k ≤ l.length ∧ v7 = .int .i64 k ∧ Hid (Rm NP w wr v6 l k)) (fun _ v7 _ => l.length - (intOf v7).toNat)
  case atStart => exact ⟨0, by omega, rfl, HF3⟩
  case round =>
    obtain ⟨k, hk, rfl, HFM⟩ := hrel
    clear HF3
    by_cases hlt : k < l.length
    · obtain ⟨b, off, ha, hrg⟩ := (RdI.mono HL.out HFM.out.below (Nat.le_refl _)).at (by omega)
      subst ha
      have hx := HFIT.out l[k] (List.getElem_mem hlt)
      have hrgk := hrg k hlt
      have HINS : Hid (∀ w2, Below w.heap.size w w2 → Calls Try.prog 54 #[.slice a' n c', .agg #[.int .i64 l[k].op, .string l[k].ln, .int .i64 l[k].lv, .string l[k].rn, .int .i64 l[k].rv, .string l[k].nm, .string l[k].us, .int .i64 l[k].line, .int .i64 l[k].col]] w2 (InsAns NP l[k] w2)) := Lib.hid fun w2 hb => rinst_any NP a' n c' l[k] hx w2 (HN.out.later hb)
      have HGROW : Hid (∀ (W2 W5 : World) (g cap : Nat), Rm NP w W2 u6 l k → errI NP l[k] = 0 → W5.ownsRow (w.heap.size + 1) 70 7 (.slice (some ⟨g, 0, none⟩) (k + 1) cap) (k + 1) (Rec.flat In7.cells ((l.take k).map (insI NP)) ++ (insI NP l[k]).cells) → Keeps (fun j => u6.ownBlock = some j) W2 W5 → Rm NP w W5 (.slice (some ⟨g, 0, none⟩) (k + 1) cap) l (k + 1)) := Lib.hid fun W2 W5 g cap h he ho hk => h.grow hlt he ho hk
      have HBAD : Hid (∀ W, errI NP l[k] ≠ 0 → Below w.heap.size w W → FmAns NP l w (.returned (.tuple #[.slice none 0 0, .agg #[.int .i64 (errI NP l[k]), .int .i64 l[k].line, .int .i64 l[k].col]])) W) := Lib.hid fun W he hb => Or.inr ⟨k, hlt, fun j hj => HFM.out.good j hj (by omega), he, rfl, hb⟩
      have HIT : Hid (∀ w2, Below wr.heap.size wr w2 → w2.cell? ⟨b, off + k * 9 + 7, none⟩ = some (.int .i64 l[k].line) ∧ w2.cell? ⟨b, off + k * 9 + 8, none⟩ = some (.int .i64 l[k].col) ∧ Rm NP w w2 u6 l k) := Lib.hid fun w2 hb => by
        have h7 := hrgk 7 (.int .i64 l[k].line) rfl
        have h8 := hrgk 8 (.int .i64 l[k].col) rfl
        exact ⟨by rw [hb.cell (p := ⟨b, off + k * 9 + 7, none⟩) (lt_of_cell h7)]; exact h7, by rw [hb.cell (p := ⟨b, off + k * 9 + 8, none⟩) (lt_of_cell h8)]; exact h8, HFM.out.still hb⟩
      unfold It.cells at hrgk
      clear hrg hx
      have HBA := Lib.hid HFM.out.below
      generalize l[k] = x at *
      go_wp2_with (first
        | (refine wpList_load_mid rfl 42 (.tmp 20) rfl b (off + k * 9) rfl [.int .i64 x.op, .string x.ln, .int .i64 x.lv, .string x.rn, .int .i64 x.rv, .string x.nm, .string x.us, .int .i64 x.line, .int .i64 x.col] _ ?_ Try.underlying42 rfl bsizeItem ?_; exact hrgk))
      refine (HINS.out _ HBA.out).mono ?_
      rintro e w2 ⟨y, rfl, hy, hb2⟩
      obtain ⟨hi7, hi8, hfm⟩ := HIT.out w2 hb2
      by_cases he0 : errI NP x = 0
      · have hyy := hy he0
        have hF4 : ∀ o, Rm NP w (w2.alloc o) u6 l k := fun o => hfm.still (bbel_alloc w2 o)
        have hne : (errI NP x != 0) = false := by simp [he0]
        have HE0 := Lib.hid he0
        have HYY := Lib.hid hyy
        have own4 := (hF4 (.cells #[.int .i64 y.a0, .int .i64 y.a1, .int .i64 y.a2, .int .i64 y.a3, .int .i64 y.a4, .int .i64 y.a5, .int .i64 y.a6] 70)).out
        have hsz4 := (hF4 (.cells #[.int .i64 y.a0, .int .i64 y.a1, .int .i64 y.a2, .int .i64 y.a3, .int .i64 y.a4, .int .i64 y.a5, .int .i64 y.a6] 70)).hsz
        have HF4 := Lib.hid (hF4 (.cells #[.int .i64 y.a0, .int .i64 y.a1, .int .i64 y.a2, .int .i64 y.a3, .int .i64 y.a4, .int .i64 y.a5, .int .i64 y.a6] 70))
        clear hb2 hi7 hi8 hfm hy hyy hF4 he0 hrgk
        generalize errI NP x = er at *
        go_wp2_with (first | (at_builtin; refine append_at (v := u6) rfl _ _ 52 rfl 70 _ 7 56 Try.underlying52 infoIns rfl (by decide) rfl own4 hsz4 [.int .i64 y.a0, .int .i64 y.a1, .int .i64 y.a2, .int .i64 y.a3, .int .i64 y.a4, .int .i64 y.a5, .int .i64 y.a6] rfl (by simp [Value.oneCell']) rfl (by simp) (by decide) (by omega) ?_; intro g cap W5 own5 keep5 where5))
        go_roundw
        case rel => exact ⟨k + 1, by omega, by go_num, Lib.hid (HGROW.out _ W5 g cap HF4.out HE0.out (by rw [← HYY.out]; exact own5) keep5)⟩
        case measure => simp [intOf] <;> omega
      · have hne : (errI NP x != 0) = true := by simpa using he0
        have HE0 := Lib.hid he0
        have hb4 := bbel_alloc w2 (.cells #[.int .i64 y.a0, .int .i64 y.a1, .int .i64 y.a2, .int .i64 y.a3, .int .i64 y.a4, .int .i64 y.a5, .int .i64 y.a6] 70)
        have f4 := (hfm.still hb4)
        have j7 : (w2.alloc (.cells #[.int .i64 y.a0, .int .i64 y.a1, .int .i64 y.a2, .int .i64 y.a3, .int .i64 y.a4, .int .i64 y.a5, .int .i64 y.a6] 70)).cell? ⟨b, off + k * 9 + 7, none⟩ = some (.int .i64 x.line) := by rw [hb4.cell (p := ⟨b, off + k * 9 + 7, none⟩) (lt_of_cell hi7)]; exact hi7
        have j8 : (w2.alloc (.cells #[.int .i64 y.a0, .int .i64 y.a1, .int .i64 y.a2, .int .i64 y.a3, .int .i64 y.a4, .int .i64 y.a5, .int .i64 y.a6] 70)).cell? ⟨b, off + k * 9 + 8, none⟩ = some (.int .i64 x.col) := by rw [hb4.cell (p := ⟨b, off + k * 9 + 8, none⟩) (lt_of_cell hi8)]; exact hi8
        clear hb2 hi7 hi8 hfm hy he0 hrgk hb4
        generalize errI NP x = er at *
        go_wp2_with fail
        generalize w2.alloc (.cells #[.int .i64 y.a0, .int .i64 y.a1, .int .i64 y.a2, .int .i64 y.a3, .int .i64 y.a4, .int .i64 y.a5, .int .i64 y.a6] 70) = W4 at *
        obtain ⟨q0, q1, q2, qz⟩ := bcells3 f4.fault
        obtain ⟨h5, b5, _⟩ := bfault_set f4.fault f4.below (Nat.le_refl _) er x.line x.col
        have HFS : Hid (∀ d, ((((W4.setCell ⟨w.heap.size, 0, none⟩ (.int .i64 er)).setCell ⟨w.heap.size, 1, none⟩ (.int .i64 x.line)).setCell ⟨w.heap.size, 2, none⟩ (.int .i64 x.col)).drewN d).heap[w.heap.size]? = some (.cells #[.int .i64 er, .int .i64 x.line, .int .i64 x.col] 48 (0, 0)) ∧ FmAns NP l w (.returned (.tuple #[.slice none 0 0, .agg #[.int .i64 er, .int .i64 x.line, .int .i64 x.col]])) ((((W4.setCell ⟨w.heap.size, 0, none⟩ (.int .i64 er)).setCell ⟨w.heap.size, 1, none⟩ (.int .i64 x.line)).setCell ⟨w.heap.size, 2, none⟩ (.int .i64 x.col)).drewN d)) := Lib.hid fun d => ⟨h5, HBAD.out _ HE0.out (bbelow_dn b5 d)⟩
        clear f4 h5 b5
        go_region
        all_goals go_wp2_with fail
        all_goals first
          | refine bbp_gen (F := fun d => (((W4.setCell ⟨w.heap.size, 0, none⟩ (.int .i64 er)).setCell ⟨w.heap.size, 1, none⟩ (.int .i64 x.line)).setCell ⟨w.heap.size, 2, none⟩ (.int .i64 x.col)).drewN d) (C := fun W => W.heap[w.heap.size]? = some (.cells #[.int .i64 er, .int .i64 x.line, .int .i64 x.col] 48 (0, 0)) ∧ FmAns NP l w (.returned (.tuple #[.slice none 0 0, .agg #[.int .i64 er, .int .i64 x.line, .int .i64 x.col]])) W) HFS.out ?_ 1
          | refine bbp_gen (F := fun d => (((W4.setCell ⟨w.heap.size, 0, none⟩ (.int .i64 er)).setCell ⟨w.heap.size, 1, none⟩ (.int .i64 x.line)).setCell ⟨w.heap.size, 2, none⟩ (.int .i64 x.col)).drewN d) (C := fun W => W.heap[w.heap.size]? = some (.cells #[.int .i64 er, .int .i64 x.line, .int .i64 x.col] 48 (0, 0)) ∧ FmAns NP l w (.returned (.tuple #[.slice none 0 0, .agg #[.int .i64 er, .int .i64 x.line, .int .i64 x.col]])) W) HFS.out ?_ 0
          | refine bbp_gen (F := fun d => (((W4.setCell ⟨w.heap.size, 0, none⟩ (.int .i64 er)).setCell ⟨w.heap.size, 1, none⟩ (.int .i64 x.line)).setCell ⟨w.heap.size, 2, none⟩ (.int .i64 x.col)).drewN d) (C := fun W => W.heap[w.heap.size]? = some (.cells #[.int .i64 er, .int .i64 x.line, .int .i64 x.col] 48 (0, 0)) ∧ FmAns NP l w (.returned (.tuple #[.slice none 0 0, .agg #[.int .i64 er, .int .i64 x.line, .int .i64 x.col]])) W) HFS.out ?_ 2
        all_goals rintro W ⟨h5, hans⟩
        all_goals obtain ⟨g0, g1, g2, _⟩ := bcells3 h5
        all_goals refine bodyPost_ret (v := .tuple #[.slice none 0 0, .agg #[.int .i64 er, .int .i64 x.line, .int .i64 x.col]]) (by simp [results, Try.results34, go_sem, g0, g1, g2]) rfl ?_
        all_goals exact hans
    · have hke : k = l.length := by omega
      subst hke
      obtain ⟨q0, q1, q2, qz⟩ := bcells3 HFM.out.fault
      obtain ⟨h5, b5, k5⟩ := bfault_set HFM.out.fault HFM.out.below (Nat.le_refl _) 0 0 0
      have HANS : Hid (FmAns NP l w (.returned (.tuple #[u6, .agg #[.int .i64 0, .int .i64 0, .int .i64 0]])) (((wr.setCell ⟨w.heap.size, 0, none⟩ (.int .i64 0)).setCell ⟨w.heap.size, 1, none⟩ (.int .i64 0)).setCell ⟨w.heap.size, 2, none⟩ (.int .i64 0))) := Lib.hid (by
        have ho := HFM.out.out
        rw [List.take_length] at ho
        have ho2 := brow_keep ho (fun j hj => k5.block j (ho.lt j hj).2 (fun e => by have := (ho.lt j hj).1; omega))
        refine Or.inl ⟨fun i hi => HFM.out.good i hi hi, u6, rfl, ⟨ho2.1, ?_⟩, b5⟩
        rcases ho2.2 with hn | ⟨g, cap, cur, h1, h2, rest⟩
        · exact Or.inl hn
        · exact Or.inr ⟨g, cap, cur, h1, by omega, rest⟩)
      have H5 := Lib.hid h5
      clear h5 b5 k5
      go_wp2_with fail
      generalize (((wr.setCell ⟨w.heap.size, 0, none⟩ (.int .i64 0)).setCell ⟨w.heap.size, 1, none⟩ (.int .i64 0)).setCell ⟨w.heap.size, 2, none⟩ (.int .i64 0)) = W5 at *
      obtain ⟨g0, g1, g2, _⟩ := bcells3 H5.out
      refine bodyPost_ret (v := .tuple #[u6, .agg #[.int .i64 0, .int .i64 0, .int .i64 0]]) (by simp [results, Try.results34, go_sem, g0, g1, g2]) rfl ?_
      exact HANS.out
end Go.Proofs.Ytpbgicfoopicbaa
