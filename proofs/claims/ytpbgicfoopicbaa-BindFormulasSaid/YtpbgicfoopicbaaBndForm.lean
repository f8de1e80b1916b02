/-
  Bind: a formula's instructions: the program's.
-/
import Derived.Test.YtpbgicfoopicbaaBndInst
import Derived.Deep.RegionLaw
namespace Go.Proofs.Ytpbgicfoopicbaa
open Go.RowKit
set_option linter.unusedVariables false
set_option linter.unusedSimpArgs false

theorem bbp_gen {P : Program} {fn : Func} {R : Ending → World → Prop} {e : Exit} {a : Act} {F : Nat → World} {C : World → Prop} (hF : ∀ m, C (F m)) (h : ∀ W, C W → bodyPost P fn R e a W) (m : Nat) : bodyPost P fn R e a (F m) := h _ (hF m)
theorem infoIns : (Try.prog.info? 70).map (fun i => (i.zero, i.size, i.bytes)) = some (some (.agg #[.int .i64 0, .int .i64 0, .int .i64 0, .int .i64 0, .int .i64 0, .int .i64 0, .int .i64 0]), 7, 56) := by kernel_rfl
theorem sizeTell : (Try.prog.info? 107).map (·.size) = some 1 := by kernel_rfl
theorem bsizeItem : (Try.prog.info? 42).map (·.size) = some 9 := by kernel_rfl
theorem brow_keep {w w' : World} {B n size : Nat} {e : TypeId} {v : Value} {xs : List Value} (h : w.ownsRow B e size v n xs) (hb : ∀ k, v.ownBlock = some k → w'.heap[k]? = w.heap[k]?) : w'.ownsRow B e size v n xs := by
  refine ⟨h.1, ?_⟩
  rcases h.2 with hn | ⟨g, cap, cur, rfl, hbg, hgg, rest⟩
  · exact .inl hn
  · exact .inr ⟨g, cap, cur, rfl, hbg, by rw [hb g rfl]; exact hgg, rest⟩
def FmAns (NP : NPair) (l : List It) (w : World) (e : Ending) (w' : World) : Prop :=
  ((∀ i (hi : i < l.length), errI NP l[i] = 0) ∧ ∃ v, e = .returned (.tuple #[v, .agg #[.int .i64 0, .int .i64 0, .int .i64 0]]) ∧ w'.ownsRow w.heap.size 70 7 v l.length (Rec.flat In7.cells (l.map (insI NP))) ∧ Below w.heap.size w w') ∨
  (∃ (i : Nat) (hi : i < l.length), (∀ j (hj : j < i), errI NP l[j] = 0) ∧ errI NP l[i] ≠ 0 ∧ e = .returned (.tuple #[.slice none 0 0, .agg #[.int .i64 (errI NP l[i]), .int .i64 l[i].line, .int .i64 l[i].col]]) ∧ Below w.heap.size w w')
structure Fm (NP : NPair) (w wr : World) (p : Nat) (v : Value) (l : List It) (k : Nat) : Prop where
  fault : wr.heap[w.heap.size]? = some (.cells #[.int .i64 0, .int .i64 0, .int .i64 0] 48 (0, 0))
  tell : wr.heap[w.heap.size + 1]? = some (.cells #[FV p] 107 (0, 0))
  out : wr.ownsRow (w.heap.size + 1 + 1) 70 7 v k (Rec.flat In7.cells ((l.take k).map (insI NP)))
  good : ∀ j (hj : j < k) (hl : j < l.length), errI NP l[j] = 0
  below : Below w.heap.size w wr
section
variable {NP : NPair} {w wr W2 : World} {p k : Nat} {v : Value} {l : List It}
theorem Fm.still (h : Fm NP w wr p v l k) (hb : Below wr.heap.size wr W2) : Fm NP w W2 p v l k :=
  ⟨(hb.block _ (Array.getElem?_eq_some_iff.1 h.fault).1).trans h.fault, (hb.block _ (Array.getElem?_eq_some_iff.1 h.tell).1).trans h.tell, brow_keep h.out (fun j hj => hb.block j (h.out.lt j hj).2), h.good, h.below.trans (hb.mono h.below.size)⟩
theorem Fm.grow (h : Fm NP w wr p v l k) (hk : k < l.length) (he : errI NP l[k] = 0) {g cap : Nat} (ho : W2.ownsRow (w.heap.size + 1 + 1) 70 7 (.slice (some ⟨g, 0, none⟩) (k + 1) cap) (k + 1) (Rec.flat In7.cells ((l.take k).map (insI NP)) ++ (insI NP l[k]).cells)) (hkp : Keeps (fun j => v.ownBlock = some j) wr W2) :
    Fm NP w W2 p (.slice (some ⟨g, 0, none⟩) (k + 1) cap) l (k + 1) := by
  have h1 := h.out.lt
  refine ⟨(hkp.block _ (Array.getElem?_eq_some_iff.1 h.fault).1 (fun e => by have := (h1 _ e).1; omega)).trans h.fault, (hkp.block _ (Array.getElem?_eq_some_iff.1 h.tell).1 (fun e => by have := (h1 _ e).1; omega)).trans h.tell, ?_, fun j hj hl => ?_, h.below.trans (hkp.below (fun j e => by have := (h1 _ e).1; omega) h.below.size)⟩
  · rw [List.take_add_one, List.getElem?_eq_getElem hk, List.map_append]
    simp only [Option.toList_some, List.map_cons, List.map_nil]
    rw [Rec.flat_snoc]; exact ho
  · rcases Nat.lt_or_ge j k with hh | hh
    · exact h.good j hh hl
    · have : j = k := by omega
      subst this; exact he
theorem Fm.hsz (h : Fm NP w wr p v l k) : w.heap.size + 1 + 1 ≤ wr.heap.size := by have := (Array.getElem?_eq_some_iff.1 h.tell).1; omega
theorem bcells3 {W : World} {F : Nat} {t : TypeId} {x y z : Value} (h : W.heap[F]? = some (.cells #[x, y, z] t (0, 0))) : W.cell? ⟨F, 0, none⟩ = some x ∧ W.cell? ⟨F, 1, none⟩ = some y ∧ W.cell? ⟨F, 2, none⟩ = some z ∧ ∀ j, W.frozen? ⟨F, j, none⟩ = false :=
  ⟨cell_of_row W F 0 _ _ _ h, cell_of_row W F 1 _ _ _ h, cell_of_row W F 2 _ _ _ h, fun j => by unfold World.frozen?; rw [h]; simp⟩
theorem bfault_set {F : Nat} (h : wr.heap[F]? = some (.cells #[.int .i64 0, .int .i64 0, .int .i64 0] 48 (0, 0))) (hb : Below w.heap.size w wr) (hF : w.heap.size ≤ F) (x y z : Int) :
    (((wr.setCell ⟨F, 0, none⟩ (.int .i64 x)).setCell ⟨F, 1, none⟩ (.int .i64 y)).setCell ⟨F, 2, none⟩ (.int .i64 z)).heap[F]? = some (.cells #[.int .i64 x, .int .i64 y, .int .i64 z] 48 (0, 0)) ∧
    Below w.heap.size w (((wr.setCell ⟨F, 0, none⟩ (.int .i64 x)).setCell ⟨F, 1, none⟩ (.int .i64 y)).setCell ⟨F, 2, none⟩ (.int .i64 z)) ∧
    Keeps (fun j => j = F) wr (((wr.setCell ⟨F, 0, none⟩ (.int .i64 x)).setCell ⟨F, 1, none⟩ (.int .i64 y)).setCell ⟨F, 2, none⟩ (.int .i64 z)) :=
  ⟨heap_setCell_same _ F 2 _ _ _ (heap_setCell_same _ F 1 _ _ _ (heap_setCell_same wr F 0 _ _ _ h)), ((hb.setCell (p := ⟨F, 0, none⟩) hF _).setCell (p := ⟨F, 1, none⟩) hF _).setCell (p := ⟨F, 2, none⟩) hF _,
   ((Keeps.setCell (S := fun j => j = F) wr ⟨F, 0, none⟩ (.int .i64 x) rfl).trans (Keeps.setCell (S := fun j => j = F) _ ⟨F, 1, none⟩ (.int .i64 y) rfl)).trans (Keeps.setCell (S := fun j => j = F) _ ⟨F, 2, none⟩ (.int .i64 z) rfl)⟩
end
theorem make_cap {P : Program} {w : World} {ops : Array Oper} {rest : List Oper} {o : Oper} {a : Act} {Q : Exit → Act → World → Prop}
    (hg : o.guard = none) (l c : Operand) (t : TypeId) (hop : o.op = Op.makeSlice t l c)
    (e : TypeId) (z : Value) (size bytes : Nat) (ht : P.underlying t = some (.slice e)) (hi : (P.info? e).map (fun i => (i.zero, i.size, i.bytes)) = some (some z, size, bytes))
    (C : Int) (n base : Nat) (hl : a.eval l = .int .i64 0) (hc : a.eval c = .int .i64 C) (hC : C = (n : Int)) (hb : bytes * n ≤ 281474976710656) (hm : n ≤ maxLen) (hbase : base ≤ w.heap.size)
    (hK : ∀ w', w'.ownsRow base e size (.slice (some ⟨w.heap.size, 0, none⟩) 0 n) 0 [] → Below w.heap.size w w' → wpList P ops Q rest (a.put o.dst (.slice (some ⟨w.heap.size, 0, none⟩) 0 n)) w') :
    wpList P ops Q (o :: rest) a w := by
  obtain ⟨i, hi0, hz0, hz1, hz2⟩ := info_got hi
  refine wpList_make_own w hg l c t hop base e i z size ht hi0 hz0 hz1 .i64 .i64 C n hl hc hC (by rw [hz2]; exact hb) hm hbase ?_
  intro w' h1 h2
  exact hK w' h1 ((Keeps.grown (S := fun _ => False) h2 (fun k hk => by cases hk)).below (fun k hk => hk.elim) (Nat.le_refl _))
theorem tell_start (w : World) (p : Nat) :
    ((w.alloc (.cells #[.int .i64 0, .int .i64 0, .int .i64 0] 48)).alloc (.cells #[.nilFunc] 107)).there (w.heap.size + 1) 0 1 ∧
    (((w.alloc (.cells #[.int .i64 0, .int .i64 0, .int .i64 0] 48)).alloc (.cells #[.nilFunc] 107)).setCells (w.heap.size + 1) 0 [FV p]).heap[w.heap.size]? = some (.cells #[.int .i64 0, .int .i64 0, .int .i64 0] 48 (0, 0)) ∧
    (((w.alloc (.cells #[.int .i64 0, .int .i64 0, .int .i64 0] 48)).alloc (.cells #[.nilFunc] 107)).setCells (w.heap.size + 1) 0 [FV p]).heap[w.heap.size + 1]? = some (.cells #[FV p] 107 (0, 0)) ∧
    Below w.heap.size w (((w.alloc (.cells #[.int .i64 0, .int .i64 0, .int .i64 0] 48)).alloc (.cells #[.nilFunc] 107)).setCells (w.heap.size + 1) 0 [FV p]) ∧
    (((w.alloc (.cells #[.int .i64 0, .int .i64 0, .int .i64 0] 48)).alloc (.cells #[.nilFunc] 107)).setCells (w.heap.size + 1) 0 [FV p]).heap.size = w.heap.size + 1 + 1 := by
  generalize hW1 : w.alloc (.cells #[.int .i64 0, .int .i64 0, .int .i64 0] 48) = W1
  have f1 : W1.heap[w.heap.size]? = some (.cells #[.int .i64 0, .int .i64 0, .int .i64 0] 48 (0, 0)) := by rw [← hW1]; exact heap_alloc_new w _
  have z1 : W1.heap.size = w.heap.size + 1 := by rw [← hW1]; simp
  have b1 : Below w.heap.size w W1 := by rw [← hW1]; exact bbel_alloc w _
  clear hW1
  have f2 := heap_alloc_new W1 (.cells #[.nilFunc] 107)
  have b2 := bbel_alloc W1 (.cells #[.nilFunc] 107)
  have z2 : (W1.alloc (.cells #[.nilFunc] 107)).heap.size = w.heap.size + 1 + 1 := by simp [z1]
  generalize W1.alloc (.cells #[.nilFunc] 107) = W2 at *
  rw [z1] at f2 b2
  have f3 : W2.heap[w.heap.size]? = some (.cells #[.int .i64 0, .int .i64 0, .int .i64 0] 48 (0, 0)) := (b2.block _ (by omega)).trans f1
  have hset := heap_setCell_same W2 (w.heap.size + 1) 0 _ _ (FV p) f2
  refine ⟨fun j hj => ?_, ?_, hset, (b1.trans (b2.mono (by omega))).setCell (p := ⟨w.heap.size + 1, 0, none⟩) (by simp) _, ?_⟩
  · have : j = 0 := by omega
    subst this
    refine ⟨?_, ?_⟩
    · rw [cell_of_row W2 _ _ _ _ _ f2]; rfl
    · unfold World.frozen?; rw [f2]; simp
  · exact (Below.heap_setCell W2 _ _ _ (by simp)).trans f3
  · simpa [World.setCells, World.setCell] using z2
set_option maxRecDepth 100000 in
set_option maxHeartbeats 1000000 in
theorem formula_any (NP : NPair) (p : Nat) (a : Option Addr) (c : Nat) (l : List It) (w : World) (hl : RdI w a l) (hf : ∀ x ∈ l, x.ok) (hm : l.length ≤ 100) (hn : NeedP NP p w) :
    Calls Try.prog 33 #[.pointer (some ⟨p, 0, none⟩), .slice a l.length c] w (FmAns NP l w) := by
  have HL := Lib.hid hl
  have HFIT := Lib.hid hf
  have HN := Lib.hid hn
  obtain ⟨th, f0, t0, b0, z0⟩ := tell_start w p
  have HS := Lib.hid (And.intro f0 (And.intro t0 b0))
  have z0' := z0
  clear hl hf hn f0 t0 b0
  go_enter Try.func33, Try.ntmps33
  go_wp2_with (first
    | (refine wpList_store_mid rfl 107 (.tmp 6) (.tmp 14) rfl (w.heap.size + 1) 0 #[FV p] rfl rfl ?_ sizeTell (by simp [Value.oneCell']) ?_; exact th)
    | (at_make; refine make_cap rfl _ _ 52 rfl 70 _ 7 56 Try.underlying52 infoIns _ l.length (w.heap.size + 1 + 1) rfl rfl rfl (by omega) (by unfold maxLen; omega) (by rw [z0]; exact Nat.le_refl _) ?_; intro w3 own3 bel3))
  have hF3 : Fm NP w w3 p (.slice (some ⟨w.heap.size + 1 + 1, 0, none⟩) 0 l.length) l 0 := by
    have hs := HS.out
    rw [z0] at bel3
    exact ⟨(bel3.block _ (by omega)).trans hs.1, (bel3.block _ (by omega)).trans hs.2.1, (by rw [z0'] at own3; simpa [Rec.flat] using own3), fun j hj => by omega, hs.2.2.trans (bel3.mono (by omega))⟩
  have HF3 := Lib.hid hF3
  clear hF3 own3 bel3 HS th z0 z0'
  go_loopw [7, 20] (fun v7 v20 wr => ∃ k : Nat, k ≤ l.length ∧ v20 = .int .i64 k ∧ Hid (Fm NP w wr p v7 l k)) (fun _ v20 _ => l.length - (intOf v20).toNat)
  case atStart => exact ⟨0, by omega, rfl, HF3⟩
  case round =>
    obtain ⟨k, hk, rfl, HFM⟩ := hrel
    clear HF3
    by_cases hlt : k < l.length
    · obtain ⟨b, off, ha, hrg⟩ := (RdI.mono HL.out HFM.out.below (Nat.le_refl _)).at (by omega)
      subst ha
      have hx := HFIT.out l[k] (List.getElem_mem hlt)
      have hrgk := hrg k hlt
      have tl := cell_of_row wr (w.heap.size + 1) 0 _ _ _ HFM.out.tell
      simp only [List.getElem?_toArray, List.getElem?_cons_zero] at tl
      have tla : ∀ o, (wr.alloc o).cell? ⟨w.heap.size + 1, 0, none⟩ = some (FV p) := fun o => by rw [World.cell?_alloc_past _ _ _ (Array.getElem?_eq_some_iff.1 HFM.out.tell).1]; exact tl
      have HINS : Hid (∀ w2, Below w.heap.size w w2 → Calls Try.prog 53 #[.agg #[FV p], .agg #[.int .i64 l[k].op, .string l[k].ln, .int .i64 l[k].lv, .string l[k].rn, .int .i64 l[k].rv, .string l[k].nm, .string l[k].us, .int .i64 l[k].line, .int .i64 l[k].col]] w2 (InsAns NP l[k] w2)) := Lib.hid fun w2 hb => inst_any NP p l[k] hx w2 (HN.out.later hb)
      have HGROW : Hid (∀ (W2 W5 : World) (g cap : Nat), Fm NP w W2 p u7 l k → errI NP l[k] = 0 → W5.ownsRow (w.heap.size + 1 + 1) 70 7 (.slice (some ⟨g, 0, none⟩) (k + 1) cap) (k + 1) (Rec.flat In7.cells ((l.take k).map (insI NP)) ++ (insI NP l[k]).cells) → Keeps (fun j => u7.ownBlock = some j) W2 W5 → Fm NP w W5 p (.slice (some ⟨g, 0, none⟩) (k + 1) cap) l (k + 1)) := Lib.hid fun W2 W5 g cap h he ho hk => h.grow hlt he ho hk
      have HBAD : Hid (∀ W, errI NP l[k] ≠ 0 → Below w.heap.size w W → FmAns NP l w (.returned (.tuple #[.slice none 0 0, .agg #[.int .i64 (errI NP l[k]), .int .i64 l[k].line, .int .i64 l[k].col]])) W) := Lib.hid fun W he hb => Or.inr ⟨k, hlt, fun j hj => HFM.out.good j hj (by omega), he, rfl, hb⟩
      have HIT : Hid (∀ w2, Below (wr.alloc (.cells #[.int .i64 l[k].op, .string l[k].ln, .int .i64 l[k].lv, .string l[k].rn, .int .i64 l[k].rv, .string l[k].nm, .string l[k].us, .int .i64 l[k].line, .int .i64 l[k].col] 42)).heap.size (wr.alloc (.cells #[.int .i64 l[k].op, .string l[k].ln, .int .i64 l[k].lv, .string l[k].rn, .int .i64 l[k].rv, .string l[k].nm, .string l[k].us, .int .i64 l[k].line, .int .i64 l[k].col] 42)) w2 → w2.heap[wr.heap.size]? = some (.cells #[.int .i64 l[k].op, .string l[k].ln, .int .i64 l[k].lv, .string l[k].rn, .int .i64 l[k].rv, .string l[k].nm, .string l[k].us, .int .i64 l[k].line, .int .i64 l[k].col] 42 (0, 0)) ∧ Fm NP w w2 p u7 l k) := Lib.hid fun w2 hb => ⟨(hb.block _ (by simp)).trans (heap_alloc_new wr _), (HFM.out.still (bbel_alloc wr _)).still hb⟩
      unfold It.cells at hrgk
      clear hrg hx tl
      have HBA : Hid (∀ o, Below w.heap.size w (wr.alloc o)) := Lib.hid fun o => HFM.out.below.trans ((bbel_alloc wr o).mono HFM.out.below.size)
      generalize l[k] = x at *
      go_wp2_with (first
        | (refine wpList_load_mid rfl 42 (.tmp 22) rfl b (off + k * 9) rfl [.int .i64 x.op, .string x.ln, .int .i64 x.lv, .string x.rn, .int .i64 x.rv, .string x.nm, .string x.us, .int .i64 x.line, .int .i64 x.col] _ ?_ Try.underlying42 rfl bsizeItem ?_; exact hrgk))
      refine (HINS.out _ (HBA.out _)).mono ?_
      rintro e w2 ⟨y, rfl, hy, hb2⟩
      obtain ⟨hit, hfm⟩ := HIT.out w2 hb2
      by_cases he0 : errI NP x = 0
      · have hyy := hy he0
        have hF4 : ∀ o, Fm NP w (w2.alloc o) p u7 l k := fun o => hfm.still (bbel_alloc w2 o)
        have hne : (errI NP x != 0) = false := by simp [he0]
        have HE0 := Lib.hid he0
        have HYY := Lib.hid hyy
        have own4 := (hF4 (.cells #[.int .i64 y.a0, .int .i64 y.a1, .int .i64 y.a2, .int .i64 y.a3, .int .i64 y.a4, .int .i64 y.a5, .int .i64 y.a6] 70)).out
        have hsz4 := (hF4 (.cells #[.int .i64 y.a0, .int .i64 y.a1, .int .i64 y.a2, .int .i64 y.a3, .int .i64 y.a4, .int .i64 y.a5, .int .i64 y.a6] 70)).hsz
        have HF4 := Lib.hid (hF4 (.cells #[.int .i64 y.a0, .int .i64 y.a1, .int .i64 y.a2, .int .i64 y.a3, .int .i64 y.a4, .int .i64 y.a5, .int .i64 y.a6] 70))
        clear hb2 hit hfm hy hyy hF4 he0 hrgk tla
        generalize errI NP x = er at *
        go_wp2_with (first | (at_builtin; refine append_at (v := u7) rfl _ _ 52 rfl 70 _ 7 56 Try.underlying52 infoIns rfl (by decide) rfl own4 hsz4 [.int .i64 y.a0, .int .i64 y.a1, .int .i64 y.a2, .int .i64 y.a3, .int .i64 y.a4, .int .i64 y.a5, .int .i64 y.a6] rfl (by simp [Value.oneCell']) rfl (by simp) (by decide) (by omega) ?_; intro g cap W5 own5 keep5 where5))
        go_roundw
        case rel => exact ⟨k + 1, by omega, by go_num, Lib.hid (HGROW.out _ W5 g cap HF4.out HE0.out (by rw [← HYY.out]; exact own5) keep5)⟩
        case measure => simp [intOf] <;> omega
      · have hne : (errI NP x != 0) = true := by simpa using he0
        have HE0 := Lib.hid he0
        have hb4 := bbel_alloc w2 (.cells #[.int .i64 y.a0, .int .i64 y.a1, .int .i64 y.a2, .int .i64 y.a3, .int .i64 y.a4, .int .i64 y.a5, .int .i64 y.a6] 70)
        have f4 := (hfm.still hb4)
        have i4 : (w2.alloc (.cells #[.int .i64 y.a0, .int .i64 y.a1, .int .i64 y.a2, .int .i64 y.a3, .int .i64 y.a4, .int .i64 y.a5, .int .i64 y.a6] 70)).heap[wr.heap.size]? = _ := (hb4.block _ (Array.getElem?_eq_some_iff.1 hit).1).trans hit
        clear hb2 hit hfm hy he0 hrgk tla hb4
        generalize errI NP x = er at *
        go_wp2_with fail
        generalize w2.alloc (.cells #[.int .i64 y.a0, .int .i64 y.a1, .int .i64 y.a2, .int .i64 y.a3, .int .i64 y.a4, .int .i64 y.a5, .int .i64 y.a6] 70) = W4 at *
        obtain ⟨q0, q1, q2, qz⟩ := bcells3 f4.fault
        have j7 : W4.cell? ⟨wr.heap.size, 7, none⟩ = some (.int .i64 x.line) := cell_of_row W4 _ 7 _ _ _ i4
        have j8 : W4.cell? ⟨wr.heap.size, 8, none⟩ = some (.int .i64 x.col) := cell_of_row W4 _ 8 _ _ _ i4
        obtain ⟨h5, b5, _⟩ := bfault_set f4.fault f4.below (Nat.le_refl _) er x.line x.col
        have HFS : Hid (∀ d, ((((W4.setCell ⟨w.heap.size, 0, none⟩ (.int .i64 er)).setCell ⟨w.heap.size, 1, none⟩ (.int .i64 x.line)).setCell ⟨w.heap.size, 2, none⟩ (.int .i64 x.col)).drewN d).heap[w.heap.size]? = some (.cells #[.int .i64 er, .int .i64 x.line, .int .i64 x.col] 48 (0, 0)) ∧ FmAns NP l w (.returned (.tuple #[.slice none 0 0, .agg #[.int .i64 er, .int .i64 x.line, .int .i64 x.col]])) ((((W4.setCell ⟨w.heap.size, 0, none⟩ (.int .i64 er)).setCell ⟨w.heap.size, 1, none⟩ (.int .i64 x.line)).setCell ⟨w.heap.size, 2, none⟩ (.int .i64 x.col)).drewN d)) := Lib.hid fun d => ⟨h5, HBAD.out _ HE0.out (bbelow_dn b5 d)⟩
        clear f4 i4 h5 b5
        go_region
        all_goals go_wp2_with fail
        all_goals first
          | refine bbp_gen (F := fun d => (((W4.setCell ⟨w.heap.size, 0, none⟩ (.int .i64 er)).setCell ⟨w.heap.size, 1, none⟩ (.int .i64 x.line)).setCell ⟨w.heap.size, 2, none⟩ (.int .i64 x.col)).drewN d) (C := fun W => W.heap[w.heap.size]? = some (.cells #[.int .i64 er, .int .i64 x.line, .int .i64 x.col] 48 (0, 0)) ∧ FmAns NP l w (.returned (.tuple #[.slice none 0 0, .agg #[.int .i64 er, .int .i64 x.line, .int .i64 x.col]])) W) HFS.out ?_ 1
          | refine bbp_gen (F := fun d => (((W4.setCell ⟨w.heap.size, 0, none⟩ (.int .i64 er)).setCell ⟨w.heap.size, 1, none⟩ (.int .i64 x.line)).setCell ⟨w.heap.size, 2, none⟩ (.int .i64 x.col)).drewN d) (C := fun W => W.heap[w.heap.size]? = some (.cells #[.int .i64 er, .int .i64 x.line, .int .i64 x.col] 48 (0, 0)) ∧ FmAns NP l w (.returned (.tuple #[.slice none 0 0, .agg #[.int .i64 er, .int .i64 x.line, .int .i64 x.col]])) W) HFS.out ?_ 0
          | refine bbp_gen (F := fun d => (((W4.setCell ⟨w.heap.size, 0, none⟩ (.int .i64 er)).setCell ⟨w.heap.size, 1, none⟩ (.int .i64 x.line)).setCell ⟨w.heap.size, 2, none⟩ (.int .i64 x.col)).drewN d) (C := fun W => W.heap[w.heap.size]? = some (.cells #[.int .i64 er, .int .i64 x.line, .int .i64 x.col] 48 (0, 0)) ∧ FmAns NP l w (.returned (.tuple #[.slice none 0 0, .agg #[.int .i64 er, .int .i64 x.line, .int .i64 x.col]])) W) HFS.out ?_ 2
        all_goals rintro W ⟨h5, hans⟩
        all_goals obtain ⟨g0, g1, g2, _⟩ := bcells3 h5
        all_goals refine bodyPost_ret (v := .tuple #[.slice none 0 0, .agg #[.int .i64 er, .int .i64 x.line, .int .i64 x.col]]) (by simp [results, Try.results33, go_sem, g0, g1, g2]) rfl ?_
        all_goals exact hans
    · have hke : k = l.length := by omega
      subst hke
      obtain ⟨q0, q1, q2, qz⟩ := bcells3 HFM.out.fault
      obtain ⟨h5, b5, k5⟩ := bfault_set HFM.out.fault HFM.out.below (Nat.le_refl _) 0 0 0
      have HANS : Hid (FmAns NP l w (.returned (.tuple #[u7, .agg #[.int .i64 0, .int .i64 0, .int .i64 0]])) (((wr.setCell ⟨w.heap.size, 0, none⟩ (.int .i64 0)).setCell ⟨w.heap.size, 1, none⟩ (.int .i64 0)).setCell ⟨w.heap.size, 2, none⟩ (.int .i64 0))) := Lib.hid (by
        have ho := HFM.out.out
        rw [List.take_length] at ho
        have ho2 := brow_keep ho (fun j hj => k5.block j (ho.lt j hj).2 (fun e => by have := (ho.lt j hj).1; omega))
        refine Or.inl ⟨fun i hi => HFM.out.good i hi hi, u7, rfl, ⟨ho2.1, ?_⟩, b5⟩
        rcases ho2.2 with hn | ⟨g, cap, cur, h1, h2, rest⟩
        · exact Or.inl hn
        · exact Or.inr ⟨g, cap, cur, h1, by omega, rest⟩)
      have H5 := Lib.hid h5
      clear h5 b5 k5
      go_wp2_with fail
      generalize (((wr.setCell ⟨w.heap.size, 0, none⟩ (.int .i64 0)).setCell ⟨w.heap.size, 1, none⟩ (.int .i64 0)).setCell ⟨w.heap.size, 2, none⟩ (.int .i64 0)) = W5 at *
      obtain ⟨g0, g1, g2, _⟩ := bcells3 H5.out
      refine bodyPost_ret (v := .tuple #[u7, .agg #[.int .i64 0, .int .i64 0, .int .i64 0]]) (by simp [results, Try.results33, go_sem, g0, g1, g2]) rfl ?_
      exact HANS.out
end Go.Proofs.Ytpbgicfoopicbaa
