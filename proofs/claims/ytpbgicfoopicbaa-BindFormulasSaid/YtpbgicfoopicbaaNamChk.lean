/-
  Names: what of any statements is wrong first: the document's answer, by a walk.
-/
import Derived.Test.YtpbgicfoopicbaaNamNeed
import Derived.Deep.RegionWith
namespace Go.Proofs.Ytpbgicfoopicbaa
open Go.RowKit
set_option linter.unusedVariables false
set_option linter.unusedSimpArgs false

theorem rbelow_dn {B : Nat} {a w : World} (h : Below B a w) (n : Nat) : Below B a (w.drewN n) := ⟨h.os, h.tape, h.output, h.size, h.block⟩
theorem rbp_gen {P : Program} {fn : Func} {R : Ending → World → Prop} {e : Exit} {a : Act} {F : Nat → World} {C : World → Prop} (hF : ∀ m, C (F m)) (h : ∀ W, C W → bodyPost P fn R e a W) (m : Nat) : bodyPost P fn R e a (F m) := h _ (hF m)
theorem rex_gen {K : Act → World → Prop} {Q : Exit → Act → World → Prop} {e : Exit} {a : Act} {F : Nat → World} {R : World → Prop} (hF : ∀ m, R (F m)) (h : ∀ W, R W → Exit.then K Q e a W) (m : Nat) : Exit.then K Q e a (F m) := h _ (hF m)
/-- What is wrong first, or nothing. -/
def ChkAns (l : List St) (w : World) (e : Ending) (w' : World) : Prop :=
  (Nm.Good l ∧ e = .returned (.agg #[.int .i64 0, .int .i64 0, .int .i64 0]) ∧ Below w.heap.size w w') ∨
  (∃ (i : Nat) (hi : i < l.length), Nm.Good (l.take i) ∧ Nm.errOf (l.take i) l[i] ≠ 0 ∧ e = .returned (.agg #[.int .i64 (Nm.errOf (l.take i) l[i]), .int .i64 l[i].line, .int .i64 l[i].col]) ∧ Below w.heap.size w w')
/-- While it is gone through. -/
structure Chk (w : World) (l : List St) (i : Nat) (wr : World) : Prop where
  good : Nm.Good (l.take i)
  fault : wr.heap[w.heap.size]? = some (.cells #[.int .i64 0, .int .i64 0, .int .i64 0] 48 (0, 0))
  below : Below w.heap.size w wr
theorem Chk.still {w wr w' : World} {l : List St} {i : Nat} (h : Chk w l i wr) (hb : Below wr.heap.size wr w') : Chk w l i w' :=
  ⟨h.good, (hb.block _ (Array.getElem?_eq_some_iff.1 h.fault).1).trans h.fault, h.below.trans (hb.mono h.below.size)⟩
theorem Chk.next {w wr : World} {l : List St} {i : Nat} (h : Chk w l i wr) (hi : i < l.length) (he : Nm.errOf (l.take i) l[i] = 0) : Chk w l (i + 1) wr :=
  ⟨by rw [List.take_add_one, List.getElem?_eq_getElem hi]; exact h.good.snoc he, h.fault, h.below⟩
theorem rcells3 {W : World} {F : Nat} {t : TypeId} {x y z : Value} (h : W.heap[F]? = some (.cells #[x, y, z] t (0, 0))) : W.cell? ⟨F, 0, none⟩ = some x ∧ W.cell? ⟨F, 1, none⟩ = some y ∧ W.cell? ⟨F, 2, none⟩ = some z :=
  ⟨cell_of_row W F 0 _ _ _ h, cell_of_row W F 1 _ _ _ h, cell_of_row W F 2 _ _ _ h⟩
theorem rfault_set {w wr : World} {l : List St} {i : Nat} (h : Chk w l i wr) (x y z : Int) :
    (((wr.setCell ⟨w.heap.size, 0, none⟩ (.int .i64 x)).setCell ⟨w.heap.size, 1, none⟩ (.int .i64 y)).setCell ⟨w.heap.size, 2, none⟩ (.int .i64 z)).heap[w.heap.size]? = some (.cells #[.int .i64 x, .int .i64 y, .int .i64 z] 48 (0, 0)) ∧
    Below w.heap.size w (((wr.setCell ⟨w.heap.size, 0, none⟩ (.int .i64 x)).setCell ⟨w.heap.size, 1, none⟩ (.int .i64 y)).setCell ⟨w.heap.size, 2, none⟩ (.int .i64 z)) := by
  have h1 := heap_setCell_same wr w.heap.size 0 _ _ (.int .i64 x) h.fault
  have h2 := heap_setCell_same _ w.heap.size 1 _ _ (.int .i64 y) h1
  have h3 := heap_setCell_same _ w.heap.size 2 _ _ (.int .i64 z) h2
  exact ⟨h3, ((h.below.setCell (p := ⟨w.heap.size, 0, none⟩) (Nat.le_refl _) _).setCell (p := ⟨w.heap.size, 1, none⟩) (Nat.le_refl _) _).setCell (p := ⟨w.heap.size, 2, none⟩) (Nat.le_refl _) _⟩
set_option maxHeartbeats 1000000 in
theorem rcheck_any (a : Option Addr) (c : Nat) (l : List St) (w : World) (hl : RdS w a l) (hf : ∀ x ∈ l, x.fit) (hm : l.length ≤ 9223372036854775807) :
    Calls Try.prog 32 #[.slice a l.length c] w (ChkAns l w) := by
  have HL := Lib.hid hl
  have HFIT := Lib.hid hf
  have hu : ∀ b : Bool, ¬ (some undef = some (Value.bool b)) := fun b h => by cases h
  have HC0 : Hid (Chk w l 0 (w.alloc (.cells #[.int .i64 0, .int .i64 0, .int .i64 0] 48))) := Lib.hid ⟨.nil, heap_alloc_new w _, obel_alloc w _⟩
  clear hl hf
  go_enter Try.func32, Try.ntmps32
  go_wp2_with fail
  generalize w.alloc (.cells #[.int .i64 0, .int .i64 0, .int .i64 0] 48) = W0 at *
  go_loopw [3] (fun v3 wr => ∃ i : Nat, i ≤ l.length ∧ v3 = .int .i64 i ∧ Hid (Chk w l i wr)) (fun v3 _ => l.length - (intOf v3).toNat)
  case atStart => exact ⟨0, by omega, rfl, HC0⟩
  case round =>
    obtain ⟨i, hi, rfl, HC⟩ := hrel
    clear HC0
    by_cases hlt : i < l.length
    · obtain ⟨b, off, ha, hrg⟩ := (HL.out.mono HC.out.below (Nat.le_refl _)).at (by omega)
      have hrgk := hrg i hlt
      obtain ⟨th, rd, bel⟩ := copy_at wr l[i]
      have hx := HFIT.out l[i] (List.getElem_mem hlt)
      have hone : (#[Value.int .i64 l[i].kind, .string l[i].name, .int .i64 l[i].line, .int .i64 l[i].col, l[i].c4, l[i].c5, l[i].c6, l[i].c7, l[i].c8, l[i].c9, l[i].c10, l[i].c11] : Array Value).all (·.oneCell') = true := all_oneCell_toArray hx.one
      have HNEXT : Hid (Nm.errOf (l.take i) l[i] = 0 → ∀ w2, Chk w l i w2 → Chk w l (i + 1) w2) := Lib.hid fun he w2 h => h.next hlt he
      have HBAD : Hid (∀ er : Int, Nm.errOf (l.take i) l[i] = er → er ≠ 0 → ∀ w2, Below w.heap.size w w2 → ChkAns l w (.returned (.agg #[.int .i64 er, .int .i64 l[i].line, .int .i64 l[i].col])) w2) := Lib.hid fun er h1 h2 w2 h => Or.inr ⟨i, hlt, HC.out.good, by rw [h1]; exact h2, by rw [h1], h⟩
      have HCH : Hid (∀ w2, Below ((wr.alloc (.cells #[.int .i64 0, .string { data := #[] }, .int .i64 0, .int .i64 0, .int .i64 0, .slice none 0 0, .string { data := #[] }, .string { data := #[] }, .string { data := #[] }, .int .i64 0, .slice none 0 0, .bool false] 94)).setCells wr.heap.size 0 l[i].cells).heap.size ((wr.alloc (.cells #[.int .i64 0, .string { data := #[] }, .int .i64 0, .int .i64 0, .int .i64 0, .slice none 0 0, .string { data := #[] }, .string { data := #[] }, .string { data := #[] }, .int .i64 0, .slice none 0 0, .bool false] 94)).setCells wr.heap.size 0 l[i].cells) w2 → Chk w l i w2) := Lib.hid fun w2 h => (HC.out.still bel).still h
      have HX : Hid (∀ w2, Below ((wr.alloc (.cells #[.int .i64 0, .string { data := #[] }, .int .i64 0, .int .i64 0, .int .i64 0, .slice none 0 0, .string { data := #[] }, .string { data := #[] }, .string { data := #[] }, .int .i64 0, .slice none 0 0, .bool false] 94)).setCells wr.heap.size 0 l[i].cells).heap.size ((wr.alloc (.cells #[.int .i64 0, .string { data := #[] }, .int .i64 0, .int .i64 0, .int .i64 0, .slice none 0 0, .string { data := #[] }, .string { data := #[] }, .string { data := #[] }, .int .i64 0, .slice none 0 0, .bool false] 94)).setCells wr.heap.size 0 l[i].cells) w2 → w2.rangeAt wr.heap.size 0 l[i].cells) := Lib.hid fun w2 h j v hv => by
        have h1 := rd j v hv
        rw [h.cell (p := ⟨wr.heap.size, 0 + j, none⟩) (lt_of_cell h1)]; exact h1
      have HLL : Hid (∀ w2, Chk w l i w2 → RdS w2 (some ⟨b, off, none⟩) l) := Lib.hid fun w2 h => by rw [← ha]; exact HL.out.mono h.below (Nat.le_refl _)
      have HG := Lib.hid HC.out.good
      obtain ⟨r0, hr0⟩ := Nm.fnd_some l l[i].name i
      have HR0 := Lib.hid hr0
      have hnm : ∀ k : Nat, ((k : Int) = l[i].kind) → (Nm.cnt (l.take i) l[i].kind : Int) ≤ Nm.most l[i].kind := fun k _ => HC.out.good.cnt_le _
      have hle := HC.out.good.cnt_le l[i].kind
      have hmem : l[i].name ∈ Nm.names (l.take i) ↔ ∃ j, j < i ∧ Nm.isAt l l[i].name j := by
        rw [Nm.mem_names]
        exact ⟨fun ⟨j, h⟩ => ⟨j, (Nm.isAt_take (by omega)).1 h⟩, fun ⟨j, h⟩ => ⟨j, (Nm.isAt_take (by omega)).2 h⟩⟩
      have hck : Nm.cnt (l.take i) l[i].kind ≤ i := Nat.le_trans (Nm.cnt_le _ _) (by rw [List.length_take]; omega)
      subst ha
      unfold St.cells at rd hrgk HX HCH bel
      clear hx hr0 hrg hnm rd
      generalize l[i] = x at *
      have HB1 : Hid (Below ((wr.alloc (.cells #[.int .i64 0, .string { data := #[] }, .int .i64 0, .int .i64 0, .int .i64 0, .slice none 0 0, .string { data := #[] }, .string { data := #[] }, .string { data := #[] }, .int .i64 0, .slice none 0 0, .bool false] 94)).setCells wr.heap.size 0 [.int .i64 x.kind, .string x.name, .int .i64 x.line, .int .i64 x.col, x.c4, x.c5, x.c6, x.c7, x.c8, x.c9, x.c10, x.c11]).heap.size ((wr.alloc (.cells #[.int .i64 0, .string { data := #[] }, .int .i64 0, .int .i64 0, .int .i64 0, .slice none 0 0, .string { data := #[] }, .string { data := #[] }, .string { data := #[] }, .int .i64 0, .slice none 0 0, .bool false] 94)).setCells wr.heap.size 0 [.int .i64 x.kind, .string x.name, .int .i64 x.line, .int .i64 x.col, x.c4, x.c5, x.c6, x.c7, x.c8, x.c9, x.c10, x.c11]) ((wr.alloc (.cells #[.int .i64 0, .string { data := #[] }, .int .i64 0, .int .i64 0, .int .i64 0, .slice none 0 0, .string { data := #[] }, .string { data := #[] }, .string { data := #[] }, .int .i64 0, .slice none 0 0, .bool false] 94)).setCells wr.heap.size 0 [.int .i64 x.kind, .string x.name, .int .i64 x.line, .int .i64 x.col, x.c4, x.c5, x.c6, x.c7, x.c8, x.c9, x.c10, x.c11])) := Lib.hid (Below.refl _ _)
      by_cases hlo : x.kind < 1
      · have he0 : Nm.errOf (l.take i) x = 8 := by unfold Nm.errOf; rw [if_pos (Nm.most_zero.2 (Or.inl hlo))]
        have hch := HCH.out ((wr.alloc (.cells #[.int .i64 0, .string { data := #[] }, .int .i64 0, .int .i64 0, .int .i64 0, .slice none 0 0, .string { data := #[] }, .string { data := #[] }, .string { data := #[] }, .int .i64 0, .slice none 0 0, .bool false] 94)).setCells wr.heap.size 0 [.int .i64 x.kind, .string x.name, .int .i64 x.line, .int .i64 x.col, x.c4, x.c5, x.c6, x.c7, x.c8, x.c9, x.c10, x.c11]) HB1.out
        obtain ⟨f0, f1, f2⟩ := rcells3 hch.fault
        have hz : ∀ j, (((wr.alloc (.cells #[.int .i64 0, .string { data := #[] }, .int .i64 0, .int .i64 0, .int .i64 0, .slice none 0 0, .string { data := #[] }, .string { data := #[] }, .string { data := #[] }, .int .i64 0, .slice none 0 0, .bool false] 94)).setCells wr.heap.size 0 [.int .i64 x.kind, .string x.name, .int .i64 x.line, .int .i64 x.col, x.c4, x.c5, x.c6, x.c7, x.c8, x.c9, x.c10, x.c11]) : World).frozen? ⟨w.heap.size, j, none⟩ = false := (fun j => by unfold World.frozen?; rw [hch.fault]; simp)
        have xr := HX.out ((wr.alloc (.cells #[.int .i64 0, .string { data := #[] }, .int .i64 0, .int .i64 0, .int .i64 0, .slice none 0 0, .string { data := #[] }, .string { data := #[] }, .string { data := #[] }, .int .i64 0, .slice none 0 0, .bool false] 94)).setCells wr.heap.size 0 [.int .i64 x.kind, .string x.name, .int .i64 x.line, .int .i64 x.col, x.c4, x.c5, x.c6, x.c7, x.c8, x.c9, x.c10, x.c11]) HB1.out
        have x0 : (((wr.alloc (.cells #[.int .i64 0, .string { data := #[] }, .int .i64 0, .int .i64 0, .int .i64 0, .slice none 0 0, .string { data := #[] }, .string { data := #[] }, .string { data := #[] }, .int .i64 0, .slice none 0 0, .bool false] 94)).setCells wr.heap.size 0 [.int .i64 x.kind, .string x.name, .int .i64 x.line, .int .i64 x.col, x.c4, x.c5, x.c6, x.c7, x.c8, x.c9, x.c10, x.c11]) : World).cell? ⟨wr.heap.size, 0, none⟩ = some (.int .i64 x.kind) := xr 0 _ rfl
        have x1 : (((wr.alloc (.cells #[.int .i64 0, .string { data := #[] }, .int .i64 0, .int .i64 0, .int .i64 0, .slice none 0 0, .string { data := #[] }, .string { data := #[] }, .string { data := #[] }, .int .i64 0, .slice none 0 0, .bool false] 94)).setCells wr.heap.size 0 [.int .i64 x.kind, .string x.name, .int .i64 x.line, .int .i64 x.col, x.c4, x.c5, x.c6, x.c7, x.c8, x.c9, x.c10, x.c11]) : World).cell? ⟨wr.heap.size, 1, none⟩ = some (.string x.name) := by have := xr 1 _ rfl; rwa [Nat.zero_add] at this
        have x2 : (((wr.alloc (.cells #[.int .i64 0, .string { data := #[] }, .int .i64 0, .int .i64 0, .int .i64 0, .slice none 0 0, .string { data := #[] }, .string { data := #[] }, .string { data := #[] }, .int .i64 0, .slice none 0 0, .bool false] 94)).setCells wr.heap.size 0 [.int .i64 x.kind, .string x.name, .int .i64 x.line, .int .i64 x.col, x.c4, x.c5, x.c6, x.c7, x.c8, x.c9, x.c10, x.c11]) : World).cell? ⟨wr.heap.size, 2, none⟩ = some (.int .i64 x.line) := by have := xr 2 _ rfl; rwa [Nat.zero_add] at this
        have x3 : (((wr.alloc (.cells #[.int .i64 0, .string { data := #[] }, .int .i64 0, .int .i64 0, .int .i64 0, .slice none 0 0, .string { data := #[] }, .string { data := #[] }, .string { data := #[] }, .int .i64 0, .slice none 0 0, .bool false] 94)).setCells wr.heap.size 0 [.int .i64 x.kind, .string x.name, .int .i64 x.line, .int .i64 x.col, x.c4, x.c5, x.c6, x.c7, x.c8, x.c9, x.c10, x.c11]) : World).cell? ⟨wr.heap.size, 3, none⟩ = some (.int .i64 x.col) := by have := xr 3 _ rfl; rwa [Nat.zero_add] at this
        obtain ⟨hb5, hk5⟩ := rfault_set hch 8 x.line x.col
        have HANS := Lib.hid (HBAD.out 8 he0 (by decide) _ hk5)
        have HB5 := Lib.hid hb5
        clear hb5 hk5 hch xr
        clear HNEXT HBAD HCH HX HLL hle hmem he0
        go_wp2_with (first
        | (refine wpList_load_mid rfl 94 (.tmp 14) rfl b (off + i * 12) rfl [.int .i64 x.kind, .string x.name, .int .i64 x.line, .int .i64 x.col, x.c4, x.c5, x.c6, x.c7, x.c8, x.c9, x.c10, x.c11] _ ?_ Try.underlying94 rfl rsizeStmt ?_; exact hrgk)
        | (refine wpList_store_mid rfl 94 (.tmp 5) (.tmp 15) rfl wr.heap.size 0 #[.int .i64 x.kind, .string x.name, .int .i64 x.line, .int .i64 x.col, x.c4, x.c5, x.c6, x.c7, x.c8, x.c9, x.c10, x.c11] rfl rfl ?_ rsizeStmt hone ?_; exact th))
        refine rbp_gen (F := fun _ => (((((wr.alloc (.cells #[.int .i64 0, .string { data := #[] }, .int .i64 0, .int .i64 0, .int .i64 0, .slice none 0 0, .string { data := #[] }, .string { data := #[] }, .string { data := #[] }, .int .i64 0, .slice none 0 0, .bool false] 94)).setCells wr.heap.size 0 [.int .i64 x.kind, .string x.name, .int .i64 x.line, .int .i64 x.col, x.c4, x.c5, x.c6, x.c7, x.c8, x.c9, x.c10, x.c11]).setCell ⟨w.heap.size, 0, none⟩ (.int .i64 8)).setCell ⟨w.heap.size, 1, none⟩ (.int .i64 x.line)).setCell ⟨w.heap.size, 2, none⟩ (.int .i64 x.col))) (C := fun W5 => W5.heap[w.heap.size]? = some (.cells #[.int .i64 8, .int .i64 x.line, .int .i64 x.col] 48 (0, 0)) ∧ ChkAns l w (.returned (.agg #[.int .i64 8, .int .i64 x.line, .int .i64 x.col])) W5) (fun _ => ⟨HB5.out, HANS.out⟩) ?_ 0
        rintro W5 ⟨hb5, hans⟩
        obtain ⟨g0, g1, g2⟩ := rcells3 hb5
        refine bodyPost_ret (v := .agg #[.int .i64 8, .int .i64 x.line, .int .i64 x.col]) (by simp [results, Try.results32, go_sem, g0, g1, g2]) rfl ?_
        exact hans
      · by_cases hhi : 8 < x.kind
        · have he0 : Nm.errOf (l.take i) x = 8 := by unfold Nm.errOf; rw [if_pos (Nm.most_zero.2 (Or.inr hhi))]
          have hch := HCH.out ((wr.alloc (.cells #[.int .i64 0, .string { data := #[] }, .int .i64 0, .int .i64 0, .int .i64 0, .slice none 0 0, .string { data := #[] }, .string { data := #[] }, .string { data := #[] }, .int .i64 0, .slice none 0 0, .bool false] 94)).setCells wr.heap.size 0 [.int .i64 x.kind, .string x.name, .int .i64 x.line, .int .i64 x.col, x.c4, x.c5, x.c6, x.c7, x.c8, x.c9, x.c10, x.c11]) HB1.out
          obtain ⟨f0, f1, f2⟩ := rcells3 hch.fault
          have hz : ∀ j, (((wr.alloc (.cells #[.int .i64 0, .string { data := #[] }, .int .i64 0, .int .i64 0, .int .i64 0, .slice none 0 0, .string { data := #[] }, .string { data := #[] }, .string { data := #[] }, .int .i64 0, .slice none 0 0, .bool false] 94)).setCells wr.heap.size 0 [.int .i64 x.kind, .string x.name, .int .i64 x.line, .int .i64 x.col, x.c4, x.c5, x.c6, x.c7, x.c8, x.c9, x.c10, x.c11]) : World).frozen? ⟨w.heap.size, j, none⟩ = false := (fun j => by unfold World.frozen?; rw [hch.fault]; simp)
          have xr := HX.out ((wr.alloc (.cells #[.int .i64 0, .string { data := #[] }, .int .i64 0, .int .i64 0, .int .i64 0, .slice none 0 0, .string { data := #[] }, .string { data := #[] }, .string { data := #[] }, .int .i64 0, .slice none 0 0, .bool false] 94)).setCells wr.heap.size 0 [.int .i64 x.kind, .string x.name, .int .i64 x.line, .int .i64 x.col, x.c4, x.c5, x.c6, x.c7, x.c8, x.c9, x.c10, x.c11]) HB1.out
          have x0 : (((wr.alloc (.cells #[.int .i64 0, .string { data := #[] }, .int .i64 0, .int .i64 0, .int .i64 0, .slice none 0 0, .string { data := #[] }, .string { data := #[] }, .string { data := #[] }, .int .i64 0, .slice none 0 0, .bool false] 94)).setCells wr.heap.size 0 [.int .i64 x.kind, .string x.name, .int .i64 x.line, .int .i64 x.col, x.c4, x.c5, x.c6, x.c7, x.c8, x.c9, x.c10, x.c11]) : World).cell? ⟨wr.heap.size, 0, none⟩ = some (.int .i64 x.kind) := xr 0 _ rfl
          have x1 : (((wr.alloc (.cells #[.int .i64 0, .string { data := #[] }, .int .i64 0, .int .i64 0, .int .i64 0, .slice none 0 0, .string { data := #[] }, .string { data := #[] }, .string { data := #[] }, .int .i64 0, .slice none 0 0, .bool false] 94)).setCells wr.heap.size 0 [.int .i64 x.kind, .string x.name, .int .i64 x.line, .int .i64 x.col, x.c4, x.c5, x.c6, x.c7, x.c8, x.c9, x.c10, x.c11]) : World).cell? ⟨wr.heap.size, 1, none⟩ = some (.string x.name) := by have := xr 1 _ rfl; rwa [Nat.zero_add] at this
          have x2 : (((wr.alloc (.cells #[.int .i64 0, .string { data := #[] }, .int .i64 0, .int .i64 0, .int .i64 0, .slice none 0 0, .string { data := #[] }, .string { data := #[] }, .string { data := #[] }, .int .i64 0, .slice none 0 0, .bool false] 94)).setCells wr.heap.size 0 [.int .i64 x.kind, .string x.name, .int .i64 x.line, .int .i64 x.col, x.c4, x.c5, x.c6, x.c7, x.c8, x.c9, x.c10, x.c11]) : World).cell? ⟨wr.heap.size, 2, none⟩ = some (.int .i64 x.line) := by have := xr 2 _ rfl; rwa [Nat.zero_add] at this
          have x3 : (((wr.alloc (.cells #[.int .i64 0, .string { data := #[] }, .int .i64 0, .int .i64 0, .int .i64 0, .slice none 0 0, .string { data := #[] }, .string { data := #[] }, .string { data := #[] }, .int .i64 0, .slice none 0 0, .bool false] 94)).setCells wr.heap.size 0 [.int .i64 x.kind, .string x.name, .int .i64 x.line, .int .i64 x.col, x.c4, x.c5, x.c6, x.c7, x.c8, x.c9, x.c10, x.c11]) : World).cell? ⟨wr.heap.size, 3, none⟩ = some (.int .i64 x.col) := by have := xr 3 _ rfl; rwa [Nat.zero_add] at this
          obtain ⟨hb5, hk5⟩ := rfault_set hch 8 x.line x.col
          have HANS := Lib.hid (HBAD.out 8 he0 (by decide) _ hk5)
          have HB5 := Lib.hid hb5
          clear hb5 hk5 hch xr
          clear HNEXT HBAD HCH HX HLL hle hmem he0
          go_wp2_with (first
        | (refine wpList_load_mid rfl 94 (.tmp 14) rfl b (off + i * 12) rfl [.int .i64 x.kind, .string x.name, .int .i64 x.line, .int .i64 x.col, x.c4, x.c5, x.c6, x.c7, x.c8, x.c9, x.c10, x.c11] _ ?_ Try.underlying94 rfl rsizeStmt ?_; exact hrgk)
        | (refine wpList_store_mid rfl 94 (.tmp 5) (.tmp 15) rfl wr.heap.size 0 #[.int .i64 x.kind, .string x.name, .int .i64 x.line, .int .i64 x.col, x.c4, x.c5, x.c6, x.c7, x.c8, x.c9, x.c10, x.c11] rfl rfl ?_ rsizeStmt hone ?_; exact th))
          refine rbp_gen (F := fun _ => (((((wr.alloc (.cells #[.int .i64 0, .string { data := #[] }, .int .i64 0, .int .i64 0, .int .i64 0, .slice none 0 0, .string { data := #[] }, .string { data := #[] }, .string { data := #[] }, .int .i64 0, .slice none 0 0, .bool false] 94)).setCells wr.heap.size 0 [.int .i64 x.kind, .string x.name, .int .i64 x.line, .int .i64 x.col, x.c4, x.c5, x.c6, x.c7, x.c8, x.c9, x.c10, x.c11]).setCell ⟨w.heap.size, 0, none⟩ (.int .i64 8)).setCell ⟨w.heap.size, 1, none⟩ (.int .i64 x.line)).setCell ⟨w.heap.size, 2, none⟩ (.int .i64 x.col))) (C := fun W5 => W5.heap[w.heap.size]? = some (.cells #[.int .i64 8, .int .i64 x.line, .int .i64 x.col] 48 (0, 0)) ∧ ChkAns l w (.returned (.agg #[.int .i64 8, .int .i64 x.line, .int .i64 x.col])) W5) (fun _ => ⟨HB5.out, HANS.out⟩) ?_ 0
          rintro W5 ⟨hb5, hans⟩
          obtain ⟨g0, g1, g2⟩ := rcells3 hb5
          refine bodyPost_ret (v := .agg #[.int .i64 8, .int .i64 x.line, .int .i64 x.col]) (by simp [results, Try.results32, go_sem, g0, g1, g2]) rfl ?_
          exact hans
        · obtain ⟨k, hkk⟩ := Int.eq_ofNat_of_zero_le (a := x.kind) (by omega)
          have hm0 : ¬ Nm.most x.kind = 0 := fun h => by have := Nm.most_zero.1 h; omega
          have HMST : Hid (∀ w2, Calls Try.prog 49 #[.int .i64 x.kind] w2 fun e w' => e = .returned (.int .i64 (Nm.most x.kind)) ∧ Below w2.heap.size w2 w') := Lib.hid fun w2 => by rw [hkk]; exact rmost_any k (by omega) w2
          have HAHD : Hid (∀ w2, Chk w l i w2 → Calls Try.prog 48 #[.slice (some ⟨b, off, none⟩) l.length c, .int .i64 (i : Nat), .int .i64 x.kind] w2 fun e w' => e = .returned (.int .i64 (Nm.cnt (l.take i) x.kind : Nat)) ∧ w2 = w') := Lib.hid fun w2 h => ahead_any _ c l i x.kind w2 (HLL.out w2 h) (by omega) hm
          have HNMD : Hid (∀ w2, Calls Try.prog 50 #[.agg #[.int .i64 x.kind, .string x.name, .int .i64 x.line, .int .i64 x.col, x.c4, x.c5, x.c6, x.c7, x.c8, x.c9, x.c10, x.c11]] w2 fun e w' => e = .returned (.bool (Nm.named x.kind)) ∧ Below w2.heap.size w2 w') := Lib.hid fun w2 => named_any _ _ _ _ _ _ _ _ _ _ _ _ w2
          have HFND : Hid (∀ w2, Chk w l i w2 → Calls Try.prog 51 #[.slice (some ⟨b, off, none⟩) l.length c, .int .i64 (i : Nat), .string x.name] w2 fun e w' => e = .returned (.int .i64 r0) ∧ Below w2.heap.size w2 w') := Lib.hid fun w2 h => rfind_is _ c l i x.name w2 (HLL.out w2 h) (by omega) hm r0 HR0.out
          have hch := HCH.out ((wr.alloc (.cells #[.int .i64 0, .string { data := #[] }, .int .i64 0, .int .i64 0, .int .i64 0, .slice none 0 0, .string { data := #[] }, .string { data := #[] }, .string { data := #[] }, .int .i64 0, .slice none 0 0, .bool false] 94)).setCells wr.heap.size 0 [.int .i64 x.kind, .string x.name, .int .i64 x.line, .int .i64 x.col, x.c4, x.c5, x.c6, x.c7, x.c8, x.c9, x.c10, x.c11]) HB1.out
          obtain ⟨f0, f1, f2⟩ := rcells3 hch.fault
          have hz : ∀ j, (((wr.alloc (.cells #[.int .i64 0, .string { data := #[] }, .int .i64 0, .int .i64 0, .int .i64 0, .slice none 0 0, .string { data := #[] }, .string { data := #[] }, .string { data := #[] }, .int .i64 0, .slice none 0 0, .bool false] 94)).setCells wr.heap.size 0 [.int .i64 x.kind, .string x.name, .int .i64 x.line, .int .i64 x.col, x.c4, x.c5, x.c6, x.c7, x.c8, x.c9, x.c10, x.c11]) : World).frozen? ⟨w.heap.size, j, none⟩ = false := (fun j => by unfold World.frozen?; rw [hch.fault]; simp)
          have xr := HX.out ((wr.alloc (.cells #[.int .i64 0, .string { data := #[] }, .int .i64 0, .int .i64 0, .int .i64 0, .slice none 0 0, .string { data := #[] }, .string { data := #[] }, .string { data := #[] }, .int .i64 0, .slice none 0 0, .bool false] 94)).setCells wr.heap.size 0 [.int .i64 x.kind, .string x.name, .int .i64 x.line, .int .i64 x.col, x.c4, x.c5, x.c6, x.c7, x.c8, x.c9, x.c10, x.c11]) HB1.out
          have x0 : (((wr.alloc (.cells #[.int .i64 0, .string { data := #[] }, .int .i64 0, .int .i64 0, .int .i64 0, .slice none 0 0, .string { data := #[] }, .string { data := #[] }, .string { data := #[] }, .int .i64 0, .slice none 0 0, .bool false] 94)).setCells wr.heap.size 0 [.int .i64 x.kind, .string x.name, .int .i64 x.line, .int .i64 x.col, x.c4, x.c5, x.c6, x.c7, x.c8, x.c9, x.c10, x.c11]) : World).cell? ⟨wr.heap.size, 0, none⟩ = some (.int .i64 x.kind) := xr 0 _ rfl
          have x1 : (((wr.alloc (.cells #[.int .i64 0, .string { data := #[] }, .int .i64 0, .int .i64 0, .int .i64 0, .slice none 0 0, .string { data := #[] }, .string { data := #[] }, .string { data := #[] }, .int .i64 0, .slice none 0 0, .bool false] 94)).setCells wr.heap.size 0 [.int .i64 x.kind, .string x.name, .int .i64 x.line, .int .i64 x.col, x.c4, x.c5, x.c6, x.c7, x.c8, x.c9, x.c10, x.c11]) : World).cell? ⟨wr.heap.size, 1, none⟩ = some (.string x.name) := by have := xr 1 _ rfl; rwa [Nat.zero_add] at this
          have x2 : (((wr.alloc (.cells #[.int .i64 0, .string { data := #[] }, .int .i64 0, .int .i64 0, .int .i64 0, .slice none 0 0, .string { data := #[] }, .string { data := #[] }, .string { data := #[] }, .int .i64 0, .slice none 0 0, .bool false] 94)).setCells wr.heap.size 0 [.int .i64 x.kind, .string x.name, .int .i64 x.line, .int .i64 x.col, x.c4, x.c5, x.c6, x.c7, x.c8, x.c9, x.c10, x.c11]) : World).cell? ⟨wr.heap.size, 2, none⟩ = some (.int .i64 x.line) := by have := xr 2 _ rfl; rwa [Nat.zero_add] at this
          have x3 : (((wr.alloc (.cells #[.int .i64 0, .string { data := #[] }, .int .i64 0, .int .i64 0, .int .i64 0, .slice none 0 0, .string { data := #[] }, .string { data := #[] }, .string { data := #[] }, .int .i64 0, .slice none 0 0, .bool false] 94)).setCells wr.heap.size 0 [.int .i64 x.kind, .string x.name, .int .i64 x.line, .int .i64 x.col, x.c4, x.c5, x.c6, x.c7, x.c8, x.c9, x.c10, x.c11]) : World).cell? ⟨wr.heap.size, 3, none⟩ = some (.int .i64 x.col) := by have := xr 3 _ rfl; rwa [Nat.zero_add] at this
          by_cases hcm : (Nm.cnt (l.take i) x.kind : Int) = Nm.most x.kind
          · have he0 : Nm.errOf (l.take i) x = 3 := by unfold Nm.errOf; rw [if_neg hm0, if_pos hcm]
            have hge : Nm.most x.kind ≤ ((Nm.cnt (l.take i) x.kind : Nat) : Int) := by omega
            clear HNEXT hle hmem hcm hm0 hkk hch xr f0 f1 f2 hz
            have HE0 := Lib.hid he0
            clear he0
            go_wp2_with (first
                | (refine wpList_load_mid rfl 94 (.tmp 14) rfl b (off + i * 12) rfl [.int .i64 x.kind, .string x.name, .int .i64 x.line, .int .i64 x.col, x.c4, x.c5, x.c6, x.c7, x.c8, x.c9, x.c10, x.c11] _ ?_ Try.underlying94 rfl rsizeStmt ?_; exact hrgk)
                | (refine wpList_store_mid rfl 94 (.tmp 5) (.tmp 15) rfl wr.heap.size 0 #[.int .i64 x.kind, .string x.name, .int .i64 x.line, .int .i64 x.col, x.c4, x.c5, x.c6, x.c7, x.c8, x.c9, x.c10, x.c11] rfl rfl ?_ rsizeStmt hone ?_; exact th))
            generalize ((wr.alloc (.cells #[.int .i64 0, .string { data := #[] }, .int .i64 0, .int .i64 0, .int .i64 0, .slice none 0 0, .string { data := #[] }, .string { data := #[] }, .string { data := #[] }, .int .i64 0, .slice none 0 0, .bool false] 94)).setCells wr.heap.size 0 [.int .i64 x.kind, .string x.name, .int .i64 x.line, .int .i64 x.col, x.c4, x.c5, x.c6, x.c7, x.c8, x.c9, x.c10, x.c11]) = V at *
            generalize Nm.cnt (l.take i) x.kind = ct at *
            generalize Nm.most x.kind = mst at *
            go_region_with (first | (go_at_call 49; refine (HMST.out _).mono ?_; rintro e w9 ⟨rfl, hb9⟩; have HB9 : Hid (Below V.heap.size V w9) := Lib.hid ⟨hb9.os, hb9.tape, hb9.output, hb9.size, hb9.block⟩; have yx := HX.out w9 HB9.out; have y0 : (w9 : World).cell? ⟨wr.heap.size, 0, none⟩ = some (.int .i64 x.kind) := yx 0 _ rfl; have y1 : (w9 : World).cell? ⟨wr.heap.size, 1, none⟩ = some (.string x.name) := (by have := yx 1 _ rfl; rwa [Nat.zero_add] at this); have y2 : (w9 : World).cell? ⟨wr.heap.size, 2, none⟩ = some (.int .i64 x.line) := (by have := yx 2 _ rfl; rwa [Nat.zero_add] at this); have y3 : (w9 : World).cell? ⟨wr.heap.size, 3, none⟩ = some (.int .i64 x.col) := (by have := yx 3 _ rfl; rwa [Nat.zero_add] at this); clear yx; clear hb9) | (go_at_call 48; refine (HAHD.out _ (HCH.out _ (by first | exact HB9.out | exact HB9.out.drew | exact HB1.out | exact HB1.out.drew | exact HB1.out.drew.drew))).mono ?_; rintro e w8 ⟨rfl, rfl⟩))
            all_goals (first
              | refine rex_gen (F := fun d => w9.drewN d) (R := fun W => Below V.heap.size V W) (fun d => rbelow_dn HB9.out d) ?_ 1
              | refine rex_gen (F := fun d => w9.drewN d) (R := fun W => Below V.heap.size V W) (fun d => rbelow_dn HB9.out d) ?_ 2
              | refine rex_gen (F := fun d => w9.drewN d) (R := fun W => Below V.heap.size V W) (fun d => rbelow_dn HB9.out d) ?_ 0)
            all_goals rintro V2 hbv
            all_goals have HBV := Lib.hid hbv
            all_goals clear hbv y0 y1 y2 y3 HB9
            all_goals
              have he0 := HE0.out
              have x2' : V2.cell? ⟨wr.heap.size, 2, none⟩ = some (.int .i64 x.line) := (by have := (HX.out V2 HBV.out) 2 _ rfl; rwa [Nat.zero_add] at this)
              have x3' : V2.cell? ⟨wr.heap.size, 3, none⟩ = some (.int .i64 x.col) := (by have := (HX.out V2 HBV.out) 3 _ rfl; rwa [Nat.zero_add] at this)
              have hch := HCH.out V2 HBV.out
              obtain ⟨f0, f1, f2⟩ := rcells3 hch.fault
              have hz : ∀ j, (V2 : World).frozen? ⟨w.heap.size, j, none⟩ = false := (fun j => by unfold World.frozen?; rw [hch.fault]; simp)
              obtain ⟨hb5, hk5⟩ := rfault_set hch 3 x.line x.col
              have HANS := Lib.hid (HBAD.out 3 he0 (by decide) _ hk5)
              have HB5 := Lib.hid hb5
              clear hb5 hk5 hch
              clear he0
              go_wp2_with fail
              refine rbp_gen (F := fun _ => (((V2.setCell ⟨w.heap.size, 0, none⟩ (.int .i64 3)).setCell ⟨w.heap.size, 1, none⟩ (.int .i64 x.line)).setCell ⟨w.heap.size, 2, none⟩ (.int .i64 x.col))) (C := fun W5 => W5.heap[w.heap.size]? = some (.cells #[.int .i64 3, .int .i64 x.line, .int .i64 x.col] 48 (0, 0)) ∧ ChkAns l w (.returned (.agg #[.int .i64 3, .int .i64 x.line, .int .i64 x.col])) W5) (fun _ => ⟨HB5.out, HANS.out⟩) ?_ 0
              rintro W5 ⟨hb5, hans⟩
              obtain ⟨g0, g1, g2⟩ := rcells3 hb5
              refine bodyPost_ret (v := .agg #[.int .i64 3, .int .i64 x.line, .int .i64 x.col]) (by simp [results, Try.results32, go_sem, g0, g1, g2]) rfl ?_
              exact hans
          · have hge : ¬ Nm.most x.kind ≤ ((Nm.cnt (l.take i) x.kind : Nat) : Int) := by omega
            have hcase : (Nm.named x.kind = true ∧ (∃ r1 : Nat, r0 = r1) ∧ Nm.errOf (l.take i) x = 6) ∨ (Nm.named x.kind = true ∧ r0 = -1 ∧ Nm.errOf (l.take i) x = 0) ∨ (Nm.named x.kind = false ∧ Nm.errOf (l.take i) x = 0) := by
              unfold Nm.errOf
              rw [if_neg hm0, if_neg hcm]
              by_cases hnm : Nm.named x.kind = true
              · rcases HR0.out with ⟨h1, h2⟩ | ⟨j, h1, h2, h3, _⟩
                · refine Or.inr (Or.inl ⟨hnm, h1, ?_⟩)
                  rw [if_neg]
                  rintro ⟨_, h4⟩
                  obtain ⟨j, h5, h6⟩ := hmem.1 h4
                  exact h2 j h5 h6
                · refine Or.inl ⟨hnm, ⟨j, h1⟩, ?_⟩
                  rw [if_pos ⟨hnm, hmem.2 ⟨j, h2, h3⟩⟩]
              · refine Or.inr (Or.inr ⟨by simpa using hnm, ?_⟩)
                rw [if_neg (fun h => hnm h.1)]
            clear hle hmem hcm hm0 hkk hch xr f0 f1 f2 hz
            have HCASE := Lib.hid hcase
            clear hcase
            go_wp2_with (first
                | (refine wpList_load_mid rfl 94 (.tmp 14) rfl b (off + i * 12) rfl [.int .i64 x.kind, .string x.name, .int .i64 x.line, .int .i64 x.col, x.c4, x.c5, x.c6, x.c7, x.c8, x.c9, x.c10, x.c11] _ ?_ Try.underlying94 rfl rsizeStmt ?_; exact hrgk)
                | (refine wpList_store_mid rfl 94 (.tmp 5) (.tmp 15) rfl wr.heap.size 0 #[.int .i64 x.kind, .string x.name, .int .i64 x.line, .int .i64 x.col, x.c4, x.c5, x.c6, x.c7, x.c8, x.c9, x.c10, x.c11] rfl rfl ?_ rsizeStmt hone ?_; exact th))
            generalize ((wr.alloc (.cells #[.int .i64 0, .string { data := #[] }, .int .i64 0, .int .i64 0, .int .i64 0, .slice none 0 0, .string { data := #[] }, .string { data := #[] }, .string { data := #[] }, .int .i64 0, .slice none 0 0, .bool false] 94)).setCells wr.heap.size 0 [.int .i64 x.kind, .string x.name, .int .i64 x.line, .int .i64 x.col, x.c4, x.c5, x.c6, x.c7, x.c8, x.c9, x.c10, x.c11]) = V at *
            generalize Nm.cnt (l.take i) x.kind = ct at *
            generalize Nm.most x.kind = mst at *
            go_region_with (first | (go_at_call 49; refine (HMST.out _).mono ?_; rintro e w9 ⟨rfl, hb9⟩; have HB9 : Hid (Below V.heap.size V w9) := Lib.hid ⟨hb9.os, hb9.tape, hb9.output, hb9.size, hb9.block⟩; have yx := HX.out w9 HB9.out; have y0 : (w9 : World).cell? ⟨wr.heap.size, 0, none⟩ = some (.int .i64 x.kind) := yx 0 _ rfl; have y1 : (w9 : World).cell? ⟨wr.heap.size, 1, none⟩ = some (.string x.name) := (by have := yx 1 _ rfl; rwa [Nat.zero_add] at this); have y2 : (w9 : World).cell? ⟨wr.heap.size, 2, none⟩ = some (.int .i64 x.line) := (by have := yx 2 _ rfl; rwa [Nat.zero_add] at this); have y3 : (w9 : World).cell? ⟨wr.heap.size, 3, none⟩ = some (.int .i64 x.col) := (by have := yx 3 _ rfl; rwa [Nat.zero_add] at this); clear yx; clear hb9) | (go_at_call 48; refine (HAHD.out _ (HCH.out _ (by first | exact HB9.out | exact HB9.out.drew | exact HB1.out | exact HB1.out.drew | exact HB1.out.drew.drew))).mono ?_; rintro e w8 ⟨rfl, rfl⟩))
            all_goals (first
              | refine rex_gen (F := fun d => w9.drewN d) (R := fun W => Below V.heap.size V W) (fun d => rbelow_dn HB9.out d) ?_ 1
              | refine rex_gen (F := fun d => w9.drewN d) (R := fun W => Below V.heap.size V W) (fun d => rbelow_dn HB9.out d) ?_ 2
              | refine rex_gen (F := fun d => w9.drewN d) (R := fun W => Below V.heap.size V W) (fun d => rbelow_dn HB9.out d) ?_ 0)
            all_goals rintro V2 hbv
            all_goals have HBV := Lib.hid hbv
            all_goals clear hbv y0 y1 y2 y3 HB9
            all_goals (rcases HCASE.out with ⟨hn, ⟨r1, hr1⟩, he0⟩ | ⟨hn, hr1, he0⟩ | ⟨hn, he0⟩)
            all_goals clear HCASE
            all_goals first
              | (rw [hn] at HNMD
                 rw [hr1] at HFND
                 have hr2 : ((r1 : Nat) : Int) ≥ 0 := by omega
                 clear hr1 hn
                 go_wp2_with (first
                   | (refine wpList_load_mid rfl 94 (.tmp 5) rfl wr.heap.size 0 rfl [.int .i64 x.kind, .string x.name, .int .i64 x.line, .int .i64 x.col, x.c4, x.c5, x.c6, x.c7, x.c8, x.c9, x.c10, x.c11] _ ?_ Try.underlying94 rfl rsizeStmt ?_; exact HX.out _ HBV.out)
                   | (go_at_call 50; refine (HNMD.out _).mono ?_; rintro e w10 ⟨rfl, hb9⟩; have HB10 : Hid (Below V.heap.size V w10) := Lib.hid (HBV.out.trans (hb9.mono HBV.out.size)); have zx := HX.out w10 HB10.out; have z0 : (w10 : World).cell? ⟨wr.heap.size, 0, none⟩ = some (.int .i64 x.kind) := zx 0 _ rfl; have z1 : (w10 : World).cell? ⟨wr.heap.size, 1, none⟩ = some (.string x.name) := (by have := zx 1 _ rfl; rwa [Nat.zero_add] at this); have z2 : (w10 : World).cell? ⟨wr.heap.size, 2, none⟩ = some (.int .i64 x.line) := (by have := zx 2 _ rfl; rwa [Nat.zero_add] at this); have z3 : (w10 : World).cell? ⟨wr.heap.size, 3, none⟩ = some (.int .i64 x.col) := (by have := zx 3 _ rfl; rwa [Nat.zero_add] at this); clear zx; clear hb9)
                   | (go_at_call 51; refine (HFND.out _ (HCH.out _ HB10.out)).mono ?_; rintro e w11 ⟨rfl, hb9⟩; have HB11 : Hid (Below V.heap.size V w11) := Lib.hid (HB10.out.trans (hb9.mono HB10.out.size)); have ux := HX.out w11 HB11.out; have u0 : (w11 : World).cell? ⟨wr.heap.size, 0, none⟩ = some (.int .i64 x.kind) := ux 0 _ rfl; have u1 : (w11 : World).cell? ⟨wr.heap.size, 1, none⟩ = some (.string x.name) := (by have := ux 1 _ rfl; rwa [Nat.zero_add] at this); have u2 : (w11 : World).cell? ⟨wr.heap.size, 2, none⟩ = some (.int .i64 x.line) := (by have := ux 2 _ rfl; rwa [Nat.zero_add] at this); have u3 : (w11 : World).cell? ⟨wr.heap.size, 3, none⟩ = some (.int .i64 x.col) := (by have := ux 3 _ rfl; rwa [Nat.zero_add] at this); clear ux; clear hb9 z0 z1 z2 z3; have hch := HCH.out w11 HB11.out; obtain ⟨f0, f1, f2⟩ := rcells3 hch.fault; have hz : ∀ j, (w11 : World).frozen? ⟨w.heap.size, j, none⟩ = false := (fun j => by unfold World.frozen?; rw [hch.fault]; simp); obtain ⟨hb5, hk5⟩ := rfault_set hch 6 x.line x.col; have HANS := Lib.hid (HBAD.out 6 he0 (by decide) _ hk5); have HB5 := Lib.hid hb5; clear hb5 hk5 hch))
                 refine rbp_gen (F := fun _ => (((w11.setCell ⟨w.heap.size, 0, none⟩ (.int .i64 6)).setCell ⟨w.heap.size, 1, none⟩ (.int .i64 x.line)).setCell ⟨w.heap.size, 2, none⟩ (.int .i64 x.col))) (C := fun W5 => W5.heap[w.heap.size]? = some (.cells #[.int .i64 6, .int .i64 x.line, .int .i64 x.col] 48 (0, 0)) ∧ ChkAns l w (.returned (.agg #[.int .i64 6, .int .i64 x.line, .int .i64 x.col])) W5) (fun _ => ⟨HB5.out, HANS.out⟩) ?_ 0
                 rintro W5 ⟨hb5, hans⟩
                 obtain ⟨g0, g1, g2⟩ := rcells3 hb5
                 refine bodyPost_ret (v := .agg #[.int .i64 6, .int .i64 x.line, .int .i64 x.col]) (by simp [results, Try.results32, go_sem, g0, g1, g2]) rfl ?_
                 exact hans)
              | (rw [hn] at HNMD
                 rw [hr1] at HFND
                 have HE0 := Lib.hid he0
                 clear hr1 hn he0
                 go_wp2_with (first
                   | (refine wpList_load_mid rfl 94 (.tmp 5) rfl wr.heap.size 0 rfl [.int .i64 x.kind, .string x.name, .int .i64 x.line, .int .i64 x.col, x.c4, x.c5, x.c6, x.c7, x.c8, x.c9, x.c10, x.c11] _ ?_ Try.underlying94 rfl rsizeStmt ?_; exact HX.out _ HBV.out)
                   | (go_at_call 50; refine (HNMD.out _).mono ?_; rintro e w10 ⟨rfl, hb9⟩; have HB10 : Hid (Below V.heap.size V w10) := Lib.hid (HBV.out.trans (hb9.mono HBV.out.size)); have zx := HX.out w10 HB10.out; have z0 : (w10 : World).cell? ⟨wr.heap.size, 0, none⟩ = some (.int .i64 x.kind) := zx 0 _ rfl; have z1 : (w10 : World).cell? ⟨wr.heap.size, 1, none⟩ = some (.string x.name) := (by have := zx 1 _ rfl; rwa [Nat.zero_add] at this); have z2 : (w10 : World).cell? ⟨wr.heap.size, 2, none⟩ = some (.int .i64 x.line) := (by have := zx 2 _ rfl; rwa [Nat.zero_add] at this); have z3 : (w10 : World).cell? ⟨wr.heap.size, 3, none⟩ = some (.int .i64 x.col) := (by have := zx 3 _ rfl; rwa [Nat.zero_add] at this); clear zx; clear hb9)
                   | (go_at_call 51; refine (HFND.out _ (HCH.out _ HB10.out)).mono ?_; rintro e w11 ⟨rfl, hb9⟩; have HB11 : Hid (Below V.heap.size V w11) := Lib.hid (HB10.out.trans (hb9.mono HB10.out.size)); have ux := HX.out w11 HB11.out; have u0 : (w11 : World).cell? ⟨wr.heap.size, 0, none⟩ = some (.int .i64 x.kind) := ux 0 _ rfl; have u1 : (w11 : World).cell? ⟨wr.heap.size, 1, none⟩ = some (.string x.name) := (by have := ux 1 _ rfl; rwa [Nat.zero_add] at this); have u2 : (w11 : World).cell? ⟨wr.heap.size, 2, none⟩ = some (.int .i64 x.line) := (by have := ux 2 _ rfl; rwa [Nat.zero_add] at this); have u3 : (w11 : World).cell? ⟨wr.heap.size, 3, none⟩ = some (.int .i64 x.col) := (by have := ux 3 _ rfl; rwa [Nat.zero_add] at this); clear ux; clear hb9 z0 z1 z2 z3))
                 go_roundw
                 case rel => exact ⟨i + 1, by omega, by go_num, Lib.hid (HNEXT.out HE0.out _ (HCH.out _ HB11.out))⟩
                 case measure => simp [intOf] <;> omega)
              | (rw [hn] at HNMD
                 have HE0 := Lib.hid he0
                 clear hn he0
                 go_wp2_with (first
                   | (refine wpList_load_mid rfl 94 (.tmp 5) rfl wr.heap.size 0 rfl [.int .i64 x.kind, .string x.name, .int .i64 x.line, .int .i64 x.col, x.c4, x.c5, x.c6, x.c7, x.c8, x.c9, x.c10, x.c11] _ ?_ Try.underlying94 rfl rsizeStmt ?_; exact HX.out _ HBV.out)
                   | (go_at_call 50; refine (HNMD.out _).mono ?_; rintro e w10 ⟨rfl, hb9⟩; have HB10 : Hid (Below V.heap.size V w10) := Lib.hid (HBV.out.trans (hb9.mono HBV.out.size)); have zx := HX.out w10 HB10.out; have z0 : (w10 : World).cell? ⟨wr.heap.size, 0, none⟩ = some (.int .i64 x.kind) := zx 0 _ rfl; have z1 : (w10 : World).cell? ⟨wr.heap.size, 1, none⟩ = some (.string x.name) := (by have := zx 1 _ rfl; rwa [Nat.zero_add] at this); have z2 : (w10 : World).cell? ⟨wr.heap.size, 2, none⟩ = some (.int .i64 x.line) := (by have := zx 2 _ rfl; rwa [Nat.zero_add] at this); have z3 : (w10 : World).cell? ⟨wr.heap.size, 3, none⟩ = some (.int .i64 x.col) := (by have := zx 3 _ rfl; rwa [Nat.zero_add] at this); clear zx; clear hb9))
                 go_roundw
                 case rel => exact ⟨i + 1, by omega, by go_num, Lib.hid (HNEXT.out HE0.out _ (HCH.out _ HB10.out))⟩
                 case measure => simp [intOf] <;> omega)
    · have hie : i = l.length := by omega
      subst hie
      obtain ⟨f0, f1, f2⟩ := rcells3 HC.out.fault
      have hz : ∀ j, wr.frozen? ⟨w.heap.size, j, none⟩ = false := fun j => by unfold World.frozen?; rw [HC.out.fault]; simp
      obtain ⟨hb5, hk5⟩ := rfault_set HC.out 0 0 0
      have HG := Lib.hid HC.out.good
      have HK5 := Lib.hid hk5
      clear hk5
      go_wp2_with fail
      generalize (((wr.setCell ⟨w.heap.size, 0, none⟩ (.int .i64 0)).setCell ⟨w.heap.size, 1, none⟩ (.int .i64 0)).setCell ⟨w.heap.size, 2, none⟩ (.int .i64 0)) = W5 at *
      obtain ⟨g0, g1, g2⟩ := rcells3 hb5
      refine bodyPost_ret (v := .agg #[.int .i64 0, .int .i64 0, .int .i64 0]) (by simp [results, Try.results32, go_sem, g0, g1, g2]) rfl ?_
      exact Or.inl ⟨by have := HG.out; rwa [List.take_length] at this, rfl, HK5.out⟩
end Go.Proofs.Ytpbgicfoopicbaa
