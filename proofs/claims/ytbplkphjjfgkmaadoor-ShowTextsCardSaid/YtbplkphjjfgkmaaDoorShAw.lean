/-
  Chapter 6's example, and which texts are names: by walks.
-/
import Derived.Test.YtbplkphjjfgkmaaDoorShForm
import Derived.Test.YtbplkphjjfgkmaaDoorShRnm
import Derived.Test.YtbplkphjjfgkmaaDoorShSgn
namespace Go.Proofs.YtbplkphjjfgkmaaDoor
open Go.RowKit
set_option linter.unusedVariables false
set_option linter.unusedSimpArgs false

def aw06 : List It := [⟨3, ⟨#[97]⟩, 0, ⟨#[]⟩, 3, ⟨#[]⟩, ⟨#[]⟩, 0, 0⟩, ⟨15, ⟨#[]⟩, 0, ⟨#[]⟩, 0, ⟨#[]⟩, ⟨#[]⟩, 0, 0⟩, ⟨9, ⟨#[]⟩, 0, ⟨#[]⟩, 0, ⟨#[115]⟩, ⟨#[]⟩, 0, 0⟩, ⟨16, ⟨#[]⟩, 0, ⟨#[]⟩, 0, ⟨#[]⟩, ⟨#[]⟩, 0, 0⟩]
theorem aw06_fm : fm aw06 = true := by decide +kernel
theorem aw06_ok : Sh.allOk aw06 = true := by decide +kernel
theorem aw06_part : partAt aw06 3 = Tr.Pt.two (.one (.leaf 0) 1) (.leaf 2) 3 := by kernel_rfl
theorem aw06_i3 : Lib.itoa 3 = [51] := by decide +kernel
theorem aw06_txt : Sh.txt aw06 (.two (.one (.leaf 0) 1) (.leaf 2) 3) = [110,111,116,32,97,32,60,32,51,32,97,110,100,32,111,112,101,110,32,115] := by
  simp [Sh.txt, aw06, Sh.opAt, opsOf, Sh.two, Sh.inn, Sh.tg, Sh.la, Sh.lb, Sh.atomL, Sh.wordL, Sh.sgn, Sh.signs, aw06_i3, Tr.Pt.end_, ByteArray.size]
theorem aw06_ans : Sh.ans aw06 = (⟨#[110,111,116,32,97,32,60,32,51,32,97,110,100,32,111,112,101,110,32,115]⟩, 0) := by
  unfold Sh.ans
  rw [if_pos aw06_fm, if_pos aw06_ok]
  rw [show aw06.length - 1 = 3 from rfl, aw06_part]
  unfold Sh.txB
  rw [aw06_txt]
theorem aw06_few : ∀ x ∈ aw06, Sh.few x := by
  intro x hx
  simp [aw06] at hx
  rcases hx with rfl | rfl | rfl | rfl <;> exact ⟨by decide, by decide, by decide, by decide, by decide, by decide⟩
theorem sh_reads_new (w : World) (xs : List Value) (e : TypeId) : Reads (w.alloc (.cells xs.toArray e)) (some ⟨w.heap.size, 0, none⟩) xs :=
  Or.inr ⟨w.heap.size, 0, rfl, fun j hj => by
    rw [World.cell?_alloc_at _ _ _ _ rfl]
    simp⟩
theorem awake06_any (w : World) (ht : Tab10 w) : Calls Tryd.prog 39 #[] w fun e w' => e = .returned (.bool true) ∧ Below w.heap.size w w' := by
  have hu : ∀ b : Bool, ¬ (some undef = some (Value.bool b)) := fun b h => by cases h
  have rd : RdI (w.alloc (.cells (Rec.flat It.cells aw06).toArray 54)) (some ⟨w.heap.size, 0, none⟩) aw06 := sh_reads_new w _ _
  have bn := sh_below_new w (.cells (Rec.flat It.cells aw06).toArray 54)
  have HB := Lib.hid bn
  have HC : Hid (Calls Tryd.prog 40 #[.slice (some ⟨w.heap.size, 0, none⟩) 4 4] (w.alloc (.cells (Rec.flat It.cells aw06).toArray 54)) fun e w' => e = .returned (.tuple #[.string ⟨#[110,111,116,32,97,32,60,32,51,32,97,110,100,32,111,112,101,110,32,115]⟩, .int .i64 0]) ∧ Below (w.alloc (.cells (Rec.flat It.cells aw06).toArray 54)).heap.size (w.alloc (.cells (Rec.flat It.cells aw06).toArray 54)) w') := Lib.hid (by
    have h := formula_any (some ⟨w.heap.size, 0, none⟩) 4 aw06 _ rd (by simp [aw06, maxLen]) aw06_few (ht.below bn)
    unfold FmAns at h
    rw [aw06_ans] at h
    exact h)
  clear rd bn ht
  go_enter Tryd.func39, Tryd.ntmps39
  go_wp2_with fail
  change Calls Tryd.prog 40 _ (w.alloc (.cells (Rec.flat It.cells aw06).toArray 54)) _
  generalize w.alloc (.cells (Rec.flat It.cells aw06).toArray 54) = W at *
  refine HC.out.mono ?_
  rintro e w2 ⟨rfl, hb⟩
  have HB2 := Lib.hid (HB.out.trans (hb.mono HB.out.size))
  clear hb HC HB
  go_wp2_with fail
  go_ret
  exact ⟨rfl, HB2.out⟩
theorem showNames_walk (s : ByteArray) (op : Int) (w : World) (ht : Tab10 w) : Calls Tryd.prog 12 #[.string s, .int .i64 op] w fun e w' => e = .returned (.bool true) ∧ Below w.heap.size w w' := by
  have hu : ∀ b : Bool, ¬ (some undef = some (Value.bool b)) := fun b h => by cases h
  have HN := Lib.hid (sname_any s w)
  have HR := Lib.hid (fun W => rname_any s W)
  have HS : Hid (∀ W, Calls Tryd.prog 44 #[.int .i64 op] W fun e w' => e = .returned (.string ⟨(Sh.sgn op).toArray⟩) ∧ W = w') := Lib.hid fun W => (sign_any op W).mono fun e w' h => ⟨h.1, h.2⟩
  have HT := Lib.hid (fun W => rsign_any op W)
  have HAW : Hid (∀ w', Below w.heap.size w w' → Calls Tryd.prog 39 #[] w' fun e w2 => e = .returned (.bool true) ∧ Below w.heap.size w w2) := Lib.hid fun w' hb => (awake06_any w' (ht.below hb)).mono fun e w2 h => ⟨h.1, hb.trans (h.2.mono hb.size)⟩
  clear ht
  generalize Sh.nameB s.data.toList = b at *
  generalize (⟨(Sh.sgn op).toArray⟩ : ByteArray) = T at *
  have hbb : (b == b) = true := by simp
  go_enter Tryd.func12, Tryd.ntmps12
  go_wp2_with fail
  refine HN.out.mono ?_
  rintro e w1 ⟨rfl, hb1⟩
  have HB1 := Lib.hid hb1
  clear hb1 HN
  go_wp2_with fail
  refine (HR.out _).mono ?_
  rintro e w2 ⟨rfl, hb2⟩
  have HB2 := Lib.hid (HB1.out.trans (hb2.mono HB1.out.size))
  clear hb2 HR HB1
  go_wp2_with fail
  refine (HS.out _).mono ?_
  rintro e w3 ⟨rfl, rfl⟩
  clear HS
  go_wp2_with fail
  refine (HT.out _).mono ?_
  rintro e w4 ⟨rfl, hb4⟩
  have HB4 := Lib.hid (HB2.out.trans (hb4.mono HB2.out.size))
  clear hb4 HT HB2
  go_wp2_with fail
  refine (HAW.out _ HB4.out).mono ?_
  rintro e w5 ⟨rfl, hb5⟩
  have HB5 := Lib.hid hb5
  clear hb5
  go_wp2_with fail
  go_ret
  exact ⟨rfl, HB5.out⟩
end Go.Proofs.YtbplkphjjfgkmaaDoor
