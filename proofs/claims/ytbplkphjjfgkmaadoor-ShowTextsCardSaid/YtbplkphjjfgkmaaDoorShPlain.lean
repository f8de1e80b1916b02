/-
  A formula's text, in plain words.
-/
import Derived.Test.YtbplkphjjfgkmaaDoorShTree
import Derived.Test.YtbplkphjjfgkmaaDoorNmPrint2
import Derived.Test.YtbplkphjjfgkmaaDoorTokKnown
namespace Go.Proofs.YtbplkphjjfgkmaaDoor
set_option linter.unusedVariables false
set_option linter.unusedSimpArgs false
namespace Sh
def signs : List (List UInt8) := [[116,114,117,101],[102,97,108,115,101],[60],[60,61],[62],[62,61],[61],[33,61],[111,112,101,110],[100,111,110,101],[99,97,110],[100,105,100],[99,111,109,112,108,101,116,101],[115,116,117,99,107],[110,111,116],[97,110,100],[111,114],[105,109,112,108,105,101,115],[65,88],[69,88],[65,70],[69,70],[65,71],[69,71],[65],[69]]
def sgn (op : Int) : List UInt8 := if 1 ≤ op ∧ op ≤ 26 then signs.getD (op.toNat - 1) [] else []
/-- One op after the other. -/
theorem each {Q : Int → Prop} (h : ∀ n : Nat, n < 26 → Q ((n : Int) + 1)) (lo : ∀ op : Int, op < 1 → Q op) (hi : ∀ op : Int, 26 < op → Q op) (op : Int) : Q op := by
  by_cases h1 : op < 1
  · exact lo op h1
  · by_cases h2 : 26 < op
    · exact hi op h2
    · have := h (op - 1).toNat (by omega)
      rwa [show (((op - 1).toNat : Nat) : Int) + 1 = op by omega] at this
theorem sgn_len (op : Int) : (sgn op).length ≤ 8 := by
  refine each (Q := fun op => (sgn op).length ≤ 8) ?_ ?_ ?_ op
  · decide
  · intro op h
    unfold sgn
    rw [if_neg (by omega)]
    simp
  · intro op h
    unfold sgn
    rw [if_neg (by omega)]
    simp
/-- May a rune stand there in a name? -/
def okr (j : Nat) (r : Int) : Bool := Tk.sm r || (decide (0 < j) && (Tk.dg r || decide (r = 95)))
def okc (j : Nat) (c : UInt8) : Bool := okr j (c.toNat : Int)
theorem okr_high {j : Nat} {r : Int} (h : 128 ≤ r) : okr j r = false := by
  unfold okr Tk.sm Tk.dg
  rw [decide_eq_false (show ¬ r ≤ 122 by omega), decide_eq_false (show ¬ r ≤ 57 by omega), decide_eq_false (show ¬ r = 95 by omega)]
  simp
def nameB (L : List UInt8) : Bool := decide (0 < L.length) && decide (L.length ≤ 16) && !Tk.known L && (List.range L.length).all fun j => okc j (L.getD j 0)
theorem name_yes {L : List UInt8} (h0 : 0 < L.length) (h1 : L.length ≤ 16) (h2 : Tk.known L = false) (h3 : ∀ j, j < L.length → okc j (L.getD j 0) = true) : nameB L = true := by
  unfold nameB
  simp only [Bool.and_eq_true, decide_eq_true_eq, Bool.not_eq_true', List.all_eq_true, List.mem_range]
  exact ⟨⟨⟨h0, h1⟩, h2⟩, h3⟩
theorem name_at {L : List UInt8} {j : Nat} (h : j < L.length) (h2 : okc j (L.getD j 0) = false) : nameB L = false := by
  rw [Bool.eq_false_iff]
  intro hn
  unfold nameB at hn
  simp only [Bool.and_eq_true, decide_eq_true_eq, Bool.not_eq_true', List.all_eq_true, List.mem_range] at hn
  rw [hn.2 j h] at h2
  cases h2
theorem name_nil : nameB [] = false := rfl
theorem name_long {L : List UInt8} (h : ¬ L.length ≤ 16) : nameB L = false := by unfold nameB; simp [h]
theorem name_known {L : List UInt8} (h : Tk.known L = true) : nameB L = false := by unfold nameB; simp [h]
def wordL (n : ByteArray) (v : Int) : List UInt8 := if n.size = 0 then Lib.itoa v else n.data.toList
def wordOk (n : ByteArray) : Bool := decide (n.size = 0) || nameB n.data.toList
def atomL (x : It) : List UInt8 :=
  if 9 ≤ x.op ∧ x.op ≤ 11 then sgn x.op ++ 32 :: x.nm.data.toList
  else if x.op = 12 then sgn x.op ++ 32 :: (x.us.data.toList ++ 32 :: x.nm.data.toList)
  else if 3 ≤ x.op ∧ x.op ≤ 8 then wordL x.ln x.lv ++ 32 :: (sgn x.op ++ 32 :: wordL x.rn x.rv)
  else sgn x.op
def atomOk (x : It) : Bool :=
  if 9 ≤ x.op ∧ x.op ≤ 11 then nameB x.nm.data.toList
  else if x.op = 12 then nameB x.us.data.toList && nameB x.nm.data.toList
  else if 3 ≤ x.op ∧ x.op ≤ 8 then wordOk x.ln && wordOk x.rn
  else true
def tg (op : Int) : Int := if op = 18 then 1 else if op = 17 then 2 else if op = 16 then 3 else 4
theorem tg_bd (op : Int) : 1 ≤ tg op ∧ tg op ≤ 4 := by unfold tg; repeat' split <;> omega
def inn (t : Int) (L : List UInt8) (least : Int) : List UInt8 := if t < least then 40 :: (L ++ [41]) else L
theorem inn_len (t : Int) (L : List UInt8) (least : Int) : (inn t L least).length ≤ L.length + 2 := by unfold inn; split <;> simp
def opAt (l : List It) (i : Nat) : Int := (opsOf l).getD i 0
/-- How tight each side must be at least. -/
def la (op : Int) : Int := if op = 18 then 2 else tg op
def lb (op : Int) : Int := if op = 18 then 1 else tg op + 1
/-- What is put of two. -/
def two (op ta tb : Int) (A B : List UInt8) : List UInt8 :=
  if op = 16 ∨ op = 17 ∨ op = 18 then inn ta A (la op) ++ 32 :: (sgn op ++ 32 :: inn tb B (lb op))
  else sgn op ++ 32 :: 91 :: (A ++ 32 :: 85 :: 32 :: (B ++ [93]))
def txt (l : List It) : Tr.Pt → List UInt8
  | .leaf i => match l[i]? with | some x => atomL x | none => []
  | .one k i => sgn (opAt l i) ++ 32 :: inn (tg (opAt l k.end_)) (txt l k) 4
  | .two a b i => two (opAt l i) (tg (opAt l a.end_)) (tg (opAt l b.end_)) (txt l a) (txt l b)
def tgP (l : List It) (p : Tr.Pt) : Int := tg (opAt l p.end_)
def txB (l : List It) (p : Tr.Pt) : ByteArray := ⟨(txt l p).toArray⟩
theorem txB_list (l : List It) (p : Tr.Pt) : (txB l p).data.toList = txt l p := rfl
/-- No name is too long. -/
structure few (x : It) : Prop where
  nm : x.nm.size ≤ 60
  us : x.us.size ≤ 60
  ln : x.ln.size ≤ 60
  rn : x.rn.size ≤ 60
  lv : -9223372036854775808 ≤ x.lv ∧ x.lv ≤ 9223372036854775807
  rv : -9223372036854775808 ≤ x.rv ∧ x.rv ≤ 9223372036854775807
theorem size_list (s : ByteArray) : s.data.toList.length = s.size := by simp
theorem wordL_len {n : ByteArray} {v : Int} (h : n.size ≤ 60) (hv : -9223372036854775808 ≤ v ∧ v ≤ 9223372036854775807) : (wordL n v).length ≤ 60 := by
  unfold wordL
  split
  · have := Lib.itoa_length_le v hv.1 hv.2
    omega
  · rw [size_list]; exact h
theorem atomL_len {x : It} (h : few x) : (atomL x).length ≤ 140 := by
  have h0 := sgn_len x.op
  have h1 := wordL_len h.ln h.lv
  have h2 := wordL_len h.rn h.rv
  have h3 := size_list x.nm
  have h4 := size_list x.us
  have h5 := h.nm
  have h6 := h.us
  unfold atomL
  repeat' split
  all_goals (try simp only [List.length_append, List.length_cons])
  all_goals omega
def cnt : Tr.Pt → Nat
  | .leaf _ => 1
  | .one k _ => cnt k + 1
  | .two a b _ => cnt a + cnt b + 1
theorem cnt_span {L : List Int} {s e : Nat} {p : Tr.Pt} (h : Tr.Span L s e p) : cnt p = e + 1 - s := by
  induction h with
  | leaf i h1 h2 => simp [cnt]
  | one s e k h1 h2 h3 ih => have := h3.le; simp only [cnt, ih]; omega
  | two s m e a b h1 h2 h3 h4 ih1 ih2 => have := h3.le; have := h4.le; simp only [cnt, ih1, ih2]; omega
theorem txt_len {l : List It} (h : ∀ x ∈ l, few x) : ∀ p, (txt l p).length ≤ 200 * cnt p
  | .leaf i => by
    simp only [txt, cnt]
    split
    · next x hx =>
      have := atomL_len (h x (List.mem_of_getElem? hx))
      omega
    · simp
  | .one k i => by
    have h1 := txt_len h k
    have h2 := inn_len (tg (opAt l k.end_)) (txt l k) 4
    have h3 := sgn_len (opAt l i)
    simp only [txt, cnt, List.length_append, List.length_cons]
    omega
  | .two a b i => by
    have h1 := txt_len h a
    have h2 := txt_len h b
    have h3 := sgn_len (opAt l i)
    have h4 := inn_len (tg (opAt l a.end_)) (txt l a) (la (opAt l i))
    have h5 := inn_len (tg (opAt l b.end_)) (txt l b) (lb (opAt l i))
    simp only [txt, cnt, two]
    split <;> simp only [List.length_append, List.length_cons, List.length_nil] <;> omega
end Sh
end Go.Proofs.YtbplkphjjfgkmaaDoor
