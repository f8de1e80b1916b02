/-
  Tables: which numbers texts have that are put: the law's walk.
-/
import Derived.Test.YtkambjfhhmgniaaTabBase
namespace Go.Proofs.Ytkambjfhhmgniaa
open Go.RowKit SumPlain
set_option linter.unusedVariables false
set_option linter.unusedSimpArgs false

/-- Where a text stands first; the list's length: nowhere. -/
def fnd : List ByteArray → ByteArray → Nat
  | [], _ => 0
  | t :: l, s => if t = s then 0 else fnd l s + 1
theorem fnd_le : ∀ (l : List ByteArray) (s : ByteArray), fnd l s ≤ l.length
  | [], _ => Nat.le_refl _
  | t :: l, s => by have := fnd_le l s; unfold fnd; split <;> simp; omega
theorem fnd_at : ∀ (l : List ByteArray) (s : ByteArray), fnd l s < l.length → l[fnd l s]? = some s
  | [], _, h => by simp [fnd] at h
  | t :: l, s, h => by
    unfold fnd at h ⊢
    split
    · rename_i e; simp [e]
    · rename_i e
      rw [if_neg e] at h
      have := fnd_at l s (by simpa using h)
      simpa using this
theorem fnd_before : ∀ (l : List ByteArray) (s : ByteArray) (k : Nat), k < fnd l s → l[k]? ≠ some s
  | [], _, k, h => by simp [fnd] at h
  | t :: l, s, k, h => by
    unfold fnd at h
    split at h
    · omega
    · rename_i e
      cases k with
      | zero => simpa using e
      | succ k => have := fnd_before l s k (by omega); simpa using this
theorem fnd_mem (l : List ByteArray) (s : ByteArray) : s ∈ l ↔ fnd l s < l.length := by
  constructor
  · intro h
    rcases Nat.lt_or_ge (fnd l s) l.length with h1 | h1
    · exact h1
    · obtain ⟨k, hk, he⟩ := List.mem_iff_getElem.1 h
      exact absurd (by rw [List.getElem?_eq_getElem hk, he]) (fnd_before l s k (by omega))
  · intro h; exact List.mem_of_getElem? (fnd_at l s h)
def fndI (l : List ByteArray) (s : ByteArray) : Int := if fnd l s < l.length then (fnd l s : Int) else -1
set_option maxHeartbeats 800000 in
theorem rfind_any (a : Option Addr) (c : Nat) (l : List ByteArray) (s : ByteArray) (w : World) (hr : Reads w a (l.map Value.string)) (hl : l.length ≤ 1000000) :
    Calls Try.prog 9 #[.slice a l.length c, .string s] w fun e w' => e = .returned (.int .i64 (fndI l s)) ∧ w = w' := by
  have hcell : ∀ k (hk : k < l.length), ∃ b off, a = some ⟨b, off, none⟩ ∧ w.cell? ⟨b, off + k, none⟩ = some (.string l[k]) := fun k hk => by
    obtain ⟨b, off, ha, hc⟩ := hr.at (by simp; omega)
    exact ⟨b, off, ha, by rw [hc k (by simpa using hk)]; simp [hk]⟩
  have HC := Lib.hid hcell
  clear hcell hr
  go_enter Try.func9, Try.ntmps9
  go_wp2
  go_loopw [5] (fun v5 wr => ∃ j : Nat, j ≤ fnd l s ∧ v5 = .int .i64 j ∧ w = wr) (fun v5 _ => l.length - (intOf v5).toNat)
  case atStart => exact ⟨0, by omega, rfl, rfl⟩
  case round =>
    obtain ⟨j, hj, rfl, rfl⟩ := hrel
    have hfl := fnd_le l s
    by_cases hlt : j < l.length
    · obtain ⟨b, off, rfl, hx⟩ := HC.out j hlt
      have hbq := bytes_beq l[j] s
      by_cases he : l[j] = s
      · rw [decide_eq_true he] at hbq
        have hjf : j = fnd l s := by
          rcases Nat.lt_or_ge j (fnd l s) with h1 | h1
          · exact absurd (by rw [List.getElem?_eq_getElem hlt, he]) (fnd_before l s j h1)
          · omega
        have hfin : fndI l s = j := by unfold fndI; rw [if_pos (by omega), hjf]
        have HF := Lib.hid hfin
        clear hfin he hjf hj hfl
        generalize l[j] = x at *
        go_wp2
        go_ret
        exact ⟨by rw [HF.out]; rfl, rfl⟩
      · rw [decide_eq_false he] at hbq
        have hjf : j < fnd l s := by
          rcases Nat.lt_or_ge j (fnd l s) with h1 | h1
          · exact h1
          · have h2 := fnd_at l s (by omega)
            rw [show fnd l s = j by omega, List.getElem?_eq_getElem hlt] at h2
            exact absurd (Option.some.inj h2) he
        have HJ := Lib.hid hjf
        clear he hjf hj hfl
        generalize l[j] = x at *
        go_wp2
        go_roundw
        case rel => exact ⟨j + 1, by have := HJ.out; omega, by go_num, trivial⟩
        case measure => simp [intOf]; omega
    · have hfin : fndI l s = -1 := by unfold fndI; rw [if_neg (by omega)]
      have HF := Lib.hid hfin
      clear hfin
      go_wp2
      go_ret
      exact ⟨by rw [HF.out]; rfl, rfl⟩
/-- A table, and beside it a list of the same texts. -/
def AllTab (w : World) (p k : Nat) (T : List ByteArray) (v : Value) (wr : World) : Prop :=
  ∃ B m vt vs va vl, IsTab wr B p m T vt vs va vl ∧ wr.ownsRow w.heap.size 9 1 v T.length (Tab.strs T) ∧ (∀ j, v.ownBlock = some j → ¬ Foot p vt vs va vl j) ∧ w.heap.size ≤ B ∧ T.length ≤ k ∧ Below w.heap.size w wr
theorem AllTab.drewN {w wr : World} {p k : Nat} {T : List ByteArray} {v : Value} (h : AllTab w p k T v wr) (n : Nat) : AllTab w p k T v (wr.drewN n) := by
  obtain ⟨B, m, vt, vs, va, vl, h1, h2, h3, h4, h5, h6⟩ := h
  exact ⟨B, m, vt, vs, va, vl, h1.kept (Keeps.drewN (fun _ => False) _ n) (fun _ _ hf => hf), (Keeps.drewN (fun _ => False) _ n).own h2 (fun _ _ hf => hf), h3, h4, h5, below_drewN h6 n⟩
theorem AllTab.more {w wr : World} {p k : Nat} {T : List ByteArray} {v : Value} (h : AllTab w p k T v wr) : AllTab w p (k + 1) T v wr := by
  obtain ⟨B, m, vt, vs, va, vl, h1, h2, h3, h4, h5, h6⟩ := h
  exact ⟨B, m, vt, vs, va, vl, h1, h2, h3, h4, by omega, h6⟩
theorem AllTab.reads {w wr : World} {p k : Nat} {T : List ByteArray} {v : Value} (h : AllTab w p k T v wr) : ∃ a c, v = .slice a T.length c ∧ Reads wr a (T.map Value.string) := by
  obtain ⟨B, m, vt, vs, va, vl, h1, h2, h3, h4, h5, h6⟩ := h
  obtain ⟨a, c, e1, e2⟩ := Reads.of_own h2
  unfold Tab.strs at e1 e2
  rw [List.length_map] at e1
  exact ⟨a, c, e1, e2⟩
theorem AllTab.below {w wr : World} {p k : Nat} {T : List ByteArray} {v : Value} (h : AllTab w p k T v wr) : Below w.heap.size w wr := by
  obtain ⟨B, m, vt, vs, va, vl, h1, h2, h3, h4, h5, h6⟩ := h; exact h6
theorem AllTab.len {w wr : World} {p k : Nat} {T : List ByteArray} {v : Value} (h : AllTab w p k T v wr) : T.length ≤ k := by
  obtain ⟨B, m, vt, vs, va, vl, h1, h2, h3, h4, h5, h6⟩ := h; exact h5
/-- What Text answers. -/
theorem AllTab.text {w wr : World} {p k i : Nat} {T : List ByteArray} {v : Value} {s : ByteArray} (h : AllTab w p k T v wr) (hi : T[i]? = some s) (w' : World) (hw : ∃ n, w' = wr.drewN n) :
    Calls Try.prog 10 #[.pointer (some ⟨p, 0, none⟩), .int .i64 i] w' fun e w'' => e = .returned (.string s) ∧ w' = w'' := by
  obtain ⟨n, rfl⟩ := hw
  obtain ⟨B, m, vt, vs, va, vl, h1, h2, h3, h4, h5, h6⟩ := h.drewN n
  have hil : i < T.length := (List.getElem?_eq_some_iff.1 hi).1
  obtain ⟨g, c, rfl, _⟩ := own_some h1.otexts (by omega)
  have h0 := cell_of_cells h1.block 0
  simp only [List.getElem?_toArray, List.getElem?_cons_zero] at h0
  refine text_in p g T.length c i s _ h0 hil ?_
  rw [h1.otexts.cellAt i (by omega)]
  unfold Tab.strs
  rw [List.getElem?_map, hi]; rfl
theorem AllTab.noText {w wr : World} {p k : Nat} {T : List ByteArray} {v : Value} {n : Int} (h : AllTab w p k T v wr) (hn : ¬ (0 ≤ n ∧ n < (T.length : Int))) (w' : World) (hw : ∃ n, w' = wr.drewN n) :
    Calls Try.prog 10 #[.pointer (some ⟨p, 0, none⟩), .int .i64 n] w' fun e w'' => e = .returned (.string ByteArray.empty) ∧ w' = w'' := by
  obtain ⟨d, rfl⟩ := hw
  obtain ⟨B, m, vt, vs, va, vl, h1, h2, h3, h4, h5, h6⟩ := h.drewN d
  obtain ⟨a, c, rfl⟩ := own_len h1.otexts
  have h0 := cell_of_cells h1.block 0
  simp only [List.getElem?_toArray, List.getElem?_cons_zero] at h0
  exact text_out p T.length c a n _ h0 hn
theorem AllTab.count {w wr : World} {p k : Nat} {T : List ByteArray} {v : Value} (h : AllTab w p k T v wr) (w' : World) (hw : ∃ n, w' = wr.drewN n) :
    Calls Try.prog 12 #[.pointer (some ⟨p, 0, none⟩)] w' fun e w'' => e = .returned (.int .i64 T.length) ∧ w' = w'' := by
  obtain ⟨d, rfl⟩ := hw
  obtain ⟨B, m, vt, vs, va, vl, h1, h2, h3, h4, h5, h6⟩ := h.drewN d
  exact len_tab h1
/-- What Find answers. -/
theorem AllTab.find {w wr : World} {p k : Nat} {T : List ByteArray} {v : Value} (h : AllTab w p k T v wr) (s : ByteArray) (hs : s.size ≤ 9223372036854775807) (hk : k ≤ 1000000) :
    Calls Try.prog 11 #[.pointer (some ⟨p, 0, none⟩), .string s] wr fun e w'' => FindAns T.length (fnd T s) e ∧ ∃ n, w'' = wr.drewN n := by
  obtain ⟨B, m, vt, vs, va, vl, h1, h2, h3, h4, h5, h6⟩ := h
  refine find_any B p m T vt vs va vl s wr h1 hs (by omega) (fnd T s) (fun ht => ?_) (fun j hj hne he => ?_)
  · rw [List.getD_eq_getElem?_getD, fnd_at T s ht]; rfl
  · rw [List.getD_eq_getElem?_getD, List.getElem?_eq_getElem hj] at he
    have hej : T[j] = s := he
    have hf : fnd T s < T.length := (fnd_mem T s).1 (by rw [← hej]; exact List.getElem_mem hj)
    have h7 := fnd_at T s hf
    rw [List.getElem?_eq_getElem hf] at h7
    exact hne ((List.getElem_inj h1.uniq).1 (hej.trans (Option.some.inj h7).symm))
/-- What Put answers. -/
theorem AllTab.put {w wr : World} {p k : Nat} {T : List ByteArray} {v : Value} (h : AllTab w p k T v wr) (s : ByteArray) (hs : s.size ≤ 9223372036854775807) (hk : k ≤ 1000000) :
    (s ∈ T ∧ Calls Try.prog 8 #[.pointer (some ⟨p, 0, none⟩), .string s] wr fun e w1 => OldAns (fnd T s) e ∧ AllTab w p k T v w1) ∨
    (s ∉ T ∧ Calls Try.prog 8 #[.pointer (some ⟨p, 0, none⟩), .string s] wr fun e w1 => PutAns T.length e ∧ Below w.heap.size w w1 ∧ w1.ownsRow w.heap.size 9 1 v T.length (Tab.strs T) ∧
      ∀ g cap w2, w2.ownsRow w.heap.size 9 1 (.slice (some ⟨g, 0, none⟩) (T.length + 1) cap) (T.length + 1) (Tab.strs T ++ [.string s]) → Keeps (fun j => v.ownBlock = some j) w1 w2 → (v.ownBlock = some g ∨ w1.heap.size ≤ g) → AllTab w p (k + 1) (T ++ [s]) (.slice (some ⟨g, 0, none⟩) (T.length + 1) cap) w2) := by
  by_cases hin : s ∈ T
  · left
    refine ⟨hin, ?_⟩
    have hh := h
    obtain ⟨B, m, vt, vs, va, vl, h1, h2, h3, h4, h5, h6⟩ := h
    refine (put_old B p m (fnd T s) T vt vs va vl s wr h1 hs (by omega) (fnd_at T s ((fnd_mem T s).1 hin))).mono ?_
    rintro e w1 ⟨he, n, rfl⟩
    exact ⟨he, hh.drewN n⟩
  · right
    refine ⟨hin, ?_⟩
    obtain ⟨B, m, vt, vs, va, vl, h1, h2, h3, h4, h5, h6⟩ := h
    refine (put_new B p m T vt vs va vl s wr h1 hs (by omega) hin).mono ?_
    rintro e w1 ⟨he, vt', vs', va', t1, k1, f1⟩
    have b1 : Below w.heap.size w w1 := h6.trans (k1.below (fun j hj => by have := (h1.foot j hj).1; omega) h6.size)
    have o1 := k1.own h2 h3
    have d1 : ∀ j, v.ownBlock = some j → ¬ Foot p vt' vs' va' vl j := fun j hj hf => (f1 j hf).elim (h3 j hj) (fun h => by have := (h2.lt j hj).2; omega)
    refine ⟨he, b1, o1, fun g cap w2 own2 keep2 lies2 => ?_⟩
    refine ⟨B, m, vt', vs', va', vl, t1.kept keep2 (fun j hf hj => d1 j hj hf), ?_, ?_, h4, by simp; omega, b1.trans (keep2.below (fun j hj => (h2.lt j hj).1) b1.size)⟩
    · unfold Tab.strs at own2 ⊢; rw [List.length_append, List.map_append]; exact own2
    · intro j hj hf
      simp [Value.ownBlock] at hj
      subst hj
      rcases lies2 with h7 | h7
      · exact d1 _ h7 hf
      · have := (t1.foot _ hf).2; omega
theorem str_cell {w wr : World} {a0 : Option Addr} {l : List ByteArray} (hr : Reads w a0 (l.map Value.string)) (hb : Below w.heap.size w wr) (b off : Nat) (ha : a0 = some ⟨b, off, none⟩) (k : Nat) (hk : k < l.length) : wr.cell? ⟨b, off + k, none⟩ = some (.string l[k]) := by
  obtain ⟨b1, o1, ha1, hc⟩ := (hr.mono hb (Nat.le_refl _)).at (by rw [List.length_map]; omega)
  rw [ha] at ha1
  simp only [Option.some.injEq, Addr.mk.injEq, and_true] at ha1
  obtain ⟨rfl, rfl⟩ := ha1
  rw [hc k (by simpa using hk)]; simp [hk]
set_option maxHeartbeats 4000000 in
theorem tablePuts_walk (a0 : Option Addr) (c0 : Nat) (l : List ByteArray) (bits : Int) (s : ByteArray) (w : World) (hr : Reads w a0 (l.map Value.string)) (hl : l.length ≤ 9223372036854775807) (hs : ∀ s ∈ l, s.size ≤ 9223372036854775807) (hss : s.size ≤ 9223372036854775807) :
    Calls Try.prog 3 #[.slice a0 l.length c0, .int .i64 bits, .string s] w fun e w' => e = .returned (.bool true) ∧ Below w.heap.size w w' := by
  have hu : ∀ b : Bool, ¬ (some undef = some (Value.bool b)) := fun b h => by cases h
  have HM := Lib.hid (much_any a0 c0 l w hr hl hs)
  go_enter Try.func3, Try.ntmps3
  go_wp2_with fail
  refine (HM.out).mono ?_
  rintro e w1 ⟨⟨much, rfl, hn⟩, rfl⟩
  have HN := Lib.hid hn
  have HR := Lib.hid hr
  have HS := Lib.hid hs
  clear hn hr hs
  cases much with
  | true =>
    go_wp2_with fail
    refine (awake29_any _).mono ?_
    rintro e w3 ⟨rfl, hb3⟩
    go_wp2_with fail
    go_ret
    exact ⟨rfl, hb3⟩
  | false =>
    have hn := HN.out rfl
    have RF := Lib.hid (fun a c l s w hr hl => rfind_any a c l s w hr hl)
    go_wp2_with fail
    refine (new_any bits w).mono ?_
    rintro e w1 ⟨p, m, vl, rfl, t1, k1⟩
    have all0 : AllTab w p 0 [] (.slice none 0 0) w1 := ⟨_, _, _, _, _, _, t1, (by exact World.ownsRow_nil _ _ _ _), fun j hj => by simp [Value.ownBlock] at hj, Nat.le_refl _, by simp, k1.below (fun _ h => h.elim) (Nat.le_refl _)⟩
    have ALL0 := Lib.hid all0
    clear t1 k1 all0
    go_wp2_with fail
    go_loopw [8, 9] (fun v8 v9 wr => ∃ (k : Nat) (T : List ByteArray), k ≤ l.length ∧ v9 = .int .i64 k ∧ AllTab w p k T v8 wr) (fun _ v9 _ => l.length - (intOf v9).toNat)
    case atStart => exact ⟨0, [], by omega, rfl, ALL0.out⟩
    case round =>
      obtain ⟨k, T, hk, rfl, hT⟩ := hrel
      obtain ⟨xa, xc, hx, hrd⟩ := hT.reads
      subst hx
      have htl := hT.len
      have HRD := Lib.hid hrd
      have HT := Lib.hid hT
      clear hT hrd
      by_cases hlt : k < l.length
      · obtain ⟨b0, o0, ha, hc⟩ := (HR.out).at (by rw [List.length_map]; omega)
        subst ha
        clear hc
        have CELL := Lib.hid (fun wr hb => str_cell (wr := wr) HR.out hb b0 o0 rfl k hlt)
        have hx := CELL.out wr (HT.out).below
        have hsz := (HS.out) l[k] (List.getElem_mem hlt)
        rcases (HT.out).put l[k] hsz (by omega) with ⟨hin, hput⟩ | ⟨hin, hput⟩
        · have hf := (fnd_mem T l[k]).1 hin
          have hfi : fndI T l[k] = (fnd T l[k] : Nat) := by unfold fndI; rw [if_pos hf]
          have hat := fnd_at T l[k] hf
          have HPUT := Lib.hid hput
          have HFI := Lib.hid (And.intro hfi hat)
          have HIN := Lib.hid hin
          clear hput hfi hat hin
          have hq := bytes_beq l[k] l[k]
          rw [decide_eq_true rfl] at hq
          generalize l[k] = x at *
          generalize hgf : fnd T x = f at *
          have HGF := Lib.hid hgf
          clear hgf
          go_wp2_with fail
          refine (HPUT.out).mono ?_
          rintro e w1 ⟨he, hA1⟩
          have he' : e = .returned (.tuple #[.int .i64 (f : Nat), .bool false]) := he
          subst he'
          have hx1 := CELL.out w1 hA1.below
          obtain ⟨xa1, xc1, hxx, hrd1⟩ := hA1.reads
          simp only [Value.slice.injEq, true_and] at hxx
          obtain ⟨rfl, rfl⟩ := hxx
          have HRD1 := Lib.hid hrd1
          have HA1 := Lib.hid hA1
          have TX := Lib.hid (fun w' hw => hA1.text (HFI.out).2 w' hw)
          clear hrd1 hA1 he hx
          go_wp2_with fail
          refine (RF.out _ _ _ _ _ HRD1.out (by omega)).mono ?_
          rintro e w2 ⟨rfl, rfl⟩
          rw [(HFI.out).1]
          go_wp2_with fail
          go_quiet ((go_at_call 10; exact Calls.quiet_of_same ((TX.out _ (by first | exact ⟨0, rfl⟩ | exact ⟨_, rfl⟩)).mono (fun _ _ hq => ⟨hq.1, hq.2.symm⟩))))
          go_wp2_with fail
          go_roundw
          case rel => exact ⟨k + 1, T, by omega, by go_num, (HA1.out).more.drewN _⟩
          case measure => simp [intOf]; omega
        · have hf : ¬ fnd T l[k] < T.length := fun h => hin ((fnd_mem T l[k]).2 h)
          have hfi : fndI T l[k] = -1 := by unfold fndI; rw [if_neg hf]
          have HPUT := Lib.hid hput
          have HFI := Lib.hid hfi
          have HIN := Lib.hid hin
          clear hput hfi hin hf
          have hq := bytes_beq l[k] l[k]
          rw [decide_eq_true rfl] at hq
          generalize l[k] = x at *
          go_wp2_with fail
          refine (HPUT.out).mono ?_
          rintro e w1 ⟨he, hb1, own1, more1⟩
          have he' : e = .returned (.tuple #[.int .i64 (T.length : Nat), .bool true]) := he
          subst he'
          have hx1 := CELL.out w1 hb1
          have hrd1 : Reads w1 xa (T.map Value.string) := by
            obtain ⟨a, c, e1, e2⟩ := Reads.of_own own1
            unfold Tab.strs at e1 e2
            simp only [Value.slice.injEq] at e1
            rw [e1.1]; exact e2
          have HRD1 := Lib.hid hrd1
          have MORE := Lib.hid more1
          clear hrd1 more1 he hx
          go_wp2_with fail
          refine (RF.out _ _ _ _ _ HRD1.out (by omega)).mono ?_
          rintro e w2 ⟨rfl, rfl⟩
          rw [HFI.out]
          have hsz1 := hb1.size
          have hown2 := own1
          unfold Tab.strs at hown2
          go_wp2_with (at_builtin; refine append_at (v := .slice xa T.length xc) rfl _ _ 22 rfl 9 (.string ByteArray.empty) 1 16 Try.underlying22 Try.infoStr rfl (by decide) rfl own1 hsz1 _ rfl (by simp [Value.oneCell']) rfl rfl (by decide) (by omega) ?_; intro g cap w5 own5 keep5 where5; have hA5 := MORE.out g cap w5 own5 keep5 where5; have hx5 := CELL.out w5 hA5.below; have TX := Lib.hid (fun w' hw => hA5.text (i := T.length) (s := x) (by simp) w' hw); have HA5 := Lib.hid hA5; clear own5 keep5 where5 hA5 hown2)
          go_quiet ((go_at_call 10; exact Calls.quiet_of_same ((TX.out _ (by first | exact ⟨0, rfl⟩ | exact ⟨_, rfl⟩)).mono (fun _ _ hq => ⟨hq.1, hq.2.symm⟩))))
          go_wp2_with fail
          go_roundw
          case rel => exact ⟨k + 1, T ++ [x], by omega, by go_num, (HA5.out).drewN _⟩
          case measure => simp [intOf]; omega
      · have hfd := (HT.out).find s hss (by omega)
        have FD := Lib.hid hfd
        clear hfd
        by_cases hf : fnd T s < T.length
        · have hfa : ∀ e, FindAns T.length (fnd T s) e → e = .returned (.tuple #[.int .i64 (fnd T s : Nat), .bool true]) := fun e he => by unfold FindAns at he; rw [if_pos hf, decide_eq_true hf] at he; exact he
          have hfi : fndI T s = (fnd T s : Nat) := by unfold fndI; rw [if_pos hf]
          have HFA := Lib.hid hfa
          have HFI := Lib.hid hfi
          clear hfa hfi hf
          generalize fnd T s = f at *
          have hff : ((f : Int) == (f : Int)) = true := by simp
          go_wp2_with fail
          refine (FD.out).mono ?_
          rintro e w1 ⟨he, d, rfl⟩
          have he' := HFA.out e he
          subst he'
          have hA1 := (HT.out).drewN d
          obtain ⟨xa1, xc1, hxx, hrd1⟩ := hA1.reads
          simp only [Value.slice.injEq, true_and] at hxx
          obtain ⟨rfl, rfl⟩ := hxx
          have HRD1 := Lib.hid hrd1
          have hb1 := hA1.below
          have HB1 := Lib.hid hb1
          have LN := Lib.hid (hA1.count _ ⟨0, rfl⟩)
          have N1 := Lib.hid (hA1.noText (n := (T.length : Int)) (by omega) _ ⟨0, rfl⟩)
          have N2 := Lib.hid (hA1.noText (n := -1) (by omega) _ ⟨0, rfl⟩)
          clear hrd1 hA1 hb1 he
          go_wp2_with fail
          refine (RF.out _ _ _ _ _ HRD1.out (by omega)).mono ?_
          rintro e w2 ⟨rfl, rfl⟩
          rw [HFI.out]
          go_wp2_with fail
          refine (LN.out).mono ?_
          rintro e w2 ⟨rfl, rfl⟩
          go_wp2_with fail
          refine (N1.out).mono ?_
          rintro e w2 ⟨rfl, rfl⟩
          go_wp2_with fail
          refine (N2.out).mono ?_
          rintro e w2 ⟨rfl, rfl⟩
          go_wp2_with fail
          refine (awake29_any _).mono ?_
          rintro e w3 ⟨rfl, hb3⟩
          go_wp2_with fail
          go_ret
          exact ⟨rfl, (HB1.out).trans (hb3.mono (HB1.out).size)⟩
        · have hfa : ∀ e, FindAns T.length (fnd T s) e → e = .returned (.tuple #[.int .i64 0, .bool false]) := fun e he => by unfold FindAns at he; rw [if_neg hf, decide_eq_false hf] at he; exact he
          have hfi : fndI T s = -1 := by unfold fndI; rw [if_neg hf]
          have HFA := Lib.hid hfa
          have HFI := Lib.hid hfi
          clear hfa hfi hf
          go_wp2_with fail
          refine (FD.out).mono ?_
          rintro e w1 ⟨he, d, rfl⟩
          have he' := HFA.out e he
          subst he'
          have hA1 := (HT.out).drewN d
          obtain ⟨xa1, xc1, hxx, hrd1⟩ := hA1.reads
          simp only [Value.slice.injEq, true_and] at hxx
          obtain ⟨rfl, rfl⟩ := hxx
          have HRD1 := Lib.hid hrd1
          have hb1 := hA1.below
          have HB1 := Lib.hid hb1
          have LN := Lib.hid (hA1.count _ ⟨0, rfl⟩)
          have N1 := Lib.hid (hA1.noText (n := (T.length : Int)) (by omega) _ ⟨0, rfl⟩)
          have N2 := Lib.hid (hA1.noText (n := -1) (by omega) _ ⟨0, rfl⟩)
          clear hrd1 hA1 hb1 he
          go_wp2_with fail
          refine (RF.out _ _ _ _ _ HRD1.out (by omega)).mono ?_
          rintro e w2 ⟨rfl, rfl⟩
          rw [HFI.out]
          go_wp2_with fail
          refine (LN.out).mono ?_
          rintro e w2 ⟨rfl, rfl⟩
          go_wp2_with fail
          refine (N1.out).mono ?_
          rintro e w2 ⟨rfl, rfl⟩
          go_wp2_with fail
          refine (N2.out).mono ?_
          rintro e w2 ⟨rfl, rfl⟩
          go_wp2_with fail
          refine (awake29_any _).mono ?_
          rintro e w3 ⟨rfl, hb3⟩
          go_wp2_with fail
          go_ret
          exact ⟨rfl, (HB1.out).trans (hb3.mono (HB1.out).size)⟩
end Go.Proofs.Ytkambjfhhmgniaa
