/-
  Names: what it is that a table lies in memory; the limits of kinds; how one statement more is put.
-/
import Derived.Test.YtpbgicfoopicbaaNamPlain
import Derived.Maps.OwnSet
import Derived.DeepKeys4
namespace Go.Proofs.Ytpbgicfoopicbaa
open Go.RowKit Go.Maps
set_option linter.unusedVariables false
set_option linter.unusedSimpArgs false

theorem nlaidOut : laidOutB Try.prog = true := by kernel_rfl
theorem lawS : Keyed Try.prog 9 := string_keyed Try.underlying9
theorem lawP : Keyed Try.prog 127 := Keyed.of_law (deep_law_laid nlaidOut (m := 3) (by omega) (of_decide_eq_true (by kernel_rfl)) (by kernel_rfl) (by kernel_rfl))
theorem zeroI (w : World) : (zeroValue 3).run Try.prog w = .ok (.int .i64 0) w := by kernel_rfl
theorem infoN : (Try.prog.info? 9).map (fun i => (i.zero, i.size, i.bytes)) = some (some (.string ByteArray.empty), 1, 16) := by kernel_rfl
theorem infoP : (Try.prog.info? 127).map (fun i => (i.zero, i.size, i.bytes)) = some (some (.agg #[.int .i64 0, .int .i64 0]), 2, 16) := by kernel_rfl
set_option maxHeartbeats 400000 in
theorem most_any (k : Int) (w : World) : Calls Try.prog 64 #[.int .i64 k] w fun e w' => e = .returned (.int .i64 (Nm.most k)) ∧ w = w' := by
  have H : Hid (Nm.most k = if k = 1 then 5 else if k = 2 then 4 else if k = 3 then 4 else if k = 4 then 8 else if k = 5 then 6 else if k = 6 then 12 else if k = 7 then 8 else if k = 8 then 6 else 0) := Lib.hid rfl
  go_enter Try.func64, Try.ntmps64
  go_wp2
  all_goals go_ret
  all_goals refine ⟨ret_int ?_, rfl⟩
  all_goals rw [H.out]
  all_goals simp_all
theorem cells95 : Try.prog.cellsOf 127 = 2 := by kernel_rfl
theorem cellsInt : Try.prog.cellsOf 3 = 1 := by kernel_rfl
theorem keyT95 : Try.prog.keyType 127 = true := by kernel_rfl
theorem pfields : ∃ a b, Try.prog.underlying 127 = some (.struct #[a, b]) ∧ a.type = 3 ∧ b.type = 3 ∧ a.offset = 0 ∧ b.offset = 1 ∧ (a.name != "_") = true ∧ (b.name != "_") = true := ⟨_, _, Try.underlying127, rfl, rfl, rfl, rfl, rfl, rfl⟩
theorem slots95 : ∃ d, Try.prog.types.size + 1 = d + 2 := ⟨Try.prog.types.size - 1, by have : (0 : Nat) < Try.prog.types.size := of_decide_eq_true (by kernel_rfl); omega⟩
namespace Nm
def slit (s : ByteArray) : Lit := .string s.data.toList
noncomputable def klit (k n : Int) : Lit := .string (keyBytes [.int .i64 k, .int .i64 n])
end Nm
theorem keyS (s : ByteArray) (h : s.size ≤ maxLen) : keyOf Try.prog 9 (.string s) = some (Nm.slit s) := Go.WideMaps.keyOf_string_mk Try.underlying9 h
theorem keyP (k n : Int) (hk : (Lit.int .i64 k).wf = true) (hn : (Lit.int .i64 n).wf = true) : keyOf Try.prog 127 (.agg #[.int .i64 k, .int .i64 n]) = some (Nm.klit k n) := by
  obtain ⟨a, b, hu, ta, tb, oa, ob, na, nb⟩ := pfields
  obtain ⟨d, hd⟩ := slots95
  have hf : (Value.agg #[.int .i64 k, .int .i64 n]).formed Try.prog 127 = true := by simp [Value.formed, hu, cells95]
  unfold keyOf
  rw [hu]
  simp only [keyT95, hf, Bool.and_self, if_true]
  rw [hd]
  have hi : Try.prog.underlying 3 = some (.int .i64) := Try.underlying3
  simp [Program.keyLits, hu, Value.cells, cells95, ta, tb, oa, ob, cellsInt, hi, hk, hn, Nm.klit]
  exact ⟨by simpa using na, by simpa using nb⟩
theorem slit_inj {s t : ByteArray} (h : Nm.slit s = Nm.slit t) : s = t := by
  unfold Nm.slit at h
  cases s; cases t
  simpa using h
theorem klit_inj {k n k' n' : Int} (hk : (Lit.int .i64 k).wf = true) (hn : (Lit.int .i64 n).wf = true) (hk' : (Lit.int .i64 k').wf = true) (hn' : (Lit.int .i64 n').wf = true) (h : Nm.klit k n = Nm.klit k' n') : k = k' ∧ n = n' := by
  have := lawP.inj (keyP k n hk hn) (h ▸ keyP k' n' hk' hn')
  simpa using this
theorem key_slit (s : ByteArray) (h : s.size ≤ maxLen) : WideAt.IsKeyLit (Nm.slit s) := lawS.key (keyS s h)
theorem key_klit {k n : Int} (hk : (Lit.int .i64 k).wf = true) (hn : (Lit.int .i64 n).wf = true) : WideAt.IsKeyLit (Nm.klit k n) := lawP.key (keyP k n hk hn)
theorem wfI {n : Int} (h : -9223372036854775808 ≤ n ∧ n ≤ 9223372036854775807) : (Lit.int .i64 n).wf = true := by simpa [Lit.wf, IntKind.min, IntKind.max, IntKind.signed, IntKind.bits] using h
abbrev Dat := DataW Unit
def i64D (n : Int) : Dat := .lit (.int .i64 n)
namespace Nm
def encP (x : Int × Nat) : List Value := [.int .i64 x.1, .int .i64 (x.2 : Nat)]
theorem encP_len (x : Int × Nat) : (encP x).length = 2 := rfl
/-- The map tells of names: where they stand. -/
structure MapN (D : Dat) (ns : List ByteArray) : Prop where
  map : IsMap D
  yes : ∀ s, s ∈ ns → Maps.has D (slit s) = true
  no : ∀ s, s ∉ ns → Maps.has D (slit s) = false
  at_ : ∀ (i : Nat) (s : ByteArray) (z : Dat), ns[i]? = some s → D.atKey (slit s) z = i64D i
structure MapP (D : Dat) (ps : List (Int × Nat)) : Prop where
  map : IsMap D
  yes : ∀ k n, (k, n) ∈ ps → Maps.has D (klit k n) = true
  no : ∀ (k n : Int), (Lit.int .i64 k).wf = true → (Lit.int .i64 n).wf = true → (∀ m : Nat, (k, m) ∈ ps → n ≠ m) → Maps.has D (klit k n) = false
  at_ : ∀ (i : Nat) (k : Int) (n : Nat) (z : Dat), ps[i]? = some (k, n) → D.atKey (klit k n) z = i64D i
theorem MapN.empty : MapN (.map []) [] := ⟨isMap_empty, by simp, fun _ _ => rfl, by simp⟩
theorem MapP.empty : MapP (.map []) [] := ⟨isMap_empty, by simp, fun _ _ _ _ _ => rfl, by simp⟩
theorem MapN.put {D : Dat} {ns : List ByteArray} (h : MapN D ns) (s : ByteArray) (hs : s.size ≤ maxLen) (hn : s ∉ ns) : MapN (D.put (slit s) (i64D ns.length)) (ns ++ [s]) := by
  refine ⟨h.map.put _ _, fun t ht => ?_, fun t ht => ?_, fun i t z hi => ?_⟩
  · by_cases e : t = s
    · subst e; exact has_put_same h.map (key_slit t hs) _
    · rw [has_put_other (fun e2 => e (slit_inj e2))]
      rcases List.mem_append.1 ht with h1 | h1
      · exact h.yes t h1
      · exact absurd (List.mem_singleton.1 h1) e
  · rw [List.mem_append, List.mem_singleton, not_or] at ht
    rw [has_put_other (fun e2 => ht.2 (slit_inj e2))]
    exact h.no t ht.1
  · rw [List.getElem?_append] at hi
    split at hi
    · have : t ∈ ns := List.mem_of_getElem? hi
      rw [atKey_put_other (fun e2 => by have h3 := slit_inj e2; subst h3; exact hn this)]
      exact h.at_ i t z hi
    · rename_i h1
      have h2 : i - ns.length = 0 := by
        have := (List.getElem?_eq_some_iff.1 hi).1
        simp at this; omega
      rw [h2] at hi
      simp at hi
      subst hi
      have h3 : i = ns.length := by omega
      subst h3
      exact atKey_put_same h.map (key_slit s hs) _ z
theorem MapP.put {D : Dat} {ps : List (Int × Nat)} (h : MapP D ps) (k : Int) (n : Nat) (hw : ∀ x ∈ ps, (Lit.int .i64 x.1).wf = true ∧ (Lit.int .i64 (x.2 : Nat)).wf = true) (hk : (Lit.int .i64 k).wf = true) (hnw : (Lit.int .i64 (n : Nat)).wf = true) (hn : (k, n) ∉ ps) : MapP (D.put (klit k n) (i64D ps.length)) (ps ++ [(k, n)]) := by
  refine ⟨h.map.put _ _, fun k' n' ht => ?_, fun k' n' hk' hn' ht => ?_, fun i k' n' z hi => ?_⟩
  · by_cases e : (k', n') = (k, n)
    · obtain ⟨rfl, rfl⟩ := Prod.mk.inj e; exact has_put_same h.map (key_klit hk hnw) _
    · rcases List.mem_append.1 ht with h1 | h1
      · rw [has_put_other (fun e2 => by
          have := klit_inj (hw _ h1).1 (hw _ h1).2 hk hnw e2
          exact e (by rw [Prod.mk.injEq]; exact ⟨this.1, by have := this.2; omega⟩))]
        exact h.yes _ _ h1
      · exact absurd (List.mem_singleton.1 h1) e
  · rw [has_put_other (fun e2 => by
      have h3 := klit_inj hk' hn' hk hnw e2
      exact ht n (by rw [h3.1]; simp) h3.2)]
    exact h.no k' n' hk' hn' (fun m hm => ht m (List.mem_append.2 (Or.inl hm)))
  · rw [List.getElem?_append] at hi
    split at hi
    · have hm : (k', n') ∈ ps := List.mem_of_getElem? hi
      rw [atKey_put_other (fun e2 => by
        have h3 := klit_inj (hw _ hm).1 (hw _ hm).2 hk hnw e2
        have h5 : k' = k := h3.1
        have h4 : n' = n := by have := h3.2; simp only at this; omega
        rw [h5, h4] at hm
        exact hn hm)]
      exact h.at_ i k' n' z hi
    · rename_i h1
      have h2 : i - ps.length = 0 := by
        have := (List.getElem?_eq_some_iff.1 hi).1
        simp at this; omega
      rw [h2] at hi
      simp at hi
      obtain ⟨rfl, rfl⟩ := hi
      have h3 : i = ps.length := by omega
      subst h3
      exact atKey_put_same h.map (key_klit hk hnw) _ z
end Nm
/-- At p lies the table of the statements L. -/
structure IsN (w : World) (B p : Nat) (cs : Array Value) (vn vp : Value) (b1 b2 : Nat) (D1 D2 : Dat) (L : List St) : Prop where
  block : w.heap[p]? = some (.cells cs 100 (0, 0))
  size : cs.size = 13
  c0 : cs[0]? = some vn
  c1 : cs[1]? = some vp
  c2 : cs[2]? = some (.map (some b1))
  c3 : cs[3]? = some (.map (some b2))
  cc : ∀ k : Nat, 1 ≤ k → k ≤ 8 → cs[4 + k]? = some (.int .i64 (Nm.cnt L k : Nat))
  z0 : cs[4]? = some (.int .i64 0)
  on : w.ownsRow B 9 1 vn (Nm.names L).length ((Nm.names L).map Value.string)
  op : w.ownsRow B 127 2 vp (Nm.places L).length (Rec.flat Nm.encP (Nm.places L))
  m1 : w.ownsMap Try.prog 9 (plainElem Try.prog 3) b1 (Nm.names L).length D1
  m2 : w.ownsMap Try.prog 127 (plainElem Try.prog 3) b2 (Nm.places L).length D2
  n1 : Nm.MapN D1 (Nm.names L)
  n2 : Nm.MapP D2 (Nm.places L)
  base : B ≤ p
  base1 : B ≤ b1
  base2 : B ≤ b2
  apart : b1 ≠ b2
  good : Nm.Good L
  sizes : ∀ s ∈ Nm.names L, s.size ≤ maxLen
end Go.Proofs.Ytpbgicfoopicbaa
