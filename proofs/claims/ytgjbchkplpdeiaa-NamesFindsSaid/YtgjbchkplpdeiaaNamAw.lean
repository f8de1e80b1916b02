/-
  Names: chapter 9's example.
-/
import Derived.Test.YtgjbchkplpdeiaaNamBuild
import Derived.Test.YtgjbchkplpdeiaaNamLst
import Derived.Laws.StructEq
namespace Go.Proofs.Ytgjbchkplpdeiaa
open Go.RowKit Go.Maps
set_option linter.unusedVariables false
set_option linter.unusedSimpArgs false

theorem neqPos (d : Nat) (a b c e : Int) (w : World) : (Op.equalIn (d + 1 + 1) 33 (.agg #[.int .i64 a, .int .i64 b]) (.agg #[.int .i64 c, .int .i64 e])).run Try.prog w = .ok (a == c && b == e) w := by
  have u3 := Try.underlying3
  have a3 := Try.isAgg3
  have z3 := Try.sizeOf3
  rw [run_equalIn_struct w (d + 1) 33 _ _ (by rw [Program.fieldsOf, Try.underlying33]) (by kernel_rfl)]
  simp only [Program.fieldsOf, Try.underlying33, Op.eqFields]
  go_simp
  by_cases h1 : a = c <;> by_cases h2 : b = e <;> simp [h1, h2]
def sameF (a b c d e f : Int) : Bool := a == d && (b == e && c == f)
theorem neqFault (a b c d e f : Int) (w : World) : (Op.equalIn 10000 43 (.agg #[.int .i64 a, .int .i64 b, .int .i64 c]) (.agg #[.int .i64 d, .int .i64 e, .int .i64 f])).run Try.prog w = .ok (sameF a b c d e f) w := by
  have u24 := Try.underlying24
  have a24 := Try.isAgg24
  have z24 := Try.sizeOf24
  have a40 := Try.isAgg33
  have z40 := Try.sizeOf33
  have q40 := fun a b c e w => neqPos 9997 a b c e w
  rw [show (10000 : Nat) = 9999 + 1 from rfl, run_equalIn_struct w 9999 43 _ _ (by rw [Program.fieldsOf, Try.underlying43]) (by kernel_rfl)]
  simp only [Program.fieldsOf, Try.underlying43, Op.eqFields]
  unfold sameF
  go_simp
  by_cases h1 : a = d <;> by_cases h2 : b = e <;> by_cases h3 : c = f <;> simp [h1, h2, h3]
def exS (k : Int) (s : ByteArray) : St := ⟨k, s, 0, 0, .int .i64 0, .slice none 0 0, .string { data := #[] }, .string { data := #[] }, .string { data := #[] }, .int .i64 0, .slice none 0 0, .bool false⟩
def exL : List St := [exS 2 { data := #[117] }, exS 4 { data := #[115] }, exS 2 { data := #[118] }]
theorem err_ok {L : List St} {x : St} (h1 : Nm.most x.kind ≠ 0) (h2 : (Nm.cnt L x.kind : Int) ≠ Nm.most x.kind) (h3 : x.name ∉ Nm.names L) : Nm.errOf L x = 0 := by
  unfold Nm.errOf; rw [if_neg h1, if_neg h2, if_neg (fun h => h3 h.2)]
theorem ba_ne {a b : Array UInt8} (h : a ≠ b) : ({ data := a } : ByteArray) ≠ { data := b } := fun e => h (by cases e; rfl)
theorem exL_good : Nm.Good exL := by
  have h1 : Nm.Good [exS 2 { data := #[117] }] := Nm.Good.snoc .nil (err_ok (by decide) (by decide) (by simp [Nm.names, Nm.ents, Nm.entsA]))
  have h2 : Nm.Good [exS 2 { data := #[117] }, exS 4 { data := #[115] }] := Nm.Good.snoc h1 (err_ok (by decide) (by decide) (by
    show _ ∉ [({ data := #[117] } : ByteArray)]
    rw [List.mem_singleton]; exact ba_ne (by decide)))
  exact Nm.Good.snoc h2 (err_ok (by decide) (by decide) (by
    show _ ∉ [({ data := #[117] } : ByteArray), { data := #[115] }]
    rw [List.mem_cons, List.mem_singleton, not_or]; exact ⟨ba_ne (by decide), ba_ne (by decide)⟩))
theorem exL_names : (Nm.names exL)[2]? = some { data := #[118] } := rfl
theorem exL_places : (Nm.places exL)[2]? = some ((2 : Int), (1 : Nat)) := rfl
theorem exL_fit : ∀ x ∈ exL, x.fit := by
  have key : ∀ (k : Int) (b : UInt8), (k = 2 ∨ k = 4) → (exS k { data := #[b] }).fit := fun k b hk => ⟨by rcases hk with e | e <;> subst e <;> simp [exS], by show 1 ≤ maxLen; unfold maxLen; omega, fun v hv => by
    simp only [exS, St.cells, List.mem_cons, List.not_mem_nil, or_false] at hv
    rcases hv with rfl | rfl | rfl | rfl | rfl | rfl | rfl | rfl | rfl | rfl | rfl | rfl <;> rfl⟩
  intro x hx
  simp only [exL, List.mem_cons, List.not_mem_nil, or_false] at hx
  rcases hx with rfl | rfl | rfl
  · exact key 2 117 (Or.inl rfl)
  · exact key 4 115 (Or.inr rfl)
  · exact key 2 118 (Or.inl rfl)
theorem exL_at (w : World) (cs : Array Value) (hcs : cs.toList = Rec.flat St.cells exL) : RdS (w.alloc (.cells cs 57)) (some ⟨w.heap.size, 0, none⟩) exL :=
  Or.inr ⟨w.heap.size, 0, rfl, fun j hj => by rw [Nat.zero_add, World.cell?_alloc_at _ _ _ _ rfl, ← Array.getElem?_toList, hcs]⟩
/-- The example is as it should be. -/
theorem ex_build (w : World) (cs : Array Value) (hcs : cs.toList = Rec.flat St.cells exL) :
    Calls Try.prog 28 #[.slice (some ⟨w.heap.size, 0, none⟩) 3 3] (w.alloc (.cells cs 57)) fun e w' => ∃ p, e = .returned (.tuple #[.pointer (some ⟨p, 0, none⟩), .agg #[.int .i64 0, .int .i64 0, .int .i64 0]]) ∧ Below w.heap.size w w' ∧
      ∀ w2, Below w'.heap.size w' w2 → Calls Try.prog 30 #[.pointer (some ⟨p, 0, none⟩), .string { data := #[118] }] w2 fun e w3 => e = .returned (.tuple #[.int .i64 2, .int .i64 1, .bool true]) ∧ ∃ m, w3 = w2.drewN m := by
  refine (build_any _ _ exL _ (exL_at w cs hcs) exL_fit (by decide)).mono ?_
  rintro e w' (⟨hg, p, cs', vn, vp, b1, b2, D1, D2, he, hi, hb⟩ | ⟨i, hi, _, hne, _⟩)
  · have hb2 : Below w.heap.size w w' := ((Below.refl _ _).alloc (Nat.le_refl _) _).trans (hb.mono (by simp))
    refine ⟨p, he, hb2, fun w2 h2 => ?_⟩
    have hz : (w.alloc (.cells cs 57)).heap.size + 1 ≤ w'.heap.size := by have := lt_of_cell (hi.cell 0 |>.trans hi.c0); have := hi.base; simp only at *; omega
    exact find_yes _ (by show 1 ≤ maxLen; unfold maxLen; omega) (hi.still hz h2) 2 2 1 exL_names exL_places
  · exact absurd (Nm.good_at exL_good i hi) hne
set_option maxHeartbeats 1000000 in
theorem nawake_any (w : World) : Calls Try.prog 27 #[] w fun e w' => e = .returned (.bool true) ∧ Below w.heap.size w w' := by
  have hq : ∀ w, (Op.equalIn 10000 43 (.agg #[.int .i64 0, .int .i64 0, .int .i64 0]) (.agg #[.int .i64 0, .int .i64 0, .int .i64 0])).run Try.prog w = .ok true w := fun w => neqFault 0 0 0 0 0 0 w
  go_enter Try.func27, Try.ntmps27
  go_wp2_with fail
  refine (ex_build w _ rfl).mono ?_
  rintro e w2 ⟨p, rfl, hb, hfind⟩
  have HB := Lib.hid hb
  have HFIND := Lib.hid hfind
  clear hb hfind
  go_wp2_with fail
  refine (HFIND.out _ (bel_alloc _ _)).mono ?_
  rintro e w3 ⟨rfl, m, rfl⟩
  go_wp2_with fail
  go_ret
  exact ⟨rfl, nbelow_dn (HB.out.trans ((bel_alloc w2 _).mono HB.out.size)) m⟩
end Go.Proofs.Ytgjbchkplpdeiaa
