/-
  'append(v, ys...)' to a slice of the call's own, ys of whatever length, nil or not.
-/
import Derived.Test.YtbplkphjjfgkmaaDoorRec
import Derived.Maps.AppendAt
namespace Go.Proofs.YtbplkphjjfgkmaaDoor
open Go.RowKit
set_option linter.unusedVariables false
set_option linter.unusedSimpArgs false

theorem run_app_nil {P : Program} {w : World} {base : Nat} {t ty e : TypeId} {i : TypeInfo} {size : Nat} (ht : P.underlying t = some (.slice e)) (hi : P.info? e = some i)
    {v : Value} {n : Nat} {xs : List Value} (hown : w.ownsRow base e size v n xs) (c : Nat) : (Builtin.append_ #[t, t] ty #[v, .slice none 0 c]).run P w = .ok v w := by
  rcases hown.2 with ⟨rfl, rfl⟩ | ⟨g, cap, cur, rfl, _, _, hnc, _⟩
  · simp [Builtin.append_, run_underlying ht, sizeOf, typeInfo, hi, Builtin.lenOf, Builtin.firstCells]
  · simp [Builtin.append_, run_underlying ht, sizeOf, typeInfo, hi, Builtin.lenOf, Builtin.firstCells, hnc, storeCells]
theorem append_any {P : Program} {ops : Array Oper} {rest : List Oper} {o : Oper} {a : Act} {Q : Exit → Act → World → Prop} (hgd : o.guard = none) (s x : Operand) (t : TypeId)
    (ho : o.op = .call { callee := .builtin .append, args := #[s, x], argTypes := #[t, t] })
    (e : TypeId) (z : Value) (size bytes : Nat) (ht : P.underlying t = some (.slice e)) (hi : (P.info? e).map (fun i => (i.zero, i.size, i.bytes)) = some (some z, size, bytes)) (hzs : z.cells.size = size) (hsz : 0 < size)
    {wr : World} {base : Nat} {v : Value} {n : Nat} {xs : List Value} (hs : a.eval s = v) (hown : wr.ownsRow base e size v n xs) (hbase : base ≤ wr.heap.size)
    (A : Option Addr) (m c : Nat) (ys : List Value) (hx : a.eval x = .slice A m c) (hl : ys.length = m * size) (hr : Reads wr A ys) (hu : ∀ u ∈ ys, u.oneCell' = true) (hby : 0 < bytes) (hbytes : (n + m) * bytes ≤ 140737488355328)
    (h : ∀ v' w', w'.ownsRow base e size v' (n + m) (xs ++ ys) → Keeps (fun k => v.ownBlock = some k) wr w' → (∀ j, v'.ownBlock = some j → v.ownBlock = some j ∨ wr.heap.size ≤ j) → wpList P ops Q rest (a.put o.dst v') w') :
    wpList P ops Q (o :: rest) a wr := by
  obtain ⟨i, hi0, hz0, hz1, hz2⟩ := info_got hi
  have hmx : n + m ≤ maxLen := by have := Nat.le_mul_of_pos_right (n + m) hby; unfold maxLen; omega
  have hrun : ∃ v' w', (Builtin.append_ #[t, t] o.type #[v, .slice A m c]).run P wr = .ok v' w' ∧ w'.ownsRow base e size v' (n + m) (xs ++ ys) ∧ Keeps (fun k => v.ownBlock = some k) wr w' ∧ (∀ j, v'.ownBlock = some j → v.ownBlock = some j ∨ wr.heap.size ≤ j) := by
    rcases A with _ | ad
    · have hy : ys = [] := by
        rcases hr with h0 | ⟨b, off, h1, _⟩
        · exact h0
        · cases h1
      subst hy
      have hm : m = 0 := by
        rcases Nat.eq_zero_or_pos m with h0 | h0
        · exact h0
        · have := Nat.mul_pos h0 hsz; simp at hl; omega
      subst hm
      exact ⟨v, wr, run_app_nil ht hi0 hown c, by simpa using hown, Keeps.refl _ _, fun j hj => Or.inl hj⟩
    · have hcells : ∀ j u, ys[j]? = some u → wr.cell? (ad.add j) = some u := fun j u hj => by
        have hlt : j < ys.length := (List.getElem?_eq_some_iff.1 hj).1
        obtain ⟨b, off, hab, hc⟩ := hr.at (by omega)
        injection hab with hab
        subst hab
        have hadd : (⟨b, off, none⟩ : Addr).add j = ⟨b, off + j, none⟩ := by unfold Addr.add; split <;> simp_all
        rw [hadd, hc j hlt, hj]
      obtain ⟨v', w', h1, h2, h3, _, h5⟩ := run_append_own_at (P := P) wr base t o.type e i z size bytes ht hi0 hz0 hz1 hz2 hzs hsz v n xs hown ad m c ys hl hcells hu hmx hbytes hbase
      refine ⟨v', w', h1, h2, Keeps.grown h3 (fun k hk => hk), fun j hj => ?_⟩
      rcases h5 with h6 | h6
      · exact Or.inl (by rw [← h6]; exact hj)
      · rw [h6] at hj
        have : wr.heap.size = j := Option.some.inj hj
        exact Or.inr (by omega)
  obtain ⟨v', w', h1, h2, h3, h4⟩ := hrun
  refine wpList_plain hgd fun _ hK => ?_
  unfold Oper.wp execOp
  simp only [ho, resolve, invoke, builtin, Sem.run_bind, Sem.run_pure, Result.andThen_ok, List.map_toArray, List.map_cons, List.map_nil, hs, hx, h1]
  exact hK _ _ (h v' w' h2 h3 h4)
end Go.Proofs.YtbplkphjjfgkmaaDoor
