/-
  Rising lists, each number once: what sorting and compacting give, and what putting in one by one gives, are the same.
-/
import Derived.Lib.SlicesCompact
namespace Go.Proofs.YtbplkphjjfgkmaaDoor
set_option linter.unusedVariables false
set_option linter.unusedSimpArgs false
namespace Sr
theorem snocInd {α : Type} {P : List α → Prop} (nil : P []) (snoc : ∀ l x, P l → P (l ++ [x])) (l : List α) : P l := by
  have h : ∀ r : List α, P r.reverse := by
    intro r
    induction r with
    | nil => simpa using nil
    | cons x r ih => rw [List.reverse_cons]; exact snoc _ _ ih
  simpa using h l.reverse
/-- Strictly rising. -/
def Up (l : List Int) : Prop := l.Pairwise (· < ·)
theorem up_ext : ∀ {a b : List Int}, Up a → Up b → (∀ x, x ∈ a ↔ x ∈ b) → a = b
  | [], [], _, _, _ => rfl
  | [], y :: b, _, _, h => absurd ((h y).2 (by simp)) (by simp)
  | x :: a, [], _, _, h => absurd ((h x).1 (by simp)) (by simp)
  | x :: a, y :: b, ha, hb, h => by
    have ha1 := (List.pairwise_cons.1 ha)
    have hb1 := (List.pairwise_cons.1 hb)
    have hxy : x = y := by
      rcases List.mem_cons.1 ((h x).1 (by simp)) with e | e
      · exact e
      · have h1 := hb1.1 x e
        rcases List.mem_cons.1 ((h y).2 (by simp)) with e2 | e2
        · exact e2.symm
        · have h2 := ha1.1 y e2
          omega
    subst hxy
    congr 1
    refine up_ext ha1.2 hb1.2 (fun z => ?_)
    have hz := h z
    simp only [List.mem_cons] at hz
    constructor
    · intro hm
      have := ha1.1 z hm
      rcases hz.1 (Or.inr hm) with e | e
      · omega
      · exact e
    · intro hm
      have := hb1.1 z hm
      rcases hz.2 (Or.inr hm) with e | e
      · omega
      · exact e
/-- What num.Sorted answers. -/
def srt (l : List Int) : List Int := Lib.compact (l.mergeSort fun x y => decide (x ≤ y))
theorem up_snoc {l : List Int} {x : Int} (h : Up l) (h2 : ∀ y ∈ l, y < x) : Up (l ++ [x]) := by
  unfold Up at *
  rw [List.pairwise_append]
  exact ⟨h, by simp, fun a ha b hb => by simp at hb; subst hb; exact h2 a ha⟩
theorem comp_up (d : Array Int) (hd : ∀ i j, i ≤ j → j < d.size → d[i]! ≤ d[j]!) (m : Nat) (hm : m ≤ d.size) :
    Up (Lib.compactUpTo d m) ∧ (∀ x, x ∈ Lib.compactUpTo d m ↔ ∃ j, j < m ∧ d[j]! = x) := by
  induction m with
  | zero => exact ⟨List.Pairwise.nil, fun x => by simp [Lib.compactUpTo]⟩
  | succ m ih =>
    obtain ⟨h1, h2⟩ := ih (by omega)
    rw [Lib.compactUpTo_succ]
    by_cases hk : Lib.keeps d m = true
    · rw [if_pos hk]
      have hk2 : m = 0 ∨ d[m]! ≠ d[m - 1]! := by simpa [Lib.keeps] using hk
      refine ⟨up_snoc h1 (fun y hy => ?_), fun x => ?_⟩
      · obtain ⟨j, hj, rfl⟩ := (h2 y).1 hy
        have a1 := hd j (m - 1) (by omega) (by omega)
        have a2 := hd (m - 1) m (by omega) (by omega)
        rcases hk2 with h | h <;> omega
      · rw [List.mem_append, h2 x]
        constructor
        · rintro (⟨j, hj, rfl⟩ | h)
          · exact ⟨j, by omega, rfl⟩
          · simp at h; exact ⟨m, by omega, h.symm⟩
        · rintro ⟨j, hj, rfl⟩
          rcases Nat.lt_or_ge j m with h | h
          · exact Or.inl ⟨j, h, rfl⟩
          · have : j = m := by omega
            subst this; exact Or.inr (by simp)
    · rw [if_neg hk, List.append_nil]
      have hk2 : ¬ (m = 0 ∨ d[m]! ≠ d[m - 1]!) := by simpa [Lib.keeps] using hk
      have hk3 : m ≠ 0 ∧ d[m]! = d[m - 1]! := ⟨fun h => hk2 (Or.inl h), Classical.byContradiction fun h => hk2 (Or.inr h)⟩
      refine ⟨h1, fun x => ?_⟩
      rw [h2 x]
      constructor
      · rintro ⟨j, hj, rfl⟩
        exact ⟨j, by omega, rfl⟩
      · rintro ⟨j, hj, rfl⟩
        rcases Nat.lt_or_ge j m with h | h
        · exact ⟨j, h, rfl⟩
        · have : j = m := by omega
          subst this
          exact ⟨j - 1, by omega, hk3.2.symm⟩
theorem srt_is (l : List Int) : Up (srt l) ∧ ∀ x, x ∈ srt l ↔ x ∈ l := by
  unfold srt Lib.compact
  have hs : (l.mergeSort fun x y => decide (x ≤ y)).Pairwise (fun a b => decide (a ≤ b) = true) :=
    List.pairwise_mergeSort (fun a b c h1 h2 => by simp at h1 h2 ⊢; omega) (fun a b => by simp; omega) l
  have hp := List.mergeSort_perm l (fun x y => decide (x ≤ y))
  generalize (l.mergeSort fun x y => decide (x ≤ y)) = s at *
  have hd : ∀ i j, i ≤ j → j < s.toArray.size → s.toArray[i]! ≤ s.toArray[j]! := by
    intro i j hij hj
    have hj' : j < s.length := by simpa using hj
    rw [getElem!_pos _ i (by simp; omega), getElem!_pos _ j hj]
    rcases Nat.lt_or_ge i j with h | h
    · have := List.pairwise_iff_getElem.1 hs i j (by omega) hj' h
      simpa using this
    · have : i = j := by omega
      subst this; exact Int.le_refl _
  obtain ⟨h1, h2⟩ := comp_up s.toArray hd s.length (by simp)
  refine ⟨h1, fun x => ?_⟩
  rw [h2 x, ← hp.mem_iff]
  constructor
  · rintro ⟨j, hj, rfl⟩
    rw [getElem!_pos _ j (by simpa using hj)]
    exact List.getElem_mem _
  · intro h
    obtain ⟨j, hj, rfl⟩ := List.mem_iff_getElem.1 h
    exact ⟨j, hj, by rw [getElem!_pos _ j (by simpa using hj)]; rfl⟩
/-- One number put into a list: what stands in the new list after so many, and whether it is in. -/
def put1 (x : Int) (s : List Int × Bool) (y : Int) : List Int × Bool := ((s.1 ++ (if (!s.2 && decide (x ≤ y)) = true then [x] else [])) ++ (if y = x then [] else [y]), s.2 || decide (x ≤ y))
def puts (x : Int) (p : List Int) : List Int × Bool := p.foldl (put1 x) ([], false)
theorem puts_snoc (x : Int) (p : List Int) (y : Int) : puts x (p ++ [y]) = put1 x (puts x p) y := by simp [puts, List.foldl_append]
def ins (x : Int) (p : List Int) : List Int := (puts x p).1 ++ (if (puts x p).2 = true then [] else [x])
theorem puts_is (x : Int) (p : List Int) (hp : Up p) : Up (puts x p).1 ∧ ((puts x p).2 = true ↔ ∃ y ∈ p, x ≤ y) ∧ ∀ z, z ∈ (puts x p).1 ↔ (z ∈ p ∧ z ≠ x) ∨ ((puts x p).2 = true ∧ z = x) := by
  induction p using snocInd with
  | nil => exact ⟨List.Pairwise.nil, by simp [puts], by simp [puts]⟩
  | snoc p y ih =>
    have hp2 : Up p ∧ ∀ a ∈ p, a < y := by
      unfold Up at hp
      rw [List.pairwise_append] at hp
      exact ⟨hp.1, fun a ha => hp.2.2 a ha y (by simp)⟩
    obtain ⟨h1, h2, h3⟩ := ih hp2.1
    rw [puts_snoc]
    have hlt : ∀ z ∈ (puts x p).1, z < y := by
      intro z hz
      rcases (h3 z).1 hz with ⟨a, _⟩ | ⟨a, rfl⟩
      · exact hp2.2 z a
      · obtain ⟨w, hw, hle⟩ := h2.1 a
        have := hp2.2 w hw
        omega
    unfold put1
    by_cases hb : (puts x p).2 = true
    · have hxy : x < y := by
        obtain ⟨w, hw, hle⟩ := h2.1 hb
        have := hp2.2 w hw
        omega
      have hne : ¬ y = x := by omega
      simp only [hb, Bool.not_true, Bool.false_and, Bool.false_eq_true, if_false, List.append_nil, if_neg hne, Bool.true_or]
      refine ⟨up_snoc h1 hlt, by simp; exact Or.inr (by omega), fun z => ?_⟩
      rw [List.mem_append, h3 z, List.mem_append, hb]
      simp only [List.mem_singleton, true_and]
      constructor
      · rintro ((h | h) | rfl)
        · exact Or.inl ⟨Or.inl h.1, h.2⟩
        · exact Or.inr h
        · exact Or.inl ⟨Or.inr rfl, hne⟩
      · rintro (⟨h | rfl, h4⟩ | h)
        · exact Or.inl (Or.inl ⟨h, h4⟩)
        · exact Or.inr rfl
        · exact Or.inl (Or.inr h)
    · have hbf : (puts x p).2 = false := by simpa using hb
      have hno : ∀ w ∈ p, w < x := fun w hw => Int.not_le.1 (fun hle => hb (h2.2 ⟨w, hw, hle⟩))
      have hlx : ∀ z ∈ (puts x p).1, z < x := by
        intro z hz
        rcases (h3 z).1 hz with ⟨a, _⟩ | ⟨a, _⟩
        · exact hno z a
        · exact absurd a hb
      have h3' : ∀ z, z ∈ (puts x p).1 ↔ z ∈ p := by
        intro z
        rw [h3 z, hbf]
        constructor
        · rintro (⟨h, _⟩ | ⟨h, _⟩)
          · exact h
          · cases h
        · intro h
          have := hno z h
          exact Or.inl ⟨h, by omega⟩
      by_cases hxy : x ≤ y
      · simp only [hbf, Bool.not_false, Bool.true_and, decide_eq_true hxy, if_true, Bool.false_or]
        by_cases hyx : y = x
        · subst hyx
          rw [if_pos rfl, List.append_nil]
          refine ⟨up_snoc h1 hlx, by simp, fun z => ?_⟩
          rw [List.mem_append, h3' z, List.mem_append]
          simp only [List.mem_singleton, true_and]
          constructor
          · rintro (h | rfl)
            · have := hno z h
              exact Or.inl ⟨Or.inl h, by omega⟩
            · exact Or.inr rfl
          · rintro (⟨h | rfl, h4⟩ | h)
            · exact Or.inl h
            · exact absurd rfl h4
            · exact Or.inr h
        · rw [if_neg hyx]
          have hu := up_snoc h1 hlx
          refine ⟨up_snoc hu (fun z hz => ?_), by simp; exact Or.inr hxy, fun z => ?_⟩
          · rcases List.mem_append.1 hz with h | h
            · exact hlt z h
            · simp at h; omega
          · rw [List.mem_append, List.mem_append, h3' z, List.mem_append]
            simp only [List.mem_singleton, true_and]
            constructor
            · rintro ((h | rfl) | rfl)
              · have := hno z h
                exact Or.inl ⟨Or.inl h, by omega⟩
              · exact Or.inr rfl
              · exact Or.inl ⟨Or.inr rfl, hyx⟩
            · rintro (⟨h | rfl, h4⟩ | h)
              · exact Or.inl (Or.inl h)
              · exact Or.inr rfl
              · exact Or.inl (Or.inr h)
      · have hyx : ¬ y = x := by omega
        simp only [hbf, Bool.not_false, Bool.true_and, decide_eq_false hxy, Bool.false_eq_true, if_false, List.append_nil, if_neg hyx, Bool.false_or]
        refine ⟨up_snoc h1 hlt, ⟨(fun h => by cases h), fun ⟨w, hw, hle⟩ => ?_⟩, fun z => ?_⟩
        · exfalso
          rcases List.mem_append.1 hw with h | h
          · have := hno w h; omega
          · simp at h; omega
        · rw [List.mem_append, h3' z, List.mem_append]
          simp only [List.mem_singleton, Bool.false_eq_true, false_and, or_false]
          constructor
          · rintro (h | rfl)
            · have := hno z h
              exact ⟨Or.inl h, by omega⟩
            · exact ⟨Or.inr rfl, hyx⟩
          · rintro ⟨h | rfl, h4⟩
            · exact Or.inl h
            · exact Or.inr rfl
theorem ins_is (x : Int) (p : List Int) (hp : Up p) : Up (ins x p) ∧ ∀ z, z ∈ ins x p ↔ z ∈ p ∨ z = x := by
  obtain ⟨h1, h2, h3⟩ := puts_is x p hp
  unfold ins
  by_cases hb : (puts x p).2 = true
  · rw [if_pos hb, List.append_nil]
    refine ⟨h1, fun z => ?_⟩
    rw [h3 z]
    constructor
    · rintro (h | h)
      · exact Or.inl h.1
      · exact Or.inr h.2
    · rintro (h | h)
      · by_cases hz : z = x
        · exact Or.inr ⟨hb, hz⟩
        · exact Or.inl ⟨h, hz⟩
      · exact Or.inr ⟨hb, h⟩
  · rw [if_neg hb]
    have hno : ∀ w ∈ p, w < x := fun w hw => Int.not_le.1 (fun hle => hb (h2.2 ⟨w, hw, hle⟩))
    have h3' : ∀ z, z ∈ (puts x p).1 ↔ z ∈ p := by
      intro z
      rw [h3 z]
      constructor
      · rintro (⟨h, _⟩ | ⟨h, _⟩)
        · exact h
        · exact absurd h hb
      · intro h
        have := hno z h
        exact Or.inl ⟨h, by omega⟩
    refine ⟨up_snoc h1 (fun z hz => hno z ((h3' z).1 hz)), fun z => ?_⟩
    rw [List.mem_append, h3' z]
    simp
/-- What the document's Sorted answers after so many. -/
def rsrt (l : List Int) : List Int := l.foldl (fun out x => ins x out) []
theorem rsrt_snoc (l : List Int) (x : Int) : rsrt (l ++ [x]) = ins x (rsrt l) := by simp [rsrt, List.foldl_append]
theorem rsrt_is (l : List Int) : Up (rsrt l) ∧ ∀ x, x ∈ rsrt l ↔ x ∈ l := by
  induction l using snocInd with
  | nil => exact ⟨List.Pairwise.nil, by simp [rsrt]⟩
  | snoc l y ih =>
    rw [rsrt_snoc]
    obtain ⟨h1, h2⟩ := ins_is y _ ih.1
    refine ⟨h1, fun x => ?_⟩
    rw [h2 x, ih.2 x]
    simp
theorem srt_rsrt (l : List Int) : srt l = rsrt l := up_ext (srt_is l).1 (rsrt_is l).1 (fun x => by rw [(srt_is l).2, (rsrt_is l).2])
theorem ins_len (x : Int) (p : List Int) : (ins x p).length ≤ 2 * p.length + 1 := by
  have h : ∀ q : List Int, (puts x q).1.length ≤ 2 * q.length ∧ ((puts x q).2 = false → (puts x q).1.length ≤ 2 * q.length) := by
    intro q
    induction q using snocInd with
    | nil => simp [puts]
    | snoc q y ih =>
      rw [puts_snoc]
      have h1 := ih.1
      have : (put1 x (puts x q) y).1.length ≤ (puts x q).1.length + 2 := by
        unfold put1
        simp only [List.length_append]
        split <;> split <;> simp
      simp only [List.length_append, List.length_singleton]
      exact ⟨by omega, fun _ => by omega⟩
  have h1 := (h p).1
  unfold ins
  rw [List.length_append]
  split <;> simp <;> omega
/-- How many are below n. -/
def below (n : Int) (l : List Int) : Nat := l.countP (fun y => decide (y < n))
theorem below_snoc (n : Int) (l : List Int) (y : Int) : below n (l ++ [y]) = below n l + (if y < n then 1 else 0) := by
  unfold below
  rw [List.countP_append, List.countP_singleton]
  congr 1
  by_cases h : y < n <;> simp [h]
theorem below_le (n : Int) (l : List Int) : below n l ≤ l.length := List.countP_le_length
/-- Where a search of halves ends in a rising list. -/
theorem below_at {l : List Int} (hu : Up l) {n : Int} {k : Nat} (hk : k ≤ l.length) (h1 : ∀ (j : Nat) (h : j < l.length), j + 1 = k → l[j]'h < n) (h2 : ∀ (h : k < l.length), n ≤ l[k]'h) : k = below n l := by
  have hlow : ∀ (j : Nat) (h : j < l.length), j < k → l[j]'h < n := by
    intro j h hj
    have hk1 : k - 1 < l.length := by omega
    have a := h1 (k - 1) hk1 (by omega)
    rcases Nat.lt_or_ge j (k - 1) with c | c
    · have := List.pairwise_iff_getElem.1 hu j (k - 1) h hk1 c
      omega
    · have : j = k - 1 := by omega
      subst this; exact a
  have hhigh : ∀ (j : Nat) (h : j < l.length), k ≤ j → n ≤ l[j]'h := by
    intro j h hj
    have a := h2 (by omega)
    rcases Nat.lt_or_ge k j with c | c
    · have := List.pairwise_iff_getElem.1 hu k j (by omega) h c
      omega
    · have : j = k := by omega
      subst this; exact a
  have e : l = l.take k ++ l.drop k := (List.take_append_drop k l).symm
  have c1 : (l.take k).countP (fun y => decide (y < n)) = (l.take k).length := by
    rw [List.countP_eq_length]
    intro x hx
    obtain ⟨j, hj, rfl⟩ := List.mem_iff_getElem.1 hx
    have hj' : j < k ∧ j < l.length := by simp at hj; omega
    simp only [List.getElem_take, decide_eq_true_eq]
    exact hlow j hj'.2 hj'.1
  have c2 : (l.drop k).countP (fun y => decide (y < n)) = 0 := by
    rw [List.countP_eq_zero]
    intro x hx
    obtain ⟨j, hj, rfl⟩ := List.mem_iff_getElem.1 hx
    have hj' : k + j < l.length := by simp at hj; omega
    simp only [List.getElem_drop, decide_eq_true_eq]
    have := hhigh (k + j) hj' (by omega)
    omega
  unfold below
  rw [e, List.countP_append, c1, c2]
  simp; omega
end Sr
end Go.Proofs.YtbplkphjjfgkmaaDoor
