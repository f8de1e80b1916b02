/-
  The text of a state, in plain words: numbers with a blank between; unlike numbers have unlike texts.
-/
import Derived.Test.YtbplkphjjfgkmaaDoorNmPrint
namespace Go.Proofs.YtbplkphjjfgkmaaDoor
set_option linter.unusedVariables false
set_option linter.unusedSimpArgs false
namespace St
/-- So great as a number may be. -/
def ft (n : Int) : Prop := -9223372036854775808 ≤ n ∧ n ≤ 9223372036854775807
theorem itoa_inj {a b : Int} (ha : ft a) (hb : ft b) (h : Lib.itoa a = Lib.itoa b) : a = b := by
  have h1 := Nm.told_itoa a ha
  have h2 := Nm.told_itoa b hb
  rw [h] at h1
  rw [h1] at h2
  exact (Prod.mk.inj h2).1
theorem itoa_no (n : Int) : ∀ c ∈ Lib.itoa n, c ≠ 32 := by
  have hd : ∀ u : Nat, ∀ c ∈ Lib.decDigits u, c ≠ 32 := by
    intro u c hc e
    have h := Nm.dec_dig u
    rw [List.all_eq_true] at h
    have := h c hc
    subst e
    exact absurd this (by decide)
  unfold Lib.itoa
  split
  · intro c hc
    rcases List.mem_cons.1 hc with rfl | h
    · decide
    · exact hd _ c h
  · exact hd _
theorem itoa_ne (n : Int) : Lib.itoa n ≠ [] := by
  unfold Lib.itoa
  split
  · simp
  · exact Nm.dec_ne _
/-- Numbers, a blank between each two. -/
def tl (l : List Int) : List UInt8 := l.flatMap fun m => 32 :: Lib.itoa m
def jn : List Int → List UInt8
  | [] => []
  | n :: l => Lib.itoa n ++ tl l
theorem jn_one (n : Int) : jn [n] = Lib.itoa n := by simp [jn, tl]
theorem jn_snoc (l : List Int) (m : Int) (h : l ≠ []) : jn (l ++ [m]) = jn l ++ 32 :: Lib.itoa m := by
  cases l with
  | nil => exact absurd rfl h
  | cons n l => simp [jn, tl, List.append_assoc]
theorem jn_app (l r : List Int) (h : l ≠ []) : jn (l ++ r) = jn l ++ tl r := by
  cases l with
  | nil => exact absurd rfl h
  | cons n l => simp [jn, tl, List.append_assoc]
theorem tl_app (l r : List Int) : tl (l ++ r) = tl l ++ tl r := by simp [tl]
theorem tl_snoc (l : List Int) (m : Int) : tl (l ++ [m]) = tl l ++ 32 :: Lib.itoa m := by simp [tl]
theorem tl_cons (m : Int) (l : List Int) : tl (m :: l) = 32 :: (Lib.itoa m ++ tl l) := by simp [tl]
theorem cut : ∀ {a b r q : List UInt8}, (∀ c ∈ a, c ≠ 32) → (∀ c ∈ b, c ≠ 32) → (r = [] ∨ ∃ t, r = 32 :: t) → (q = [] ∨ ∃ t, q = 32 :: t) → a ++ r = b ++ q → a = b ∧ r = q
  | [], [], _, _, _, _, _, _, h => ⟨rfl, h⟩
  | [], y :: b, r, q, _, hb, hr, _, h => by
    exfalso
    have hy := hb y (by simp)
    rcases hr with rfl | ⟨t, rfl⟩
    · simp at h
    · simp at h; exact hy h.1.symm
  | x :: a, [], r, q, ha, _, _, hq, h => by
    exfalso
    have hx := ha x (by simp)
    rcases hq with rfl | ⟨t, rfl⟩
    · simp at h
    · simp at h; exact hx h.1
  | x :: a, y :: b, r, q, ha, hb, hr, hq, h => by
    simp only [List.cons_append, List.cons.injEq] at h
    obtain ⟨h1, h2⟩ := cut (a := a) (b := b) (fun c hc => ha c (by simp [hc])) (fun c hc => hb c (by simp [hc])) hr hq h.2
    exact ⟨by rw [h.1, h1], h2⟩
theorem tl_shape (l : List Int) : tl l = [] ∨ ∃ t, tl l = 32 :: t := by
  cases l with
  | nil => exact Or.inl rfl
  | cons m l => exact Or.inr ⟨_, tl_cons m l⟩
theorem tl_inj : ∀ {a b : List Int}, (∀ x ∈ a, ft x) → (∀ x ∈ b, ft x) → tl a = tl b → a = b
  | [], [], _, _, _ => rfl
  | [], y :: b, _, _, h => by rw [tl_cons] at h; simp [tl] at h
  | x :: a, [], _, _, h => by rw [tl_cons] at h; simp [tl] at h
  | x :: a, y :: b, ha, hb, h => by
    rw [tl_cons, tl_cons] at h
    simp only [List.cons.injEq, true_and] at h
    obtain ⟨h1, h2⟩ := cut (itoa_no x) (itoa_no y) (tl_shape a) (tl_shape b) h
    rw [itoa_inj (ha x (by simp)) (hb y (by simp)) h1, tl_inj (fun z hz => ha z (by simp [hz])) (fun z hz => hb z (by simp [hz])) h2]
theorem jn_inj : ∀ {a b : List Int}, (∀ x ∈ a, ft x) → (∀ x ∈ b, ft x) → jn a = jn b → a = b
  | [], [], _, _, _ => rfl
  | [], y :: b, _, _, h => by exfalso; simp only [jn] at h; have := itoa_ne y; cases e : Lib.itoa y with
    | nil => exact this e
    | cons c r => rw [e] at h; simp at h
  | x :: a, [], _, _, h => by exfalso; simp only [jn] at h; have := itoa_ne x; cases e : Lib.itoa x with
    | nil => exact this e
    | cons c r => rw [e] at h; simp at h
  | x :: a, y :: b, ha, hb, h => by
    simp only [jn] at h
    obtain ⟨h1, h2⟩ := cut (itoa_no x) (itoa_no y) (tl_shape a) (tl_shape b) h
    rw [itoa_inj (ha x (by simp)) (hb y (by simp)) h1, tl_inj (fun z hz => ha z (by simp [hz])) (fun z hz => hb z (by simp [hz])) h2]
/-- The numbers of a state's text. -/
def nums (vals : List Int) (op dn : Int) (did cnt : List Int) : List Int := (((vals.length : Nat) : Int) :: vals) ++ ([op, dn] ++ ((((did.length : Nat) : Int) :: did) ++ (((cnt.length : Nat) : Int) :: cnt)))
theorem nums_inj {v v2 d d2 c c2 : List Int} {o o2 n n2 : Int} (h : nums v o n d c = nums v2 o2 n2 d2 c2) : v = v2 ∧ o = o2 ∧ n = n2 ∧ d = d2 ∧ c = c2 := by
  unfold nums at h
  simp only [List.cons_append, List.cons.injEq, List.nil_append] at h
  obtain ⟨h0, h1⟩ := h
  have hl : v.length = v2.length := by omega
  obtain ⟨rfl, h2⟩ := List.append_inj h1 hl
  simp only [List.cons.injEq] at h2
  obtain ⟨rfl, rfl, h3, h4⟩ := h2
  have hl2 : d.length = d2.length := by omega
  obtain ⟨rfl, h5⟩ := List.append_inj h4 hl2
  simp only [List.cons.injEq] at h5
  exact ⟨rfl, rfl, rfl, rfl, h5.2⟩
theorem nums_ft {v d c : List Int} {o n : Int} (hv : ∀ x ∈ v, ft x) (ho : ft o) (hn : ft n) (hd : ∀ x ∈ d, ft x) (hc : ∀ x ∈ c, ft x) (lv : v.length ≤ 1000) (ld : d.length ≤ 1000) (lc : c.length ≤ 1000) : ∀ x ∈ nums v o n d c, ft x := by
  intro x hx
  unfold nums at hx
  simp only [List.cons_append, List.mem_cons, List.mem_append, List.nil_append] at hx
  rcases hx with rfl | h | rfl | rfl | rfl | h | rfl | h
  · exact ⟨by omega, by omega⟩
  · exact hv x h
  · exact ho
  · exact hn
  · exact ⟨by omega, by omega⟩
  · exact hd x h
  · exact ⟨by omega, by omega⟩
  · exact hc x h
theorem text_inj {v v2 d d2 c c2 : List Int} {o o2 n n2 : Int} (h1 : ∀ x ∈ nums v o n d c, ft x) (h2 : ∀ x ∈ nums v2 o2 n2 d2 c2, ft x) : jn (nums v o n d c) = jn (nums v2 o2 n2 d2 c2) ↔ (v = v2 ∧ o = o2 ∧ n = n2 ∧ d = d2 ∧ c = c2) := by
  constructor
  · intro h
    exact nums_inj (jn_inj h1 h2 h)
  · rintro ⟨rfl, rfl, rfl, rfl, rfl⟩
    rfl
theorem itoa_len {n : Int} (h : ft n) : (Lib.itoa n).length ≤ 21 := Lib.itoa_length_le n h.1 h.2
theorem tl_len : ∀ {l : List Int}, (∀ x ∈ l, ft x) → (tl l).length ≤ l.length * 22
  | [], _ => by simp [tl]
  | x :: l, h => by
    have h1 := itoa_len (h x (by simp))
    have h2 := tl_len (l := l) (fun z hz => h z (by simp [hz]))
    rw [tl_cons]
    simp only [List.length_cons, List.length_append]
    omega
theorem jn_len {l : List Int} (h : ∀ x ∈ l, ft x) : (jn l).length ≤ l.length * 22 := by
  cases l with
  | nil => simp [jn]
  | cons x l =>
    have h1 := itoa_len (h x (by simp))
    have h2 := tl_len (l := l) (fun z hz => h z (by simp [hz]))
    simp only [jn, List.length_cons, List.length_append]
    omega
end St
end Go.Proofs.YtbplkphjjfgkmaaDoor
