/-
  The tokens of the texts of tokens.
-/
import Derived.Test.YtbplkphjjfgkmaaDoorTokOrg
namespace Go.Proofs.YtbplkphjjfgkmaaDoor
open Go.RowKit
set_option linter.unusedVariables false
set_option linter.unusedSimpArgs false

namespace Tk
structure Org (s : ByteArray) (N i : Nat) (out : List Tok) : Prop where
  each : ∀ t ∈ out, ∃ k, k < N ∧ (one s N k).err = 0 ∧ skipc (rn s N k) false = false ∧ t = tokAt s N k
  sum : (out.map fun t => t.text.size).sum ≤ (Rn.st s i).p
theorem Org.up {s : ByteArray} {N i j : Nat} {out : List Tok} (h : Org s N i out) (hij : i ≤ j) : Org s N j out := ⟨h.each, Nat.le_trans h.sum (st_mono s i j hij)⟩
theorem skip_less {c : Int} {b : Bool} (h : skipc c b = false) : skipc c false = false := by
  unfold skipc at *
  simp only [Bool.or_eq_false_iff] at h
  simp [h.1.2, h.2]
theorem Org.tok {s : ByteArray} {N i : Nat} {out : List Tok} (h : Org s N i out) (hE : Ends s N) (hi : i < N) (he : (one s N i).err = 0) (hs : skipc (rn s N i) false = false) : Org s N (one s N i).fin (out ++ [tokAt s N i]) := by
  have hf := one_fin s N i hi he
  refine ⟨fun t ht => ?_, ?_⟩
  · rcases List.mem_append.1 ht with ht | ht
    · exact h.each t ht
    · rw [List.mem_singleton] at ht
      exact ⟨i, hi, he, hs, ht⟩
  · rw [List.map_append, List.sum_append]
    have h1 := h.sum
    have h2 := st_mono s i (one s N i).fin (by omega)
    have h3 := st_in hE _ hf.2
    have h4 : (txt s i (one s N i).fin).size = (Rn.st s (one s N i).fin).p - (Rn.st s i).p := by
      unfold txt
      rw [ByteArray.size_extract]
      omega
    simp only [List.map_cons, List.map_nil, List.sum_cons, List.sum_nil]
    show _ + ((txt s i (one s N i).fin).size + 0) ≤ _
    omega
theorem scan_org {s : ByteArray} {N : Nat} (hE : Ends s N) (i : Nat) (b : Bool) (out l : List Tok) (hi : i ≤ N) (hg : Org s N i out) (h : scan s N i b out = .toks l) : ∃ ini, l = ini ++ [⟨5, ByteArray.empty, 0, (Rn.st s N).l, (Rn.st s N).c⟩] ∧ Org s N N ini := by
  by_cases c1 : i < N
  · by_cases c2 : skipc (rn s N i) b = true
    · rw [scan_skip c1 c2] at h
      exact scan_org hE (i + 1) _ _ _ (by omega) (hg.up (by omega)) h
    · have c2' : skipc (rn s N i) b = false := by simpa using c2
      by_cases c3 : (one s N i).err = 0
      · by_cases c4 : out.length = 4096
        · rw [scan_long c1 c2' c3 c4] at h; cases h
        · have hf := one_fin s N i c1 c3
          rw [scan_tok c1 c2' c3 c4] at h
          exact scan_org hE _ _ _ _ hf.2 (hg.tok hE c1 c3 (skip_less c2')) h
      · rw [scan_bad c1 c2' c3] at h; cases h
  · rw [scan_end c1] at h
    injection h with h
    have : i = N := by omega
    subst this
    exact ⟨out, h.symm, hg⟩
termination_by N - i
decreasing_by all_goals omega
theorem org_nil (s : ByteArray) (N : Nat) : Org s N 0 [] := ⟨fun t ht => (by cases ht), Nat.zero_le _⟩
/-- The text of tokens, a blank behind each. -/
def qt (l : List Tok) : List UInt8 := l.flatMap fun t => t.text.data.toList ++ [32]
theorem qt_app (a b : List Tok) : qt (a ++ b) = qt a ++ qt b := List.flatMap_append
theorem qt_cons (t : Tok) (r : List Tok) : qt (t :: r) = t.text.data.toList ++ 32 :: qt r := by simp [qt]
theorem qt_len : ∀ l : List Tok, (qt l).length = (l.map fun t => t.text.size).sum + l.length
  | [] => rfl
  | t :: r => by
    rw [qt_cons, List.length_append, List.length_cons, qt_len r]
    have : t.text.data.toList.length = t.text.size := by simp
    simp only [List.map_cons, List.sum_cons, List.length_cons]
    omega
/-- A text below 128. -/
theorem asc_st {s : ByteArray} (h : ∀ k, k < s.size → byt s k < 128) : ∀ k, k ≤ s.size → (Rn.st s k).p = k
  | 0, _ => rfl
  | k + 1, hk => by
    have h1 := asc_st h k (by omega)
    show (Rn.st s k).p + Rn.wid s (Rn.st s k).p = k + 1
    rw [h1]
    unfold Rn.wid firstR
    dsimp only
    rw [if_pos (h k (by omega))]
theorem asc_ends {s : ByteArray} (h : ∀ k, k < s.size → byt s k < 128) : Ends s s.size :=
  ⟨fun j hj => by rw [asc_st h j (by omega)]; exact hj, by rw [asc_st h _ (Nat.le_refl _)]; exact Nat.le_refl _⟩
theorem asc_rn {s : ByteArray} (h : ∀ k, k < s.size → byt s k < 128) (k : Nat) (hk : k < s.size) : rn s s.size k = (byt s k : Int) := by
  unfold rn
  rw [if_pos hk, asc_st h k (by omega)]
  unfold Rn.run firstR
  dsimp only
  rw [if_pos (h k hk)]
theorem byt_data {s : ByteArray} {L : List UInt8} (h : s.data.toList = L) (k : Nat) (hk : k < L.length) : byt s k = (L[k]'hk).toNat := by
  subst h
  exact (byt_list s k hk).symm
/-- Where a token stands, its bytes are its runes. -/
theorem tok_byte {s : ByteArray} {N k : Nat} (hE : Ends s N) (hk : k < N) (he : (one s N k).err = 0) :
    (tokAt s N k).text.size = (one s N k).fin - k ∧ ∀ m (hm : m < (tokAt s N k).text.data.toList.length), (((tokAt s N k).text.data.toList[m]'hm).toNat : Int) = rn s N (k + m) ∧ ((tokAt s N k).text.data.toList[m]'hm).toNat < 128 := by
  have hf := one_fin s N k hk he
  obtain ⟨a1, a2⟩ := txt_list hE (by omega) hf.2 (one_ascii hk he)
  refine ⟨a1, fun m hm => ?_⟩
  have hm2 : m < (txt s k (one s N k).fin).size := by
    have e1 : (tokAt s N k).text.data.toList.length = (tokAt s N k).text.size := by simp
    have e2 : (tokAt s N k).text.size = (txt s k (one s N k).fin).size := rfl
    omega
  have h1 : (((txt s k (one s N k).fin).data.toList[m]'hm).toNat : Int) = rn s N (k + m) := a2 m hm2
  have h2 := one_ascii hk he (k + m) (by omega) (by omega)
  refine ⟨h1, ?_⟩
  have h3 : ((txt s k (one s N k).fin).data.toList[m]'hm).toNat = ((tokAt s N k).text.data.toList[m]'hm).toNat := rfl
  omega
def eqv (a b : Tok) : Prop := a.kind = b.kind ∧ a.text = b.text ∧ a.num = b.num
theorem qt_low {s : ByteArray} {N i : Nat} {l : List Tok} (hE : Ends s N) (h : Org s N i l) : ∀ b ∈ qt l, b.toNat < 128 := by
  intro b hb
  unfold qt at hb
  rw [List.mem_flatMap] at hb
  obtain ⟨t, ht, hb⟩ := hb
  obtain ⟨k, h1, h2, h3, rfl⟩ := h.each t ht
  rcases List.mem_append.1 hb with hb | hb
  · obtain ⟨m, hm, rfl⟩ := List.mem_iff_getElem.1 hb
    exact ((tok_byte hE h1 h2).2 m hm).2
  · rw [List.mem_singleton] at hb
    subst hb
    decide
theorem back {s s2 : ByteArray} {N i : Nat} {ini : List Tok} (hE : Ends s N) (h : Org s N i ini) (h2 : s2.data.toList = qt ini) (hlow : ∀ k, k < s2.size → byt s2 k < 128) (hl : ini.length ≤ 4096) :
    ∀ (rest done out : List Tok), ini = done ++ rest → out.length = done.length → (∀ m (a : m < out.length) (b : m < done.length), eqv out[m] done[m]) →
      ∃ l2, scan s2 s2.size (qt done).length false out = .toks (l2 ++ [⟨5, ByteArray.empty, 0, (Rn.st s2 s2.size).l, (Rn.st s2 s2.size).c⟩]) ∧ l2.length = ini.length ∧ ∀ m (a : m < l2.length) (b : m < ini.length), eqv l2[m] ini[m]
  | [], done, out, e, ho, hm => by
    rw [List.append_nil] at e
    subst e
    have hsz : s2.size = (qt ini).length := by rw [← h2]; simp
    exact ⟨out, by rw [scan_end (by omega)], ho, hm⟩
  | t :: r, done, out, e, ho, hm => by
    have hin : t ∈ ini := by rw [e]; simp
    obtain ⟨k, hk1, hk2, hk3, ht⟩ := h.each t hin
    obtain ⟨b1, b2⟩ := tok_byte hE hk1 hk2
    rw [← ht] at b1 b2
    have hf := one_fin s N k hk1 hk2
    have hE2 := asc_ends hlow
    have hq : qt ini = qt done ++ (t.text.data.toList ++ 32 :: qt r) := by rw [e, qt_app, qt_cons]
    have hsz : s2.size = (qt done).length + (((one s N k).fin - k) + (1 + (qt r).length)) := by
      have h3 : s2.data.toList.length = s2.size := by simp
      have h4 : t.text.data.toList.length = t.text.size := by simp
      rw [← h3, h2, hq, List.length_append, List.length_append, List.length_cons, h4]
      omega
    have hlen : t.text.data.toList.length = (one s N k).fin - k := by rw [← b1]; simp
    obtain ⟨p, hp⟩ : ∃ p, p = (qt done).length := ⟨_, rfl⟩
    rw [← hp] at hsz ⊢
    have hrn : ∀ m, m < (one s N k).fin - k → rn s2 s2.size (p + m) = rn s N (k + m) := fun m hmm => by
      rw [asc_rn hlow _ (by omega), byt_data (h2.trans hq) (p + m) (by rw [List.length_append, List.length_append]; omega)]
      rw [List.getElem_append_right (by omega), List.getElem_append_left (by omega)]
      have := (b2 m (by omega)).1
      rw [← this]
      congr 2
      congr 1
      omega
    have hbl : rn s2 s2.size (p + ((one s N k).fin - k)) = 32 := by
      rw [asc_rn hlow _ (by omega), byt_data (h2.trans hq) (p + ((one s N k).fin - k)) (by rw [List.length_append, List.length_append, List.length_cons]; omega)]
      rw [List.getElem_append_right (by omega), List.getElem_append_right (by omega)]
      have : p + ((one s N k).fin - k) - (qt done).length - t.text.data.toList.length = 0 := by omega
      simp only [this, List.getElem_cons_zero]
      rfl
    obtain ⟨o1, o2, o3, o4, o5⟩ := one_same hE hE2 hk1 hk2 (by omega) hrn hbl
    have hol : out.length ≠ 4096 := by
      have : ini.length = done.length + (r.length + 1) := by rw [e]; simp
      omega
    have hsk : skipc (rn s2 s2.size p) false = false := by
      have := hrn 0 (by omega)
      rw [Nat.add_zero, Nat.add_zero] at this
      rw [this]
      exact hk3
    rw [scan_tok (by omega) hsk o3 hol, o4, scan_skip (by omega) (by rw [hbl]; rfl), show beh (rn s2 s2.size (p + ((one s N k).fin - k))) false = false by rw [hbl]; rfl]
    have hnext : p + ((one s N k).fin - k) + 1 = (qt (done ++ [t])).length := by
      rw [qt_app, List.length_append, qt_cons, List.length_append, List.length_cons, hlen, ← hp]
      show _ = p + ((one s N k).fin - k + (0 + 1))
      omega
    rw [hnext]
    refine back hE h h2 hlow hl r (done ++ [t]) _ (by rw [e]; simp) (by simp [ho]) (fun m a b => ?_)
    by_cases hmd : m < done.length
    · rw [List.getElem_append_left (by omega), List.getElem_append_left hmd]
      exact hm m (by omega) hmd
    · have hme : m = done.length := by simp at b; omega
      subst hme
      rw [List.getElem_append_right (by omega), List.getElem_append_right (by omega)]
      simp only [ho, Nat.sub_self, List.getElem_cons_zero]
      refine ⟨?_, ?_, ?_⟩
      · show (one s2 s2.size p).kind = t.kind
        rw [o1, ht]; rfl
      · show txt s2 p (one s2 s2.size p).fin = t.text
        rw [o4, o5, ht]; rfl
      · show (one s2 s2.size p).num = t.num
        rw [o2, ht]; rfl
/-- The texts of tokens, a blank between each two. -/
def plainL : List Tok → List UInt8
  | [] => []
  | t :: r => t.text.data.toList ++ r.flatMap fun u => 32 :: u.text.data.toList
theorem plain_one (t : Tok) : plainL [t] = t.text.data.toList := by simp [plainL]
theorem plain_snoc (l : List Tok) (t : Tok) (h : l ≠ []) : plainL (l ++ [t]) = plainL l ++ 32 :: t.text.data.toList := by
  cases l with
  | nil => exact absurd rfl h
  | cons a r => simp [plainL]
theorem plain_qt_aux : ∀ (r : List Tok) (x : List UInt8), x ++ (r.flatMap fun u => 32 :: u.text.data.toList) ++ [32] = x ++ 32 :: qt r
  | [], x => by simp [qt]
  | t :: r, x => by
    have h := plain_qt_aux r (x ++ 32 :: t.text.data.toList)
    rw [qt_cons]
    simp only [List.flatMap_cons, List.append_assoc, List.cons_append] at h ⊢
    exact h
theorem plain_qt (ini : List Tok) (t : Tok) (h : t.text = ByteArray.empty) : plainL (ini ++ [t]) = qt ini := by
  have he : t.text.data.toList = [] := by rw [h]; rfl
  cases ini with
  | nil => rw [List.nil_append, plain_one, he]; rfl
  | cons a r =>
    rw [plain_snoc _ _ (by simp), he, qt_cons]
    exact plain_qt_aux r a.text.data.toList
/-- The plain text of a text's tokens has the same tokens. -/
theorem tokens_back {s s2 : ByteArray} {N : Nat} {l : List Tok} (hs : s.size ≤ 3000) (hE : Ends s N) (h : scan s N 0 false [] = .toks l) (hl : l.length ≤ 4097) (h2 : s2.data.toList = plainL l) :
    Ends s2 s2.size ∧ s2.size ≤ 16384 ∧ ∃ l2, scan s2 s2.size 0 false [] = .toks l2 ∧ l2.length = l.length ∧ ∀ m (a : m < l2.length) (b : m < l.length), eqv l2[m] l[m] := by
  obtain ⟨ini, rfl, ho⟩ := scan_org hE 0 false [] l (Nat.zero_le _) (org_nil s N) h
  rw [plain_qt _ _ rfl] at h2
  have hil : ini.length ≤ 4096 := by simpa using hl
  have hsz : s2.size = (qt ini).length := by rw [← h2]; simp
  have hlow : ∀ k, k < s2.size → byt s2 k < 128 := fun k hk => by
    rw [byt_data h2 k (by omega)]
    exact qt_low hE ho _ (List.getElem_mem _)
  have hsum := ho.sum
  have hin := st_in hE N (Nat.le_refl _)
  have hq := qt_len ini
  refine ⟨asc_ends hlow, by omega, ?_⟩
  obtain ⟨l2, e1, e2, e3⟩ := back hE ho h2 hlow hil ini [] [] rfl rfl (fun m a b => by simp at a)
  refine ⟨_, e1, by simp [e2], fun m a b => ?_⟩
  by_cases hm : m < ini.length
  · rw [List.getElem_append_left (by omega), List.getElem_append_left hm]
    exact e3 m (by omega) hm
  · have hme : m = ini.length := by simp at b; omega
    subst hme
    rw [List.getElem_append_right (by omega), List.getElem_append_right (by omega)]
    simp only [e2, Nat.sub_self, List.getElem_cons_zero]
    exact ⟨rfl, rfl, rfl⟩
theorem plain_len : ∀ l : List Tok, (plainL l).length ≤ (l.map fun t => t.text.size).sum + l.length
  | [] => Nat.le_refl _
  | t :: r => by
    have h1 : t.text.data.toList.length = t.text.size := by simp
    have h2 : ∀ r : List Tok, (r.flatMap fun u => 32 :: u.text.data.toList).length = (r.map fun t => t.text.size).sum + r.length := fun r => by
      induction r with
      | nil => rfl
      | cons u r ih =>
        have h3 : u.text.data.toList.length = u.text.size := by simp
        simp only [List.flatMap_cons, List.length_append, List.length_cons, List.map_cons, List.sum_cons, ih]
        omega
    simp only [plainL, List.length_append, List.map_cons, List.sum_cons, List.length_cons, h2]
    omega
theorem sum_take (l : List Tok) (k : Nat) : ((l.take k).map fun t => t.text.size).sum ≤ (l.map fun t => t.text.size).sum := by
  have h : (l.map fun t => t.text.size).sum = ((l.take k).map fun t => t.text.size).sum + ((l.drop k).map fun t => t.text.size).sum := by
    rw [← List.sum_append, ← List.map_append, List.take_append_drop]
  omega
/-- How long the texts are. -/
theorem sum_le {s : ByteArray} {N : Nat} {l : List Tok} (hE : Ends s N) (h : scan s N 0 false [] = .toks l) : (l.map fun t => t.text.size).sum ≤ s.size := by
  obtain ⟨ini, rfl, ho⟩ := scan_org hE 0 false [] l (Nat.zero_le _) (org_nil s N) h
  rw [List.map_append, List.sum_append]
  have := ho.sum
  have hin := st_in hE N (Nat.le_refl _)
  simp
  omega
end Tk
set_option maxHeartbeats 1000000 in
theorem plain_any (g cap : Nat) (l : List Tk.Tok) (w : World) (hl : l.length ≤ 4097) (hb : (l.map fun t => t.text.size).sum ≤ 3000) (hc : ∀ j (h : j < l.length), w.cell? ⟨g, j * 5 + 1, none⟩ = some (.string l[j].text)) :
    Calls Tryd.prog 30 #[.slice (some ⟨g, 0, none⟩) l.length cap] w fun e w' => ∃ S, e = .returned (.string S) ∧ S.data.toList = Tk.plainL l ∧ w = w' := by
  have HC := Lib.hid hc
  have HB : Hid (∀ (k : Nat) (S : ByteArray), k ≤ l.length → S.data.toList = Tk.plainL (l.take k) → S.size ≤ 10000) := Lib.hid fun k S hk hS => by
    have h1 : S.data.toList.length = S.size := by simp
    have h2 := Tk.plain_len (l.take k)
    have h3 := Tk.sum_take l k
    have h4 : (l.take k).length ≤ l.length := by rw [List.length_take]; omega
    rw [hS] at h1
    omega
  have HX : Hid (∀ j (h : j < l.length), l[j].text.size ≤ 3000) := Lib.hid fun j h => by
    have h1 : ∀ (m : List Nat) (x : Nat), x ∈ m → x ≤ m.sum := fun m x hx => by
      induction m with
      | nil => cases hx
      | cons y r ih =>
        rw [List.sum_cons]
        rcases List.mem_cons.1 hx with e | e
        · omega
        · have := ih e; omega
    have h2 := h1 (l.map fun t => t.text.size) l[j].text.size (List.mem_map.2 ⟨l[j], List.getElem_mem h, rfl⟩)
    omega
  clear hc hb
  go_enter Tryd.func30, Tryd.ntmps30
  go_wp2
  go_loopw [3, 4] (fun v3 v4 wr => ∃ (k : Nat) (S : ByteArray), k ≤ l.length ∧ v3 = .string S ∧ v4 = .int .i64 k ∧ Hid (S.data.toList = Tk.plainL (l.take k)) ∧ wr = w) (fun _ v4 _ => l.length - (intOf v4).toNat)
  case atStart => exact ⟨0, ⟨#[]⟩, by omega, rfl, rfl, Lib.hid rfl, rfl⟩
  case round =>
    obtain ⟨k, S, hk, rfl, rfl, HS, rfl⟩ := hrel
    by_cases hlt : k < l.length
    · have c1 := HC.out k hlt
      have hSz := HB.out k S hk HS.out
      have hxz := HX.out k hlt
      have HT : Hid (l.take (k + 1) = l.take k ++ [l[k]]) := Lib.hid (by rw [List.take_add_one, List.getElem?_eq_getElem hlt]; rfl)
      generalize hx : l[k] = x at *
      clear hx
      have hs1 : (S ++ ⟨#[32]⟩ : ByteArray).size = S.size + 1 := by rw [ByteArray.size_append]; rfl
      by_cases h0 : 0 < k
      · have HN : Hid (l.take k ≠ []) := Lib.hid (by intro e; have := congrArg List.length e; rw [List.length_take, List.length_nil] at this; omega)
        go_wp2
        go_roundw
        case rel => exact ⟨k + 1, _, by omega, rfl, by go_num, Lib.hid (by rw [HT.out, Tk.plain_snoc _ _ HN.out, ← HS.out]; simp), (by first | rfl | trivial)⟩
        case measure => simp [intOf]; omega
      · have HZ : Hid (l.take k = []) := Lib.hid (by rw [show k = 0 by omega]; rfl)
        go_wp2
        go_roundw
        case rel => exact ⟨k + 1, _, by omega, rfl, by go_num, Lib.hid (by
          have h1 := HS.out
          rw [HZ.out] at h1
          have h2 : S.data.toList = [] := h1
          rw [HT.out, HZ.out, List.nil_append, Tk.plain_one]
          simp [h2]), (by first | rfl | trivial)⟩
        case measure => simp [intOf]; omega
    · have hkn : k = l.length := by omega
      subst hkn
      go_wp2
      go_ret
      exact ⟨S, rfl, by rw [HS.out, List.take_length], rfl⟩
end Go.Proofs.YtbplkphjjfgkmaaDoor
