/-
  What conditions put of others answer, in plain words; warderlaw16.turn: by a walk.
-/
import Derived.Test.YtpbgicfoopicbaaEvalAsk
import Derived.Test.YtpbgicfoopicbaaApp
namespace Go.Proofs.Ytpbgicfoopicbaa
open Go.RowKit
set_option linter.unusedVariables false
set_option linter.unusedSimpArgs false

def ins0 (op : Int) : Ins := ⟨op, 0, 0, 0, 0, 0, 0⟩
theorem takeP_frame {q q2 : List (Option Bool)} {b : Bool} (r0 : List (Option Bool)) (h : takeP q = some (b, q2)) : takeP (r0 ++ q) = some (b, r0 ++ q2) := by
  rcases last_cases q with h1 | ⟨r1, h1⟩ | ⟨r1, c, h1⟩
  · subst h1; cases h
  · subst h1; rw [takeP_none] at h; cases h
  · subst h1
    rw [takeP_some] at h
    injection h with h
    injection h with h2 h3
    subst h2 h3
    rw [← List.append_assoc, takeP_some]
theorem stepE_frame {s : Sta} {x : Ins} {r r' : List (Option Bool)} (r0 : List (Option Bool)) (h : stepE s x r = some r') : stepE s x (r0 ++ r) = some (r0 ++ r') := by
  unfold stepE at h ⊢
  split at h
  · rename_i e; rw [if_pos e]; injection h with h; subst h; rw [List.append_assoc]
  rename_i e1; rw [if_neg e1]
  split at h
  · rename_i e; rw [if_pos e]; injection h with h; subst h; rw [List.append_assoc]
  rename_i e2; rw [if_neg e2]
  split at h
  · rename_i e; rw [if_pos e]; injection h with h; subst h; rw [List.append_assoc]
  rename_i e3; rw [if_neg e3]
  split at h
  · rename_i e; rw [if_pos e]; injection h with h; subst h; rw [List.append_assoc]
  rename_i e4; rw [if_neg e4]
  split at h
  · rename_i e; rw [if_pos e]; injection h with h; subst h; rw [List.append_assoc]
  rename_i e5; rw [if_neg e5]
  split at h
  · rename_i e; rw [if_pos e]
    cases hq : takeP r with
    | none => rw [hq] at h; cases h
    | some y =>
      rw [hq] at h
      rw [takeP_frame r0 (show takeP r = some (y.1, y.2) from hq)]
      injection h with h; subst h; simp
  rename_i e6; rw [if_neg e6]
  split at h
  · rename_i e; rw [if_pos e]
    cases hq : takeP r with
    | none => rw [hq] at h; cases h
    | some y =>
      rw [hq] at h
      rw [takeP_frame r0 (show takeP r = some (y.1, y.2) from hq)]
      cases hq2 : takeP y.2 with
      | none => simp only [Option.bind_some, hq2] at h; cases h
      | some z =>
        simp only [Option.bind_some, hq2] at h
        simp only [Option.bind_some]
        rw [takeP_frame r0 (show takeP y.2 = some (z.1, z.2) from hq2)]
        injection h with h; subst h; simp
  · rename_i e; rw [if_neg e]; injection h with h; subst h; rw [List.append_assoc]
theorem runE_frame {s : Sta} (r0 : List (Option Bool)) : ∀ (l : List Ins) (r r' : List (Option Bool)), runE s l r = some r' → runE s l (r0 ++ r) = some (r0 ++ r')
  | [], r, r', h => by
    injection h with h; subst h; rfl
  | x :: l, r, r', h => by
    have h : (stepE s x r).bind (runE s l) = some r' := h
    show (stepE s x (r0 ++ r)).bind (runE s l) = some (r0 ++ r')
    cases hq : stepE s x r with
    | none => rw [hq] at h; cases h
    | some q =>
      rw [hq] at h
      rw [stepE_frame r0 hq]
      exact runE_frame r0 l q r' h
theorem askE_some {s : Sta} {l : List Ins} {b : Bool} (h : askE s l = some b) : runE s l [] = some [some b] := by
  unfold askE at h
  split at h
  · cases h
  · unfold finE at h
    split at h
    · rename_i hr; injection h with h; subst h; exact hr
    · cases h
theorem runE_one (s : Sta) (x : Ins) (r : List (Option Bool)) : runE s [x] r = stepE s x r := by
  show (stepE s x r).bind some = _
  cases stepE s x r <;> rfl
theorem step_not (s : Sta) (r : List (Option Bool)) : stepE s (ins0 15) r = (takeP r).map (fun p => p.2 ++ [some !p.1]) := rfl
theorem ask_not_some {s : Sta} {l : List Ins} {b : Bool} (hl : l.length < 64) (h : askE s l = some b) : askE s (l ++ [ins0 15]) = some (!b) := by
  have h1 := askE_some h
  unfold askE
  rw [if_neg (by simp; omega), runE_app, h1, Option.bind_some, runE_one, step_not]
  have := takeP_some [] b
  rw [List.nil_append] at this
  rw [this]; rfl
theorem ask_not_none {s : Sta} {l : List Ins} (hl : l.length < 64) (h : askE s l = none) : askE s (l ++ [ins0 15]) = none := by
  unfold askE at h ⊢
  rw [if_neg (by omega)] at h
  rw [if_neg (by simp; omega), runE_app]
  cases hr : runE s l [] with
  | none => rfl
  | some r =>
    rw [hr] at h
    rw [Option.bind_some, runE_one, step_not]
    rcases last_cases r with h1 | ⟨r1, h1⟩ | ⟨r1, c, h1⟩
    · subst h1; rfl
    · subst h1; rw [takeP_none]; rfl
    · subst h1
      rw [takeP_some]
      cases r1 with
      | nil => cases h
      | cons y r2 => cases r2 <;> cases y <;> rfl
theorem ask_two {s : Sta} {l m : List Ins} {a b : Bool} {op : Int} (h1 : 16 ≤ op) (h2 : op ≤ 18) (hl : l.length + m.length < 64) (ha : askE s l = some a) (hb : askE s m = some b) : askE s (l ++ m ++ [ins0 op]) = some (joinB op a b) := by
  have h3 := askE_some ha
  have h4 := runE_frame [some a] m [] _ (askE_some hb)
  rw [List.append_nil] at h4
  unfold askE
  rw [if_neg (by simp; omega), runE_app, runE_app, h3, Option.bind_some, h4, Option.bind_some, runE_one]
  have hst : stepE s (ins0 op) ([some a] ++ [some b]) = (takeP ([some a] ++ [some b])).bind (fun p => (takeP p.2).map (fun q => q.2 ++ [some (joinB op q.1 p.1)])) := by
    unfold stepE ins0
    simp only
    rw [if_neg (by omega), if_neg (by omega), if_neg (by omega), if_neg (by omega), if_neg (by omega), if_neg (by omega), if_pos ⟨h1, h2⟩]
  rw [hst, takeP_some, Option.bind_some]
  have := takeP_some [] a
  rw [List.nil_append] at this
  rw [this]; rfl
theorem infoInst : (Try.prog.info? 70).map (fun i => (i.zero, i.size, i.bytes)) = some (some (.agg #[.int .i64 0, .int .i64 0, .int .i64 0, .int .i64 0, .int .i64 0, .int .i64 0, .int .i64 0]), 7, 56) := by kernel_rfl
theorem ins_one (l : List Ins) : ∀ u ∈ Rec.flat Ins.cells l, u.oneCell' = true := fun u hu => by
  unfold Rec.flat at hu
  obtain ⟨x, _, hx⟩ := List.mem_flatMap.1 hu
  simp only [Ins.cells, List.mem_cons, List.not_mem_nil, or_false] at hx
  rcases hx with h | h | h | h | h | h | h <;> subst h <;> rfl
theorem flat_appI (l m : List Ins) : Rec.flat Ins.cells (l ++ m) = Rec.flat Ins.cells l ++ Rec.flat Ins.cells m := by simp [Rec.flat]
theorem own_empty (w : World) (B size : Nat) (e : TypeId) (hB : B ≤ w.heap.size) : (w.alloc (.cells #[] e)).ownsRow B e size (.slice (some ⟨w.heap.size, 0, none⟩) 0 0) 0 [] := by
  refine ⟨by simp, Or.inr ⟨w.heap.size, 0, #[], rfl, hB, ?_, Nat.le_refl _, by simp [maxLen], by simp, by simp⟩⟩
  have := heap_alloc_new w (.cells #[] e)
  simpa using this
theorem reads_ownE {w : World} {B g n cap size : Nat} {e : TypeId} {xs : List Value} (h : w.ownsRow B e size (.slice (some ⟨g, 0, none⟩) n cap) n xs) : Reads w (some ⟨g, 0, none⟩) xs :=
  Or.inr ⟨g, 0, rfl, fun j hj => by rw [Nat.zero_add, h.cellAt j (by first | exact hj | (rw [← h.1]; exact hj))]⟩
def TurnAns (L : List Ins) (w : World) (e : Ending) (w' : World) : Prop := ∃ g cap, e = .returned (.slice (some ⟨g, 0, none⟩) L.length cap) ∧ RdL w' (some ⟨g, 0, none⟩) L ∧ Below w.heap.size w w'
set_option maxRecDepth 100000 in
set_option maxHeartbeats 1500000 in
theorem turn_of (a a2 : Option Addr) (c c2 : Nat) (l m : List Ins) (op : Int) (w : World) (hl : RdL w a l) (hm : RdL w a2 m) (hlen : l.length + m.length ≤ 60) :
    Calls Try.prog 38 #[.slice a l.length c, .slice a2 m.length c2, .int .i64 op] w (TurnAns (l ++ m ++ [ins0 op]) w) := by
  have n1 := bel_new w (.cells #[] 70)
  have HO := Lib.hid (And.intro (own_empty w w.heap.size 7 70 (Nat.le_refl _)) (And.intro n1 (And.intro (hl.mono n1 (Nat.le_refl _)) hm)))
  have HT : Hid (∀ w' g cap n, n = l.length + m.length + 1 → w'.ownsRow w.heap.size 70 7 (.slice (some ⟨g, 0, none⟩) n cap) n (Rec.flat Ins.cells l ++ Rec.flat Ins.cells m ++ (ins0 op).cells) → Below w.heap.size w w' → TurnAns (l ++ m ++ [ins0 op]) w (.returned (.slice (some ⟨g, 0, none⟩) n cap)) w') := Lib.hid (fun w' g cap n hn h1 h2 => by
    refine ⟨g, cap, by rw [hn]; simp <;> omega, ?_, h2⟩
    have h3 := reads_ownE h1
    unfold RdL
    rw [flat_appI, flat_appI]
    simpa [Rec.flat] using h3)
  obtain ⟨TA, hTA⟩ : ∃ TA, TurnAns (l ++ m ++ [ins0 op]) w = TA := ⟨_, rfl⟩
  rw [hTA] at HT ⊢
  have hsz1 := n1.size
  clear n1 hl hm hTA
  go_enter Try.func38, Try.ntmps38
  go_wp2_with (first
    | (at_builtin; refine append_any (v := .slice (some ⟨w.heap.size, 0, none⟩) 0 0) rfl (.tmp 7) (.tmp 8) 52 rfl 70 _ 7 56 Try.underlying52 infoInst rfl (by decide) rfl (HO.out).1 hsz1 a l.length c (Rec.flat Ins.cells l) rfl (Rec.flat_len Ins.cells_len _) (HO.out).2.2.1 (ins_one _) (by decide) (by omega) ?_; intro v6 w6 own6 keep6 where6; have bel6 := (HO.out).2.1.trans (keep6.below (fun j hj => ((HO.out).1.lt j hj).1) hsz1); have hsz6 := bel6.size; have H6 := Lib.hid (And.intro own6 (And.intro bel6 ((HO.out).2.2.2.mono bel6 (Nat.le_refl _)))); clear own6 keep6 where6 bel6)
    | (at_builtin; refine append_any (v := v6) rfl (.tmp 9) (.tmp 10) 52 rfl 70 _ 7 56 Try.underlying52 infoInst rfl (by decide) rfl (H6.out).1 hsz6 a2 m.length c2 (Rec.flat Ins.cells m) rfl (Rec.flat_len Ins.cells_len _) (H6.out).2.2 (ins_one _) (by decide) (by omega) ?_; intro v7 w7 own7 keep7 where7; have bel7 := (H6.out).2.1.trans (keep7.below (fun j hj => ((H6.out).1.lt j hj).1) hsz6); have hsz7 := bel7.size; have H7 := Lib.hid (And.intro own7 bel7); clear own7 keep7 where7 bel7)
    | (at_builtin; refine append_at (v := v7) rfl (.tmp 11) (.tmp 14) 52 rfl 70 _ 7 56 Try.underlying52 infoInst rfl (by decide) rfl (H7.out).1 hsz7 (ins0 op).cells rfl (fun u hu => ins_one [ins0 op] u (by simpa [Rec.flat] using hu)) rfl rfl (by decide) (by omega) ?_; intro g8 cap8 w8 own8 keep8 where8; have H8 := Lib.hid (And.intro own8 ((H7.out).2.trans (keep8.below (fun j hj => ((H7.out).1.lt j hj).1) hsz7))); clear own8 keep8 where8))
  refine HT.out w8 g8 cap8 (l.length + m.length + 1) rfl ?_ (H8.out).2
  have h := (H8.out).1
  rw [Nat.zero_add, List.nil_append] at h
  exact h
end Go.Proofs.Ytpbgicfoopicbaa
