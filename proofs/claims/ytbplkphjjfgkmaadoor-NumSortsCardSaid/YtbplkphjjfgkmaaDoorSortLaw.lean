/-
  The document's Sorted, and the law on sorting, by walks.
-/
import Derived.Test.YtbplkphjjfgkmaaDoorSortFind
namespace Go.Proofs.YtbplkphjjfgkmaaDoor
open Go.RowKit
set_option linter.unusedVariables false
set_option linter.unusedSimpArgs false

theorem Tryd.info64 : (Tryd.prog.info? 2).map (fun i => (i.zero, i.size, i.bytes)) = some (some (.int .i64 0), 1, 8) := by kernel_rfl
theorem own_base {w : World} {B B' : Nat} {e : TypeId} {size : Nat} {v : Value} {n : Nat} {xs : List Value} (h : w.ownsRow B e size v n xs) (hB : B' ≤ B) : w.ownsRow B' e size v n xs :=
  ⟨h.1, h.2.imp id fun ⟨g, cap, cur, e1, hb, rest⟩ => ⟨g, cap, cur, e1, by omega, rest⟩⟩
theorem rsrt_len (l : List Int) : (Sr.rsrt l).length ≤ l.length := by rw [← Sr.srt_rsrt]; exact srt_len l
theorem puts_len (x : Int) (q : List Int) : (Sr.puts x q).1.length ≤ 2 * q.length := by
  induction q using Sr.snocInd with
  | nil => simp [Sr.puts]
  | snoc q y ih =>
    rw [Sr.puts_snoc]
    have : (Sr.put1 x (Sr.puts x q) y).1.length ≤ (Sr.puts x q).1.length + 2 := by
      unfold Sr.put1
      simp only [List.length_append]
      split <;> split <;> simp
    simp only [List.length_append, List.length_singleton]
    omega
/-- One number more: what the walk has to append. -/
theorem puts_step (x : Int) (q : List Int) (y : Int) : (Sr.puts x (q ++ [y])).1 = ((Sr.puts x q).1 ++ (if (!(Sr.puts x q).2 && decide (x ≤ y)) = true then [x] else [])) ++ (if y = x then [] else [y]) ∧ (Sr.puts x (q ++ [y])).2 = ((Sr.puts x q).2 || decide (x ≤ y)) := by
  rw [Sr.puts_snoc]; exact ⟨rfl, rfl⟩
/-- 'next = append(next, u)' beside another row of the call's own, which stays. -/
def Two (w wr : World) (v3 v5 : Value) (B : Nat) (out nx : List Int) : Prop :=
  wr.ownsRow w.heap.size 2 1 v3 out.length (out.map (Value.int .i64)) ∧ wr.ownsRow B 2 1 v5 nx.length (nx.map (Value.int .i64)) ∧ (∀ j, v3.ownBlock = some j → j < B) ∧ w.heap.size ≤ B ∧ B ≤ wr.heap.size ∧ Below w.heap.size w wr
theorem Two.grow {w wr w1 : World} {v3 v5 v5' : Value} {B : Nat} {out nx ny : List Int} (h : Two w wr v3 v5 B out nx) (hk : Keeps (fun j => v5.ownBlock = some j) wr w1) (ho : w1.ownsRow B 2 1 v5' ny.length (ny.map (Value.int .i64))) : Two w w1 v3 v5' B out ny := by
  obtain ⟨h1, h2, h3, h4, h5, h6⟩ := h
  refine ⟨hk.own h1 (fun j hj hs => ?_), ho, h3, h4, Nat.le_trans h5 hk.size, h6.trans (hk.below (fun j hj => ?_) h6.size)⟩
  · have := h3 j hj
    have := (h2.lt j hs).1
    omega
  · have := (h2.lt j hj).1
    omega
theorem Two.dn {w wr : World} {v3 v5 : Value} {B : Nat} {out nx : List Int} (h : Two w wr v3 v5 B out nx) (n : Nat) : Two w (wr.drewN n) v3 v5 B out nx := by
  obtain ⟨h1, h2, h3, h4, h5, h6⟩ := h
  exact ⟨(Keeps.drewN (fun _ => False) wr n).own h1 (fun _ _ hf => hf), (Keeps.drewN (fun _ => False) wr n).own h2 (fun _ _ hf => hf), h3, h4, h5, sbel_dn h6 n⟩
set_option maxHeartbeats 8000000 in
theorem rsorted_any (a : Option Addr) (c : Nat) (xs : List Int) (w : World) (ha : Reads w a (xs.map (Value.int .i64))) (hm : xs.length ≤ 1000) :
    Calls Tryd.prog 20 #[.slice a xs.length c] w (OwnR w (Sr.rsrt xs)) := by
  have HA := Lib.hid ha
  have hu : ∀ b : Bool, ¬ (some undef = some (Value.bool b)) := fun b h => by cases h
  clear ha
  go_enter Tryd.func20, Tryd.ntmps20
  go_wp2
  go_loopw [3, 4] (fun v3 v4 wr => ∃ k : Nat, k ≤ xs.length ∧ v4 = .int .i64 k ∧ Hid (wr.ownsRow w.heap.size 2 1 v3 (Sr.rsrt (xs.take k)).length ((Sr.rsrt (xs.take k)).map (Value.int .i64)) ∧ Below w.heap.size w wr)) (fun _ v4 _ => xs.length - (intOf v4).toNat)
  case atStart => exact ⟨0, by omega, rfl, Lib.hid ⟨World.ownsRow_nil _ _ _ _, Below.refl _ _⟩⟩
  case round =>
    obtain ⟨k, hk, rfl, HO⟩ := hrel
    have hlen := rsrt_len (xs.take k)
    have hlt0 : (xs.take k).length ≤ k := List.length_take_le _ _
    obtain ⟨a3, c3, hv3⟩ := own_len HO.out.1
    subst hv3
    by_cases hlt : k < xs.length
    · obtain ⟨b, off, rfl, hc⟩ := HA.out.at (by simp; omega)
      have hck := Reads.int hc k hlt
      have HSN : Hid (Sr.rsrt (xs.take (k + 1)) = Sr.ins xs[k] (Sr.rsrt (xs.take k))) := Lib.hid (by rw [List.take_succ_eq_append_getElem hlt, Sr.rsrt_snoc])
      have hx0 := hck
      have HX : Hid (∀ wr, Below w.heap.size w wr → wr.cell? ⟨b, off + k, none⟩ = some (.int .i64 xs[k])) := Lib.hid fun wr h => (h.cell (p := ⟨b, off + k, none⟩) (lt_of_cell hck)).trans hck
      clear hc hck hx0
      generalize xs[k] = x at *
      generalize Sr.rsrt (xs.take k) = out at *
      have hx1 : wr.cell? ⟨b, off + k, none⟩ = some (.int .i64 x) := HX.out _ HO.out.2
      have HT0 : Hid (Two w wr (.slice a3 out.length c3) (.slice none 0 0) wr.heap.size out []) := Lib.hid ⟨HO.out.1, World.ownsRow_nil _ _ _ _, fun j hj => (HO.out.1.lt j hj).2, HO.out.2.size, Nat.le_refl _, HO.out.2⟩
      obtain ⟨B, hB⟩ : ∃ B, B = wr.heap.size := ⟨_, rfl⟩
      rw [← hB] at HT0
      clear hB HO
      obtain ⟨wo, rfl⟩ : ∃ wo : World, wo = wr := ⟨_, rfl⟩
      go_wp2
      go_loopw [5, 6, 7] (fun v5 v6 v7 wr => ∃ m : Nat, m ≤ out.length ∧ v7 = .int .i64 m ∧ v6 = .bool (Sr.puts x (out.take m)).2 ∧ Hid (Two w wr (.slice a3 out.length c3) v5 B out (Sr.puts x (out.take m)).1)) (fun _ _ v7 _ => out.length - (intOf v7).toNat)
      case atStart => exact ⟨0, by omega, rfl, rfl, HT0⟩
      case round =>
        obtain ⟨m, hm2, rfl, rfl, HT⟩ := hrel
        have hnl := puts_len x (out.take m)
        have hol : (out.take m).length ≤ m := List.length_take_le _ _
        obtain ⟨a5, c5, hv5⟩ := own_len HT.out.2.1
        subst hv5
        by_cases hlt2 : m < out.length
        · obtain ⟨g3, c3', e3, -⟩ := own_some HT.out.1 (by omega)
          injection e3 with e3 _ e3c
          subst e3 e3c
          have HY : Hid (∀ v5 nx wr, Two w wr (.slice (some ⟨g3, 0, none⟩) out.length c3) v5 B out nx → wr.cell? ⟨g3, m, none⟩ = some (.int .i64 out[m])) := Lib.hid fun v5 nx wr h => by
            have := h.1.cellAt m (by simpa using hlt2)
            rw [this]
            simp [hlt2]
          have hy := HY.out _ _ _ HT.out
          have hx := HX.out _ HT.out.2.2.2.2.2
          have hst := puts_step x (out.take m) out[m]
          rw [← List.take_succ_eq_append_getElem hlt2] at hst
          have HR1 := Lib.hid hst.1
          have HR2 := Lib.hid hst.2
          clear hst hx1 HT0
          generalize out[m] = y at *
          generalize (Sr.puts x (out.take m)).1 = nx at *
          generalize (Sr.puts x (out.take m)).2 = bb at *
          cases bb
          · by_cases hle : x ≤ y
            · by_cases hyx : y = x
              · have HN1 : Hid ((Sr.puts x (out.take (m + 1))).1 = (nx ++ [x])) := Lib.hid (by rw [HR1.out]; simp [hle, hyx])
                have HN2 : Hid ((Sr.puts x (out.take (m + 1))).2 = true) := Lib.hid (by rw [HR2.out]; simp [hle])
                have hd : decide (x ≤ y) = true := by simp [hle]
                have hne : (y != x) = false := by simp [hyx]
                clear HR1 HR2
                go_wp2
                go_quiet (fail)
                go_wp2_with (at_builtin; refine append_at (v := .slice a5 nx.length c5) rfl _ _ 22 rfl 2 (.int .i64 0) 1 8 Tryd.underlying22 Tryd.info64 rfl (by decide) rfl (HT.out.dn _).2.1 (HT.out.dn _).2.2.2.2.1 _ rfl (by simp [Value.oneCell']) rfl (by simp) (by decide) (by omega) ?_; intro g6 cap6 w6 own6 keep6 _; have HT6 : Hid (Two w w6 (.slice (some ⟨g3, 0, none⟩) out.length c3) (.slice (some ⟨g6, 0, none⟩) (nx.length + 1) cap6) B out (nx ++ [x])) := Lib.hid ((HT.out.dn _).grow keep6 (by simpa using own6)); clear own6 keep6)
                have hy6 : w6.cell? ⟨g3, m, none⟩ = some (.int .i64 y) := HY.out _ _ _ HT6.out
                have hx6 : w6.cell? ⟨b, off + k, none⟩ = some (.int .i64 x) := HX.out _ HT6.out.2.2.2.2.2
                go_wp2
                go_quiet (fail)
                go_wp2
                go_roundw
                case measure => simp [intOf]; omega
                case rel => exact ⟨m + 1, by omega, by go_num, by rw [HN2.out], by rw [HN1.out]; exact Lib.hid (HT6.out.dn _)⟩
              · have HN1 : Hid ((Sr.puts x (out.take (m + 1))).1 = ((nx ++ [x]) ++ [y])) := Lib.hid (by rw [HR1.out]; simp [hle, hyx])
                have HN2 : Hid ((Sr.puts x (out.take (m + 1))).2 = true) := Lib.hid (by rw [HR2.out]; simp [hle])
                have hd : decide (x ≤ y) = true := by simp [hle]
                have hne : (y != x) = true := by simp [hyx]
                clear HR1 HR2
                go_wp2
                go_quiet (fail)
                go_wp2_with (at_builtin; refine append_at (v := .slice a5 nx.length c5) rfl _ _ 22 rfl 2 (.int .i64 0) 1 8 Tryd.underlying22 Tryd.info64 rfl (by decide) rfl (HT.out.dn _).2.1 (HT.out.dn _).2.2.2.2.1 _ rfl (by simp [Value.oneCell']) rfl (by simp) (by decide) (by omega) ?_; intro g6 cap6 w6 own6 keep6 _; have HT6 : Hid (Two w w6 (.slice (some ⟨g3, 0, none⟩) out.length c3) (.slice (some ⟨g6, 0, none⟩) (nx.length + 1) cap6) B out (nx ++ [x])) := Lib.hid ((HT.out.dn _).grow keep6 (by simpa using own6)); clear own6 keep6)
                have hy6 : w6.cell? ⟨g3, m, none⟩ = some (.int .i64 y) := HY.out _ _ _ HT6.out
                have hx6 : w6.cell? ⟨b, off + k, none⟩ = some (.int .i64 x) := HX.out _ HT6.out.2.2.2.2.2
                go_wp2
                go_quiet (fail)
                go_wp2_with (at_builtin; refine append_at (v := .slice (some ⟨g6, 0, none⟩) (nx.length + 1) cap6) rfl _ _ 22 rfl 2 (.int .i64 0) 1 8 Tryd.underlying22 Tryd.info64 rfl (by decide) rfl (by simpa using (HT6.out.dn _).2.1) (HT6.out.dn _).2.2.2.2.1 _ rfl (by simp [Value.oneCell']) rfl (by simp) (by decide) (by omega) ?_; intro g7 cap7 w7 own7 keep7 _; have HT7 : Hid (Two w w7 (.slice (some ⟨g3, 0, none⟩) out.length c3) (.slice (some ⟨g7, 0, none⟩) ((nx.length + 1) + 1) cap7) B out ((nx ++ [x]) ++ [y])) := Lib.hid ((HT6.out.dn _).grow keep7 (by simpa using own7)); clear own7 keep7)
                go_wp2
                go_roundw
                case measure => simp [intOf]; omega
                case rel => exact ⟨m + 1, by omega, by go_num, by rw [HN2.out], by rw [HN1.out]; exact HT7⟩
            · have hyx : ¬ y = x := by omega
              have HN1 : Hid ((Sr.puts x (out.take (m + 1))).1 = (nx ++ [y])) := Lib.hid (by rw [HR1.out]; simp [hle, hyx])
              have HN2 : Hid ((Sr.puts x (out.take (m + 1))).2 = false) := Lib.hid (by rw [HR2.out]; simp [hle])
              have hd : decide (x ≤ y) = false := by simp [hle]
              have hne : (y != x) = true := by simp [hyx]
              clear HR1 HR2
              go_wp2
              go_quiet (fail)
              go_wp2
              go_quiet (fail)
              go_wp2_with (at_builtin; refine append_at (v := .slice a5 nx.length c5) rfl _ _ 22 rfl 2 (.int .i64 0) 1 8 Tryd.underlying22 Tryd.info64 rfl (by decide) rfl (HT.out.dn _).2.1 (HT.out.dn _).2.2.2.2.1 _ rfl (by simp [Value.oneCell']) rfl (by simp) (by decide) (by omega) ?_; intro g7 cap7 w7 own7 keep7 _; have HT7 : Hid (Two w w7 (.slice (some ⟨g3, 0, none⟩) out.length c3) (.slice (some ⟨g7, 0, none⟩) (nx.length + 1) cap7) B out (nx ++ [y])) := Lib.hid ((HT.out.dn _).grow keep7 (by simpa using own7)); clear own7 keep7)
              go_wp2
              go_roundw
              case measure => simp [intOf]; omega
              case rel => exact ⟨m + 1, by omega, by go_num, by rw [HN2.out], by rw [HN1.out]; exact HT7⟩
          · by_cases hle : x ≤ y
            · by_cases hyx : y = x
              · have HN1 : Hid ((Sr.puts x (out.take (m + 1))).1 = nx) := Lib.hid (by rw [HR1.out]; simp [hle, hyx])
                have HN2 : Hid ((Sr.puts x (out.take (m + 1))).2 = true) := Lib.hid (by rw [HR2.out]; simp [hle])
                have hd : decide (x ≤ y) = true := by simp [hle]
                have hne : (y != x) = false := by simp [hyx]
                clear HR1 HR2
                go_wp2
                go_quiet (fail)
                go_wp2
                go_quiet (fail)
                go_wp2
                go_roundw
                case measure => simp [intOf]; omega
                case rel => exact ⟨m + 1, by omega, by go_num, by rw [HN2.out], by rw [HN1.out]; exact Lib.hid (HT.out.dn _)⟩
              · have HN1 : Hid ((Sr.puts x (out.take (m + 1))).1 = (nx ++ [y])) := Lib.hid (by rw [HR1.out]; simp [hle, hyx])
                have HN2 : Hid ((Sr.puts x (out.take (m + 1))).2 = true) := Lib.hid (by rw [HR2.out]; simp [hle])
                have hd : decide (x ≤ y) = true := by simp [hle]
                have hne : (y != x) = true := by simp [hyx]
                clear HR1 HR2
                go_wp2
                go_quiet (fail)
                go_wp2
                go_quiet (fail)
                go_wp2_with (at_builtin; refine append_at (v := .slice a5 nx.length c5) rfl _ _ 22 rfl 2 (.int .i64 0) 1 8 Tryd.underlying22 Tryd.info64 rfl (by decide) rfl (HT.out.dn _).2.1 (HT.out.dn _).2.2.2.2.1 _ rfl (by simp [Value.oneCell']) rfl (by simp) (by decide) (by omega) ?_; intro g7 cap7 w7 own7 keep7 _; have HT7 : Hid (Two w w7 (.slice (some ⟨g3, 0, none⟩) out.length c3) (.slice (some ⟨g7, 0, none⟩) (nx.length + 1) cap7) B out (nx ++ [y])) := Lib.hid ((HT.out.dn _).grow keep7 (by simpa using own7)); clear own7 keep7)
                go_wp2
                go_roundw
                case measure => simp [intOf]; omega
                case rel => exact ⟨m + 1, by omega, by go_num, by rw [HN2.out], by rw [HN1.out]; exact HT7⟩
            · have hyx : ¬ y = x := by omega
              have HN1 : Hid ((Sr.puts x (out.take (m + 1))).1 = (nx ++ [y])) := Lib.hid (by rw [HR1.out]; simp [hle, hyx])
              have HN2 : Hid ((Sr.puts x (out.take (m + 1))).2 = true) := Lib.hid (by rw [HR2.out]; simp [hle])
              have hd : decide (x ≤ y) = false := by simp [hle]
              have hne : (y != x) = true := by simp [hyx]
              clear HR1 HR2
              go_wp2
              go_quiet (fail)
              go_wp2
              go_quiet (fail)
              go_wp2_with (at_builtin; refine append_at (v := .slice a5 nx.length c5) rfl _ _ 22 rfl 2 (.int .i64 0) 1 8 Tryd.underlying22 Tryd.info64 rfl (by decide) rfl (HT.out.dn _).2.1 (HT.out.dn _).2.2.2.2.1 _ rfl (by simp [Value.oneCell']) rfl (by simp) (by decide) (by omega) ?_; intro g7 cap7 w7 own7 keep7 _; have HT7 : Hid (Two w w7 (.slice (some ⟨g3, 0, none⟩) out.length c3) (.slice (some ⟨g7, 0, none⟩) (nx.length + 1) cap7) B out (nx ++ [y])) := Lib.hid ((HT.out.dn _).grow keep7 (by simpa using own7)); clear own7 keep7)
              go_wp2
              go_roundw
              case measure => simp [intOf]; omega
              case rel => exact ⟨m + 1, by omega, by go_num, by rw [HN2.out], by rw [HN1.out]; exact HT7⟩
        · have e : m = out.length := by omega
          have HIN : Hid (Sr.ins x out = (Sr.puts x (out.take m)).1 ++ (if (Sr.puts x (out.take m)).2 = true then [] else [x])) := Lib.hid (by rw [e, List.take_length]; rfl)
          have hx := HX.out _ HT.out.2.2.2.2.2
          clear e hx1 HT0
          generalize (Sr.puts x (out.take m)).1 = nx at *
          generalize (Sr.puts x (out.take m)).2 = bb at *
          cases bb
          · have HF : Hid (Sr.rsrt (xs.take (k + 1)) = nx ++ [x]) := Lib.hid (by rw [HSN.out, HIN.out]; rfl)
            go_wp2_with (at_builtin; refine append_at (v := .slice a5 nx.length c5) rfl _ _ 22 rfl 2 (.int .i64 0) 1 8 Tryd.underlying22 Tryd.info64 rfl (by decide) rfl HT.out.2.1 HT.out.2.2.2.2.1 _ rfl (by simp [Value.oneCell']) rfl (by simp) (by decide) (by omega) ?_; intro g6 cap6 w6 own6 keep6 _; have HT6 : Hid (Two w w6 (.slice a3 out.length c3) (.slice (some ⟨g6, 0, none⟩) (nx.length + 1) cap6) B out (nx ++ [x])) := Lib.hid (HT.out.grow keep6 (by simpa using own6)); clear own6 keep6)
            go_wp2
            go_roundw
            case measure => simp [intOf]; omega
            case rel => exact ⟨k + 1, by omega, by go_num, by rw [HF.out]; exact Lib.hid ⟨own_base (by simpa using HT6.out.2.1) HT6.out.2.2.2.1, HT6.out.2.2.2.2.2⟩⟩
          · have HF : Hid (Sr.rsrt (xs.take (k + 1)) = nx) := Lib.hid (by rw [HSN.out, HIN.out]; simp)
            go_wp2
            go_roundw
            case measure => simp [intOf]; omega
            case rel => exact ⟨k + 1, by omega, by go_num, by rw [HF.out]; exact Lib.hid ⟨own_base HT.out.2.1 HT.out.2.2.2.1, HT.out.2.2.2.2.2⟩⟩
    · obtain rfl : k = xs.length := by omega
      clear hlen hlt0
      go_wp2
      go_ret
      exact ⟨_, rfl, by simpa [List.take_length] using HO.out.1, HO.out.2⟩
set_option maxHeartbeats 4000000 in
theorem numSorts_walk (a : Option Addr) (c : Nat) (xs : List Int) (n : Int) (w : World) (ha : Reads w a (xs.map (Value.int .i64))) (hm : xs.length ≤ maxLen) (hn : NumIs w) :
    Calls Tryd.prog 3 #[.slice a xs.length c, .int .i64 n] w fun e w' => e = .returned (.bool true) ∧ Below w.heap.size w w' := by
  have hm2 : xs.length ≤ 9223372036854775807 := by unfold maxLen at hm; omega
  have HAW : Hid (∀ w', Below w.heap.size w w' → Calls Tryd.prog 17 #[] w' fun e w2 => e = .returned (.bool true) ∧ Below w.heap.size w w2) := Lib.hid fun w' hb => (awake_any w' (hn.below hb)).mono fun e w2 h => ⟨h.1, hb.trans (h.2.mono hb.size)⟩
  have HA := Lib.hid ha
  clear ha hn hm
  by_cases hbig : (200 : Int) < (xs.length : Int)
  · go_enter Tryd.func3, Tryd.ntmps3
    go_wp2_with fail
    refine (HAW.out w (Below.refl _ _)).mono ?_
    rintro e w2 ⟨rfl, hb⟩
    have HB := Lib.hid hb
    clear hb
    go_wp2_with fail
    go_ret
    exact ⟨rfl, HB.out⟩
  · have hlen : xs.length ≤ 200 := by omega
    go_enter Tryd.func3, Tryd.ntmps3
    go_wp2_with fail
    refine (sorted_any a c xs w HA.out (by omega)).mono ?_
    rintro e w1 ⟨v1, rfl, ho1, hb1⟩
    obtain ⟨a1, c1, rfl, hr1⟩ := Reads.of_ints ho1
    have HR1 := Lib.hid hr1
    have HB1 := Lib.hid hb1
    clear ho1 hr1 hb1
    go_wp2_with fail
    refine (rsorted_any a c xs w1 (HA.out.mono HB1.out (Nat.le_refl _)) (by omega)).mono ?_
    rintro e w2 ⟨v2, rfl, ho2, hb2⟩
    obtain ⟨a2, c2, rfl, hr2⟩ := Reads.of_ints ho2
    have HR2 := Lib.hid hr2
    have HR12 := Lib.hid (HR1.out.mono hb2 (Nat.le_refl _))
    have HB2 : Hid (Below w.heap.size w w2) := Lib.hid (HB1.out.trans (hb2.mono HB1.out.size))
    clear ho2 hr2 hb2 HR1 HB1
    have hsl := srt_len xs
    have heq := Sr.srt_rsrt xs
    have HUP : Hid (Sr.Up (Sr.srt xs)) := Lib.hid (Sr.srt_is xs).1
    have HIN : Hid ((Sr.srt xs).contains n = xs.contains n) := Lib.hid (by
      rw [Bool.eq_iff_iff, List.contains_iff_mem, List.contains_iff_mem]
      exact (Sr.srt_is xs).2 n)
    have HSA : Hid (Calls Tryd.prog 19 #[.slice a1 (Sr.srt xs).length c1, .slice a2 (Sr.rsrt xs).length c2] w2 fun e w' => e = .returned (.bool true) ∧ ∃ m, w' = w2.drewN m) := Lib.hid (by
      have h := same3_any a1 a2 c1 c2 (Sr.srt xs) (Sr.rsrt xs) w2 HR12.out HR2.out (by omega)
      rw [decide_eq_true heq] at h
      exact h)
    clear heq
    generalize Sr.srt xs = ys at *
    generalize Sr.rsrt xs = zs at *
    obtain ⟨q, hq⟩ : ∃ q, xs.contains n = q := ⟨_, rfl⟩
    have HQ := Lib.hid hq
    have HQ1 : Hid (ys.contains n = q) := Lib.hid (by rw [HIN.out]; exact hq)
    clear hq HIN
    go_wp2_with fail
    refine HSA.out.mono ?_
    rintro e w3 ⟨rfl, m, rfl⟩
    have HB3 := Lib.hid (sbel_dn HB2.out m)
    have HR3 := Lib.hid (HR12.out.mono (sbel_dn (Below.refl w2.heap.size w2) m) (Nat.le_refl _))
    clear HB2 HR2 HR12 HSA
    generalize w2.drewN m = w3 at *
    go_wp2_with fail
    refine (find_any a1 c1 ys n w3 HR3.out (by omega)).mono ?_
    rintro e w4 ⟨k1, rfl, hk1, h1, h2, hb4⟩
    have HKB := Lib.hid (Sr.below_at HUP.out hk1 h1 h2)
    have HB4 : Hid (Below w.heap.size w w4) := Lib.hid (HB3.out.trans (hb4.mono HB3.out.size))
    have HR4 := Lib.hid (HR3.out.mono hb4 (Nat.le_refl _))
    clear h1 h2 hb4 HB3 HR3
    rw [HQ1.out]
    go_wp2_with fail
    refine (find_any a c xs n w4 (HA.out.mono HB4.out (Nat.le_refl _)) (by omega)).mono ?_
    rintro e w5 ⟨k2, rfl, hk2, -, -, hb5⟩
    have HB5 : Hid (Below w.heap.size w w5) := Lib.hid (HB4.out.trans (hb5.mono HB4.out.size))
    have HR5 := Lib.hid (HR4.out.mono hb5 (Nat.le_refl _))
    clear hb5 HB4 HR4
    rw [HQ.out]
    have HBE : Hid (Calls Tryd.prog 22 #[.slice a1 ys.length c1, .int .i64 n] w5 fun e w' => e = .returned (.int .i64 (k1 : Nat)) ∧ w5 = w') := Lib.hid (by
      have h := rbelow_any a1 c1 ys n w5 HR5.out (by omega)
      rw [← HKB.out] at h
      exact h)
    have HHA := Lib.hid (rhas_any a c xs n w5 (HA.out.mono HB5.out (Nat.le_refl _)) (by omega))
    rw [HQ.out] at HHA
    clear HKB
    have hqq : (q == q) = true := by simp
    have hkk : ((k1 : Int) == (k1 : Int)) = true := by simp
    go_wp2_with fail
    refine HBE.out.mono ?_
    rintro e w6 ⟨rfl, rfl⟩
    go_wp2_with fail
    refine HHA.out.mono ?_
    rintro e w6 ⟨rfl, rfl⟩
    go_wp2_with fail
    refine (HAW.out _ HB5.out).mono ?_
    rintro e w7 ⟨rfl, hb7⟩
    have HB7 := Lib.hid hb7
    clear hb7
    go_wp2_with fail
    go_ret
    exact ⟨rfl, HB7.out⟩
end Go.Proofs.YtbplkphjjfgkmaaDoor
