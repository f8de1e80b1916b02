/-
  warderref32.EX, EU, EG: by walks.
-/
import Derived.Test.YtlmecpghlgndnaaLabRef
namespace Go.Proofs.Ytlmecpghlgndnaa
open Go.RowKit
set_option linter.unusedVariables false
set_option linter.unusedSimpArgs false

/-- Of the ways of one place the first lead to the set. -/
def exT (nx : List (List Int)) (A : List Bool) (k j : Nat) : Prop := ∃ t, t < nx.length ∧ (t : Int) ∈ (Lb.row nx k).take j ∧ Lb.inB A t = true
set_option maxHeartbeats 4000000 in
theorem rex_any (a a2 : Option Addr) (c c2 : Nat) (nx : List (List Int)) (A : List Bool) (w : World) (hl : RdG w a nx) (hA : Reads w a2 (A.map Value.bool)) (hn : nx.length ≤ 1000) (hr : ∀ i, (Lb.row nx i).length ≤ 1000) :
    Calls Try.prog 14 #[.slice a nx.length c, .slice a2 A.length c2] w (BoolsAns (Lb.IsSet nx.length (fun i => ∃ t, Lb.E nx i t ∧ Lb.inB A t = true)) w) := by
  have hu : ∀ b : Bool, ¬ (some undef = some (Value.bool b)) := fun b h => by cases h
  have HL := Lib.hid (And.intro hl hA)
  clear hl hA
  go_enter Try.func14, Try.ntmps14
  go_wp2_with (at_make; refine make_one rfl _ _ 23 rfl 4 (.bool false) 1 Try.underlying23 Try.infoB rfl _ nx.length rfl rfl rfl (by omega) (by unfold maxLen; omega) ?_; intro w1 own1 keep1; rw [show List.replicate nx.length (Value.bool false) = (List.replicate nx.length false).map Value.bool by rw [List.map_replicate]] at own1)
  have bel1 := keep1.below (fun _ hf => hf.elim) (Nat.le_refl _)
  have O1 := Lib.hid (And.intro own1 bel1)
  clear own1 keep1 bel1
  go_loopw [6, 7] (fun v6 _ wr => ∃ (k : Nat) (F : List Bool), k ≤ nx.length ∧ v6 = .int .i64 k ∧ Lb.IsSet nx.length (fun i => i < k ∧ ∃ t, Lb.E nx i t ∧ Lb.inB A t = true) F ∧
    wr.ownsRow w.heap.size 4 1 (.slice (some ⟨w.heap.size, 0, none⟩) nx.length nx.length) nx.length (F.map Value.bool) ∧ Below w.heap.size w wr) (fun v6 _ _ => nx.length - (intOf v6).toNat)
  case atStart => exact ⟨0, _, by omega, rfl, ⟨by simp, fun i _ => ⟨fun h => absurd h (by rw [inB_rep]; simp), fun h => absurd h.1 (by omega)⟩⟩, (O1.out).1, (O1.out).2⟩
  case round =>
    obtain ⟨k, F, hk, rfl, hS, hO, hB⟩ := hrel
    by_cases hlt : k < nx.length
    · obtain ⟨b, off, rfl, ra, rc, hall⟩ := (HL.out).1.all k hlt
      have hrl := hr k
      have HS := Lib.hid (And.intro hS (And.intro hO hB))
      have HA := Lib.hid hall
      clear hS hO hB hall
      generalize hR : Lb.row nx k = R at *
      have HR := Lib.hid hR
      clear hR
      go_wp2_with fail
      go_loopw [7] (fun v7 wr => ∃ (j : Nat) (F : List Bool), j ≤ R.length ∧ v7 = .int .i64 j ∧ Lb.IsSet nx.length (fun i => (i < k ∧ ∃ t, Lb.E nx i t ∧ Lb.inB A t = true) ∨ (i = k ∧ exT nx A k j)) F ∧
        wr.ownsRow w.heap.size 4 1 (.slice (some ⟨w.heap.size, 0, none⟩) nx.length nx.length) nx.length (F.map Value.bool) ∧ Below w.heap.size w wr) (fun v7 _ => R.length - (intOf v7).toNat)
      case atStart => exact ⟨0, F, by omega, rfl, ⟨(HS.out).1.1, fun i hi => ((HS.out).1.2 i hi).trans ⟨Or.inl, fun h => h.elim id (fun h => by obtain ⟨_, t, _, h2, _⟩ := h; simp at h2)⟩⟩, (HS.out).2.1, (HS.out).2.2⟩
      case round =>
        obtain ⟨j, F2, hj, rfl, hS2, hO2, hB2⟩ := hrel
        have hFl := hS2.1
        obtain ⟨hck, hrk⟩ := HA.out _ hB2
        by_cases hjl : j < R.length
        · obtain ⟨b2, off2, rfl, hcj⟩ := hrk.at (by simp; omega)
          have hx := Reads.int hcj j hjl
          have htk : R.take (j + 1) = R.take j ++ [R[j]] := List.take_succ_eq_append_getElem hjl
          have IS := Lib.hid (fun i => ris_any a2 c2 A i wr ((HL.out).2.mono hB2 (Nat.le_refl _)))
          have hfz := hO2.frozenAt k
          have hgF := (hO2.lt w.heap.size rfl).2
          have hcu := bool_cell hO2 k hlt
          have st := bool_stored hO2 k true
          have hkg : Keeps (fun j => j = w.heap.size) wr (wr.setCell ⟨w.heap.size, k, none⟩ (.bool true)) := Keeps.setCell _ _ _ rfl
          have b3 := hB2.trans (hkg.below (fun j e => by omega) hB2.size)
          have N3 := Lib.hid (And.intro st b3)
          have HS2 := Lib.hid (And.intro hS2 (And.intro hO2 hB2))
          clear st hkg b3 hS2 hO2 hB2 hrk hcj
          generalize R[j] = y at *
          have HT := Lib.hid htk
          clear htk
          have key : ∀ (hit : Bool), (hit = true → 0 ≤ y ∧ y < (nx.length : Int) ∧ Lb.inB A y.toNat = true) → (hit = false → ¬ (0 ≤ y ∧ y < (nx.length : Int) ∧ Lb.inB A y.toNat = true)) → (exT nx A k (j + 1) ↔ exT nx A k j ∨ hit = true) := by
            intro hit h1 h2
            unfold exT
            rw [HR.out, HT.out]
            constructor
            · rintro ⟨t, ht, hm, ha⟩
              rcases List.mem_append.1 hm with h3 | h3
              · exact Or.inl ⟨t, ht, h3, ha⟩
              · have e := List.mem_singleton.1 h3
                cases hit with
                | true => exact Or.inr rfl
                | false => exact absurd ⟨by omega, by omega, by rw [← e, Int.toNat_natCast]; exact ha⟩ (h2 rfl)
            · rintro (⟨t, ht, hm, ha⟩ | h3)
              · exact ⟨t, ht, List.mem_append.2 (Or.inl hm), ha⟩
              · obtain ⟨g1, g2, g3⟩ := h1 h3
                exact ⟨y.toNat, by omega, List.mem_append.2 (Or.inr (by simp; omega)), g3⟩
          have KEY := Lib.hid key
          clear key
          have yes : 0 ≤ y ∧ y < (nx.length : Int) ∧ Lb.inB A y.toNat = true → Lb.IsSet nx.length (fun i => (i < k ∧ ∃ t, Lb.E nx i t ∧ Lb.inB A t = true) ∨ (i = k ∧ exT nx A k (j + 1))) (F2.set k true) := fun h => by
            refine ⟨by simpa using hFl, fun i hi => ?_⟩
            rw [inB_set _ _ _ _ (by omega)]
            have hk2 := KEY.out true (fun _ => h) (fun h => by cases h)
            by_cases e : i = k
            · subst e
              rw [if_pos rfl]
              exact ⟨fun _ => Or.inr ⟨rfl, hk2.2 (Or.inr rfl)⟩, fun _ => rfl⟩
            · rw [if_neg e, (HS2.out).1.2 i hi]
              exact or_congr Iff.rfl ⟨fun h => absurd h.1 e, fun h => absurd h.1 e⟩
          have no : ¬ (0 ≤ y ∧ y < (nx.length : Int) ∧ Lb.inB A y.toNat = true) → Lb.IsSet nx.length (fun i => (i < k ∧ ∃ t, Lb.E nx i t ∧ Lb.inB A t = true) ∨ (i = k ∧ exT nx A k (j + 1))) F2 := fun h => by
            refine ⟨hFl, fun i hi => ?_⟩
            rw [(HS2.out).1.2 i hi]
            have hk2 := KEY.out false (fun h => by cases h) (fun _ => h)
            exact or_congr Iff.rfl (and_congr Iff.rfl ⟨fun h => hk2.2 (Or.inl h), fun h => (hk2.1 h).elim id (fun h => by cases h)⟩)
          have YN := Lib.hid (And.intro yes no)
          clear yes no
          by_cases hy1 : y < (nx.length : Int)
          · cases hb : (decide (0 ≤ y) && Lb.inB A y.toNat) with
            | true =>
              have hyes : 0 ≤ y ∧ y < (nx.length : Int) ∧ Lb.inB A y.toNat = true := by
                simp at hb; exact ⟨hb.1, hy1, hb.2⟩
              have HB := Lib.hid (And.intro hb hyes)
              clear hb hyes
              go_wp2_with fail
              refine (IS.out y).mono ?_
              rintro e w3 ⟨rfl, rfl⟩
              rw [(HB.out).1]
              go_wp2_with fail
              go_roundw
              case rel => exact ⟨j + 1, F2.set k true, by omega, by go_num, (YN.out).1 (HB.out).2, (N3.out).1, (N3.out).2⟩
              case measure => simp [intOf]; omega
            | false =>
              have hno : ¬ (0 ≤ y ∧ y < (nx.length : Int) ∧ Lb.inB A y.toNat = true) := fun h => by
                rw [decide_eq_true h.1, h.2.2] at hb; cases hb
              have HB := Lib.hid (And.intro hb hno)
              clear hb hno
              go_wp2_with fail
              refine (IS.out y).mono ?_
              rintro e w3 ⟨rfl, rfl⟩
              rw [(HB.out).1]
              go_wp2_with fail
              go_roundw
              case rel => exact ⟨j + 1, F2, by omega, by go_num, (YN.out).2 (HB.out).2, (HS2.out).2.1, (HS2.out).2.2⟩
              case measure => simp [intOf]; omega
          · go_wp2_with fail
            go_roundw
            case rel => exact ⟨j + 1, F2, by omega, by go_num, (YN.out).2 (fun h => hy1 h.2.1), (HS2.out).2.1, (HS2.out).2.2⟩
            case measure => simp [intOf]; omega
        · have hjn : j = R.length := by omega
          subst hjn
          have HS2 := Lib.hid (And.intro hS2 (And.intro hO2 hB2))
          clear hS2 hO2 hB2 hrk
          go_wp2_with fail
          go_roundw
          case rel =>
            refine ⟨k + 1, F2, by omega, by go_num, ⟨hFl, fun i hi => ((HS2.out).1.2 i hi).trans ?_⟩, (HS2.out).2.1, (HS2.out).2.2⟩
            constructor
            · rintro (⟨h1, h2⟩ | ⟨h1, t, h2, h3, h4⟩)
              · exact ⟨by omega, h2⟩
              · subst h1
                rw [HR.out, List.take_length] at h3
                exact ⟨by omega, t, ⟨h2, by rw [HR.out]; exact h3⟩, h4⟩
            · rintro ⟨h1, t, h2, h3⟩
              by_cases e : i = k
              · subst e
                refine Or.inr ⟨rfl, t, h2.1, ?_, h3⟩
                rw [HR.out, List.take_length, ← HR.out]; exact h2.2
              · exact Or.inl ⟨by omega, t, h2, h3⟩
          case measure => simp [intOf]; omega
    · have hkl : k = nx.length := by omega
      subst hkl
      have hFl := own_blen hO
      have HS := Lib.hid (And.intro hS (And.intro hO hB))
      clear hS hO hB
      go_wp2_with fail
      go_ret
      exact ⟨_, F, rfl, ⟨hFl, fun i hi => ((HS.out).1.2 i hi).trans ⟨fun h => h.2, fun h => ⟨hi, h⟩⟩⟩, by rw [hFl]; exact (HS.out).2.1, (HS.out).2.2⟩
end Go.Proofs.Ytlmecpghlgndnaa
