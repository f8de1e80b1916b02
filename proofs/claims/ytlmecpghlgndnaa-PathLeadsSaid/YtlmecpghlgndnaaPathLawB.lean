/-
  The law of the shortest way: by a walk.
-/
import Derived.Test.YtlmecpghlgndnaaPathRef
import Derived.Test.YtlmecpghlgndnaaPathAwake
import Derived.Test.YtlmecpghlgndnaaLabOpen
namespace Go.Proofs.Ytlmecpghlgndnaa
open Go.RowKit
set_option linter.unusedVariables false
set_option linter.unusedSimpArgs false

/-- Two sets of places that came in. -/
def Ask (w : World) (v : Value) : Prop := ∃ (a a2 : Option Addr) (c c2 : Nat) (A B : List Bool), v = .agg #[.slice a A.length c, .slice a2 B.length c2] ∧ Reads w a (A.map Value.bool) ∧ Reads w a2 (B.map Value.bool)
theorem slice_form {H : Type} {enc : TypeId × Value → H} {P : Program} {w : World} {t e : TypeId} {v : Value} {y : DataW H × List MemPlace} {fuel : Nat} (ht : P.underlying t = some (.slice e)) (h : DataW.trod enc P w 0 (fun _ => true) true fuel t [v] = some y) : ∃ a l c, v = .slice a l c := by
  rcases DataW.trod_slice ht h with ⟨hcs, _⟩ | ⟨x, l, c, _, _, _, _, hcs, _⟩
  · simp at hcs; exact ⟨_, _, _, hcs⟩
  · simp at hcs; exact ⟨_, _, _, hcs⟩
theorem open_ask {H : Type} {enc : TypeId × Value → H} {P : Program} {w : World} {t e e2 : TypeId} {r : Reach} {b0 : Nat} {v : Value} {d : DataW H} {ps : List MemPlace}
    (ht : P.underlying t = some (.array 2 e)) (he : P.underlying e = some (.slice e2)) (he2 : P.underlying e2 = some .bool) (hct : P.cellsOf t = 2) (hce : P.cellsOf e = 1) (hce2 : P.cellsOf e2 = 1)
    (hv : Value.okWide P w r b0 t v) (h : DataW.Trod enc P w 0 (fun _ => true) true t v d ps) : Ask w v := by
  unfold Value.okWide at hv
  rw [ht] at hv
  obtain ⟨cs, rfl, hsz, _⟩ := hv
  rw [hct] at hsz
  obtain ⟨l⟩ := cs
  match l, hsz with
  | [c0, c1], _ =>
    obtain ⟨fuel, hf⟩ := h
    obtain ⟨xs, m, _, _, _, hl, hx⟩ := DataW.trod_array ht hf
    have h0 := hx 0 (by omega)
    have h1 := hx 1 (by omega)
    rw [hce] at h0 h1
    have e0 : DataW.trod enc P w 0 (fun _ => true) true m e [c0] = some xs[0] := by rw [List.getElem?_eq_getElem (by omega)] at h0; simpa [Value.cells] using h0
    have e1 : DataW.trod enc P w 0 (fun _ => true) true m e [c1] = some xs[1] := by rw [List.getElem?_eq_getElem (by omega)] at h1; simpa [Value.cells] using h1
    obtain ⟨a, l, c, rfl⟩ := slice_form he e0
    obtain ⟨a2, l2, c2, rfl⟩ := slice_form he e1
    obtain ⟨A, hA, rA, _⟩ := open_bools (len := l) (cap := c) (d := xs[0].1) (ps := xs[0].2) he he2 hce2 ⟨m, by simpa [Value.cells] using e0⟩
    obtain ⟨B, hB, rB, _⟩ := open_bools (len := l2) (cap := c2) (d := xs[1].1) (ps := xs[1].2) he he2 hce2 ⟨m, by simpa [Value.cells] using e1⟩
    subst hA hB
    exact ⟨a, a2, c, c2, A, B, rfl, rA, rB⟩
theorem box_stays {w w2 : World} {a a2 : Value} {t : TypeId} (h : Below (w.heap.size + 1) (w.alloc (.cells #[a, a2] t)) w2) : w2.cell? ⟨w.heap.size, 0, none⟩ = some a ∧ w2.cell? ⟨w.heap.size, 1, none⟩ = some a2 := by
  have h0 := h.cell (p := ⟨w.heap.size, 0, none⟩) (by simp)
  have h1 := h.cell (p := ⟨w.heap.size, 1, none⟩) (by simp)
  rw [World.cell?_alloc_at _ _ _ _ rfl] at h0 h1
  exact ⟨h0, h1⟩
theorem shortest_len {nx : List (List Int)} {A B : List Bool} {f : Int} {R : List Int} (h : Pa.shortest nx A B f = some R) : R.length < nx.length := by
  unfold Pa.shortest at h
  split at h
  · rename_i hok
    obtain ⟨h0, h1⟩ := Pa.okP_yes hok
    split at h
    · rename_i h2
      have h3 := Option.some.inj h
      rw [← h3, gw_len]
      have := Pa.F_lt (A := A) (B := B) (i := f.toNat) (nx := nx) (by omega)
      omega
    · cases h
  · cases h
set_option maxHeartbeats 4000000 in
theorem pathShortest_walk (a : Option Addr) (c : Nat) (nx : List (List Int)) (f : Int) (v : Value) (w : World) (hl : RdG w a nx) (hm : nx.length ≤ maxLen) (hmr : ∀ i, (Lb.row nx i).length ≤ maxLen) (hv : Ask w v) :
    Calls Try.prog 6 #[.slice a nx.length c, .int .i64 f, v] w fun e w' => e = .returned (.bool true) ∧ Below w.heap.size w w' := by
  have hu : ∀ b : Bool, ¬ (some undef = some (Value.bool b)) := fun b h => by cases h
  obtain ⟨a2, a3, c2, c3, A, Bs, rfl, hA, hB⟩ := hv
  have bw := below_new w (.cells #[.slice a2 A.length c2, .slice a3 Bs.length c3] 32)
  have HI := Lib.hid (And.intro (hl.mono bw (Nat.le_refl _)) (And.intro (hA.mono bw (Nat.le_refl _)) (And.intro (hB.mono bw (Nat.le_refl _)) bw)))
  have GR := Lib.hid (great_any a c nx _ (hl.mono bw (Nat.le_refl _)) hm hmr)
  have hwl : nx.length ≤ 9223372036854775807 := by unfold maxLen at hm; omega
  clear hl hm hmr hA hB bw
  go_enter Try.func6, Try.ntmps6
  go_wp2_with fail
  refine (GR.out).mono ?_
  rintro e w1 ⟨b, rfl, hb, rfl⟩
  clear GR
  cases b with
  | true =>
    go_wp2_with fail
    refine (awake35_any _).mono ?_
    rintro e w3 ⟨rfl, hb3⟩
    go_wp2_with fail
    go_ret
    exact ⟨rfl, (HI.out).2.2.2.trans (hb3.mono (HI.out).2.2.2.size)⟩
  | false =>
    obtain ⟨hn, hr⟩ := hb rfl
    clear hb
    by_cases h40 : 40 < nx.length
    · go_wp2_with fail
      refine (awake35_any _).mono ?_
      rintro e w3 ⟨rfl, hb3⟩
      go_wp2_with fail
      go_ret
      exact ⟨rfl, (HI.out).2.2.2.trans (hb3.mono (HI.out).2.2.2.size)⟩
    · have hr1 : ∀ i, (Lb.row nx i).length ≤ 1000 := fun i => by have := hr i; omega
      have SH := Lib.hid (shortest_any a a2 a3 c c2 c3 nx f A Bs _ (HI.out).1 (HI.out).2.1 (HI.out).2.2.1 (by omega) hr1)
      have RS : Hid (∀ w', Below (w.heap.size + 1) (w.alloc (.cells #[.slice a2 A.length c2, .slice a3 Bs.length c3] 32)) w' → Calls Try.prog 23 #[.slice a nx.length c, .int .i64 f, .slice a2 A.length c2, .slice a3 Bs.length c3] w' (ShAns (Pa.shortest nx A Bs f) w')) :=
        Lib.hid (fun w' hb => rshort_any a a2 a3 c c2 c3 nx f A Bs w' ((HI.out).1.mono hb (by simp)) ((HI.out).2.1.mono hb (by simp)) ((HI.out).2.2.1.mono hb (by simp)) (by omega) hr1)
      clear hr hr1
      go_wp2_with fail
      refine (SH.out).mono ?_
      intro e w2 hq
      have hsz1 : (w.alloc (.cells #[.slice a2 A.length c2, .slice a3 Bs.length c3] 32)).heap.size = w.heap.size + 1 := by simp
      cases hS : Pa.shortest nx A Bs f with
      | none =>
        rw [hS] at hq RS
        obtain ⟨rfl, b2⟩ := hq
        rw [hsz1] at b2
        have B2 := Lib.hid b2
        obtain ⟨bx0, bx1⟩ := box_stays b2
        clear b2 hS SH
        go_wp2_with fail
        refine (RS.out w2 B2.out).mono ?_
        rintro e w3 ⟨rfl, b3⟩
        have B3 := Lib.hid (B2.out.trans (b3.mono (by have := B2.out.size; simpa using this)))
        clear b3
        go_wp2_with fail
        refine (same_self none none 0 0 [] w3 (Reads.nil _ _) (Reads.nil _ _) (by simp)).mono ?_
        rintro e w4 ⟨rfl, n, rfl⟩
        go_wp2_with fail
        refine (awake35_any _).mono ?_
        rintro e w5 ⟨rfl, b5⟩
        go_wp2_with fail
        go_ret
        have b4 := (HI.out).2.2.2.trans (below_drewN (B3.out.mono (by simp)) n)
        exact ⟨rfl, b4.trans (b5.mono b4.size)⟩
      | some R =>
        rw [hS] at hq RS
        have hRl := shortest_len hS
        obtain ⟨x, rfl, own2, b2⟩ := hq
        rw [hsz1] at b2
        obtain ⟨xa, xc, hxe, hrx⟩ := Reads.of_ints own2
        subst hxe
        have B2 := Lib.hid (And.intro b2 hrx)
        obtain ⟨bx0, bx1⟩ := box_stays b2
        clear b2 hS SH own2 hrx
        go_wp2_with fail
        refine (RS.out w2 (B2.out).1).mono ?_
        rintro e w3 ⟨y, rfl, own3, b3⟩
        obtain ⟨ya, yc, hye, hry⟩ := Reads.of_ints own3
        subst hye
        have B3 := Lib.hid (And.intro ((B2.out).1.trans (b3.mono (by have := (B2.out).1.size; simpa using this))) (And.intro ((B2.out).2.mono b3 (Nat.le_refl _)) hry))
        clear b3 own3 hry
        go_wp2_with fail
        refine (same_self xa ya xc yc R w3 (B3.out).2.1 (B3.out).2.2 (by omega)).mono ?_
        rintro e w4 ⟨rfl, n, rfl⟩
        go_wp2_with fail
        refine (awake35_any _).mono ?_
        rintro e w5 ⟨rfl, b5⟩
        go_wp2_with fail
        go_ret
        have b4 := (HI.out).2.2.2.trans (below_drewN ((B3.out).1.mono (by simp)) n)
        exact ⟨rfl, b4.trans (b5.mono b4.size)⟩
end Go.Proofs.Ytlmecpghlgndnaa
