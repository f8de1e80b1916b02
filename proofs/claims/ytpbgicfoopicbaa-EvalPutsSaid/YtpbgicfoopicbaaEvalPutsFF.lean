/-
  The law of puts at one pair of truths: by a walk.
-/
import Derived.Test.YtpbgicfoopicbaaEvalPutsA
namespace Go.Proofs.Ytpbgicfoopicbaa
open Go.RowKit
set_option linter.unusedVariables false
set_option linter.unusedSimpArgs false

set_option maxRecDepth 100000 in
set_option maxHeartbeats 4000000 in
theorem puts_ff (a a2 : Option Addr) (c c2 : Nat) (l m : List Ins) (s : Sta) (w : World) (hl : RdL w a l) (hlm : l.length ≤ maxLen) (hm : RdL w a2 m) (hmm : m.length ≤ maxLen) (hv : RdV w s) (hlen : l.length + m.length ≤ 60) (hbv : ¬ 100 < s.vals.length) (hA : askE s l = some false) (hB : askE s m = some false) :
    Calls Try.prog 10 #[.slice a l.length c, .slice a2 m.length c2, .agg #[.slice s.a s.vals.length s.c, .int .i64 s.op, .int .i64 s.dn, s.did, s.cnt]] w fun e w' => e = .returned (.bool true) ∧ Below w.heap.size w w' := by
  have hu : ∀ b : Bool, ¬ (some undef = some (Value.bool b)) := fun b h => by cases h
  have hv2 : s.vals.length ≤ 9223372036854775807 := by have := hv.2; unfold maxLen at this; omega
  have n1 := bel_new w (.cells #[.slice s.a s.vals.length s.c, .int .i64 s.op, .int .i64 s.dn, s.did, s.cnt] 60)
  have st1 := sta_new w s 60
  have hbig : ¬ 60 < (l.length : Int) + (m.length : Int) := by omega
  have hl1 := hl.mono n1 (Nat.le_refl _)
  have hm1 := hm.mono n1 (Nat.le_refl _)
  have hv1 := hv.mono n1 (Nat.le_refl _)
  obtain ⟨n15, L15, t15, h15⟩ := turn_pair a none c 0 l [] 15 s (w.alloc (.cells #[.slice s.a s.vals.length s.c, .int .i64 s.op, .int .i64 s.dn, s.did, s.cnt] 60)) hl1 (Or.inl rfl) hv1 (by simp; omega)
  rw [List.append_nil] at h15
  have HL := holds_res a c l s (w.alloc (.cells #[.slice s.a s.vals.length s.c, .int .i64 s.op, .int .i64 s.dn, s.did, s.cnt] 60)) hl1 hlm hv1
  have HM : ∀ w', Below (w.alloc (.cells #[.slice s.a s.vals.length s.c, .int .i64 s.op, .int .i64 s.dn, s.did, s.cnt] 60)).heap.size (w.alloc (.cells #[.slice s.a s.vals.length s.c, .int .i64 s.op, .int .i64 s.dn, s.did, s.cnt] 60)) w' → Calls Try.prog 37 #[.slice a2 m.length c2, .agg #[.slice s.a s.vals.length s.c, .int .i64 s.op, .int .i64 s.dn, s.did, s.cnt]] w' fun e w2 => e = .returned (res (askE s m)) ∧ Below w'.heap.size w' w2 := fun w' hb => holds_res a2 c2 m s w' (hm1.mono hb (Nat.le_refl _)) hmm (hv1.mono hb (Nat.le_refl _))
  have STM : Hid (∀ w', Below (w.alloc (.cells #[.slice s.a s.vals.length s.c, .int .i64 s.op, .int .i64 s.dn, s.did, s.cnt] 60)).heap.size (w.alloc (.cells #[.slice s.a s.vals.length s.c, .int .i64 s.op, .int .i64 s.dn, s.did, s.cnt] 60)) w' → StaAt w' w.heap.size s) := Lib.hid (fun w' hb => st1.mono hb (Nat.le_refl _))
  have AWK : Hid (∀ w', Below (w.alloc (.cells #[.slice s.a s.vals.length s.c, .int .i64 s.op, .int .i64 s.dn, s.did, s.cnt] 60)).heap.size (w.alloc (.cells #[.slice s.a s.vals.length s.c, .int .i64 s.op, .int .i64 s.dn, s.did, s.cnt] 60)) w' → Calls Try.prog 36 #[] w' fun e w2 => e = .returned (.bool true) ∧ Below w.heap.size w w2) := Lib.hid (fun w' hb => (awake16_any w').mono fun e w2 h => ⟨h.1, n1.trans ((hb.trans (h.2.mono hb.size)).mono n1.size)⟩)
  have HR : askE s (l ++ [ins0 15]) = some (!false) := ask_not_some (by omega) hA
  rw [HR] at h15
  obtain ⟨n16, L16, t16, h16⟩ := turn_pair a a2 c c2 l m 16 s (w.alloc (.cells #[.slice s.a s.vals.length s.c, .int .i64 s.op, .int .i64 s.dn, s.did, s.cnt] 60)) hl1 hm1 hv1 hlen
  rw [ask_two (by omega) (by omega) (by omega) hA hB] at h16
  obtain ⟨n17, L17, t17, h17⟩ := turn_pair a a2 c c2 l m 17 s (w.alloc (.cells #[.slice s.a s.vals.length s.c, .int .i64 s.op, .int .i64 s.dn, s.did, s.cnt] 60)) hl1 hm1 hv1 hlen
  rw [ask_two (by omega) (by omega) (by omega) hA hB] at h17
  obtain ⟨n18, L18, t18, h18⟩ := turn_pair a a2 c c2 l m 18 s (w.alloc (.cells #[.slice s.a s.vals.length s.c, .int .i64 s.op, .int .i64 s.dn, s.did, s.cnt] 60)) hl1 hm1 hv1 hlen
  rw [ask_two (by omega) (by omega) (by omega) hA hB] at h18
  rw [hA] at HL
  rw [hB] at HM
  simp only [res, Bool.not_true, Bool.not_false] at HL HM h15
  simp only [show joinB 16 false false = false from rfl, res] at h16
  simp only [show joinB 17 false false = false from rfl, res] at h17
  simp only [show joinB 18 false false = true from rfl, res] at h18
  have HL := Lib.hid HL
  have HM := Lib.hid HM
  have T15 := Lib.hid t15
  have H15 := Lib.hid h15
  have T16 := Lib.hid t16
  have H16 := Lib.hid h16
  have T17 := Lib.hid t17
  have H17 := Lib.hid h17
  have T18 := Lib.hid t18
  have H18 := Lib.hid h18
  clear hA hB hl hm hv hl1 hm1 hv1 t15 h15 HR n1 st1 hlm hmm hlen t16 h16 t17 h17 t18 h18
  go_enter Try.func10, Try.ntmps10
  go_wp2_with fail
  refine HL.out.mono ?_
  rintro e w2 ⟨rfl, b2⟩
  generalize (w.alloc (.cells #[.slice s.a s.vals.length s.c, .int .i64 s.op, .int .i64 s.dn, s.did, s.cnt] 60)) = W1 at *
  have B2 := Lib.hid b2
  obtain ⟨s0, s1, s2, s3, s4⟩ := STM.out w2 B2.out
  clear b2 HL
  go_wp2_with fail
  refine (HM.out w2 B2.out).mono ?_
  rintro e w3 ⟨rfl, b3⟩
  have B3 := Lib.hid (B2.out.trans (b3.mono B2.out.size))
  clear b3 HM s0 s1 s2 s3 s4
  obtain ⟨s0, s1, s2, s3, s4⟩ := STM.out w3 B3.out
  go_wp2_with fail
  go_region_with (first
    | (go_at_call 38; refine (T15.out _ (by repeat (first | exact B3.out | apply below_dn | apply Below.drew))).mono ?_; rintro e w5 ⟨g5_0, cap5_0, rfl, rd5_0, b5⟩; have bb5_0 := Below.trans (by repeat (first | exact B3.out | apply below_dn | apply Below.drew)) (b5.mono (Below.size (by repeat (first | exact B3.out | apply below_dn | apply Below.drew)))); obtain ⟨u0, u1, u2, u3, u4⟩ := STM.out w5 bb5_0)
    | (go_at_call 37; refine (H15.out _ _ _ (by repeat (first | exact bb5_0 | apply below_dn | apply Below.drew)) (by first | exact rd5_0 | exact rd5_0.mono (below_dn (Below.refl _ _) _) (Nat.le_refl _) | exact rd5_0.mono (Below.refl _ _).drew (Nat.le_refl _))).mono ?_; rintro e w6 ⟨rfl, b6⟩; have bb6_0 := Below.trans (by repeat (first | exact bb5_0 | apply below_dn | apply Below.drew)) (b6.mono (Below.size (by repeat (first | exact bb5_0 | apply below_dn | apply Below.drew))))))
  all_goals have HB6_0 := Lib.hid bb6_0
  all_goals clear bb5_0 rd5_0 bb6_0 u0 u1 u2 u3 u4
  all_goals clear s0 s1 s2 s3 s4
  all_goals obtain ⟨s0, s1, s2, s3, s4⟩ := STM.out _ HB6_0.out
  all_goals go_wp2_with fail
  all_goals (
    go_region_with (first
      | (go_at_call 38; refine (T16.out _ (by repeat (first | exact HB6_0.out | apply below_dn | apply Below.drew))).mono ?_; rintro e w5 ⟨g5_1, cap5_1, rfl, rd5_1, b5⟩; have bb5_1 := Below.trans (by repeat (first | exact HB6_0.out | apply below_dn | apply Below.drew)) (b5.mono (Below.size (by repeat (first | exact HB6_0.out | apply below_dn | apply Below.drew)))); obtain ⟨u0, u1, u2, u3, u4⟩ := STM.out w5 bb5_1)
      | (go_at_call 37; refine (H16.out _ _ _ (by repeat (first | exact bb5_1 | apply below_dn | apply Below.drew)) (by first | exact rd5_1 | exact rd5_1.mono (below_dn (Below.refl _ _) _) (Nat.le_refl _) | exact rd5_1.mono (Below.refl _ _).drew (Nat.le_refl _))).mono ?_; rintro e w6 ⟨rfl, b6⟩; have bb6_1 := Below.trans (by repeat (first | exact bb5_1 | apply below_dn | apply Below.drew)) (b6.mono (Below.size (by repeat (first | exact bb5_1 | apply below_dn | apply Below.drew))))))
    all_goals have HB6_1 := Lib.hid bb6_1
    all_goals clear bb5_1 rd5_1 bb6_1 u0 u1 u2 u3 u4
  )
  all_goals clear s0 s1 s2 s3 s4
  all_goals obtain ⟨s0, s1, s2, s3, s4⟩ := STM.out _ HB6_1.out
  all_goals go_wp2_with fail
  all_goals (
    go_region_with (first
      | (go_at_call 38; refine (T17.out _ (by repeat (first | exact HB6_1.out | apply below_dn | apply Below.drew))).mono ?_; rintro e w5 ⟨g5_2, cap5_2, rfl, rd5_2, b5⟩; have bb5_2 := Below.trans (by repeat (first | exact HB6_1.out | apply below_dn | apply Below.drew)) (b5.mono (Below.size (by repeat (first | exact HB6_1.out | apply below_dn | apply Below.drew)))); obtain ⟨u0, u1, u2, u3, u4⟩ := STM.out w5 bb5_2)
      | (go_at_call 37; refine (H17.out _ _ _ (by repeat (first | exact bb5_2 | apply below_dn | apply Below.drew)) (by first | exact rd5_2 | exact rd5_2.mono (below_dn (Below.refl _ _) _) (Nat.le_refl _) | exact rd5_2.mono (Below.refl _ _).drew (Nat.le_refl _))).mono ?_; rintro e w6 ⟨rfl, b6⟩; have bb6_2 := Below.trans (by repeat (first | exact bb5_2 | apply below_dn | apply Below.drew)) (b6.mono (Below.size (by repeat (first | exact bb5_2 | apply below_dn | apply Below.drew))))))
    all_goals have HB6_2 := Lib.hid bb6_2
    all_goals clear bb5_2 rd5_2 bb6_2 u0 u1 u2 u3 u4
  )
  all_goals clear s0 s1 s2 s3 s4
  all_goals obtain ⟨s0, s1, s2, s3, s4⟩ := STM.out _ HB6_2.out
  all_goals go_wp2_with fail
  all_goals (
    go_region_with (first
      | (go_at_call 38; refine (T18.out _ (by repeat (first | exact HB6_2.out | apply below_dn | apply Below.drew))).mono ?_; rintro e w5 ⟨g5_3, cap5_3, rfl, rd5_3, b5⟩; have bb5_3 := Below.trans (by repeat (first | exact HB6_2.out | apply below_dn | apply Below.drew)) (b5.mono (Below.size (by repeat (first | exact HB6_2.out | apply below_dn | apply Below.drew)))); obtain ⟨u0, u1, u2, u3, u4⟩ := STM.out w5 bb5_3)
      | (go_at_call 37; refine (H18.out _ _ _ (by repeat (first | exact bb5_3 | apply below_dn | apply Below.drew)) (by first | exact rd5_3 | exact rd5_3.mono (below_dn (Below.refl _ _) _) (Nat.le_refl _) | exact rd5_3.mono (Below.refl _ _).drew (Nat.le_refl _))).mono ?_; rintro e w6 ⟨rfl, b6⟩; have bb6_3 := Below.trans (by repeat (first | exact bb5_3 | apply below_dn | apply Below.drew)) (b6.mono (Below.size (by repeat (first | exact bb5_3 | apply below_dn | apply Below.drew))))))
    all_goals have HB6_3 := Lib.hid bb6_3
    all_goals clear bb5_3 rd5_3 bb6_3 u0 u1 u2 u3 u4
  )
  all_goals
    go_wp2_with (go_at_call 36; refine (AWK.out _ (by repeat (first | exact HB6_3.out | apply below_dn | apply Below.drew))).mono ?_; rintro e w7 ⟨rfl, hb7⟩)
    go_ret
    exact ⟨rfl, hb7⟩
end Go.Proofs.Ytpbgicfoopicbaa
