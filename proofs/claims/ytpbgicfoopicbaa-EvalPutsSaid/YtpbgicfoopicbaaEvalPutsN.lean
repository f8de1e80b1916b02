/-
  The law of puts where one of the two cannot be asked: by walks.
-/
import Derived.Test.YtpbgicfoopicbaaEvalPutsA
namespace Go.Proofs.Ytpbgicfoopicbaa
open Go.RowKit
set_option linter.unusedVariables false
set_option linter.unusedSimpArgs false

set_option maxRecDepth 100000 in
set_option maxHeartbeats 4000000 in
theorem puts_nn (a a2 : Option Addr) (c c2 : Nat) (l m : List Ins) (s : Sta) (w : World) (hl : RdL w a l) (hlm : l.length ≤ maxLen) (hm : RdL w a2 m) (hmm : m.length ≤ maxLen) (hv : RdV w s) (hlen : l.length + m.length ≤ 60) (hbv : ¬ 100 < s.vals.length) (hA : askE s l = none) (hB : askE s m = none) :
    Calls Try.prog 10 #[.slice a l.length c, .slice a2 m.length c2, .agg #[.slice s.a s.vals.length s.c, .int .i64 s.op, .int .i64 s.dn, s.did, s.cnt]] w fun e w' => e = .returned (.bool true) ∧ Below w.heap.size w w' := by
  have hu : ∀ b : Bool, ¬ (some undef = some (Value.bool b)) := fun b h => by cases h
  have hv2 : s.vals.length ≤ 9223372036854775807 := by have := hv.2; unfold maxLen at this; omega
  have n1 := bel_new w (.cells #[.slice s.a s.vals.length s.c, .int .i64 s.op, .int .i64 s.dn, s.did, s.cnt] 60)
  have st1 := sta_new w s 60
  have hbig : ¬ 60 < (l.length : Int) + (m.length : Int) := by omega
  have hl1 := hl.mono n1 (Nat.le_refl _)
  have hm1 := hm.mono n1 (Nat.le_refl _)
  have hv1 := hv.mono n1 (Nat.le_refl _)
  obtain ⟨n15, L15, t15, h15⟩ := turn_pair a none c 0 l [] 15 s (w.alloc (.cells #[.slice s.a s.vals.length s.c, .int .i64 s.op, .int .i64 s.dn, s.did, s.cnt] 60)) hl1 (Or.inl rfl) hv1 (by simp; omega)
  rw [List.append_nil] at h15
  have HL := holds_res a c l s (w.alloc (.cells #[.slice s.a s.vals.length s.c, .int .i64 s.op, .int .i64 s.dn, s.did, s.cnt] 60)) hl1 hlm hv1
  have HM : ∀ w', Below (w.alloc (.cells #[.slice s.a s.vals.length s.c, .int .i64 s.op, .int .i64 s.dn, s.did, s.cnt] 60)).heap.size (w.alloc (.cells #[.slice s.a s.vals.length s.c, .int .i64 s.op, .int .i64 s.dn, s.did, s.cnt] 60)) w' → Calls Try.prog 37 #[.slice a2 m.length c2, .agg #[.slice s.a s.vals.length s.c, .int .i64 s.op, .int .i64 s.dn, s.did, s.cnt]] w' fun e w2 => e = .returned (res (askE s m)) ∧ Below w'.heap.size w' w2 := fun w' hb => holds_res a2 c2 m s w' (hm1.mono hb (Nat.le_refl _)) hmm (hv1.mono hb (Nat.le_refl _))
  have STM : Hid (∀ w', Below (w.alloc (.cells #[.slice s.a s.vals.length s.c, .int .i64 s.op, .int .i64 s.dn, s.did, s.cnt] 60)).heap.size (w.alloc (.cells #[.slice s.a s.vals.length s.c, .int .i64 s.op, .int .i64 s.dn, s.did, s.cnt] 60)) w' → StaAt w' w.heap.size s) := Lib.hid (fun w' hb => st1.mono hb (Nat.le_refl _))
  have AWK : Hid (∀ w', Below (w.alloc (.cells #[.slice s.a s.vals.length s.c, .int .i64 s.op, .int .i64 s.dn, s.did, s.cnt] 60)).heap.size (w.alloc (.cells #[.slice s.a s.vals.length s.c, .int .i64 s.op, .int .i64 s.dn, s.did, s.cnt] 60)) w' → Calls Try.prog 36 #[] w' fun e w2 => e = .returned (.bool true) ∧ Below w.heap.size w w2) := Lib.hid (fun w' hb => (awake16_any w').mono fun e w2 h => ⟨h.1, n1.trans ((hb.trans (h.2.mono hb.size)).mono n1.size)⟩)
  have HR : askE s (l ++ [ins0 15]) = none := ask_not_none (by omega) hA
  rw [HR] at h15
  rw [hA] at HL
  rw [hB] at HM
  simp only [res] at HL HM h15
  have HL := Lib.hid HL
  have HM := Lib.hid HM
  have T15 := Lib.hid t15
  have H15 := Lib.hid h15
  clear hA hB hl hm hv hl1 hm1 hv1 t15 h15 HR n1 st1 hlm hmm hlen
  go_enter Try.func10, Try.ntmps10
  go_wp2_with fail
  refine HL.out.mono ?_
  rintro e w2 ⟨rfl, b2⟩
  generalize (w.alloc (.cells #[.slice s.a s.vals.length s.c, .int .i64 s.op, .int .i64 s.dn, s.did, s.cnt] 60)) = W1 at *
  have B2 := Lib.hid b2
  obtain ⟨s0, s1, s2, s3, s4⟩ := STM.out w2 B2.out
  clear b2 HL
  go_wp2_with fail
  refine (HM.out w2 B2.out).mono ?_
  rintro e w3 ⟨rfl, b3⟩
  have B3 := Lib.hid (B2.out.trans (b3.mono B2.out.size))
  clear b3 HM s0 s1 s2 s3 s4
  obtain ⟨s0, s1, s2, s3, s4⟩ := STM.out w3 B3.out
  go_wp2_with fail
  go_region_with (first
    | (go_at_call 38; refine (T15.out _ (by repeat (first | exact B3.out | apply below_dn | apply Below.drew))).mono ?_; rintro e w5 ⟨g5_0, cap5_0, rfl, rd5_0, b5⟩; have bb5_0 := Below.trans (by repeat (first | exact B3.out | apply below_dn | apply Below.drew)) (b5.mono (Below.size (by repeat (first | exact B3.out | apply below_dn | apply Below.drew)))); obtain ⟨u0, u1, u2, u3, u4⟩ := STM.out w5 bb5_0)
    | (go_at_call 37; refine (H15.out _ _ _ (by repeat (first | exact bb5_0 | apply below_dn | apply Below.drew)) (by first | exact rd5_0 | exact rd5_0.mono (below_dn (Below.refl _ _) _) (Nat.le_refl _) | exact rd5_0.mono (Below.refl _ _).drew (Nat.le_refl _))).mono ?_; rintro e w6 ⟨rfl, b6⟩; have bb6_0 := Below.trans (by repeat (first | exact bb5_0 | apply below_dn | apply Below.drew)) (b6.mono (Below.size (by repeat (first | exact bb5_0 | apply below_dn | apply Below.drew))))))
  all_goals have HB6_0 := Lib.hid bb6_0
  all_goals clear bb5_0 rd5_0 bb6_0 u0 u1 u2 u3 u4
  all_goals
    go_wp2_with (go_at_call 36; refine (AWK.out _ (by repeat (first | exact HB6_0.out | apply below_dn | apply Below.drew))).mono ?_; rintro e w7 ⟨rfl, hb7⟩)
    go_ret
    exact ⟨rfl, hb7⟩
set_option maxRecDepth 100000 in
set_option maxHeartbeats 4000000 in
theorem puts_ns (B : Bool) (a a2 : Option Addr) (c c2 : Nat) (l m : List Ins) (s : Sta) (w : World) (hl : RdL w a l) (hlm : l.length ≤ maxLen) (hm : RdL w a2 m) (hmm : m.length ≤ maxLen) (hv : RdV w s) (hlen : l.length + m.length ≤ 60) (hbv : ¬ 100 < s.vals.length) (hA : askE s l = none) (hB : askE s m = some B) :
    Calls Try.prog 10 #[.slice a l.length c, .slice a2 m.length c2, .agg #[.slice s.a s.vals.length s.c, .int .i64 s.op, .int .i64 s.dn, s.did, s.cnt]] w fun e w' => e = .returned (.bool true) ∧ Below w.heap.size w w' := by
  have hu : ∀ b : Bool, ¬ (some undef = some (Value.bool b)) := fun b h => by cases h
  have hv2 : s.vals.length ≤ 9223372036854775807 := by have := hv.2; unfold maxLen at this; omega
  have n1 := bel_new w (.cells #[.slice s.a s.vals.length s.c, .int .i64 s.op, .int .i64 s.dn, s.did, s.cnt] 60)
  have st1 := sta_new w s 60
  have hbig : ¬ 60 < (l.length : Int) + (m.length : Int) := by omega
  have hl1 := hl.mono n1 (Nat.le_refl _)
  have hm1 := hm.mono n1 (Nat.le_refl _)
  have hv1 := hv.mono n1 (Nat.le_refl _)
  obtain ⟨n15, L15, t15, h15⟩ := turn_pair a none c 0 l [] 15 s (w.alloc (.cells #[.slice s.a s.vals.length s.c, .int .i64 s.op, .int .i64 s.dn, s.did, s.cnt] 60)) hl1 (Or.inl rfl) hv1 (by simp; omega)
  rw [List.append_nil] at h15
  have HL := holds_res a c l s (w.alloc (.cells #[.slice s.a s.vals.length s.c, .int .i64 s.op, .int .i64 s.dn, s.did, s.cnt] 60)) hl1 hlm hv1
  have HM : ∀ w', Below (w.alloc (.cells #[.slice s.a s.vals.length s.c, .int .i64 s.op, .int .i64 s.dn, s.did, s.cnt] 60)).heap.size (w.alloc (.cells #[.slice s.a s.vals.length s.c, .int .i64 s.op, .int .i64 s.dn, s.did, s.cnt] 60)) w' → Calls Try.prog 37 #[.slice a2 m.length c2, .agg #[.slice s.a s.vals.length s.c, .int .i64 s.op, .int .i64 s.dn, s.did, s.cnt]] w' fun e w2 => e = .returned (res (askE s m)) ∧ Below w'.heap.size w' w2 := fun w' hb => holds_res a2 c2 m s w' (hm1.mono hb (Nat.le_refl _)) hmm (hv1.mono hb (Nat.le_refl _))
  have STM : Hid (∀ w', Below (w.alloc (.cells #[.slice s.a s.vals.length s.c, .int .i64 s.op, .int .i64 s.dn, s.did, s.cnt] 60)).heap.size (w.alloc (.cells #[.slice s.a s.vals.length s.c, .int .i64 s.op, .int .i64 s.dn, s.did, s.cnt] 60)) w' → StaAt w' w.heap.size s) := Lib.hid (fun w' hb => st1.mono hb (Nat.le_refl _))
  have AWK : Hid (∀ w', Below (w.alloc (.cells #[.slice s.a s.vals.length s.c, .int .i64 s.op, .int .i64 s.dn, s.did, s.cnt] 60)).heap.size (w.alloc (.cells #[.slice s.a s.vals.length s.c, .int .i64 s.op, .int .i64 s.dn, s.did, s.cnt] 60)) w' → Calls Try.prog 36 #[] w' fun e w2 => e = .returned (.bool true) ∧ Below w.heap.size w w2) := Lib.hid (fun w' hb => (awake16_any w').mono fun e w2 h => ⟨h.1, n1.trans ((hb.trans (h.2.mono hb.size)).mono n1.size)⟩)
  have HR : askE s (l ++ [ins0 15]) = none := ask_not_none (by omega) hA
  rw [HR] at h15
  rw [hA] at HL
  rw [hB] at HM
  simp only [res] at HL HM h15
  have HL := Lib.hid HL
  have HM := Lib.hid HM
  have T15 := Lib.hid t15
  have H15 := Lib.hid h15
  clear hA hB hl hm hv hl1 hm1 hv1 t15 h15 HR n1 st1 hlm hmm hlen
  go_enter Try.func10, Try.ntmps10
  go_wp2_with fail
  refine HL.out.mono ?_
  rintro e w2 ⟨rfl, b2⟩
  generalize (w.alloc (.cells #[.slice s.a s.vals.length s.c, .int .i64 s.op, .int .i64 s.dn, s.did, s.cnt] 60)) = W1 at *
  have B2 := Lib.hid b2
  obtain ⟨s0, s1, s2, s3, s4⟩ := STM.out w2 B2.out
  clear b2 HL
  go_wp2_with fail
  refine (HM.out w2 B2.out).mono ?_
  rintro e w3 ⟨rfl, b3⟩
  have B3 := Lib.hid (B2.out.trans (b3.mono B2.out.size))
  clear b3 HM s0 s1 s2 s3 s4
  obtain ⟨s0, s1, s2, s3, s4⟩ := STM.out w3 B3.out
  go_wp2_with fail
  go_region_with (first
    | (go_at_call 38; refine (T15.out _ (by repeat (first | exact B3.out | apply below_dn | apply Below.drew))).mono ?_; rintro e w5 ⟨g5_0, cap5_0, rfl, rd5_0, b5⟩; have bb5_0 := Below.trans (by repeat (first | exact B3.out | apply below_dn | apply Below.drew)) (b5.mono (Below.size (by repeat (first | exact B3.out | apply below_dn | apply Below.drew)))); obtain ⟨u0, u1, u2, u3, u4⟩ := STM.out w5 bb5_0)
    | (go_at_call 37; refine (H15.out _ _ _ (by repeat (first | exact bb5_0 | apply below_dn | apply Below.drew)) (by first | exact rd5_0 | exact rd5_0.mono (below_dn (Below.refl _ _) _) (Nat.le_refl _) | exact rd5_0.mono (Below.refl _ _).drew (Nat.le_refl _))).mono ?_; rintro e w6 ⟨rfl, b6⟩; have bb6_0 := Below.trans (by repeat (first | exact bb5_0 | apply below_dn | apply Below.drew)) (b6.mono (Below.size (by repeat (first | exact bb5_0 | apply below_dn | apply Below.drew))))))
  all_goals have HB6_0 := Lib.hid bb6_0
  all_goals clear bb5_0 rd5_0 bb6_0 u0 u1 u2 u3 u4
  all_goals
    go_wp2_with (go_at_call 36; refine (AWK.out _ (by repeat (first | exact HB6_0.out | apply below_dn | apply Below.drew))).mono ?_; rintro e w7 ⟨rfl, hb7⟩)
    go_ret
    exact ⟨rfl, hb7⟩
set_option maxRecDepth 100000 in
set_option maxHeartbeats 4000000 in
theorem puts_tn (a a2 : Option Addr) (c c2 : Nat) (l m : List Ins) (s : Sta) (w : World) (hl : RdL w a l) (hlm : l.length ≤ maxLen) (hm : RdL w a2 m) (hmm : m.length ≤ maxLen) (hv : RdV w s) (hlen : l.length + m.length ≤ 60) (hbv : ¬ 100 < s.vals.length) (hA : askE s l = some true) (hB : askE s m = none) :
    Calls Try.prog 10 #[.slice a l.length c, .slice a2 m.length c2, .agg #[.slice s.a s.vals.length s.c, .int .i64 s.op, .int .i64 s.dn, s.did, s.cnt]] w fun e w' => e = .returned (.bool true) ∧ Below w.heap.size w w' := by
  have hu : ∀ b : Bool, ¬ (some undef = some (Value.bool b)) := fun b h => by cases h
  have hv2 : s.vals.length ≤ 9223372036854775807 := by have := hv.2; unfold maxLen at this; omega
  have n1 := bel_new w (.cells #[.slice s.a s.vals.length s.c, .int .i64 s.op, .int .i64 s.dn, s.did, s.cnt] 60)
  have st1 := sta_new w s 60
  have hbig : ¬ 60 < (l.length : Int) + (m.length : Int) := by omega
  have hl1 := hl.mono n1 (Nat.le_refl _)
  have hm1 := hm.mono n1 (Nat.le_refl _)
  have hv1 := hv.mono n1 (Nat.le_refl _)
  obtain ⟨n15, L15, t15, h15⟩ := turn_pair a none c 0 l [] 15 s (w.alloc (.cells #[.slice s.a s.vals.length s.c, .int .i64 s.op, .int .i64 s.dn, s.did, s.cnt] 60)) hl1 (Or.inl rfl) hv1 (by simp; omega)
  rw [List.append_nil] at h15
  have HL := holds_res a c l s (w.alloc (.cells #[.slice s.a s.vals.length s.c, .int .i64 s.op, .int .i64 s.dn, s.did, s.cnt] 60)) hl1 hlm hv1
  have HM : ∀ w', Below (w.alloc (.cells #[.slice s.a s.vals.length s.c, .int .i64 s.op, .int .i64 s.dn, s.did, s.cnt] 60)).heap.size (w.alloc (.cells #[.slice s.a s.vals.length s.c, .int .i64 s.op, .int .i64 s.dn, s.did, s.cnt] 60)) w' → Calls Try.prog 37 #[.slice a2 m.length c2, .agg #[.slice s.a s.vals.length s.c, .int .i64 s.op, .int .i64 s.dn, s.did, s.cnt]] w' fun e w2 => e = .returned (res (askE s m)) ∧ Below w'.heap.size w' w2 := fun w' hb => holds_res a2 c2 m s w' (hm1.mono hb (Nat.le_refl _)) hmm (hv1.mono hb (Nat.le_refl _))
  have STM : Hid (∀ w', Below (w.alloc (.cells #[.slice s.a s.vals.length s.c, .int .i64 s.op, .int .i64 s.dn, s.did, s.cnt] 60)).heap.size (w.alloc (.cells #[.slice s.a s.vals.length s.c, .int .i64 s.op, .int .i64 s.dn, s.did, s.cnt] 60)) w' → StaAt w' w.heap.size s) := Lib.hid (fun w' hb => st1.mono hb (Nat.le_refl _))
  have AWK : Hid (∀ w', Below (w.alloc (.cells #[.slice s.a s.vals.length s.c, .int .i64 s.op, .int .i64 s.dn, s.did, s.cnt] 60)).heap.size (w.alloc (.cells #[.slice s.a s.vals.length s.c, .int .i64 s.op, .int .i64 s.dn, s.did, s.cnt] 60)) w' → Calls Try.prog 36 #[] w' fun e w2 => e = .returned (.bool true) ∧ Below w.heap.size w w2) := Lib.hid (fun w' hb => (awake16_any w').mono fun e w2 h => ⟨h.1, n1.trans ((hb.trans (h.2.mono hb.size)).mono n1.size)⟩)
  have HR : askE s (l ++ [ins0 15]) = some (!true) := ask_not_some (by omega) hA
  rw [HR] at h15
  rw [hA] at HL
  rw [hB] at HM
  simp only [res, Bool.not_true, Bool.not_false] at HL HM h15
  have HL := Lib.hid HL
  have HM := Lib.hid HM
  have T15 := Lib.hid t15
  have H15 := Lib.hid h15
  clear hA hB hl hm hv hl1 hm1 hv1 t15 h15 HR n1 st1 hlm hmm hlen
  go_enter Try.func10, Try.ntmps10
  go_wp2_with fail
  refine HL.out.mono ?_
  rintro e w2 ⟨rfl, b2⟩
  generalize (w.alloc (.cells #[.slice s.a s.vals.length s.c, .int .i64 s.op, .int .i64 s.dn, s.did, s.cnt] 60)) = W1 at *
  have B2 := Lib.hid b2
  obtain ⟨s0, s1, s2, s3, s4⟩ := STM.out w2 B2.out
  clear b2 HL
  go_wp2_with fail
  refine (HM.out w2 B2.out).mono ?_
  rintro e w3 ⟨rfl, b3⟩
  have B3 := Lib.hid (B2.out.trans (b3.mono B2.out.size))
  clear b3 HM s0 s1 s2 s3 s4
  obtain ⟨s0, s1, s2, s3, s4⟩ := STM.out w3 B3.out
  go_wp2_with fail
  go_region_with (first
    | (go_at_call 38; refine (T15.out _ (by repeat (first | exact B3.out | apply below_dn | apply Below.drew))).mono ?_; rintro e w5 ⟨g5_0, cap5_0, rfl, rd5_0, b5⟩; have bb5_0 := Below.trans (by repeat (first | exact B3.out | apply below_dn | apply Below.drew)) (b5.mono (Below.size (by repeat (first | exact B3.out | apply below_dn | apply Below.drew)))); obtain ⟨u0, u1, u2, u3, u4⟩ := STM.out w5 bb5_0)
    | (go_at_call 37; refine (H15.out _ _ _ (by repeat (first | exact bb5_0 | apply below_dn | apply Below.drew)) (by first | exact rd5_0 | exact rd5_0.mono (below_dn (Below.refl _ _) _) (Nat.le_refl _) | exact rd5_0.mono (Below.refl _ _).drew (Nat.le_refl _))).mono ?_; rintro e w6 ⟨rfl, b6⟩; have bb6_0 := Below.trans (by repeat (first | exact bb5_0 | apply below_dn | apply Below.drew)) (b6.mono (Below.size (by repeat (first | exact bb5_0 | apply below_dn | apply Below.drew))))))
  all_goals have HB6_0 := Lib.hid bb6_0
  all_goals clear bb5_0 rd5_0 bb6_0 u0 u1 u2 u3 u4
  all_goals
    go_wp2_with (go_at_call 36; refine (AWK.out _ (by repeat (first | exact HB6_0.out | apply below_dn | apply Below.drew))).mono ?_; rintro e w7 ⟨rfl, hb7⟩)
    go_ret
    exact ⟨rfl, hb7⟩
set_option maxRecDepth 100000 in
set_option maxHeartbeats 4000000 in
theorem puts_fn (a a2 : Option Addr) (c c2 : Nat) (l m : List Ins) (s : Sta) (w : World) (hl : RdL w a l) (hlm : l.length ≤ maxLen) (hm : RdL w a2 m) (hmm : m.length ≤ maxLen) (hv : RdV w s) (hlen : l.length + m.length ≤ 60) (hbv : ¬ 100 < s.vals.length) (hA : askE s l = some false) (hB : askE s m = none) :
    Calls Try.prog 10 #[.slice a l.length c, .slice a2 m.length c2, .agg #[.slice s.a s.vals.length s.c, .int .i64 s.op, .int .i64 s.dn, s.did, s.cnt]] w fun e w' => e = .returned (.bool true) ∧ Below w.heap.size w w' := by
  have hu : ∀ b : Bool, ¬ (some undef = some (Value.bool b)) := fun b h => by cases h
  have hv2 : s.vals.length ≤ 9223372036854775807 := by have := hv.2; unfold maxLen at this; omega
  have n1 := bel_new w (.cells #[.slice s.a s.vals.length s.c, .int .i64 s.op, .int .i64 s.dn, s.did, s.cnt] 60)
  have st1 := sta_new w s 60
  have hbig : ¬ 60 < (l.length : Int) + (m.length : Int) := by omega
  have hl1 := hl.mono n1 (Nat.le_refl _)
  have hm1 := hm.mono n1 (Nat.le_refl _)
  have hv1 := hv.mono n1 (Nat.le_refl _)
  obtain ⟨n15, L15, t15, h15⟩ := turn_pair a none c 0 l [] 15 s (w.alloc (.cells #[.slice s.a s.vals.length s.c, .int .i64 s.op, .int .i64 s.dn, s.did, s.cnt] 60)) hl1 (Or.inl rfl) hv1 (by simp; omega)
  rw [List.append_nil] at h15
  have HL := holds_res a c l s (w.alloc (.cells #[.slice s.a s.vals.length s.c, .int .i64 s.op, .int .i64 s.dn, s.did, s.cnt] 60)) hl1 hlm hv1
  have HM : ∀ w', Below (w.alloc (.cells #[.slice s.a s.vals.length s.c, .int .i64 s.op, .int .i64 s.dn, s.did, s.cnt] 60)).heap.size (w.alloc (.cells #[.slice s.a s.vals.length s.c, .int .i64 s.op, .int .i64 s.dn, s.did, s.cnt] 60)) w' → Calls Try.prog 37 #[.slice a2 m.length c2, .agg #[.slice s.a s.vals.length s.c, .int .i64 s.op, .int .i64 s.dn, s.did, s.cnt]] w' fun e w2 => e = .returned (res (askE s m)) ∧ Below w'.heap.size w' w2 := fun w' hb => holds_res a2 c2 m s w' (hm1.mono hb (Nat.le_refl _)) hmm (hv1.mono hb (Nat.le_refl _))
  have STM : Hid (∀ w', Below (w.alloc (.cells #[.slice s.a s.vals.length s.c, .int .i64 s.op, .int .i64 s.dn, s.did, s.cnt] 60)).heap.size (w.alloc (.cells #[.slice s.a s.vals.length s.c, .int .i64 s.op, .int .i64 s.dn, s.did, s.cnt] 60)) w' → StaAt w' w.heap.size s) := Lib.hid (fun w' hb => st1.mono hb (Nat.le_refl _))
  have AWK : Hid (∀ w', Below (w.alloc (.cells #[.slice s.a s.vals.length s.c, .int .i64 s.op, .int .i64 s.dn, s.did, s.cnt] 60)).heap.size (w.alloc (.cells #[.slice s.a s.vals.length s.c, .int .i64 s.op, .int .i64 s.dn, s.did, s.cnt] 60)) w' → Calls Try.prog 36 #[] w' fun e w2 => e = .returned (.bool true) ∧ Below w.heap.size w w2) := Lib.hid (fun w' hb => (awake16_any w').mono fun e w2 h => ⟨h.1, n1.trans ((hb.trans (h.2.mono hb.size)).mono n1.size)⟩)
  have HR : askE s (l ++ [ins0 15]) = some (!false) := ask_not_some (by omega) hA
  rw [HR] at h15
  rw [hA] at HL
  rw [hB] at HM
  simp only [res, Bool.not_true, Bool.not_false] at HL HM h15
  have HL := Lib.hid HL
  have HM := Lib.hid HM
  have T15 := Lib.hid t15
  have H15 := Lib.hid h15
  clear hA hB hl hm hv hl1 hm1 hv1 t15 h15 HR n1 st1 hlm hmm hlen
  go_enter Try.func10, Try.ntmps10
  go_wp2_with fail
  refine HL.out.mono ?_
  rintro e w2 ⟨rfl, b2⟩
  generalize (w.alloc (.cells #[.slice s.a s.vals.length s.c, .int .i64 s.op, .int .i64 s.dn, s.did, s.cnt] 60)) = W1 at *
  have B2 := Lib.hid b2
  obtain ⟨s0, s1, s2, s3, s4⟩ := STM.out w2 B2.out
  clear b2 HL
  go_wp2_with fail
  refine (HM.out w2 B2.out).mono ?_
  rintro e w3 ⟨rfl, b3⟩
  have B3 := Lib.hid (B2.out.trans (b3.mono B2.out.size))
  clear b3 HM s0 s1 s2 s3 s4
  obtain ⟨s0, s1, s2, s3, s4⟩ := STM.out w3 B3.out
  go_wp2_with fail
  go_region_with (first
    | (go_at_call 38; refine (T15.out _ (by repeat (first | exact B3.out | apply below_dn | apply Below.drew))).mono ?_; rintro e w5 ⟨g5_0, cap5_0, rfl, rd5_0, b5⟩; have bb5_0 := Below.trans (by repeat (first | exact B3.out | apply below_dn | apply Below.drew)) (b5.mono (Below.size (by repeat (first | exact B3.out | apply below_dn | apply Below.drew)))); obtain ⟨u0, u1, u2, u3, u4⟩ := STM.out w5 bb5_0)
    | (go_at_call 37; refine (H15.out _ _ _ (by repeat (first | exact bb5_0 | apply below_dn | apply Below.drew)) (by first | exact rd5_0 | exact rd5_0.mono (below_dn (Below.refl _ _) _) (Nat.le_refl _) | exact rd5_0.mono (Below.refl _ _).drew (Nat.le_refl _))).mono ?_; rintro e w6 ⟨rfl, b6⟩; have bb6_0 := Below.trans (by repeat (first | exact bb5_0 | apply below_dn | apply Below.drew)) (b6.mono (Below.size (by repeat (first | exact bb5_0 | apply below_dn | apply Below.drew))))))
  all_goals have HB6_0 := Lib.hid bb6_0
  all_goals clear bb5_0 rd5_0 bb6_0 u0 u1 u2 u3 u4
  all_goals
    go_wp2_with (go_at_call 36; refine (AWK.out _ (by repeat (first | exact HB6_0.out | apply below_dn | apply Below.drew))).mono ?_; rintro e w7 ⟨rfl, hb7⟩)
    go_ret
    exact ⟨rfl, hb7⟩
end Go.Proofs.Ytpbgicfoopicbaa
