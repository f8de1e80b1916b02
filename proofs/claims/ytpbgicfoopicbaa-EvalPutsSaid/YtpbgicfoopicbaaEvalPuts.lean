/-
  The law of conditions that are put of others: by walks.
-/
import Derived.Test.YtpbgicfoopicbaaEvalOpen
import Derived.Test.YtpbgicfoopicbaaEvalPutsN
import Derived.Test.YtpbgicfoopicbaaEvalPutsTT
import Derived.Test.YtpbgicfoopicbaaEvalPutsTF
import Derived.Test.YtpbgicfoopicbaaEvalPutsFT
import Derived.Test.YtpbgicfoopicbaaEvalPutsFF
namespace Go.Proofs.Ytpbgicfoopicbaa
open Go.RowKit
set_option linter.unusedVariables false
set_option linter.unusedSimpArgs false

set_option maxRecDepth 100000 in
set_option maxHeartbeats 2000000 in
theorem evalPuts_walk (a a2 : Option Addr) (c c2 : Nat) (l m : List Ins) (s : Sta) (w : World) (hl : RdL w a l) (hlm : l.length ≤ maxLen) (hm : RdL w a2 m) (hmm : m.length ≤ maxLen) (hv : RdV w s) (hz1 : l.length ≤ 140737488355328) (hz2 : m.length ≤ 140737488355328) :
    Calls Try.prog 10 #[.slice a l.length c, .slice a2 m.length c2, .agg #[.slice s.a s.vals.length s.c, .int .i64 s.op, .int .i64 s.dn, s.did, s.cnt]] w fun e w' => e = .returned (.bool true) ∧ Below w.heap.size w w' := by
  have hu : ∀ b : Bool, ¬ (some undef = some (Value.bool b)) := fun b h => by cases h
  have hv2 : s.vals.length ≤ 9223372036854775807 := by have := hv.2; unfold maxLen at this; omega
  have n1 := bel_new w (.cells #[.slice s.a s.vals.length s.c, .int .i64 s.op, .int .i64 s.dn, s.did, s.cnt] 60)
  have st1 := sta_new w s 60
  by_cases hbig : 60 < (l.length : Int) + (m.length : Int)
  · have AW := Lib.hid (awake16_any (w.alloc (.cells #[.slice s.a s.vals.length s.c, .int .i64 s.op, .int .i64 s.dn, s.did, s.cnt] 60)))
    have HN := Lib.hid n1
    clear hl hm hv n1 st1 hlm hmm
    go_enter Try.func10, Try.ntmps10
    go_wp2_with fail
    refine AW.out.mono ?_
    rintro e w7 ⟨rfl, hb7⟩
    go_wp2_with fail
    go_ret
    exact ⟨rfl, HN.out.trans (hb7.mono HN.out.size)⟩
  · by_cases hbv : 100 < s.vals.length
    · have AW := Lib.hid (awake16_any (w.alloc (.cells #[.slice s.a s.vals.length s.c, .int .i64 s.op, .int .i64 s.dn, s.did, s.cnt] 60)))
      have HN := Lib.hid n1
      clear hl hm hv n1 st1 hlm hmm
      go_enter Try.func10, Try.ntmps10
      go_wp2_with fail
      refine AW.out.mono ?_
      rintro e w7 ⟨rfl, hb7⟩
      go_wp2_with fail
      go_ret
      exact ⟨rfl, HN.out.trans (hb7.mono HN.out.size)⟩
    · have hlen : l.length + m.length ≤ 60 := by omega
      clear n1 st1
      cases hA : askE s l with
      | none =>
        cases hB : askE s m with
        | none => exact puts_nn a a2 c c2 l m s w hl hlm hm hmm hv hlen hbv hA hB
        | some B => exact puts_ns B a a2 c c2 l m s w hl hlm hm hmm hv hlen hbv hA hB
      | some A =>
        cases hB : askE s m with
        | none =>
          cases A with
          | true => exact puts_tn a a2 c c2 l m s w hl hlm hm hmm hv hlen hbv hA hB
          | false => exact puts_fn a a2 c c2 l m s w hl hlm hm hmm hv hlen hbv hA hB
        | some B =>
          cases A <;> cases B
          · exact puts_ff a a2 c c2 l m s w hl hlm hm hmm hv hlen hbv hA hB
          · exact puts_ft a a2 c c2 l m s w hl hlm hm hmm hv hlen hbv hA hB
          · exact puts_tf a a2 c c2 l m s w hl hlm hm hmm hv hlen hbv hA hB
          · exact puts_tt a a2 c c2 l m s w hl hlm hm hmm hv hlen hbv hA hB
end Go.Proofs.Ytpbgicfoopicbaa
