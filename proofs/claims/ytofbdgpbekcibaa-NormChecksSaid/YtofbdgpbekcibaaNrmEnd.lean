/-
  Norm: which steps may be: the whole of it.
-/
import Derived.Test.YtofbdgpbekcibaaNrmLawC
import Derived.Test.YtofbdgpbekcibaaNrmAw
namespace Go.Proofs.Ytofbdgpbekcibaa
open Go.RowKit
theorem normChecks_all (a : Option Addr) (c : Nat) (l : List Sp) (w : World) (hl : RdP w a l) (hm : l.length ≤ maxLen) (hz : l.length * 80 ≤ 140737488355328) :
    Calls Try.prog 11 #[.slice a l.length c] w fun e w' => e = .returned (.bool true) ∧ Below w.heap.size w w' :=
  normChecks_walk a c l w hl hm hz (nawake_hid w)
end Go.Proofs.Ytofbdgpbekcibaa
