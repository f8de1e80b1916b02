/-
  No cell of these rows narrows 'for every input' (looked for: loops, veiled, ifaces, maps, wideKeys, modest, calm, conditions, laid).
  DERIVED. THE GIVEN ROWS OF THIS SEAT. 7 by the template 'for every input the law returns true; each argument reads behind the call as it read before'; 0 by the template 'total and deterministic' (their statements: YtlmecpghlgndnaaTotals.lean).
  GIVEN WITH THE SEED: the statements are not yours to turn. If you find one false, say at which input.
  Laid BY PROGRAM, IN A SANDBOX (cutbox-rows.mjs): the forced cells as the released guide's own fill.sh prints them over the translation 4c5161ac6b870f6a… (all of the seat's roots in one cut). By AI agents, Wed Nov 11 2026. No macro, syntax, notation, axiom, sorry.
-/
import Derived.Test.YtlmecpghlgndnaaChecked
import GoSem.Claim
import GoSem.ClaimJoined
import GoSem.ClaimMapViews
import Derived.JoinedTies
import Derived.KernelRfl
namespace Go.Proofs.Ytlmecpghlgndnaa
/- THE CELL 'sum', in the pinned program and in every row, IS THE sha256 OF THE DUMP (.gsa) THAT YtlmecpghlgndnaaProg.lean LOADS. Nothing in Lean hashes anything: it is a label: what it is worth is what the hold of that sum in a sandbox is worth. -/
noncomputable def Try.pinned : Pinned := { name := "ytlmecpghlgndnaa", sum := "4c5161ac6b870f6a64cfdc1f53ed469c063396048dbb73299016a56fac97c2df", checked := Try.checked }
namespace Rows
def none {H : Type} : Left H := { results := [], args := [] }

/-- 'warderlaw32.LabelWays': WHATEVER THE INPUT: true; the input reads as it did. -/
def labelWaysSpec : ChangeSpec := { name := "labelWays", fn := fun _ => fun
  | [d1, d2, d3] => { results := [.lit (.bool true)], args := [d1, d2, d3] }
  | _ => none }
def labelWaysRow : OpenClaim := { program := "ytlmecpghlgndnaa", sum := "4c5161ac6b870f6a64cfdc1f53ed469c063396048dbb73299016a56fac97c2df", func := "warder/warderlaw32.LabelWays", spec := "labelWays", unfollowed := true, recurses := true, apart := false }
def LabelWaysSaid : Prop := labelWaysRow.holds Try.pinned (OpenSpec.ofChange labelWaysSpec)

/-- ITS FALSE NEIGHBOUR: 'it returns false'. Refute it at one input. -/
def labelWaysWrong : ChangeSpec := { name := "labelWays", fn := fun _ => fun
  | [d1, d2, d3] => { results := [.lit (.bool false)], args := [d1, d2, d3] }
  | _ => none }
def LabelWaysWrongFalsely : Prop := labelWaysRow.holds Try.pinned (OpenSpec.ofChange labelWaysWrong)

/-- 'warderlaw32.LabelFixed': WHATEVER THE INPUT: true; the input reads as it did. -/
def labelFixedSpec : ChangeSpec := { name := "labelFixed", fn := fun _ => fun
  | [d1, d2, d3] => { results := [.lit (.bool true)], args := [d1, d2, d3] }
  | _ => none }
def labelFixedRow : OpenClaim := { program := "ytlmecpghlgndnaa", sum := "4c5161ac6b870f6a64cfdc1f53ed469c063396048dbb73299016a56fac97c2df", func := "warder/warderlaw32.LabelFixed", spec := "labelFixed", unfollowed := true, recurses := true, apart := false }
def LabelFixedSaid : Prop := labelFixedRow.holds Try.pinned (OpenSpec.ofChange labelFixedSpec)

/-- ITS FALSE NEIGHBOUR: 'it returns false'. Refute it at one input. -/
def labelFixedWrong : ChangeSpec := { name := "labelFixed", fn := fun _ => fun
  | [d1, d2, d3] => { results := [.lit (.bool false)], args := [d1, d2, d3] }
  | _ => none }
def LabelFixedWrongFalsely : Prop := labelFixedRow.holds Try.pinned (OpenSpec.ofChange labelFixedWrong)

/-- 'warderlaw32.LabelGrows': WHATEVER THE INPUT: true; the input reads as it did. -/
def labelGrowsSpec : ChangeSpec := { name := "labelGrows", fn := fun _ => fun
  | [d1, d2, d3] => { results := [.lit (.bool true)], args := [d1, d2, d3] }
  | _ => none }
def labelGrowsRow : OpenClaim := { program := "ytlmecpghlgndnaa", sum := "4c5161ac6b870f6a64cfdc1f53ed469c063396048dbb73299016a56fac97c2df", func := "warder/warderlaw32.LabelGrows", spec := "labelGrows", unfollowed := true, recurses := true, apart := false }
def LabelGrowsSaid : Prop := labelGrowsRow.holds Try.pinned (OpenSpec.ofChange labelGrowsSpec)

/-- ITS FALSE NEIGHBOUR: 'it returns false'. Refute it at one input. -/
def labelGrowsWrong : ChangeSpec := { name := "labelGrows", fn := fun _ => fun
  | [d1, d2, d3] => { results := [.lit (.bool false)], args := [d1, d2, d3] }
  | _ => none }
def LabelGrowsWrongFalsely : Prop := labelGrowsRow.holds Try.pinned (OpenSpec.ofChange labelGrowsWrong)

/-- 'warderlaw35.PathShortest': WHATEVER THE INPUT: true; the input reads as it did. -/
def pathShortestSpec : ChangeSpec := { name := "pathShortest", fn := fun _ => fun
  | [d1, d2, d3] => { results := [.lit (.bool true)], args := [d1, d2, d3] }
  | _ => none }
def pathShortestRow : OpenClaim := { program := "ytlmecpghlgndnaa", sum := "4c5161ac6b870f6a64cfdc1f53ed469c063396048dbb73299016a56fac97c2df", func := "warder/warderlaw35.PathShortest", spec := "pathShortest", apart := false }
def PathShortestSaid : Prop := pathShortestRow.holds Try.pinned (OpenSpec.ofChange pathShortestSpec)

/-- ITS FALSE NEIGHBOUR: 'it returns false'. Refute it at one input. -/
def pathShortestWrong : ChangeSpec := { name := "pathShortest", fn := fun _ => fun
  | [d1, d2, d3] => { results := [.lit (.bool false)], args := [d1, d2, d3] }
  | _ => none }
def PathShortestWrongFalsely : Prop := pathShortestRow.holds Try.pinned (OpenSpec.ofChange pathShortestWrong)

/-- 'warderlaw35.PathLasso': WHATEVER THE INPUT: true; the input reads as it did. -/
def pathLassoSpec : ChangeSpec := { name := "pathLasso", fn := fun _ => fun
  | [d1, d2, d3] => { results := [.lit (.bool true)], args := [d1, d2, d3] }
  | _ => none }
def pathLassoRow : OpenClaim := { program := "ytlmecpghlgndnaa", sum := "4c5161ac6b870f6a64cfdc1f53ed469c063396048dbb73299016a56fac97c2df", func := "warder/warderlaw35.PathLasso", spec := "pathLasso", unfollowed := true, recurses := true, apart := false }
def PathLassoSaid : Prop := pathLassoRow.holds Try.pinned (OpenSpec.ofChange pathLassoSpec)

/-- ITS FALSE NEIGHBOUR: 'it returns false'. Refute it at one input. -/
def pathLassoWrong : ChangeSpec := { name := "pathLasso", fn := fun _ => fun
  | [d1, d2, d3] => { results := [.lit (.bool false)], args := [d1, d2, d3] }
  | _ => none }
def PathLassoWrongFalsely : Prop := pathLassoRow.holds Try.pinned (OpenSpec.ofChange pathLassoWrong)

/-- 'warderlaw35.PathLeads': WHATEVER THE INPUT: true; the input reads as it did. -/
def pathLeadsSpec : ChangeSpec := { name := "pathLeads", fn := fun _ => fun
  | [d1, d2, d3] => { results := [.lit (.bool true)], args := [d1, d2, d3] }
  | _ => none }
def pathLeadsRow : OpenClaim := { program := "ytlmecpghlgndnaa", sum := "4c5161ac6b870f6a64cfdc1f53ed469c063396048dbb73299016a56fac97c2df", func := "warder/warderlaw35.PathLeads", spec := "pathLeads", unfollowed := true, recurses := true, apart := false }
def PathLeadsSaid : Prop := pathLeadsRow.holds Try.pinned (OpenSpec.ofChange pathLeadsSpec)

/-- ITS FALSE NEIGHBOUR: 'it returns false'. Refute it at one input. -/
def pathLeadsWrong : ChangeSpec := { name := "pathLeads", fn := fun _ => fun
  | [d1, d2, d3] => { results := [.lit (.bool false)], args := [d1, d2, d3] }
  | _ => none }
def PathLeadsWrongFalsely : Prop := pathLeadsRow.holds Try.pinned (OpenSpec.ofChange pathLeadsWrong)

/-- 'warderlaw35.PathEnds': WHATEVER THE INPUT: true; the input reads as it did. -/
def pathEndsSpec : ChangeSpec := { name := "pathEnds", fn := fun _ => fun
  | [d1, d2, d3] => { results := [.lit (.bool true)], args := [d1, d2, d3] }
  | _ => none }
def pathEndsRow : OpenClaim := { program := "ytlmecpghlgndnaa", sum := "4c5161ac6b870f6a64cfdc1f53ed469c063396048dbb73299016a56fac97c2df", func := "warder/warderlaw35.PathEnds", spec := "pathEnds", apart := false }
def PathEndsSaid : Prop := pathEndsRow.holds Try.pinned (OpenSpec.ofChange pathEndsSpec)

/-- ITS FALSE NEIGHBOUR: 'it returns false'. Refute it at one input. -/
def pathEndsWrong : ChangeSpec := { name := "pathEnds", fn := fun _ => fun
  | [d1, d2, d3] => { results := [.lit (.bool false)], args := [d1, d2, d3] }
  | _ => none }
def PathEndsWrongFalsely : Prop := pathEndsRow.holds Try.pinned (OpenSpec.ofChange pathEndsWrong)

/- THE SECOND FORM. 'bulk': how many values and letters a reading holds, each counted each time it is reached (what is shared counts as often as it is met; a slice's spare places count too). A statement '..UptoSaid' is the law's where the arguments, and the package variables that the reading takes, are together of bulk at most 1048576: NARROWER than '..Said'. Prove '..Said' where nothing that the law and all that it calls make is longer than what came in: it says more and counts as full. Else prove '..UptoSaid'. A law counts once. -/
mutual
def uptoBulk {H : Type} : DataW H → Nat
  | .lit (.string bytes) => bytes.length + 1
  | .lit _ => 1
  | .nil => 1
  | .ptr d => uptoBulk d + 1
  | .slice elems spare => uptoBulkAll elems + uptoBulkAll spare + 1
  | .agg parts => uptoBulkAll parts + 1
  | .iface _ d => uptoBulk d + 1
  | .map entries => uptoBulkEntries entries + 1
  | .held _ => 1
def uptoBulkAll {H : Type} : List (DataW H) → Nat
  | [] => 0
  | d :: r => uptoBulk d + uptoBulkAll r
def uptoBulkEntries {H : Type} : List (Lit × DataW H) → Nat
  | [] => 0
  | x :: r => uptoBulkEntry x + uptoBulkEntries r
def uptoBulkEntry {H : Type} : Lit × DataW H → Nat
  | (.string bytes, d) => bytes.length + uptoBulk d + 1
  | (_, d) => uptoBulk d + 1
 end
def uptoSmall : (H : Type) → List (DataW H) → Bool := fun _ ds => decide (uptoBulkAll ds ≤ 1048576)
def OpenSpec.upto (s : _root_.Go.ChangeSpec) : _root_.Go.OpenSpec := { _root_.Go.OpenSpec.ofChange s with cond := some uptoSmall }

/-- 'warderlaw32.LabelWays', WHERE WHAT IT READS IS OF BULK AT MOST 1048576: true; the input reads as it did. -/
def labelWaysUptoRow : OpenClaim := { program := "ytlmecpghlgndnaa", sum := "4c5161ac6b870f6a64cfdc1f53ed469c063396048dbb73299016a56fac97c2df", func := "warder/warderlaw32.LabelWays", spec := "labelWays", unfollowed := true, recurses := true, apart := false, narrowed := true }
def LabelWaysUptoSaid : Prop := labelWaysUptoRow.holds Try.pinned (OpenSpec.upto labelWaysSpec)

/-- 'warderlaw32.LabelFixed', WHERE WHAT IT READS IS OF BULK AT MOST 1048576: true; the input reads as it did. -/
def labelFixedUptoRow : OpenClaim := { program := "ytlmecpghlgndnaa", sum := "4c5161ac6b870f6a64cfdc1f53ed469c063396048dbb73299016a56fac97c2df", func := "warder/warderlaw32.LabelFixed", spec := "labelFixed", unfollowed := true, recurses := true, apart := false, narrowed := true }
def LabelFixedUptoSaid : Prop := labelFixedUptoRow.holds Try.pinned (OpenSpec.upto labelFixedSpec)

/-- 'warderlaw32.LabelGrows', WHERE WHAT IT READS IS OF BULK AT MOST 1048576: true; the input reads as it did. -/
def labelGrowsUptoRow : OpenClaim := { program := "ytlmecpghlgndnaa", sum := "4c5161ac6b870f6a64cfdc1f53ed469c063396048dbb73299016a56fac97c2df", func := "warder/warderlaw32.LabelGrows", spec := "labelGrows", unfollowed := true, recurses := true, apart := false, narrowed := true }
def LabelGrowsUptoSaid : Prop := labelGrowsUptoRow.holds Try.pinned (OpenSpec.upto labelGrowsSpec)

/-- 'warderlaw35.PathShortest', WHERE WHAT IT READS IS OF BULK AT MOST 1048576: true; the input reads as it did. -/
def pathShortestUptoRow : OpenClaim := { program := "ytlmecpghlgndnaa", sum := "4c5161ac6b870f6a64cfdc1f53ed469c063396048dbb73299016a56fac97c2df", func := "warder/warderlaw35.PathShortest", spec := "pathShortest", apart := false, narrowed := true }
def PathShortestUptoSaid : Prop := pathShortestUptoRow.holds Try.pinned (OpenSpec.upto pathShortestSpec)

/-- 'warderlaw35.PathLasso', WHERE WHAT IT READS IS OF BULK AT MOST 1048576: true; the input reads as it did. -/
def pathLassoUptoRow : OpenClaim := { program := "ytlmecpghlgndnaa", sum := "4c5161ac6b870f6a64cfdc1f53ed469c063396048dbb73299016a56fac97c2df", func := "warder/warderlaw35.PathLasso", spec := "pathLasso", unfollowed := true, recurses := true, apart := false, narrowed := true }
def PathLassoUptoSaid : Prop := pathLassoUptoRow.holds Try.pinned (OpenSpec.upto pathLassoSpec)

/-- 'warderlaw35.PathLeads', WHERE WHAT IT READS IS OF BULK AT MOST 1048576: true; the input reads as it did. -/
def pathLeadsUptoRow : OpenClaim := { program := "ytlmecpghlgndnaa", sum := "4c5161ac6b870f6a64cfdc1f53ed469c063396048dbb73299016a56fac97c2df", func := "warder/warderlaw35.PathLeads", spec := "pathLeads", unfollowed := true, recurses := true, apart := false, narrowed := true }
def PathLeadsUptoSaid : Prop := pathLeadsUptoRow.holds Try.pinned (OpenSpec.upto pathLeadsSpec)

/-- 'warderlaw35.PathEnds', WHERE WHAT IT READS IS OF BULK AT MOST 1048576: true; the input reads as it did. -/
def pathEndsUptoRow : OpenClaim := { program := "ytlmecpghlgndnaa", sum := "4c5161ac6b870f6a64cfdc1f53ed469c063396048dbb73299016a56fac97c2df", func := "warder/warderlaw35.PathEnds", spec := "pathEnds", apart := false, narrowed := true }
def PathEndsUptoSaid : Prop := pathEndsUptoRow.holds Try.pinned (OpenSpec.upto pathEndsSpec)

end Rows
end Go.Proofs.Ytlmecpghlgndnaa
