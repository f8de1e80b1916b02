/-
  No cell of these rows narrows 'for every input' (looked for: loops, veiled, ifaces, maps, wideKeys, modest, calm, conditions, laid).
  DERIVED. THE GIVEN ROWS OF THIS SEAT. 12 by the template 'for every input the law returns true; each argument reads behind the call as it read before'; 0 by the template 'total and deterministic' (their statements: YtnljihankodedaaTotals.lean).
  GIVEN WITH THE SEED: the statements are not yours to turn. If you find one false, say at which input.
  Laid BY PROGRAM, IN A SANDBOX (cutbox-rows.mjs): the forced cells as the released guide's own fill.sh prints them over the translation 3e5cd1e72e58fe6b… (all of the seat's roots in one cut). By AI agents, Wed Nov 11 2026. No macro, syntax, notation, axiom, sorry.
-/
import Derived.Test.YtnljihankodedaaChecked
import GoSem.Claim
import GoSem.ClaimJoined
import GoSem.ClaimMapViews
import Derived.JoinedTies
import Derived.KernelRfl
namespace Go.Proofs.Ytnljihankodedaa
/- THE CELL 'sum', in the pinned program and in every row, IS THE sha256 OF THE DUMP (.gsa) THAT YtnljihankodedaaProg.lean LOADS. Nothing in Lean hashes anything: it is a label: what it is worth is what the hold of that sum in a sandbox is worth. -/
noncomputable def Try.pinned : Pinned := { name := "ytnljihankodedaa", sum := "3e5cd1e72e58fe6bf39b63cf865dcf2eb41b44f6dbb60bfe8338b76ce05fae8e", checked := Try.checked }
namespace Rows
def none {H : Type} : Left H := { results := [], args := [] }

/-- 'warderlaw14.BitsSets': WHATEVER THE INPUT: true; the input reads as it did. -/
def bitsSetsSpec : ChangeSpec := { name := "bitsSets", fn := fun _ => fun
  | [d1, d2] => { results := [.lit (.bool true)], args := [d1, d2] }
  | _ => none }
def bitsSetsRow : OpenClaim := { program := "ytnljihankodedaa", sum := "3e5cd1e72e58fe6bf39b63cf865dcf2eb41b44f6dbb60bfe8338b76ce05fae8e", func := "warder/warderlaw14.BitsSets", spec := "bitsSets", apart := false }
def BitsSetsSaid : Prop := bitsSetsRow.holds Try.pinned (OpenSpec.ofChange bitsSetsSpec)

/-- ITS FALSE NEIGHBOUR: 'it returns false'. Refute it at one input. -/
def bitsSetsWrong : ChangeSpec := { name := "bitsSets", fn := fun _ => fun
  | [d1, d2] => { results := [.lit (.bool false)], args := [d1, d2] }
  | _ => none }
def BitsSetsWrongFalsely : Prop := bitsSetsRow.holds Try.pinned (OpenSpec.ofChange bitsSetsWrong)

/-- 'warderlaw14.BitsLists': WHATEVER THE INPUT: true; the input reads as it did. -/
def bitsListsSpec : ChangeSpec := { name := "bitsLists", fn := fun _ => fun
  | [d1, d2, d3] => { results := [.lit (.bool true)], args := [d1, d2, d3] }
  | _ => none }
def bitsListsRow : OpenClaim := { program := "ytnljihankodedaa", sum := "3e5cd1e72e58fe6bf39b63cf865dcf2eb41b44f6dbb60bfe8338b76ce05fae8e", func := "warder/warderlaw14.BitsLists", spec := "bitsLists", apart := false }
def BitsListsSaid : Prop := bitsListsRow.holds Try.pinned (OpenSpec.ofChange bitsListsSpec)

/-- ITS FALSE NEIGHBOUR: 'it returns false'. Refute it at one input. -/
def bitsListsWrong : ChangeSpec := { name := "bitsLists", fn := fun _ => fun
  | [d1, d2, d3] => { results := [.lit (.bool false)], args := [d1, d2, d3] }
  | _ => none }
def BitsListsWrongFalsely : Prop := bitsListsRow.holds Try.pinned (OpenSpec.ofChange bitsListsWrong)

/-- 'warderlaw14.BitsBack': WHATEVER THE INPUT: true; the input reads as it did. -/
def bitsBackSpec : ChangeSpec := { name := "bitsBack", fn := fun _ => fun
  | [d1, d2, d3] => { results := [.lit (.bool true)], args := [d1, d2, d3] }
  | _ => none }
def bitsBackRow : OpenClaim := { program := "ytnljihankodedaa", sum := "3e5cd1e72e58fe6bf39b63cf865dcf2eb41b44f6dbb60bfe8338b76ce05fae8e", func := "warder/warderlaw14.BitsBack", spec := "bitsBack", apart := false }
def BitsBackSaid : Prop := bitsBackRow.holds Try.pinned (OpenSpec.ofChange bitsBackSpec)

/-- ITS FALSE NEIGHBOUR: 'it returns false'. Refute it at one input. -/
def bitsBackWrong : ChangeSpec := { name := "bitsBack", fn := fun _ => fun
  | [d1, d2, d3] => { results := [.lit (.bool false)], args := [d1, d2, d3] }
  | _ => none }
def BitsBackWrongFalsely : Prop := bitsBackRow.holds Try.pinned (OpenSpec.ofChange bitsBackWrong)

/-- 'warderlaw16.EvalCompares': WHATEVER THE INPUT: true; the input reads as it did. -/
def evalComparesSpec : ChangeSpec := { name := "evalCompares", fn := fun _ => fun
  | [d1, d2, d3] => { results := [.lit (.bool true)], args := [d1, d2, d3] }
  | _ => none }
def evalComparesRow : OpenClaim := { program := "ytnljihankodedaa", sum := "3e5cd1e72e58fe6bf39b63cf865dcf2eb41b44f6dbb60bfe8338b76ce05fae8e", func := "warder/warderlaw16.EvalCompares", spec := "evalCompares", unfollowed := true, recurses := true, apart := false }
def EvalComparesSaid : Prop := evalComparesRow.holds Try.pinned (OpenSpec.ofChange evalComparesSpec)

/-- ITS FALSE NEIGHBOUR: 'it returns false'. Refute it at one input. -/
def evalComparesWrong : ChangeSpec := { name := "evalCompares", fn := fun _ => fun
  | [d1, d2, d3] => { results := [.lit (.bool false)], args := [d1, d2, d3] }
  | _ => none }
def EvalComparesWrongFalsely : Prop := evalComparesRow.holds Try.pinned (OpenSpec.ofChange evalComparesWrong)

/-- 'warderlaw21.HalveCaps': WHATEVER THE INPUT: true; the input reads as it did. -/
def halveCapsSpec : ChangeSpec := { name := "halveCaps", fn := fun _ => fun
  | [d1, d2, d3] => { results := [.lit (.bool true)], args := [d1, d2, d3] }
  | _ => none }
def halveCapsRow : OpenClaim := { program := "ytnljihankodedaa", sum := "3e5cd1e72e58fe6bf39b63cf865dcf2eb41b44f6dbb60bfe8338b76ce05fae8e", func := "warder/warderlaw21.HalveCaps", spec := "halveCaps", unfollowed := true, recurses := true, apart := false }
def HalveCapsSaid : Prop := halveCapsRow.holds Try.pinned (OpenSpec.ofChange halveCapsSpec)

/-- ITS FALSE NEIGHBOUR: 'it returns false'. Refute it at one input. -/
def halveCapsWrong : ChangeSpec := { name := "halveCaps", fn := fun _ => fun
  | [d1, d2, d3] => { results := [.lit (.bool false)], args := [d1, d2, d3] }
  | _ => none }
def HalveCapsWrongFalsely : Prop := halveCapsRow.holds Try.pinned (OpenSpec.ofChange halveCapsWrong)

/-- 'warderlaw21.HalveSplits': WHATEVER THE INPUT: true; the input reads as it did. -/
def halveSplitsSpec : ChangeSpec := { name := "halveSplits", fn := fun _ => fun
  | [d1, d2] => { results := [.lit (.bool true)], args := [d1, d2] }
  | _ => none }
def halveSplitsRow : OpenClaim := { program := "ytnljihankodedaa", sum := "3e5cd1e72e58fe6bf39b63cf865dcf2eb41b44f6dbb60bfe8338b76ce05fae8e", func := "warder/warderlaw21.HalveSplits", spec := "halveSplits", unfollowed := true, recurses := true, apart := false }
def HalveSplitsSaid : Prop := halveSplitsRow.holds Try.pinned (OpenSpec.ofChange halveSplitsSpec)

/-- ITS FALSE NEIGHBOUR: 'it returns false'. Refute it at one input. -/
def halveSplitsWrong : ChangeSpec := { name := "halveSplits", fn := fun _ => fun
  | [d1, d2] => { results := [.lit (.bool false)], args := [d1, d2] }
  | _ => none }
def HalveSplitsWrongFalsely : Prop := halveSplitsRow.holds Try.pinned (OpenSpec.ofChange halveSplitsWrong)

/-- 'warderlaw21.HalveSame': WHATEVER THE INPUT: true; the input reads as it did. -/
def halveSameSpec : ChangeSpec := { name := "halveSame", fn := fun _ => fun
  | [d1, d2] => { results := [.lit (.bool true)], args := [d1, d2] }
  | _ => none }
def halveSameRow : OpenClaim := { program := "ytnljihankodedaa", sum := "3e5cd1e72e58fe6bf39b63cf865dcf2eb41b44f6dbb60bfe8338b76ce05fae8e", func := "warder/warderlaw21.HalveSame", spec := "halveSame", unfollowed := true, recurses := true, apart := false }
def HalveSameSaid : Prop := halveSameRow.holds Try.pinned (OpenSpec.ofChange halveSameSpec)

/-- ITS FALSE NEIGHBOUR: 'it returns false'. Refute it at one input. -/
def halveSameWrong : ChangeSpec := { name := "halveSame", fn := fun _ => fun
  | [d1, d2] => { results := [.lit (.bool false)], args := [d1, d2] }
  | _ => none }
def HalveSameWrongFalsely : Prop := halveSameRow.holds Try.pinned (OpenSpec.ofChange halveSameWrong)

/-- 'warderlaw29.TableSums': WHATEVER THE INPUT: true; the input reads as it did. -/
def tableSumsSpec : ChangeSpec := { name := "tableSums", fn := fun _ => fun
  | [d] => { results := [.lit (.bool true)], args := [d] }
  | _ => none }
def tableSumsRow : OpenClaim := { program := "ytnljihankodedaa", sum := "3e5cd1e72e58fe6bf39b63cf865dcf2eb41b44f6dbb60bfe8338b76ce05fae8e", func := "warder/warderlaw29.TableSums", spec := "tableSums", apart := false }
def TableSumsSaid : Prop := tableSumsRow.holds Try.pinned (OpenSpec.ofChange tableSumsSpec)

/-- ITS FALSE NEIGHBOUR: 'it returns false'. Refute it at one input. -/
def tableSumsWrong : ChangeSpec := { name := "tableSums", fn := fun _ => fun
  | [d] => { results := [.lit (.bool false)], args := [d] }
  | _ => none }
def TableSumsWrongFalsely : Prop := tableSumsRow.holds Try.pinned (OpenSpec.ofChange tableSumsWrong)

/-- 'warderlaw29.TableBits': WHATEVER THE INPUT: true; the input reads as it did. -/
def tableBitsSpec : ChangeSpec := { name := "tableBits", fn := fun _ => fun
  | [d1, d2, d3] => { results := [.lit (.bool true)], args := [d1, d2, d3] }
  | _ => none }
def tableBitsRow : OpenClaim := { program := "ytnljihankodedaa", sum := "3e5cd1e72e58fe6bf39b63cf865dcf2eb41b44f6dbb60bfe8338b76ce05fae8e", func := "warder/warderlaw29.TableBits", spec := "tableBits", apart := false }
def TableBitsSaid : Prop := tableBitsRow.holds Try.pinned (OpenSpec.ofChange tableBitsSpec)

/-- ITS FALSE NEIGHBOUR: 'it returns false'. Refute it at one input. -/
def tableBitsWrong : ChangeSpec := { name := "tableBits", fn := fun _ => fun
  | [d1, d2, d3] => { results := [.lit (.bool false)], args := [d1, d2, d3] }
  | _ => none }
def TableBitsWrongFalsely : Prop := tableBitsRow.holds Try.pinned (OpenSpec.ofChange tableBitsWrong)

/-- 'warderlaw29.TableNone': WHATEVER THE INPUT: true; the input reads as it did. -/
def tableNoneSpec : ChangeSpec := { name := "tableNone", fn := fun _ => fun
  | [d1, d2] => { results := [.lit (.bool true)], args := [d1, d2] }
  | _ => none }
def tableNoneRow : OpenClaim := { program := "ytnljihankodedaa", sum := "3e5cd1e72e58fe6bf39b63cf865dcf2eb41b44f6dbb60bfe8338b76ce05fae8e", func := "warder/warderlaw29.TableNone", spec := "tableNone", apart := false }
def TableNoneSaid : Prop := tableNoneRow.holds Try.pinned (OpenSpec.ofChange tableNoneSpec)

/-- ITS FALSE NEIGHBOUR: 'it returns false'. Refute it at one input. -/
def tableNoneWrong : ChangeSpec := { name := "tableNone", fn := fun _ => fun
  | [d1, d2] => { results := [.lit (.bool false)], args := [d1, d2] }
  | _ => none }
def TableNoneWrongFalsely : Prop := tableNoneRow.holds Try.pinned (OpenSpec.ofChange tableNoneWrong)

/-- 'warderlaw32.LabelSets': WHATEVER THE INPUT: true; the input reads as it did. -/
def labelSetsSpec : ChangeSpec := { name := "labelSets", fn := fun _ => fun
  | [d1, d2] => { results := [.lit (.bool true)], args := [d1, d2] }
  | _ => none }
def labelSetsRow : OpenClaim := { program := "ytnljihankodedaa", sum := "3e5cd1e72e58fe6bf39b63cf865dcf2eb41b44f6dbb60bfe8338b76ce05fae8e", func := "warder/warderlaw32.LabelSets", spec := "labelSets", unfollowed := true, recurses := true, apart := false }
def LabelSetsSaid : Prop := labelSetsRow.holds Try.pinned (OpenSpec.ofChange labelSetsSpec)

/-- ITS FALSE NEIGHBOUR: 'it returns false'. Refute it at one input. -/
def labelSetsWrong : ChangeSpec := { name := "labelSets", fn := fun _ => fun
  | [d1, d2] => { results := [.lit (.bool false)], args := [d1, d2] }
  | _ => none }
def LabelSetsWrongFalsely : Prop := labelSetsRow.holds Try.pinned (OpenSpec.ofChange labelSetsWrong)

/-- 'warderlaw41.BoundTimes': WHATEVER THE INPUT: true; the input reads as it did. -/
def boundTimesSpec : ChangeSpec := { name := "boundTimes", fn := fun _ => fun
  | [d1, d2, d3] => { results := [.lit (.bool true)], args := [d1, d2, d3] }
  | _ => none }
def boundTimesRow : OpenClaim := { program := "ytnljihankodedaa", sum := "3e5cd1e72e58fe6bf39b63cf865dcf2eb41b44f6dbb60bfe8338b76ce05fae8e", func := "warder/warderlaw41.BoundTimes", spec := "boundTimes", apart := false }
def BoundTimesSaid : Prop := boundTimesRow.holds Try.pinned (OpenSpec.ofChange boundTimesSpec)

/-- ITS FALSE NEIGHBOUR: 'it returns false'. Refute it at one input. -/
def boundTimesWrong : ChangeSpec := { name := "boundTimes", fn := fun _ => fun
  | [d1, d2, d3] => { results := [.lit (.bool false)], args := [d1, d2, d3] }
  | _ => none }
def BoundTimesWrongFalsely : Prop := boundTimesRow.holds Try.pinned (OpenSpec.ofChange boundTimesWrong)

/- THE SECOND FORM. 'bulk': how many values and letters a reading holds, each counted each time it is reached (what is shared counts as often as it is met; a slice's spare places count too). A statement '..UptoSaid' is the law's where the arguments, and the package variables that the reading takes, are together of bulk at most 1048576: NARROWER than '..Said'. Prove '..Said' where nothing that the law and all that it calls make is longer than what came in: it says more and counts as full. Else prove '..UptoSaid'. A law counts once. -/
mutual
def uptoBulk {H : Type} : DataW H → Nat
  | .lit (.string bytes) => bytes.length + 1
  | .lit _ => 1
  | .nil => 1
  | .ptr d => uptoBulk d + 1
  | .slice elems spare => uptoBulkAll elems + uptoBulkAll spare + 1
  | .agg parts => uptoBulkAll parts + 1
  | .iface _ d => uptoBulk d + 1
  | .map entries => uptoBulkEntries entries + 1
  | .held _ => 1
def uptoBulkAll {H : Type} : List (DataW H) → Nat
  | [] => 0
  | d :: r => uptoBulk d + uptoBulkAll r
def uptoBulkEntries {H : Type} : List (Lit × DataW H) → Nat
  | [] => 0
  | x :: r => uptoBulkEntry x + uptoBulkEntries r
def uptoBulkEntry {H : Type} : Lit × DataW H → Nat
  | (.string bytes, d) => bytes.length + uptoBulk d + 1
  | (_, d) => uptoBulk d + 1
 end
def uptoSmall : (H : Type) → List (DataW H) → Bool := fun _ ds => decide (uptoBulkAll ds ≤ 1048576)
def OpenSpec.upto (s : _root_.Go.ChangeSpec) : _root_.Go.OpenSpec := { _root_.Go.OpenSpec.ofChange s with cond := some uptoSmall }

/-- 'warderlaw14.BitsSets', WHERE WHAT IT READS IS OF BULK AT MOST 1048576: true; the input reads as it did. -/
def bitsSetsUptoRow : OpenClaim := { program := "ytnljihankodedaa", sum := "3e5cd1e72e58fe6bf39b63cf865dcf2eb41b44f6dbb60bfe8338b76ce05fae8e", func := "warder/warderlaw14.BitsSets", spec := "bitsSets", apart := false, narrowed := true }
def BitsSetsUptoSaid : Prop := bitsSetsUptoRow.holds Try.pinned (OpenSpec.upto bitsSetsSpec)

/-- 'warderlaw14.BitsLists', WHERE WHAT IT READS IS OF BULK AT MOST 1048576: true; the input reads as it did. -/
def bitsListsUptoRow : OpenClaim := { program := "ytnljihankodedaa", sum := "3e5cd1e72e58fe6bf39b63cf865dcf2eb41b44f6dbb60bfe8338b76ce05fae8e", func := "warder/warderlaw14.BitsLists", spec := "bitsLists", apart := false, narrowed := true }
def BitsListsUptoSaid : Prop := bitsListsUptoRow.holds Try.pinned (OpenSpec.upto bitsListsSpec)

/-- 'warderlaw14.BitsBack', WHERE WHAT IT READS IS OF BULK AT MOST 1048576: true; the input reads as it did. -/
def bitsBackUptoRow : OpenClaim := { program := "ytnljihankodedaa", sum := "3e5cd1e72e58fe6bf39b63cf865dcf2eb41b44f6dbb60bfe8338b76ce05fae8e", func := "warder/warderlaw14.BitsBack", spec := "bitsBack", apart := false, narrowed := true }
def BitsBackUptoSaid : Prop := bitsBackUptoRow.holds Try.pinned (OpenSpec.upto bitsBackSpec)

/-- 'warderlaw16.EvalCompares', WHERE WHAT IT READS IS OF BULK AT MOST 1048576: true; the input reads as it did. -/
def evalComparesUptoRow : OpenClaim := { program := "ytnljihankodedaa", sum := "3e5cd1e72e58fe6bf39b63cf865dcf2eb41b44f6dbb60bfe8338b76ce05fae8e", func := "warder/warderlaw16.EvalCompares", spec := "evalCompares", unfollowed := true, recurses := true, apart := false, narrowed := true }
def EvalComparesUptoSaid : Prop := evalComparesUptoRow.holds Try.pinned (OpenSpec.upto evalComparesSpec)

/-- 'warderlaw21.HalveCaps', WHERE WHAT IT READS IS OF BULK AT MOST 1048576: true; the input reads as it did. -/
def halveCapsUptoRow : OpenClaim := { program := "ytnljihankodedaa", sum := "3e5cd1e72e58fe6bf39b63cf865dcf2eb41b44f6dbb60bfe8338b76ce05fae8e", func := "warder/warderlaw21.HalveCaps", spec := "halveCaps", unfollowed := true, recurses := true, apart := false, narrowed := true }
def HalveCapsUptoSaid : Prop := halveCapsUptoRow.holds Try.pinned (OpenSpec.upto halveCapsSpec)

/-- 'warderlaw21.HalveSplits', WHERE WHAT IT READS IS OF BULK AT MOST 1048576: true; the input reads as it did. -/
def halveSplitsUptoRow : OpenClaim := { program := "ytnljihankodedaa", sum := "3e5cd1e72e58fe6bf39b63cf865dcf2eb41b44f6dbb60bfe8338b76ce05fae8e", func := "warder/warderlaw21.HalveSplits", spec := "halveSplits", unfollowed := true, recurses := true, apart := false, narrowed := true }
def HalveSplitsUptoSaid : Prop := halveSplitsUptoRow.holds Try.pinned (OpenSpec.upto halveSplitsSpec)

/-- 'warderlaw21.HalveSame', WHERE WHAT IT READS IS OF BULK AT MOST 1048576: true; the input reads as it did. -/
def halveSameUptoRow : OpenClaim := { program := "ytnljihankodedaa", sum := "3e5cd1e72e58fe6bf39b63cf865dcf2eb41b44f6dbb60bfe8338b76ce05fae8e", func := "warder/warderlaw21.HalveSame", spec := "halveSame", unfollowed := true, recurses := true, apart := false, narrowed := true }
def HalveSameUptoSaid : Prop := halveSameUptoRow.holds Try.pinned (OpenSpec.upto halveSameSpec)

/-- 'warderlaw29.TableSums', WHERE WHAT IT READS IS OF BULK AT MOST 1048576: true; the input reads as it did. -/
def tableSumsUptoRow : OpenClaim := { program := "ytnljihankodedaa", sum := "3e5cd1e72e58fe6bf39b63cf865dcf2eb41b44f6dbb60bfe8338b76ce05fae8e", func := "warder/warderlaw29.TableSums", spec := "tableSums", apart := false, narrowed := true }
def TableSumsUptoSaid : Prop := tableSumsUptoRow.holds Try.pinned (OpenSpec.upto tableSumsSpec)

/-- 'warderlaw29.TableBits', WHERE WHAT IT READS IS OF BULK AT MOST 1048576: true; the input reads as it did. -/
def tableBitsUptoRow : OpenClaim := { program := "ytnljihankodedaa", sum := "3e5cd1e72e58fe6bf39b63cf865dcf2eb41b44f6dbb60bfe8338b76ce05fae8e", func := "warder/warderlaw29.TableBits", spec := "tableBits", apart := false, narrowed := true }
def TableBitsUptoSaid : Prop := tableBitsUptoRow.holds Try.pinned (OpenSpec.upto tableBitsSpec)

/-- 'warderlaw29.TableNone', WHERE WHAT IT READS IS OF BULK AT MOST 1048576: true; the input reads as it did. -/
def tableNoneUptoRow : OpenClaim := { program := "ytnljihankodedaa", sum := "3e5cd1e72e58fe6bf39b63cf865dcf2eb41b44f6dbb60bfe8338b76ce05fae8e", func := "warder/warderlaw29.TableNone", spec := "tableNone", apart := false, narrowed := true }
def TableNoneUptoSaid : Prop := tableNoneUptoRow.holds Try.pinned (OpenSpec.upto tableNoneSpec)

/-- 'warderlaw32.LabelSets', WHERE WHAT IT READS IS OF BULK AT MOST 1048576: true; the input reads as it did. -/
def labelSetsUptoRow : OpenClaim := { program := "ytnljihankodedaa", sum := "3e5cd1e72e58fe6bf39b63cf865dcf2eb41b44f6dbb60bfe8338b76ce05fae8e", func := "warder/warderlaw32.LabelSets", spec := "labelSets", unfollowed := true, recurses := true, apart := false, narrowed := true }
def LabelSetsUptoSaid : Prop := labelSetsUptoRow.holds Try.pinned (OpenSpec.upto labelSetsSpec)

/-- 'warderlaw41.BoundTimes', WHERE WHAT IT READS IS OF BULK AT MOST 1048576: true; the input reads as it did. -/
def boundTimesUptoRow : OpenClaim := { program := "ytnljihankodedaa", sum := "3e5cd1e72e58fe6bf39b63cf865dcf2eb41b44f6dbb60bfe8338b76ce05fae8e", func := "warder/warderlaw41.BoundTimes", spec := "boundTimes", apart := false, narrowed := true }
def BoundTimesUptoSaid : Prop := boundTimesUptoRow.holds Try.pinned (OpenSpec.upto boundTimesSpec)

end Rows
end Go.Proofs.Ytnljihankodedaa
