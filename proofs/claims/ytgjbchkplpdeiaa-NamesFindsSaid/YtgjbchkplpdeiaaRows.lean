/-
  No cell of these rows narrows 'for every input' (looked for: loops, veiled, ifaces, maps, wideKeys, modest, calm, conditions, laid).
  DERIVED. THE GIVEN ROWS OF THIS SEAT. 12 by the template 'for every input the law returns true; each argument reads behind the call as it read before'; 0 by the template 'total and deterministic' (their statements: YtgjbchkplpdeiaaTotals.lean).
  GIVEN WITH THE SEED: the statements are not yours to turn. If you find one false, say at which input.
  Laid BY PROGRAM, IN A SANDBOX (cutbox-rows.mjs): the forced cells as the released guide's own fill.sh prints them over the translation 024133c3157bab5b… (all of the seat's roots in one cut). By AI agents, Wed Nov 11 2026. No macro, syntax, notation, axiom, sorry.
-/
import Derived.Test.YtgjbchkplpdeiaaChecked
import GoSem.Claim
import GoSem.ClaimJoined
import GoSem.ClaimMapViews
import Derived.JoinedTies
import Derived.KernelRfl
namespace Go.Proofs.Ytgjbchkplpdeiaa
/- THE CELL 'sum', in the pinned program and in every row, IS THE sha256 OF THE DUMP (.gsa) THAT YtgjbchkplpdeiaaProg.lean LOADS. Nothing in Lean hashes anything: it is a label: what it is worth is what the hold of that sum in a sandbox is worth. -/
noncomputable def Try.pinned : Pinned := { name := "ytgjbchkplpdeiaa", sum := "024133c3157bab5b762ebddbecc66cc024ab9d6d4a287718eff2536f147819c5", checked := Try.checked }
namespace Rows
def none {H : Type} : Left H := { results := [], args := [] }

/-- 'warderlaw01.TextRunes': WHATEVER THE INPUT: true; the input reads as it did. -/
def textRunesSpec : ChangeSpec := { name := "textRunes", fn := fun _ => fun
  | [d] => { results := [.lit (.bool true)], args := [d] }
  | _ => none }
def textRunesRow : OpenClaim := { program := "ytgjbchkplpdeiaa", sum := "024133c3157bab5b762ebddbecc66cc024ab9d6d4a287718eff2536f147819c5", func := "warder/warderlaw01.TextRunes", spec := "textRunes", plainKeys := false, apart := false }
def TextRunesSaid : Prop := textRunesRow.holds Try.pinned (OpenSpec.ofChange textRunesSpec)

/-- ITS FALSE NEIGHBOUR: 'it returns false'. Refute it at one input. -/
def textRunesWrong : ChangeSpec := { name := "textRunes", fn := fun _ => fun
  | [d] => { results := [.lit (.bool false)], args := [d] }
  | _ => none }
def TextRunesWrongFalsely : Prop := textRunesRow.holds Try.pinned (OpenSpec.ofChange textRunesWrong)

/-- 'warderlaw01.TextAt': WHATEVER THE INPUT: true; the input reads as it did. -/
def textAtSpec : ChangeSpec := { name := "textAt", fn := fun _ => fun
  | [d1, d2] => { results := [.lit (.bool true)], args := [d1, d2] }
  | _ => none }
def textAtRow : OpenClaim := { program := "ytgjbchkplpdeiaa", sum := "024133c3157bab5b762ebddbecc66cc024ab9d6d4a287718eff2536f147819c5", func := "warder/warderlaw01.TextAt", spec := "textAt", plainKeys := false, apart := false }
def TextAtSaid : Prop := textAtRow.holds Try.pinned (OpenSpec.ofChange textAtSpec)

/-- ITS FALSE NEIGHBOUR: 'it returns false'. Refute it at one input. -/
def textAtWrong : ChangeSpec := { name := "textAt", fn := fun _ => fun
  | [d1, d2] => { results := [.lit (.bool false)], args := [d1, d2] }
  | _ => none }
def TextAtWrongFalsely : Prop := textAtRow.holds Try.pinned (OpenSpec.ofChange textAtWrong)

/-- 'warderlaw01.TextLine': WHATEVER THE INPUT: true; the input reads as it did. -/
def textLineSpec : ChangeSpec := { name := "textLine", fn := fun _ => fun
  | [d1, d2] => { results := [.lit (.bool true)], args := [d1, d2] }
  | _ => none }
def textLineRow : OpenClaim := { program := "ytgjbchkplpdeiaa", sum := "024133c3157bab5b762ebddbecc66cc024ab9d6d4a287718eff2536f147819c5", func := "warder/warderlaw01.TextLine", spec := "textLine", inPlace := ["internal/bytealg.IndexByteString", "internal/bytealg.IndexString"], named := ["internal/bytealg.MaxLen"], plainKeys := false, apart := false }
def TextLineSaid : Prop := textLineRow.holds Try.pinned (OpenSpec.ofChange textLineSpec)

/-- ITS FALSE NEIGHBOUR: 'it returns false'. Refute it at one input. -/
def textLineWrong : ChangeSpec := { name := "textLine", fn := fun _ => fun
  | [d1, d2] => { results := [.lit (.bool false)], args := [d1, d2] }
  | _ => none }
def TextLineWrongFalsely : Prop := textLineRow.holds Try.pinned (OpenSpec.ofChange textLineWrong)

/-- 'warderlaw01.TextClass': WHATEVER THE INPUT: true; the input reads as it did. -/
def textClassSpec : ChangeSpec := { name := "textClass", fn := fun _ => fun
  | [d] => { results := [.lit (.bool true)], args := [d] }
  | _ => none }
def textClassRow : OpenClaim := { program := "ytgjbchkplpdeiaa", sum := "024133c3157bab5b762ebddbecc66cc024ab9d6d4a287718eff2536f147819c5", func := "warder/warderlaw01.TextClass", spec := "textClass", plainKeys := false, apart := false }
def TextClassSaid : Prop := textClassRow.holds Try.pinned (OpenSpec.ofChange textClassSpec)

/-- ITS FALSE NEIGHBOUR: 'it returns false'. Refute it at one input. -/
def textClassWrong : ChangeSpec := { name := "textClass", fn := fun _ => fun
  | [d] => { results := [.lit (.bool false)], args := [d] }
  | _ => none }
def TextClassWrongFalsely : Prop := textClassRow.holds Try.pinned (OpenSpec.ofChange textClassWrong)

/-- 'warderlaw01.TextWhole': WHATEVER THE INPUT: true; the input reads as it did. -/
def textWholeSpec : ChangeSpec := { name := "textWhole", fn := fun _ => fun
  | [d] => { results := [.lit (.bool true)], args := [d] }
  | _ => none }
def textWholeRow : OpenClaim := { program := "ytgjbchkplpdeiaa", sum := "024133c3157bab5b762ebddbecc66cc024ab9d6d4a287718eff2536f147819c5", func := "warder/warderlaw01.TextWhole", spec := "textWhole", plainKeys := false, apart := false }
def TextWholeSaid : Prop := textWholeRow.holds Try.pinned (OpenSpec.ofChange textWholeSpec)

/-- ITS FALSE NEIGHBOUR: 'it returns false'. Refute it at one input. -/
def textWholeWrong : ChangeSpec := { name := "textWhole", fn := fun _ => fun
  | [d] => { results := [.lit (.bool false)], args := [d] }
  | _ => none }
def TextWholeWrongFalsely : Prop := textWholeRow.holds Try.pinned (OpenSpec.ofChange textWholeWrong)

/-- 'warderlaw09.NamesFinds': WHATEVER THE INPUT: true; the input reads as it did. -/
def namesFindsSpec : ChangeSpec := { name := "namesFinds", fn := fun _ => fun
  | [d1, d2, d3] => { results := [.lit (.bool true)], args := [d1, d2, d3] }
  | _ => none }
def namesFindsRow : OpenClaim := { program := "ytgjbchkplpdeiaa", sum := "024133c3157bab5b762ebddbecc66cc024ab9d6d4a287718eff2536f147819c5", func := "warder/warderlaw09.NamesFinds", spec := "namesFinds", plainKeys := false, apart := false }
def NamesFindsSaid : Prop := namesFindsRow.holds Try.pinned (OpenSpec.ofChange namesFindsSpec)

/-- ITS FALSE NEIGHBOUR: 'it returns false'. Refute it at one input. -/
def namesFindsWrong : ChangeSpec := { name := "namesFinds", fn := fun _ => fun
  | [d1, d2, d3] => { results := [.lit (.bool false)], args := [d1, d2, d3] }
  | _ => none }
def NamesFindsWrongFalsely : Prop := namesFindsRow.holds Try.pinned (OpenSpec.ofChange namesFindsWrong)

/-- 'warderlaw09.NamesBack': WHATEVER THE INPUT: true; the input reads as it did. -/
def namesBackSpec : ChangeSpec := { name := "namesBack", fn := fun _ => fun
  | [d] => { results := [.lit (.bool true)], args := [d] }
  | _ => none }
def namesBackRow : OpenClaim := { program := "ytgjbchkplpdeiaa", sum := "024133c3157bab5b762ebddbecc66cc024ab9d6d4a287718eff2536f147819c5", func := "warder/warderlaw09.NamesBack", spec := "namesBack", plainKeys := false, apart := false }
def NamesBackSaid : Prop := namesBackRow.holds Try.pinned (OpenSpec.ofChange namesBackSpec)

/-- ITS FALSE NEIGHBOUR: 'it returns false'. Refute it at one input. -/
def namesBackWrong : ChangeSpec := { name := "namesBack", fn := fun _ => fun
  | [d] => { results := [.lit (.bool false)], args := [d] }
  | _ => none }
def NamesBackWrongFalsely : Prop := namesBackRow.holds Try.pinned (OpenSpec.ofChange namesBackWrong)

/-- 'warderlaw09.NamesFew': WHATEVER THE INPUT: true; the input reads as it did. -/
def namesFewSpec : ChangeSpec := { name := "namesFew", fn := fun _ => fun
  | [d1, d2, d3] => { results := [.lit (.bool true)], args := [d1, d2, d3] }
  | _ => none }
def namesFewRow : OpenClaim := { program := "ytgjbchkplpdeiaa", sum := "024133c3157bab5b762ebddbecc66cc024ab9d6d4a287718eff2536f147819c5", func := "warder/warderlaw09.NamesFew", spec := "namesFew", plainKeys := false, apart := false }
def NamesFewSaid : Prop := namesFewRow.holds Try.pinned (OpenSpec.ofChange namesFewSpec)

/-- ITS FALSE NEIGHBOUR: 'it returns false'. Refute it at one input. -/
def namesFewWrong : ChangeSpec := { name := "namesFew", fn := fun _ => fun
  | [d1, d2, d3] => { results := [.lit (.bool false)], args := [d1, d2, d3] }
  | _ => none }
def NamesFewWrongFalsely : Prop := namesFewRow.holds Try.pinned (OpenSpec.ofChange namesFewWrong)

/-- 'warderlaw10.NestAbove': WHATEVER THE INPUT: true; the input reads as it did. -/
def nestAboveSpec : ChangeSpec := { name := "nestAbove", fn := fun _ => fun
  | [d1, d2] => { results := [.lit (.bool true)], args := [d1, d2] }
  | _ => none }
def nestAboveRow : OpenClaim := { program := "ytgjbchkplpdeiaa", sum := "024133c3157bab5b762ebddbecc66cc024ab9d6d4a287718eff2536f147819c5", func := "warder/warderlaw10.NestAbove", spec := "nestAbove", plainKeys := false, apart := false }
def NestAboveSaid : Prop := nestAboveRow.holds Try.pinned (OpenSpec.ofChange nestAboveSpec)

/-- ITS FALSE NEIGHBOUR: 'it returns false'. Refute it at one input. -/
def nestAboveWrong : ChangeSpec := { name := "nestAbove", fn := fun _ => fun
  | [d1, d2] => { results := [.lit (.bool false)], args := [d1, d2] }
  | _ => none }
def NestAboveWrongFalsely : Prop := nestAboveRow.holds Try.pinned (OpenSpec.ofChange nestAboveWrong)

/-- 'warderlaw10.NestCircles': WHATEVER THE INPUT: true; the input reads as it did. -/
def nestCirclesSpec : ChangeSpec := { name := "nestCircles", fn := fun _ => fun
  | [d] => { results := [.lit (.bool true)], args := [d] }
  | _ => none }
def nestCirclesRow : OpenClaim := { program := "ytgjbchkplpdeiaa", sum := "024133c3157bab5b762ebddbecc66cc024ab9d6d4a287718eff2536f147819c5", func := "warder/warderlaw10.NestCircles", spec := "nestCircles", plainKeys := false, apart := false }
def NestCirclesSaid : Prop := nestCirclesRow.holds Try.pinned (OpenSpec.ofChange nestCirclesSpec)

/-- ITS FALSE NEIGHBOUR: 'it returns false'. Refute it at one input. -/
def nestCirclesWrong : ChangeSpec := { name := "nestCircles", fn := fun _ => fun
  | [d] => { results := [.lit (.bool false)], args := [d] }
  | _ => none }
def NestCirclesWrongFalsely : Prop := nestCirclesRow.holds Try.pinned (OpenSpec.ofChange nestCirclesWrong)

/-- 'warderlaw10.NestBoth': WHATEVER THE INPUT: true; the input reads as it did. -/
def nestBothSpec : ChangeSpec := { name := "nestBoth", fn := fun _ => fun
  | [d1, d2, d3] => { results := [.lit (.bool true)], args := [d1, d2, d3] }
  | _ => none }
def nestBothRow : OpenClaim := { program := "ytgjbchkplpdeiaa", sum := "024133c3157bab5b762ebddbecc66cc024ab9d6d4a287718eff2536f147819c5", func := "warder/warderlaw10.NestBoth", spec := "nestBoth", plainKeys := false, apart := false }
def NestBothSaid : Prop := nestBothRow.holds Try.pinned (OpenSpec.ofChange nestBothSpec)

/-- ITS FALSE NEIGHBOUR: 'it returns false'. Refute it at one input. -/
def nestBothWrong : ChangeSpec := { name := "nestBoth", fn := fun _ => fun
  | [d1, d2, d3] => { results := [.lit (.bool false)], args := [d1, d2, d3] }
  | _ => none }
def NestBothWrongFalsely : Prop := nestBothRow.holds Try.pinned (OpenSpec.ofChange nestBothWrong)

/-- 'warderlaw48.ShrinkLists': WHATEVER THE INPUT: true; the input reads as it did. -/
def shrinkListsSpec : ChangeSpec := { name := "shrinkLists", fn := fun _ => fun
  | [d1, d2, d3] => { results := [.lit (.bool true)], args := [d1, d2, d3] }
  | _ => none }
def shrinkListsRow : OpenClaim := { program := "ytgjbchkplpdeiaa", sum := "024133c3157bab5b762ebddbecc66cc024ab9d6d4a287718eff2536f147819c5", func := "warder/warderlaw48.ShrinkLists", spec := "shrinkLists", unfollowed := true, recurses := true, plainKeys := false, apart := false }
def ShrinkListsSaid : Prop := shrinkListsRow.holds Try.pinned (OpenSpec.ofChange shrinkListsSpec)

/-- ITS FALSE NEIGHBOUR: 'it returns false'. Refute it at one input. -/
def shrinkListsWrong : ChangeSpec := { name := "shrinkLists", fn := fun _ => fun
  | [d1, d2, d3] => { results := [.lit (.bool false)], args := [d1, d2, d3] }
  | _ => none }
def ShrinkListsWrongFalsely : Prop := shrinkListsRow.holds Try.pinned (OpenSpec.ofChange shrinkListsWrong)

/- THE SECOND FORM. 'bulk': how many values and letters a reading holds, each counted each time it is reached (what is shared counts as often as it is met; a slice's spare places count too). A statement '..UptoSaid' is the law's where the arguments, and the package variables that the reading takes, are together of bulk at most 1048576: NARROWER than '..Said'. Prove '..Said' where nothing that the law and all that it calls make is longer than what came in: it says more and counts as full. Else prove '..UptoSaid'. A law counts once. -/
mutual
def uptoBulk {H : Type} : DataW H → Nat
  | .lit (.string bytes) => bytes.length + 1
  | .lit _ => 1
  | .nil => 1
  | .ptr d => uptoBulk d + 1
  | .slice elems spare => uptoBulkAll elems + uptoBulkAll spare + 1
  | .agg parts => uptoBulkAll parts + 1
  | .iface _ d => uptoBulk d + 1
  | .map entries => uptoBulkEntries entries + 1
  | .held _ => 1
def uptoBulkAll {H : Type} : List (DataW H) → Nat
  | [] => 0
  | d :: r => uptoBulk d + uptoBulkAll r
def uptoBulkEntries {H : Type} : List (Lit × DataW H) → Nat
  | [] => 0
  | x :: r => uptoBulkEntry x + uptoBulkEntries r
def uptoBulkEntry {H : Type} : Lit × DataW H → Nat
  | (.string bytes, d) => bytes.length + uptoBulk d + 1
  | (_, d) => uptoBulk d + 1
 end
def uptoSmall : (H : Type) → List (DataW H) → Bool := fun _ ds => decide (uptoBulkAll ds ≤ 1048576)
def OpenSpec.upto (s : _root_.Go.ChangeSpec) : _root_.Go.OpenSpec := { _root_.Go.OpenSpec.ofChange s with cond := some uptoSmall }

/-- 'warderlaw01.TextRunes', WHERE WHAT IT READS IS OF BULK AT MOST 1048576: true; the input reads as it did. -/
def textRunesUptoRow : OpenClaim := { program := "ytgjbchkplpdeiaa", sum := "024133c3157bab5b762ebddbecc66cc024ab9d6d4a287718eff2536f147819c5", func := "warder/warderlaw01.TextRunes", spec := "textRunes", plainKeys := false, apart := false, narrowed := true }
def TextRunesUptoSaid : Prop := textRunesUptoRow.holds Try.pinned (OpenSpec.upto textRunesSpec)

/-- 'warderlaw01.TextAt', WHERE WHAT IT READS IS OF BULK AT MOST 1048576: true; the input reads as it did. -/
def textAtUptoRow : OpenClaim := { program := "ytgjbchkplpdeiaa", sum := "024133c3157bab5b762ebddbecc66cc024ab9d6d4a287718eff2536f147819c5", func := "warder/warderlaw01.TextAt", spec := "textAt", plainKeys := false, apart := false, narrowed := true }
def TextAtUptoSaid : Prop := textAtUptoRow.holds Try.pinned (OpenSpec.upto textAtSpec)

/-- 'warderlaw01.TextLine', WHERE WHAT IT READS IS OF BULK AT MOST 1048576: true; the input reads as it did. -/
def textLineUptoRow : OpenClaim := { program := "ytgjbchkplpdeiaa", sum := "024133c3157bab5b762ebddbecc66cc024ab9d6d4a287718eff2536f147819c5", func := "warder/warderlaw01.TextLine", spec := "textLine", inPlace := ["internal/bytealg.IndexByteString", "internal/bytealg.IndexString"], named := ["internal/bytealg.MaxLen"], plainKeys := false, apart := false, narrowed := true }
def TextLineUptoSaid : Prop := textLineUptoRow.holds Try.pinned (OpenSpec.upto textLineSpec)

/-- 'warderlaw01.TextClass', WHERE WHAT IT READS IS OF BULK AT MOST 1048576: true; the input reads as it did. -/
def textClassUptoRow : OpenClaim := { program := "ytgjbchkplpdeiaa", sum := "024133c3157bab5b762ebddbecc66cc024ab9d6d4a287718eff2536f147819c5", func := "warder/warderlaw01.TextClass", spec := "textClass", plainKeys := false, apart := false, narrowed := true }
def TextClassUptoSaid : Prop := textClassUptoRow.holds Try.pinned (OpenSpec.upto textClassSpec)

/-- 'warderlaw01.TextWhole', WHERE WHAT IT READS IS OF BULK AT MOST 1048576: true; the input reads as it did. -/
def textWholeUptoRow : OpenClaim := { program := "ytgjbchkplpdeiaa", sum := "024133c3157bab5b762ebddbecc66cc024ab9d6d4a287718eff2536f147819c5", func := "warder/warderlaw01.TextWhole", spec := "textWhole", plainKeys := false, apart := false, narrowed := true }
def TextWholeUptoSaid : Prop := textWholeUptoRow.holds Try.pinned (OpenSpec.upto textWholeSpec)

/-- 'warderlaw09.NamesFinds', WHERE WHAT IT READS IS OF BULK AT MOST 1048576: true; the input reads as it did. -/
def namesFindsUptoRow : OpenClaim := { program := "ytgjbchkplpdeiaa", sum := "024133c3157bab5b762ebddbecc66cc024ab9d6d4a287718eff2536f147819c5", func := "warder/warderlaw09.NamesFinds", spec := "namesFinds", plainKeys := false, apart := false, narrowed := true }
def NamesFindsUptoSaid : Prop := namesFindsUptoRow.holds Try.pinned (OpenSpec.upto namesFindsSpec)

/-- 'warderlaw09.NamesBack', WHERE WHAT IT READS IS OF BULK AT MOST 1048576: true; the input reads as it did. -/
def namesBackUptoRow : OpenClaim := { program := "ytgjbchkplpdeiaa", sum := "024133c3157bab5b762ebddbecc66cc024ab9d6d4a287718eff2536f147819c5", func := "warder/warderlaw09.NamesBack", spec := "namesBack", plainKeys := false, apart := false, narrowed := true }
def NamesBackUptoSaid : Prop := namesBackUptoRow.holds Try.pinned (OpenSpec.upto namesBackSpec)

/-- 'warderlaw09.NamesFew', WHERE WHAT IT READS IS OF BULK AT MOST 1048576: true; the input reads as it did. -/
def namesFewUptoRow : OpenClaim := { program := "ytgjbchkplpdeiaa", sum := "024133c3157bab5b762ebddbecc66cc024ab9d6d4a287718eff2536f147819c5", func := "warder/warderlaw09.NamesFew", spec := "namesFew", plainKeys := false, apart := false, narrowed := true }
def NamesFewUptoSaid : Prop := namesFewUptoRow.holds Try.pinned (OpenSpec.upto namesFewSpec)

/-- 'warderlaw10.NestAbove', WHERE WHAT IT READS IS OF BULK AT MOST 1048576: true; the input reads as it did. -/
def nestAboveUptoRow : OpenClaim := { program := "ytgjbchkplpdeiaa", sum := "024133c3157bab5b762ebddbecc66cc024ab9d6d4a287718eff2536f147819c5", func := "warder/warderlaw10.NestAbove", spec := "nestAbove", plainKeys := false, apart := false, narrowed := true }
def NestAboveUptoSaid : Prop := nestAboveUptoRow.holds Try.pinned (OpenSpec.upto nestAboveSpec)

/-- 'warderlaw10.NestCircles', WHERE WHAT IT READS IS OF BULK AT MOST 1048576: true; the input reads as it did. -/
def nestCirclesUptoRow : OpenClaim := { program := "ytgjbchkplpdeiaa", sum := "024133c3157bab5b762ebddbecc66cc024ab9d6d4a287718eff2536f147819c5", func := "warder/warderlaw10.NestCircles", spec := "nestCircles", plainKeys := false, apart := false, narrowed := true }
def NestCirclesUptoSaid : Prop := nestCirclesUptoRow.holds Try.pinned (OpenSpec.upto nestCirclesSpec)

/-- 'warderlaw10.NestBoth', WHERE WHAT IT READS IS OF BULK AT MOST 1048576: true; the input reads as it did. -/
def nestBothUptoRow : OpenClaim := { program := "ytgjbchkplpdeiaa", sum := "024133c3157bab5b762ebddbecc66cc024ab9d6d4a287718eff2536f147819c5", func := "warder/warderlaw10.NestBoth", spec := "nestBoth", plainKeys := false, apart := false, narrowed := true }
def NestBothUptoSaid : Prop := nestBothUptoRow.holds Try.pinned (OpenSpec.upto nestBothSpec)

/-- 'warderlaw48.ShrinkLists', WHERE WHAT IT READS IS OF BULK AT MOST 1048576: true; the input reads as it did. -/
def shrinkListsUptoRow : OpenClaim := { program := "ytgjbchkplpdeiaa", sum := "024133c3157bab5b762ebddbecc66cc024ab9d6d4a287718eff2536f147819c5", func := "warder/warderlaw48.ShrinkLists", spec := "shrinkLists", unfollowed := true, recurses := true, plainKeys := false, apart := false, narrowed := true }
def ShrinkListsUptoSaid : Prop := shrinkListsUptoRow.holds Try.pinned (OpenSpec.upto shrinkListsSpec)

end Rows
end Go.Proofs.Ytgjbchkplpdeiaa
