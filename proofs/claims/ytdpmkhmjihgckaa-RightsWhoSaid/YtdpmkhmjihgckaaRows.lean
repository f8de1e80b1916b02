/-
  No cell of these rows narrows 'for every input' (looked for: loops, veiled, ifaces, maps, wideKeys, modest, calm, conditions, laid).
  DERIVED. THE GIVEN ROWS OF THIS SEAT. 8 by the template 'for every input the law returns true; each argument reads behind the call as it read before'; 0 by the template 'total and deterministic' (their statements: YtdpmkhmjihgckaaTotals.lean).
  GIVEN WITH THE SEED: the statements are not yours to turn. If you find one false, say at which input.
  Laid BY PROGRAM, IN A SANDBOX (cutbox-rows.mjs): the forced cells as the released guide's own fill.sh prints them over the translation 9a51b063bdb5ec59… (all of the seat's roots in one cut). By AI agents, Wed Nov 11 2026. No macro, syntax, notation, axiom, sorry.
-/
import Derived.Test.YtdpmkhmjihgckaaChecked
import GoSem.Claim
import GoSem.ClaimJoined
import GoSem.ClaimMapViews
import Derived.JoinedTies
import Derived.KernelRfl
namespace Go.Proofs.Ytdpmkhmjihgckaa
/- THE CELL 'sum', in the pinned program and in every row, IS THE sha256 OF THE DUMP (.gsa) THAT YtdpmkhmjihgckaaProg.lean LOADS. Nothing in Lean hashes anything: it is a label: what it is worth is what the hold of that sum in a sandbox is worth. -/
noncomputable def Try.pinned : Pinned := { name := "ytdpmkhmjihgckaa", sum := "9a51b063bdb5ec59c139fcdfa48926ef6a38a3da68b0db39c6c4c7a29a586755", checked := Try.checked }
namespace Rows
def none {H : Type} : Left H := { results := [], args := [] }

/-- 'warderlaw17.RightsWho': WHATEVER THE INPUT: true; the input reads as it did. -/
def rightsWhoSpec : ChangeSpec := { name := "rightsWho", fn := fun _ => fun
  | [d1, d2, d3] => { results := [.lit (.bool true)], args := [d1, d2, d3] }
  | _ => none }
def rightsWhoRow : OpenClaim := { program := "ytdpmkhmjihgckaa", sum := "9a51b063bdb5ec59c139fcdfa48926ef6a38a3da68b0db39c6c4c7a29a586755", func := "warder/warderlaw17.RightsWho", spec := "rightsWho", unfollowed := true, recurses := true, plainKeys := false, apart := false }
def RightsWhoSaid : Prop := rightsWhoRow.holds Try.pinned (OpenSpec.ofChange rightsWhoSpec)

/-- ITS FALSE NEIGHBOUR: 'it returns false'. Refute it at one input. -/
def rightsWhoWrong : ChangeSpec := { name := "rightsWho", fn := fun _ => fun
  | [d1, d2, d3] => { results := [.lit (.bool false)], args := [d1, d2, d3] }
  | _ => none }
def RightsWhoWrongFalsely : Prop := rightsWhoRow.holds Try.pinned (OpenSpec.ofChange rightsWhoWrong)

/-- 'warderlaw17.RightsLess': WHATEVER THE INPUT: true; the input reads as it did. -/
def rightsLessSpec : ChangeSpec := { name := "rightsLess", fn := fun _ => fun
  | [d1, d2, d3] => { results := [.lit (.bool true)], args := [d1, d2, d3] }
  | _ => none }
def rightsLessRow : OpenClaim := { program := "ytdpmkhmjihgckaa", sum := "9a51b063bdb5ec59c139fcdfa48926ef6a38a3da68b0db39c6c4c7a29a586755", func := "warder/warderlaw17.RightsLess", spec := "rightsLess", unfollowed := true, recurses := true, plainKeys := false, apart := false }
def RightsLessSaid : Prop := rightsLessRow.holds Try.pinned (OpenSpec.ofChange rightsLessSpec)

/-- ITS FALSE NEIGHBOUR: 'it returns false'. Refute it at one input. -/
def rightsLessWrong : ChangeSpec := { name := "rightsLess", fn := fun _ => fun
  | [d1, d2, d3] => { results := [.lit (.bool false)], args := [d1, d2, d3] }
  | _ => none }
def RightsLessWrongFalsely : Prop := rightsLessRow.holds Try.pinned (OpenSpec.ofChange rightsLessWrong)

/-- 'warderlaw11.BindFits': WHATEVER THE INPUT: true; the input reads as it did. -/
def bindFitsSpec : ChangeSpec := { name := "bindFits", fn := fun _ => fun
  | [d1, d2, d3] => { results := [.lit (.bool true)], args := [d1, d2, d3] }
  | _ => none }
def bindFitsRow : OpenClaim := { program := "ytdpmkhmjihgckaa", sum := "9a51b063bdb5ec59c139fcdfa48926ef6a38a3da68b0db39c6c4c7a29a586755", func := "warder/warderlaw11.BindFits", spec := "bindFits", unfollowed := true, recurses := true, plainKeys := false, apart := false }
def BindFitsSaid : Prop := bindFitsRow.holds Try.pinned (OpenSpec.ofChange bindFitsSpec)

/-- ITS FALSE NEIGHBOUR: 'it returns false'. Refute it at one input. -/
def bindFitsWrong : ChangeSpec := { name := "bindFits", fn := fun _ => fun
  | [d1, d2, d3] => { results := [.lit (.bool false)], args := [d1, d2, d3] }
  | _ => none }
def BindFitsWrongFalsely : Prop := bindFitsRow.holds Try.pinned (OpenSpec.ofChange bindFitsWrong)

/-- 'warderlaw12.StrataSound': WHATEVER THE INPUT: true; the input reads as it did. -/
def strataSoundSpec : ChangeSpec := { name := "strataSound", fn := fun _ => fun
  | [d] => { results := [.lit (.bool true)], args := [d] }
  | _ => none }
def strataSoundRow : OpenClaim := { program := "ytdpmkhmjihgckaa", sum := "9a51b063bdb5ec59c139fcdfa48926ef6a38a3da68b0db39c6c4c7a29a586755", func := "warder/warderlaw12.StrataSound", spec := "strataSound", unfollowed := true, recurses := true, plainKeys := false, apart := false }
def StrataSoundSaid : Prop := strataSoundRow.holds Try.pinned (OpenSpec.ofChange strataSoundSpec)

/-- ITS FALSE NEIGHBOUR: 'it returns false'. Refute it at one input. -/
def strataSoundWrong : ChangeSpec := { name := "strataSound", fn := fun _ => fun
  | [d] => { results := [.lit (.bool false)], args := [d] }
  | _ => none }
def StrataSoundWrongFalsely : Prop := strataSoundRow.holds Try.pinned (OpenSpec.ofChange strataSoundWrong)

/-- 'warderlaw22.ZonePlaces': WHATEVER THE INPUT: true; the input reads as it did. -/
def zonePlacesSpec : ChangeSpec := { name := "zonePlaces", fn := fun _ => fun
  | [d1, d2, d3] => { results := [.lit (.bool true)], args := [d1, d2, d3] }
  | _ => none }
def zonePlacesRow : OpenClaim := { program := "ytdpmkhmjihgckaa", sum := "9a51b063bdb5ec59c139fcdfa48926ef6a38a3da68b0db39c6c4c7a29a586755", func := "warder/warderlaw22.ZonePlaces", spec := "zonePlaces", unfollowed := true, recurses := true, plainKeys := false, apart := false }
def ZonePlacesSaid : Prop := zonePlacesRow.holds Try.pinned (OpenSpec.ofChange zonePlacesSpec)

/-- ITS FALSE NEIGHBOUR: 'it returns false'. Refute it at one input. -/
def zonePlacesWrong : ChangeSpec := { name := "zonePlaces", fn := fun _ => fun
  | [d1, d2, d3] => { results := [.lit (.bool false)], args := [d1, d2, d3] }
  | _ => none }
def ZonePlacesWrongFalsely : Prop := zonePlacesRow.holds Try.pinned (OpenSpec.ofChange zonePlacesWrong)

/-- 'warderlaw22.ZoneTells': WHATEVER THE INPUT: true; the input reads as it did. -/
def zoneTellsSpec : ChangeSpec := { name := "zoneTells", fn := fun _ => fun
  | [d1, d2, d3] => { results := [.lit (.bool true)], args := [d1, d2, d3] }
  | _ => none }
def zoneTellsRow : OpenClaim := { program := "ytdpmkhmjihgckaa", sum := "9a51b063bdb5ec59c139fcdfa48926ef6a38a3da68b0db39c6c4c7a29a586755", func := "warder/warderlaw22.ZoneTells", spec := "zoneTells", unfollowed := true, recurses := true, plainKeys := false, apart := false }
def ZoneTellsSaid : Prop := zoneTellsRow.holds Try.pinned (OpenSpec.ofChange zoneTellsSpec)

/-- ITS FALSE NEIGHBOUR: 'it returns false'. Refute it at one input. -/
def zoneTellsWrong : ChangeSpec := { name := "zoneTells", fn := fun _ => fun
  | [d1, d2, d3] => { results := [.lit (.bool false)], args := [d1, d2, d3] }
  | _ => none }
def ZoneTellsWrongFalsely : Prop := zoneTellsRow.holds Try.pinned (OpenSpec.ofChange zoneTellsWrong)

/-- 'warderlaw23.DropOrder': WHATEVER THE INPUT: true; the input reads as it did. -/
def dropOrderSpec : ChangeSpec := { name := "dropOrder", fn := fun _ => fun
  | [d1, d2, d3] => { results := [.lit (.bool true)], args := [d1, d2, d3] }
  | _ => none }
def dropOrderRow : OpenClaim := { program := "ytdpmkhmjihgckaa", sum := "9a51b063bdb5ec59c139fcdfa48926ef6a38a3da68b0db39c6c4c7a29a586755", func := "warder/warderlaw23.DropOrder", spec := "dropOrder", plainKeys := false, apart := false }
def DropOrderSaid : Prop := dropOrderRow.holds Try.pinned (OpenSpec.ofChange dropOrderSpec)

/-- ITS FALSE NEIGHBOUR: 'it returns false'. Refute it at one input. -/
def dropOrderWrong : ChangeSpec := { name := "dropOrder", fn := fun _ => fun
  | [d1, d2, d3] => { results := [.lit (.bool false)], args := [d1, d2, d3] }
  | _ => none }
def DropOrderWrongFalsely : Prop := dropOrderRow.holds Try.pinned (OpenSpec.ofChange dropOrderWrong)

/-- 'warderlaw23.DropLeaves': WHATEVER THE INPUT: true; the input reads as it did. -/
def dropLeavesSpec : ChangeSpec := { name := "dropLeaves", fn := fun _ => fun
  | [d1, d2, d3] => { results := [.lit (.bool true)], args := [d1, d2, d3] }
  | _ => none }
def dropLeavesRow : OpenClaim := { program := "ytdpmkhmjihgckaa", sum := "9a51b063bdb5ec59c139fcdfa48926ef6a38a3da68b0db39c6c4c7a29a586755", func := "warder/warderlaw23.DropLeaves", spec := "dropLeaves", plainKeys := false, apart := false }
def DropLeavesSaid : Prop := dropLeavesRow.holds Try.pinned (OpenSpec.ofChange dropLeavesSpec)

/-- ITS FALSE NEIGHBOUR: 'it returns false'. Refute it at one input. -/
def dropLeavesWrong : ChangeSpec := { name := "dropLeaves", fn := fun _ => fun
  | [d1, d2, d3] => { results := [.lit (.bool false)], args := [d1, d2, d3] }
  | _ => none }
def DropLeavesWrongFalsely : Prop := dropLeavesRow.holds Try.pinned (OpenSpec.ofChange dropLeavesWrong)

/- THE SECOND FORM. 'bulk': how many values and letters a reading holds, each counted each time it is reached (what is shared counts as often as it is met; a slice's spare places count too). A statement '..UptoSaid' is the law's where the arguments, and the package variables that the reading takes, are together of bulk at most 1048576: NARROWER than '..Said'. Prove '..Said' where nothing that the law and all that it calls make is longer than what came in: it says more and counts as full. Else prove '..UptoSaid'. A law counts once. -/
mutual
def uptoBulk {H : Type} : DataW H → Nat
  | .lit (.string bytes) => bytes.length + 1
  | .lit _ => 1
  | .nil => 1
  | .ptr d => uptoBulk d + 1
  | .slice elems spare => uptoBulkAll elems + uptoBulkAll spare + 1
  | .agg parts => uptoBulkAll parts + 1
  | .iface _ d => uptoBulk d + 1
  | .map entries => uptoBulkEntries entries + 1
  | .held _ => 1
def uptoBulkAll {H : Type} : List (DataW H) → Nat
  | [] => 0
  | d :: r => uptoBulk d + uptoBulkAll r
def uptoBulkEntries {H : Type} : List (Lit × DataW H) → Nat
  | [] => 0
  | x :: r => uptoBulkEntry x + uptoBulkEntries r
def uptoBulkEntry {H : Type} : Lit × DataW H → Nat
  | (.string bytes, d) => bytes.length + uptoBulk d + 1
  | (_, d) => uptoBulk d + 1
 end
def uptoSmall : (H : Type) → List (DataW H) → Bool := fun _ ds => decide (uptoBulkAll ds ≤ 1048576)
def OpenSpec.upto (s : _root_.Go.ChangeSpec) : _root_.Go.OpenSpec := { _root_.Go.OpenSpec.ofChange s with cond := some uptoSmall }

/-- 'warderlaw17.RightsWho', WHERE WHAT IT READS IS OF BULK AT MOST 1048576: true; the input reads as it did. -/
def rightsWhoUptoRow : OpenClaim := { program := "ytdpmkhmjihgckaa", sum := "9a51b063bdb5ec59c139fcdfa48926ef6a38a3da68b0db39c6c4c7a29a586755", func := "warder/warderlaw17.RightsWho", spec := "rightsWho", unfollowed := true, recurses := true, plainKeys := false, apart := false, narrowed := true }
def RightsWhoUptoSaid : Prop := rightsWhoUptoRow.holds Try.pinned (OpenSpec.upto rightsWhoSpec)

/-- 'warderlaw17.RightsLess', WHERE WHAT IT READS IS OF BULK AT MOST 1048576: true; the input reads as it did. -/
def rightsLessUptoRow : OpenClaim := { program := "ytdpmkhmjihgckaa", sum := "9a51b063bdb5ec59c139fcdfa48926ef6a38a3da68b0db39c6c4c7a29a586755", func := "warder/warderlaw17.RightsLess", spec := "rightsLess", unfollowed := true, recurses := true, plainKeys := false, apart := false, narrowed := true }
def RightsLessUptoSaid : Prop := rightsLessUptoRow.holds Try.pinned (OpenSpec.upto rightsLessSpec)

/-- 'warderlaw11.BindFits', WHERE WHAT IT READS IS OF BULK AT MOST 1048576: true; the input reads as it did. -/
def bindFitsUptoRow : OpenClaim := { program := "ytdpmkhmjihgckaa", sum := "9a51b063bdb5ec59c139fcdfa48926ef6a38a3da68b0db39c6c4c7a29a586755", func := "warder/warderlaw11.BindFits", spec := "bindFits", unfollowed := true, recurses := true, plainKeys := false, apart := false, narrowed := true }
def BindFitsUptoSaid : Prop := bindFitsUptoRow.holds Try.pinned (OpenSpec.upto bindFitsSpec)

/-- 'warderlaw12.StrataSound', WHERE WHAT IT READS IS OF BULK AT MOST 1048576: true; the input reads as it did. -/
def strataSoundUptoRow : OpenClaim := { program := "ytdpmkhmjihgckaa", sum := "9a51b063bdb5ec59c139fcdfa48926ef6a38a3da68b0db39c6c4c7a29a586755", func := "warder/warderlaw12.StrataSound", spec := "strataSound", unfollowed := true, recurses := true, plainKeys := false, apart := false, narrowed := true }
def StrataSoundUptoSaid : Prop := strataSoundUptoRow.holds Try.pinned (OpenSpec.upto strataSoundSpec)

/-- 'warderlaw22.ZonePlaces', WHERE WHAT IT READS IS OF BULK AT MOST 1048576: true; the input reads as it did. -/
def zonePlacesUptoRow : OpenClaim := { program := "ytdpmkhmjihgckaa", sum := "9a51b063bdb5ec59c139fcdfa48926ef6a38a3da68b0db39c6c4c7a29a586755", func := "warder/warderlaw22.ZonePlaces", spec := "zonePlaces", unfollowed := true, recurses := true, plainKeys := false, apart := false, narrowed := true }
def ZonePlacesUptoSaid : Prop := zonePlacesUptoRow.holds Try.pinned (OpenSpec.upto zonePlacesSpec)

/-- 'warderlaw22.ZoneTells', WHERE WHAT IT READS IS OF BULK AT MOST 1048576: true; the input reads as it did. -/
def zoneTellsUptoRow : OpenClaim := { program := "ytdpmkhmjihgckaa", sum := "9a51b063bdb5ec59c139fcdfa48926ef6a38a3da68b0db39c6c4c7a29a586755", func := "warder/warderlaw22.ZoneTells", spec := "zoneTells", unfollowed := true, recurses := true, plainKeys := false, apart := false, narrowed := true }
def ZoneTellsUptoSaid : Prop := zoneTellsUptoRow.holds Try.pinned (OpenSpec.upto zoneTellsSpec)

/-- 'warderlaw23.DropOrder', WHERE WHAT IT READS IS OF BULK AT MOST 1048576: true; the input reads as it did. -/
def dropOrderUptoRow : OpenClaim := { program := "ytdpmkhmjihgckaa", sum := "9a51b063bdb5ec59c139fcdfa48926ef6a38a3da68b0db39c6c4c7a29a586755", func := "warder/warderlaw23.DropOrder", spec := "dropOrder", plainKeys := false, apart := false, narrowed := true }
def DropOrderUptoSaid : Prop := dropOrderUptoRow.holds Try.pinned (OpenSpec.upto dropOrderSpec)

/-- 'warderlaw23.DropLeaves', WHERE WHAT IT READS IS OF BULK AT MOST 1048576: true; the input reads as it did. -/
def dropLeavesUptoRow : OpenClaim := { program := "ytdpmkhmjihgckaa", sum := "9a51b063bdb5ec59c139fcdfa48926ef6a38a3da68b0db39c6c4c7a29a586755", func := "warder/warderlaw23.DropLeaves", spec := "dropLeaves", plainKeys := false, apart := false, narrowed := true }
def DropLeavesUptoSaid : Prop := dropLeavesUptoRow.holds Try.pinned (OpenSpec.upto dropLeavesSpec)

end Rows
end Go.Proofs.Ytdpmkhmjihgckaa
