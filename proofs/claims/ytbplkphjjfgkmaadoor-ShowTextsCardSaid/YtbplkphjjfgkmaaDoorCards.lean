/-
  DERIVED. GIVEN WITH THE SEED: THE CARDS: each row of YtbplkphjjfgkmaaDoorRows.lean that lists a variable, with what it lists TIED to the program's text (the seventh form; the later family's looks); each row that meets fmt, with fmt's text TOLD by the authors' own Lean function (tested against real Go, not proved from fmt's source: count such statements apart). THE CARD IS WHAT COUNTS. Prove the row's statement (the work); the ties are given (YtbplkphjjfgkmaaDoorTie.lean); close each card by the builder's one call (the guide's Derived/Test/ToyasCard.lean, 'card_holds'). Laid BY PROGRAM, IN A SANDBOX (cutbox-door.mjs). By AI agents, Wed Nov 11 2026. No macro, syntax, notation, axiom, sorry.
-/
import Derived.Test.YtbplkphjjfgkmaaDoorRows
import GoSem.ClaimSeven
namespace Go.Proofs.YtbplkphjjfgkmaaDoor
namespace Rows

/-- THE TIED CARD OF 'warderlaw03.NumSorts'. -/
def numSortsCard : Claim7 := { stood := { row := numSortsRow, standIns := [], harness := (true, "30a17a52bfd9e6651aa25a24f4181b8a0c58399ce24b7e4b90831ab35919ddb2"), looks := true }, kinds := [], alts := [], laidByText := true, laidKinds := [.data, .data, .data, .sentinel, .sentinel], laidTests := true, laidLooks := .later }
def NumSortsCardSaid : Prop := Claim7.holds Tryd.pinned (.plain (OpenSpec.ofChange numSortsSpec)) numSortsCard

/-- THE TIED CARD OF 'warderlaw02.TokenReads'. -/
def tokenReadsCard : Claim7 := { stood := { row := tokenReadsRow, standIns := [], harness := (true, "30a17a52bfd9e6651aa25a24f4181b8a0c58399ce24b7e4b90831ab35919ddb2"), looks := true }, kinds := [], alts := [], laidByText := true, laidKinds := [.data, .data, .data, .sentinel, .sentinel], laidTests := true, laidLooks := .later }
def TokenReadsCardSaid : Prop := Claim7.holds Tryd.pinned (.plain (OpenSpec.ofChange tokenReadsSpec)) tokenReadsCard

/-- THE TIED CARD OF 'warderlaw02.TokenKnown'. -/
def tokenKnownCard : Claim7 := { stood := { row := tokenKnownRow, standIns := [], harness := (true, "30a17a52bfd9e6651aa25a24f4181b8a0c58399ce24b7e4b90831ab35919ddb2"), looks := true }, kinds := [], alts := [], laidByText := true, laidKinds := [.data, .data, .data, .sentinel, .sentinel], laidTests := true, laidLooks := .later }
def TokenKnownCardSaid : Prop := Claim7.holds Tryd.pinned (.plain (OpenSpec.ofChange tokenKnownSpec)) tokenKnownCard

/-- THE TIED CARD OF 'warderlaw02.TokenAgain'. -/
def tokenAgainCard : Claim7 := { stood := { row := tokenAgainRow, standIns := [], harness := (true, "30a17a52bfd9e6651aa25a24f4181b8a0c58399ce24b7e4b90831ab35919ddb2"), looks := true }, kinds := [], alts := [], laidByText := true, laidKinds := [.data, .data, .data, .sentinel, .sentinel], laidTests := true, laidLooks := .later }
def TokenAgainCardSaid : Prop := Claim7.holds Tryd.pinned (.plain (OpenSpec.ofChange tokenAgainSpec)) tokenAgainCard

/-- THE TIED CARD OF 'warderlaw02.TokenRises'. -/
def tokenRisesCard : Claim7 := { stood := { row := tokenRisesRow, standIns := [], harness := (true, "30a17a52bfd9e6651aa25a24f4181b8a0c58399ce24b7e4b90831ab35919ddb2"), looks := true }, kinds := [], alts := [], laidByText := true, laidKinds := [.data, .data, .data, .sentinel, .sentinel], laidTests := true, laidLooks := .later }
def TokenRisesCardSaid : Prop := Claim7.holds Tryd.pinned (.plain (OpenSpec.ofChange tokenRisesSpec)) tokenRisesCard

/-- THE TIED CARD OF 'warderlaw05.CondTokens'. -/
def condTokensCard : Claim7 := { stood := { row := condTokensRow, standIns := [], harness := (true, "30a17a52bfd9e6651aa25a24f4181b8a0c58399ce24b7e4b90831ab35919ddb2"), looks := true }, kinds := [], alts := [], laidByText := true, laidKinds := [.data, .data, .data, .sentinel, .sentinel], laidTests := true, laidLooks := .later }
def CondTokensCardSaid : Prop := Claim7.holds Tryd.pinned (.plain (OpenSpec.ofChange condTokensSpec)) condTokensCard

/-- THE TIED CARD OF 'warderlaw05.CondForms'. -/
def condFormsCard : Claim7 := { stood := { row := condFormsRow, standIns := [], harness := (true, "30a17a52bfd9e6651aa25a24f4181b8a0c58399ce24b7e4b90831ab35919ddb2"), looks := true }, kinds := [], alts := [], laidByText := true, laidKinds := [.data, .data, .data, .sentinel, .sentinel], laidTests := true, laidLooks := .later }
def CondFormsCardSaid : Prop := Claim7.holds Tryd.pinned (.plain (OpenSpec.ofChange condFormsSpec)) condFormsCard

/-- THE TIED CARD OF 'warderlaw05.CondBrackets'. -/
def condBracketsCard : Claim7 := { stood := { row := condBracketsRow, standIns := [], harness := (true, "30a17a52bfd9e6651aa25a24f4181b8a0c58399ce24b7e4b90831ab35919ddb2"), looks := true }, kinds := [], alts := [], laidByText := true, laidKinds := [.data, .data, .data, .sentinel, .sentinel], laidTests := true, laidLooks := .later }
def CondBracketsCardSaid : Prop := Claim7.holds Tryd.pinned (.plain (OpenSpec.ofChange condBracketsSpec)) condBracketsCard

/-- THE TIED CARD OF 'warderlaw06.ShowTexts'. -/
def showTextsCard : Claim7 := { stood := { row := showTextsRow, standIns := [], harness := (true, "30a17a52bfd9e6651aa25a24f4181b8a0c58399ce24b7e4b90831ab35919ddb2"), looks := true }, kinds := [], alts := [], laidByText := true, laidKinds := [.data, .data, .data], laidTests := true, laidLooks := .later }
def ShowTextsCardSaid : Prop := Claim7.holds Tryd.pinned (.plain (OpenSpec.ofChange showTextsSpec)) showTextsCard

/-- THE TIED CARD OF 'warderlaw06.ShowNames'. -/
def showNamesCard : Claim7 := { stood := { row := showNamesRow, standIns := [], harness := (true, "30a17a52bfd9e6651aa25a24f4181b8a0c58399ce24b7e4b90831ab35919ddb2"), looks := true }, kinds := [], alts := [], laidByText := true, laidKinds := [.data, .data, .data], laidTests := true, laidLooks := .later }
def ShowNamesCardSaid : Prop := Claim7.holds Tryd.pinned (.plain (OpenSpec.ofChange showNamesSpec)) showNamesCard

/-- THE TIED CARD OF 'warderlaw15.StateLeft'. -/
def stateLeftCard : Claim7 := { stood := { row := stateLeftRow, standIns := [], harness := (true, "30a17a52bfd9e6651aa25a24f4181b8a0c58399ce24b7e4b90831ab35919ddb2"), looks := true }, kinds := [], alts := [], laidByText := true, laidKinds := [.data, .data, .data], laidTests := true, laidLooks := .later }
def StateLeftCardSaid : Prop := Claim7.holds Tryd.pinned (.plain (OpenSpec.ofChange stateLeftSpec)) stateLeftCard

/-- THE TIED CARD OF 'warderlaw15.StateTexts'. -/
def stateTextsCard : Claim7 := { stood := { row := stateTextsRow, standIns := [], harness := (true, "30a17a52bfd9e6651aa25a24f4181b8a0c58399ce24b7e4b90831ab35919ddb2"), looks := true }, kinds := [], alts := [], laidByText := true, laidKinds := [.data, .data, .data, .data, .sentinel, .sentinel, .pinned], laidTests := true, laidLooks := .later }
def StateTextsCardSaid : Prop := Claim7.holds Tryd.pinned (.plain (OpenSpec.ofChange stateTextsSpec)) stateTextsCard

/-- THE TIED CARD OF 'warderlaw15.StateReads'. -/
def stateReadsCard : Claim7 := { stood := { row := stateReadsRow, standIns := [], harness := (true, "30a17a52bfd9e6651aa25a24f4181b8a0c58399ce24b7e4b90831ab35919ddb2"), looks := true }, kinds := [], alts := [], laidByText := true, laidKinds := [.data, .data, .data, .data, .sentinel, .sentinel, .pinned], laidTests := true, laidLooks := .later }
def StateReadsCardSaid : Prop := Claim7.holds Tryd.pinned (.plain (OpenSpec.ofChange stateReadsSpec)) stateReadsCard

/-- THE TIED CARD OF 'warderlaw15.StateApart'. -/
def stateApartCard : Claim7 := { stood := { row := stateApartRow, standIns := [], harness := (true, "30a17a52bfd9e6651aa25a24f4181b8a0c58399ce24b7e4b90831ab35919ddb2"), looks := true }, kinds := [], alts := [], laidByText := true, laidKinds := [.data, .data, .data], laidTests := true, laidLooks := .later }
def StateApartCardSaid : Prop := Claim7.holds Tryd.pinned (.plain (OpenSpec.ofChange stateApartSpec)) stateApartCard

/-- THE SECOND FORM's CARD OF 'warderlaw03.NumSorts'. -/
def numSortsUptoCard : Claim7 := { stood := { row := numSortsUptoRow, standIns := [], harness := (true, "30a17a52bfd9e6651aa25a24f4181b8a0c58399ce24b7e4b90831ab35919ddb2"), looks := true }, kinds := [], alts := [], laidByText := true, laidKinds := [.data, .data, .data, .sentinel, .sentinel], laidTests := true, laidLooks := .later }
def NumSortsUptoCardSaid : Prop := Claim7.holds Tryd.pinned (.plain (OpenSpec.upto numSortsSpec)) numSortsUptoCard

/-- THE SECOND FORM's CARD OF 'warderlaw02.TokenReads'. -/
def tokenReadsUptoCard : Claim7 := { stood := { row := tokenReadsUptoRow, standIns := [], harness := (true, "30a17a52bfd9e6651aa25a24f4181b8a0c58399ce24b7e4b90831ab35919ddb2"), looks := true }, kinds := [], alts := [], laidByText := true, laidKinds := [.data, .data, .data, .sentinel, .sentinel], laidTests := true, laidLooks := .later }
def TokenReadsUptoCardSaid : Prop := Claim7.holds Tryd.pinned (.plain (OpenSpec.upto tokenReadsSpec)) tokenReadsUptoCard

/-- THE SECOND FORM's CARD OF 'warderlaw02.TokenKnown'. -/
def tokenKnownUptoCard : Claim7 := { stood := { row := tokenKnownUptoRow, standIns := [], harness := (true, "30a17a52bfd9e6651aa25a24f4181b8a0c58399ce24b7e4b90831ab35919ddb2"), looks := true }, kinds := [], alts := [], laidByText := true, laidKinds := [.data, .data, .data, .sentinel, .sentinel], laidTests := true, laidLooks := .later }
def TokenKnownUptoCardSaid : Prop := Claim7.holds Tryd.pinned (.plain (OpenSpec.upto tokenKnownSpec)) tokenKnownUptoCard

/-- THE SECOND FORM's CARD OF 'warderlaw02.TokenAgain'. -/
def tokenAgainUptoCard : Claim7 := { stood := { row := tokenAgainUptoRow, standIns := [], harness := (true, "30a17a52bfd9e6651aa25a24f4181b8a0c58399ce24b7e4b90831ab35919ddb2"), looks := true }, kinds := [], alts := [], laidByText := true, laidKinds := [.data, .data, .data, .sentinel, .sentinel], laidTests := true, laidLooks := .later }
def TokenAgainUptoCardSaid : Prop := Claim7.holds Tryd.pinned (.plain (OpenSpec.upto tokenAgainSpec)) tokenAgainUptoCard

/-- THE SECOND FORM's CARD OF 'warderlaw02.TokenRises'. -/
def tokenRisesUptoCard : Claim7 := { stood := { row := tokenRisesUptoRow, standIns := [], harness := (true, "30a17a52bfd9e6651aa25a24f4181b8a0c58399ce24b7e4b90831ab35919ddb2"), looks := true }, kinds := [], alts := [], laidByText := true, laidKinds := [.data, .data, .data, .sentinel, .sentinel], laidTests := true, laidLooks := .later }
def TokenRisesUptoCardSaid : Prop := Claim7.holds Tryd.pinned (.plain (OpenSpec.upto tokenRisesSpec)) tokenRisesUptoCard

/-- THE SECOND FORM's CARD OF 'warderlaw05.CondTokens'. -/
def condTokensUptoCard : Claim7 := { stood := { row := condTokensUptoRow, standIns := [], harness := (true, "30a17a52bfd9e6651aa25a24f4181b8a0c58399ce24b7e4b90831ab35919ddb2"), looks := true }, kinds := [], alts := [], laidByText := true, laidKinds := [.data, .data, .data, .sentinel, .sentinel], laidTests := true, laidLooks := .later }
def CondTokensUptoCardSaid : Prop := Claim7.holds Tryd.pinned (.plain (OpenSpec.upto condTokensSpec)) condTokensUptoCard

/-- THE SECOND FORM's CARD OF 'warderlaw05.CondForms'. -/
def condFormsUptoCard : Claim7 := { stood := { row := condFormsUptoRow, standIns := [], harness := (true, "30a17a52bfd9e6651aa25a24f4181b8a0c58399ce24b7e4b90831ab35919ddb2"), looks := true }, kinds := [], alts := [], laidByText := true, laidKinds := [.data, .data, .data, .sentinel, .sentinel], laidTests := true, laidLooks := .later }
def CondFormsUptoCardSaid : Prop := Claim7.holds Tryd.pinned (.plain (OpenSpec.upto condFormsSpec)) condFormsUptoCard

/-- THE SECOND FORM's CARD OF 'warderlaw05.CondBrackets'. -/
def condBracketsUptoCard : Claim7 := { stood := { row := condBracketsUptoRow, standIns := [], harness := (true, "30a17a52bfd9e6651aa25a24f4181b8a0c58399ce24b7e4b90831ab35919ddb2"), looks := true }, kinds := [], alts := [], laidByText := true, laidKinds := [.data, .data, .data, .sentinel, .sentinel], laidTests := true, laidLooks := .later }
def CondBracketsUptoCardSaid : Prop := Claim7.holds Tryd.pinned (.plain (OpenSpec.upto condBracketsSpec)) condBracketsUptoCard

/-- THE SECOND FORM's CARD OF 'warderlaw06.ShowTexts'. -/
def showTextsUptoCard : Claim7 := { stood := { row := showTextsUptoRow, standIns := [], harness := (true, "30a17a52bfd9e6651aa25a24f4181b8a0c58399ce24b7e4b90831ab35919ddb2"), looks := true }, kinds := [], alts := [], laidByText := true, laidKinds := [.data, .data, .data], laidTests := true, laidLooks := .later }
def ShowTextsUptoCardSaid : Prop := Claim7.holds Tryd.pinned (.plain (OpenSpec.upto showTextsSpec)) showTextsUptoCard

/-- THE SECOND FORM's CARD OF 'warderlaw06.ShowNames'. -/
def showNamesUptoCard : Claim7 := { stood := { row := showNamesUptoRow, standIns := [], harness := (true, "30a17a52bfd9e6651aa25a24f4181b8a0c58399ce24b7e4b90831ab35919ddb2"), looks := true }, kinds := [], alts := [], laidByText := true, laidKinds := [.data, .data, .data], laidTests := true, laidLooks := .later }
def ShowNamesUptoCardSaid : Prop := Claim7.holds Tryd.pinned (.plain (OpenSpec.upto showNamesSpec)) showNamesUptoCard

/-- THE SECOND FORM's CARD OF 'warderlaw15.StateLeft'. -/
def stateLeftUptoCard : Claim7 := { stood := { row := stateLeftUptoRow, standIns := [], harness := (true, "30a17a52bfd9e6651aa25a24f4181b8a0c58399ce24b7e4b90831ab35919ddb2"), looks := true }, kinds := [], alts := [], laidByText := true, laidKinds := [.data, .data, .data], laidTests := true, laidLooks := .later }
def StateLeftUptoCardSaid : Prop := Claim7.holds Tryd.pinned (.plain (OpenSpec.upto stateLeftSpec)) stateLeftUptoCard

/-- THE SECOND FORM's CARD OF 'warderlaw15.StateTexts'. -/
def stateTextsUptoCard : Claim7 := { stood := { row := stateTextsUptoRow, standIns := [], harness := (true, "30a17a52bfd9e6651aa25a24f4181b8a0c58399ce24b7e4b90831ab35919ddb2"), looks := true }, kinds := [], alts := [], laidByText := true, laidKinds := [.data, .data, .data, .data, .sentinel, .sentinel, .pinned], laidTests := true, laidLooks := .later }
def StateTextsUptoCardSaid : Prop := Claim7.holds Tryd.pinned (.plain (OpenSpec.upto stateTextsSpec)) stateTextsUptoCard

/-- THE SECOND FORM's CARD OF 'warderlaw15.StateReads'. -/
def stateReadsUptoCard : Claim7 := { stood := { row := stateReadsUptoRow, standIns := [], harness := (true, "30a17a52bfd9e6651aa25a24f4181b8a0c58399ce24b7e4b90831ab35919ddb2"), looks := true }, kinds := [], alts := [], laidByText := true, laidKinds := [.data, .data, .data, .data, .sentinel, .sentinel, .pinned], laidTests := true, laidLooks := .later }
def StateReadsUptoCardSaid : Prop := Claim7.holds Tryd.pinned (.plain (OpenSpec.upto stateReadsSpec)) stateReadsUptoCard

/-- THE SECOND FORM's CARD OF 'warderlaw15.StateApart'. -/
def stateApartUptoCard : Claim7 := { stood := { row := stateApartUptoRow, standIns := [], harness := (true, "30a17a52bfd9e6651aa25a24f4181b8a0c58399ce24b7e4b90831ab35919ddb2"), looks := true }, kinds := [], alts := [], laidByText := true, laidKinds := [.data, .data, .data], laidTests := true, laidLooks := .later }
def StateApartUptoCardSaid : Prop := Claim7.holds Tryd.pinned (.plain (OpenSpec.upto stateApartSpec)) stateApartUptoCard
end Rows
end Go.Proofs.YtbplkphjjfgkmaaDoor
