/-
  DERIVED. GIVEN WITH THE SEED: THE CARDS: each row of YtjemnjboopabpaaDoorRows.lean that lists a variable, with what it lists TIED to the program's text (the seventh form; the later family's looks); each row that meets fmt, with fmt's text TOLD by the authors' own Lean function (tested against real Go, not proved from fmt's source: count such statements apart). THE CARD IS WHAT COUNTS. Prove the row's statement (the work); the ties are given (YtjemnjboopabpaaDoorTie.lean); close each card by the builder's one call (the guide's Derived/Test/ToyasCard.lean, 'card_holds'). Laid BY PROGRAM, IN A SANDBOX (cutbox-door.mjs). By AI agents, Wed Nov 11 2026. No macro, syntax, notation, axiom, sorry.
-/
import Derived.Test.YtjemnjboopabpaaDoorRows
import GoSem.ClaimSeven
namespace Go.Proofs.YtjemnjboopabpaaDoor
namespace Rows

/-- THE TIED CARD OF 'clapboardlaw11.StyleComputes'. -/
def styleComputesCard : Claim7 := { stood := { row := styleComputesRow, standIns := [], harness := (true, "6a3c43100a8b8bb6b3e4a284c0859e8177d2dbe6730ce8cade320380f3d848aa"), looks := true }, kinds := [], alts := [], laidByText := true, laidKinds := [.data, .data, .data, .data], laidTests := true, laidLooks := .later }
def StyleComputesCardSaid : Prop := Claim7.holds Tryd.pinned (.plain (OpenSpec.ofChange styleComputesSpec)) styleComputesCard

/-- THE TIED CARD OF 'clapboardlaw11.StyleSets'. -/
def styleSetsCard : Claim7 := { stood := { row := styleSetsRow, standIns := [], harness := (true, "6a3c43100a8b8bb6b3e4a284c0859e8177d2dbe6730ce8cade320380f3d848aa"), looks := true }, kinds := [], alts := [], laidByText := true, laidKinds := [.data, .data, .data, .data], laidTests := true, laidLooks := .later }
def StyleSetsCardSaid : Prop := Claim7.holds Tryd.pinned (.plain (OpenSpec.ofChange styleSetsSpec)) styleSetsCard

/-- THE TIED CARD OF 'clapboardlaw11.StyleBorders'. -/
def styleBordersCard : Claim7 := { stood := { row := styleBordersRow, standIns := [], harness := (true, "6a3c43100a8b8bb6b3e4a284c0859e8177d2dbe6730ce8cade320380f3d848aa"), looks := true }, kinds := [], alts := [], laidByText := true, laidKinds := [.data, .data, .data, .data], laidTests := true, laidLooks := .later }
def StyleBordersCardSaid : Prop := Claim7.holds Tryd.pinned (.plain (OpenSpec.ofChange styleBordersSpec)) styleBordersCard

/-- THE TIED CARD OF 'clapboardlaw11.StyleHairlines'. -/
def styleHairlinesCard : Claim7 := { stood := { row := styleHairlinesRow, standIns := [], harness := (true, "6a3c43100a8b8bb6b3e4a284c0859e8177d2dbe6730ce8cade320380f3d848aa"), looks := true }, kinds := [], alts := [], laidByText := true, laidKinds := [.data, .data, .data, .data], laidTests := true, laidLooks := .later }
def StyleHairlinesCardSaid : Prop := Claim7.holds Tryd.pinned (.plain (OpenSpec.ofChange styleHairlinesSpec)) styleHairlinesCard

/-- THE TIED CARD OF 'clapboardlaw12.WordsDecode'. -/
def wordsDecodeCard : Claim7 := { stood := { row := wordsDecodeRow, standIns := [], harness := (true, "6a3c43100a8b8bb6b3e4a284c0859e8177d2dbe6730ce8cade320380f3d848aa"), looks := true }, kinds := [], alts := [], laidByText := true, laidKinds := [.data], laidTests := true, laidLooks := .later }
def WordsDecodeCardSaid : Prop := Claim7.holds Tryd.pinned (.plain (OpenSpec.ofChange wordsDecodeSpec)) wordsDecodeCard

/-- THE TIED CARD OF 'clapboardlaw12.WordsScale'. -/
def wordsScaleCard : Claim7 := { stood := { row := wordsScaleRow, standIns := [], harness := (true, "6a3c43100a8b8bb6b3e4a284c0859e8177d2dbe6730ce8cade320380f3d848aa"), looks := true }, kinds := [], alts := [], laidByText := true, laidKinds := [.data], laidTests := true, laidLooks := .later }
def WordsScaleCardSaid : Prop := Claim7.holds Tryd.pinned (.plain (OpenSpec.ofChange wordsScaleSpec)) wordsScaleCard

/-- THE SECOND FORM's CARD OF 'clapboardlaw11.StyleComputes'. -/
def styleComputesUptoCard : Claim7 := { stood := { row := styleComputesUptoRow, standIns := [], harness := (true, "6a3c43100a8b8bb6b3e4a284c0859e8177d2dbe6730ce8cade320380f3d848aa"), looks := true }, kinds := [], alts := [], laidByText := true, laidKinds := [.data, .data, .data, .data], laidTests := true, laidLooks := .later }
def StyleComputesUptoCardSaid : Prop := Claim7.holds Tryd.pinned (.plain (OpenSpec.upto styleComputesSpec)) styleComputesUptoCard

/-- THE SECOND FORM's CARD OF 'clapboardlaw11.StyleSets'. -/
def styleSetsUptoCard : Claim7 := { stood := { row := styleSetsUptoRow, standIns := [], harness := (true, "6a3c43100a8b8bb6b3e4a284c0859e8177d2dbe6730ce8cade320380f3d848aa"), looks := true }, kinds := [], alts := [], laidByText := true, laidKinds := [.data, .data, .data, .data], laidTests := true, laidLooks := .later }
def StyleSetsUptoCardSaid : Prop := Claim7.holds Tryd.pinned (.plain (OpenSpec.upto styleSetsSpec)) styleSetsUptoCard

/-- THE SECOND FORM's CARD OF 'clapboardlaw11.StyleBorders'. -/
def styleBordersUptoCard : Claim7 := { stood := { row := styleBordersUptoRow, standIns := [], harness := (true, "6a3c43100a8b8bb6b3e4a284c0859e8177d2dbe6730ce8cade320380f3d848aa"), looks := true }, kinds := [], alts := [], laidByText := true, laidKinds := [.data, .data, .data, .data], laidTests := true, laidLooks := .later }
def StyleBordersUptoCardSaid : Prop := Claim7.holds Tryd.pinned (.plain (OpenSpec.upto styleBordersSpec)) styleBordersUptoCard

/-- THE SECOND FORM's CARD OF 'clapboardlaw11.StyleHairlines'. -/
def styleHairlinesUptoCard : Claim7 := { stood := { row := styleHairlinesUptoRow, standIns := [], harness := (true, "6a3c43100a8b8bb6b3e4a284c0859e8177d2dbe6730ce8cade320380f3d848aa"), looks := true }, kinds := [], alts := [], laidByText := true, laidKinds := [.data, .data, .data, .data], laidTests := true, laidLooks := .later }
def StyleHairlinesUptoCardSaid : Prop := Claim7.holds Tryd.pinned (.plain (OpenSpec.upto styleHairlinesSpec)) styleHairlinesUptoCard

/-- THE SECOND FORM's CARD OF 'clapboardlaw12.WordsDecode'. -/
def wordsDecodeUptoCard : Claim7 := { stood := { row := wordsDecodeUptoRow, standIns := [], harness := (true, "6a3c43100a8b8bb6b3e4a284c0859e8177d2dbe6730ce8cade320380f3d848aa"), looks := true }, kinds := [], alts := [], laidByText := true, laidKinds := [.data], laidTests := true, laidLooks := .later }
def WordsDecodeUptoCardSaid : Prop := Claim7.holds Tryd.pinned (.plain (OpenSpec.upto wordsDecodeSpec)) wordsDecodeUptoCard

/-- THE SECOND FORM's CARD OF 'clapboardlaw12.WordsScale'. -/
def wordsScaleUptoCard : Claim7 := { stood := { row := wordsScaleUptoRow, standIns := [], harness := (true, "6a3c43100a8b8bb6b3e4a284c0859e8177d2dbe6730ce8cade320380f3d848aa"), looks := true }, kinds := [], alts := [], laidByText := true, laidKinds := [.data], laidTests := true, laidLooks := .later }
def WordsScaleUptoCardSaid : Prop := Claim7.holds Tryd.pinned (.plain (OpenSpec.upto wordsScaleSpec)) wordsScaleUptoCard
end Rows
end Go.Proofs.YtjemnjboopabpaaDoor
