/-
  DERIVED. GIVEN WITH THE SEED: THE CARDS: each row of YtbolifjkhoiphaaDoorRows.lean that lists a variable, with what it lists TIED to the program's text (the seventh form; the later family's looks); each row that meets fmt, with fmt's text TOLD by the authors' own Lean function (tested against real Go, not proved from fmt's source: count such statements apart). THE CARD IS WHAT COUNTS. Prove the row's statement (the work); the ties are given (YtbolifjkhoiphaaDoorTie.lean); close each card by the builder's one call (the guide's Derived/Test/ToyasCard.lean, 'card_holds'). Laid BY PROGRAM, IN A SANDBOX (cutbox-door.mjs). By AI agents, Wed Nov 11 2026. No macro, syntax, notation, axiom, sorry.
-/
import Derived.Test.YtbolifjkhoiphaaDoorRows
import GoSem.ClaimSeven
namespace Go.Proofs.YtbolifjkhoiphaaDoor
namespace Rows

/-- THE TIED CARD OF 'clapboardlaw11.StyleComputes'. -/
def styleComputesCard : Claim7 := { stood := { row := styleComputesRow, standIns := [], harness := (true, "18efd4216e66a36d459918ce4f52fb33b30f2b023cd2d4ac3dd30b7fbb4f8e5c"), looks := true }, kinds := [], alts := [], laidByText := true, laidKinds := [.data, .data, .data, .data], laidTests := true, laidLooks := .later }
def StyleComputesCardSaid : Prop := Claim7.holds Tryd.pinned (.plain (OpenSpec.ofChange styleComputesSpec)) styleComputesCard

/-- THE TIED CARD OF 'clapboardlaw11.StyleSets'. -/
def styleSetsCard : Claim7 := { stood := { row := styleSetsRow, standIns := [], harness := (true, "18efd4216e66a36d459918ce4f52fb33b30f2b023cd2d4ac3dd30b7fbb4f8e5c"), looks := true }, kinds := [], alts := [], laidByText := true, laidKinds := [.data, .data, .data, .data], laidTests := true, laidLooks := .later }
def StyleSetsCardSaid : Prop := Claim7.holds Tryd.pinned (.plain (OpenSpec.ofChange styleSetsSpec)) styleSetsCard

/-- THE TIED CARD OF 'clapboardlaw12.WordsDecode'. -/
def wordsDecodeCard : Claim7 := { stood := { row := wordsDecodeRow, standIns := [], harness := (true, "18efd4216e66a36d459918ce4f52fb33b30f2b023cd2d4ac3dd30b7fbb4f8e5c"), looks := true }, kinds := [], alts := [], laidByText := true, laidKinds := [.data], laidTests := true, laidLooks := .later }
def WordsDecodeCardSaid : Prop := Claim7.holds Tryd.pinned (.plain (OpenSpec.ofChange wordsDecodeSpec)) wordsDecodeCard

/-- THE TIED CARD OF 'clapboardlaw12.WordsScale'. -/
def wordsScaleCard : Claim7 := { stood := { row := wordsScaleRow, standIns := [], harness := (true, "18efd4216e66a36d459918ce4f52fb33b30f2b023cd2d4ac3dd30b7fbb4f8e5c"), looks := true }, kinds := [], alts := [], laidByText := true, laidKinds := [.data], laidTests := true, laidLooks := .later }
def WordsScaleCardSaid : Prop := Claim7.holds Tryd.pinned (.plain (OpenSpec.ofChange wordsScaleSpec)) wordsScaleCard

/-- THE SECOND FORM's CARD OF 'clapboardlaw11.StyleComputes'. -/
def styleComputesUptoCard : Claim7 := { stood := { row := styleComputesUptoRow, standIns := [], harness := (true, "18efd4216e66a36d459918ce4f52fb33b30f2b023cd2d4ac3dd30b7fbb4f8e5c"), looks := true }, kinds := [], alts := [], laidByText := true, laidKinds := [.data, .data, .data, .data], laidTests := true, laidLooks := .later }
def StyleComputesUptoCardSaid : Prop := Claim7.holds Tryd.pinned (.plain (OpenSpec.upto styleComputesSpec)) styleComputesUptoCard

/-- THE SECOND FORM's CARD OF 'clapboardlaw11.StyleSets'. -/
def styleSetsUptoCard : Claim7 := { stood := { row := styleSetsUptoRow, standIns := [], harness := (true, "18efd4216e66a36d459918ce4f52fb33b30f2b023cd2d4ac3dd30b7fbb4f8e5c"), looks := true }, kinds := [], alts := [], laidByText := true, laidKinds := [.data, .data, .data, .data], laidTests := true, laidLooks := .later }
def StyleSetsUptoCardSaid : Prop := Claim7.holds Tryd.pinned (.plain (OpenSpec.upto styleSetsSpec)) styleSetsUptoCard

/-- THE SECOND FORM's CARD OF 'clapboardlaw12.WordsDecode'. -/
def wordsDecodeUptoCard : Claim7 := { stood := { row := wordsDecodeUptoRow, standIns := [], harness := (true, "18efd4216e66a36d459918ce4f52fb33b30f2b023cd2d4ac3dd30b7fbb4f8e5c"), looks := true }, kinds := [], alts := [], laidByText := true, laidKinds := [.data], laidTests := true, laidLooks := .later }
def WordsDecodeUptoCardSaid : Prop := Claim7.holds Tryd.pinned (.plain (OpenSpec.upto wordsDecodeSpec)) wordsDecodeUptoCard

/-- THE SECOND FORM's CARD OF 'clapboardlaw12.WordsScale'. -/
def wordsScaleUptoCard : Claim7 := { stood := { row := wordsScaleUptoRow, standIns := [], harness := (true, "18efd4216e66a36d459918ce4f52fb33b30f2b023cd2d4ac3dd30b7fbb4f8e5c"), looks := true }, kinds := [], alts := [], laidByText := true, laidKinds := [.data], laidTests := true, laidLooks := .later }
def WordsScaleUptoCardSaid : Prop := Claim7.holds Tryd.pinned (.plain (OpenSpec.upto wordsScaleSpec)) wordsScaleUptoCard
end Rows
end Go.Proofs.YtbolifjkhoiphaaDoor
