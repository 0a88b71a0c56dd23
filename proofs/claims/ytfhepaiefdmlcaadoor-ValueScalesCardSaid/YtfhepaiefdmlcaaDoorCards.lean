/-
  DERIVED. GIVEN WITH THE SEED: THE CARDS: each row of YtfhepaiefdmlcaaDoorRows.lean that lists a variable, with what it lists TIED to the program's text (the seventh form; the later family's looks); each row that meets fmt, with fmt's text TOLD by the authors' own Lean function (tested against real Go, not proved from fmt's source: count such statements apart). THE CARD IS WHAT COUNTS. Prove the row's statement (the work); the ties are given (YtfhepaiefdmlcaaDoorTie.lean); close each card by the builder's one call (the guide's Derived/Test/ToyasCard.lean, 'card_holds'). Laid BY PROGRAM, IN A SANDBOX (cutbox-door.mjs). By AI agents, Wed Nov 11 2026. No macro, syntax, notation, axiom, sorry.
-/
import Derived.Test.YtfhepaiefdmlcaaDoorRows
import GoSem.ClaimSeven
namespace Go.Proofs.YtfhepaiefdmlcaaDoor
namespace Rows

/-- THE TIED CARD OF 'clapboardlaw09.ValueDecodes'. -/
def valueDecodesCard : Claim7 := { stood := { row := valueDecodesRow, standIns := [], harness := (true, "8a42d4ad8e5164aa495787d4dfd0abc176098baf2462b0a3e3be1bd4046d3f86"), looks := true }, kinds := [], alts := [], laidByText := true, laidKinds := [.data], laidTests := true, laidLooks := .later }
def ValueDecodesCardSaid : Prop := Claim7.holds Tryd.pinned (.plain (OpenSpec.ofChange valueDecodesSpec)) valueDecodesCard

/-- THE TIED CARD OF 'clapboardlaw09.ValueIns'. -/
def valueInsCard : Claim7 := { stood := { row := valueInsRow, standIns := [], harness := (true, "8a42d4ad8e5164aa495787d4dfd0abc176098baf2462b0a3e3be1bd4046d3f86"), looks := true }, kinds := [], alts := [], laidByText := true, laidKinds := [.data], laidTests := true, laidLooks := .later }
def ValueInsCardSaid : Prop := Claim7.holds Tryd.pinned (.plain (OpenSpec.ofChange valueInsSpec)) valueInsCard

/-- THE TIED CARD OF 'clapboardlaw09.ValueScales'. -/
def valueScalesCard : Claim7 := { stood := { row := valueScalesRow, standIns := [], harness := (true, "8a42d4ad8e5164aa495787d4dfd0abc176098baf2462b0a3e3be1bd4046d3f86"), looks := true }, kinds := [], alts := [], laidByText := true, laidKinds := [.data], laidTests := true, laidLooks := .later }
def ValueScalesCardSaid : Prop := Claim7.holds Tryd.pinned (.plain (OpenSpec.ofChange valueScalesSpec)) valueScalesCard

/-- THE SECOND FORM's CARD OF 'clapboardlaw09.ValueDecodes'. -/
def valueDecodesUptoCard : Claim7 := { stood := { row := valueDecodesUptoRow, standIns := [], harness := (true, "8a42d4ad8e5164aa495787d4dfd0abc176098baf2462b0a3e3be1bd4046d3f86"), looks := true }, kinds := [], alts := [], laidByText := true, laidKinds := [.data], laidTests := true, laidLooks := .later }
def ValueDecodesUptoCardSaid : Prop := Claim7.holds Tryd.pinned (.plain (OpenSpec.upto valueDecodesSpec)) valueDecodesUptoCard

/-- THE SECOND FORM's CARD OF 'clapboardlaw09.ValueIns'. -/
def valueInsUptoCard : Claim7 := { stood := { row := valueInsUptoRow, standIns := [], harness := (true, "8a42d4ad8e5164aa495787d4dfd0abc176098baf2462b0a3e3be1bd4046d3f86"), looks := true }, kinds := [], alts := [], laidByText := true, laidKinds := [.data], laidTests := true, laidLooks := .later }
def ValueInsUptoCardSaid : Prop := Claim7.holds Tryd.pinned (.plain (OpenSpec.upto valueInsSpec)) valueInsUptoCard

/-- THE SECOND FORM's CARD OF 'clapboardlaw09.ValueScales'. -/
def valueScalesUptoCard : Claim7 := { stood := { row := valueScalesUptoRow, standIns := [], harness := (true, "8a42d4ad8e5164aa495787d4dfd0abc176098baf2462b0a3e3be1bd4046d3f86"), looks := true }, kinds := [], alts := [], laidByText := true, laidKinds := [.data], laidTests := true, laidLooks := .later }
def ValueScalesUptoCardSaid : Prop := Claim7.holds Tryd.pinned (.plain (OpenSpec.upto valueScalesSpec)) valueScalesUptoCard
end Rows
end Go.Proofs.YtfhepaiefdmlcaaDoor
