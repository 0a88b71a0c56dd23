/-
  DERIVED. GIVEN WITH THE SEED: THE CARDS: each row of YtdccoebjcaemcaaRRRDoorRows.lean that lists a variable, with what it lists TIED to the program's text (the seventh form; the later family's looks); each row that meets fmt, with fmt's text TOLD by the authors' own Lean function (tested against real Go, not proved from fmt's source: count such statements apart). THE CARD IS WHAT COUNTS. Prove the row's statement (the work); the ties are given (YtdccoebjcaemcaaRRRDoorTie.lean); close each card by the builder's one call (the guide's Derived/Test/ToyasCard.lean, 'card_holds'). Laid BY PROGRAM, IN A SANDBOX (cutbox-door.mjs). By AI agents, Wed Nov 11 2026. No macro, syntax, notation, axiom, sorry.
-/
import Derived.Test.YtdccoebjcaemcaaRRRDoorRows
import GoSem.ClaimSeven
namespace Go.Proofs.YtdccoebjcaemcaaRRRDoor
namespace Rows

/-- THE TIED CARD OF 'clapboardlaw03.RealExact'. -/
def realExactCard : Claim7 := { stood := { row := realExactRow, standIns := [], harness := (true, "00d36d63662cc03c2fe64b45032f1d1e67325579493cc37cca1d21ba7f7423ff"), looks := false }, kinds := [], alts := [], laidByText := true, laidKinds := [.data], laidTests := true, laidLooks := .later }
def RealExactCardSaid : Prop := Claim7.holds Tryd.pinned (.plain (OpenSpec.ofChange realExactSpec)) realExactCard

/-- THE TIED CARD OF 'clapboardlaw03.RealNearest'. -/
def realNearestCard : Claim7 := { stood := { row := realNearestRow, standIns := [], harness := (true, "00d36d63662cc03c2fe64b45032f1d1e67325579493cc37cca1d21ba7f7423ff"), looks := false }, kinds := [], alts := [], laidByText := true, laidKinds := [.data], laidTests := true, laidLooks := .later }
def RealNearestCardSaid : Prop := Claim7.holds Tryd.pinned (.plain (OpenSpec.ofChange realNearestSpec)) realNearestCard

/-- THE TIED CARD OF 'clapboardlaw03.RealBack'. -/
def realBackCard : Claim7 := { stood := { row := realBackRow, standIns := [], harness := (true, "00d36d63662cc03c2fe64b45032f1d1e67325579493cc37cca1d21ba7f7423ff"), looks := false }, kinds := [], alts := [], laidByText := true, laidKinds := [.data], laidTests := true, laidLooks := .later }
def RealBackCardSaid : Prop := Claim7.holds Tryd.pinned (.plain (OpenSpec.ofChange realBackSpec)) realBackCard

/-- THE TIED CARD OF 'clapboardlaw03.RealGrid'. -/
def realGridCard : Claim7 := { stood := { row := realGridRow, standIns := [], harness := (true, "00d36d63662cc03c2fe64b45032f1d1e67325579493cc37cca1d21ba7f7423ff"), looks := false }, kinds := [], alts := [], laidByText := true, laidKinds := [.data], laidTests := true, laidLooks := .later }
def RealGridCardSaid : Prop := Claim7.holds Tryd.pinned (.plain (OpenSpec.ofChange realGridSpec)) realGridCard

/-- THE TIED CARD OF 'clapboardlaw03.RealMonotone'. -/
def realMonotoneCard : Claim7 := { stood := { row := realMonotoneRow, standIns := [], harness := (true, "00d36d63662cc03c2fe64b45032f1d1e67325579493cc37cca1d21ba7f7423ff"), looks := false }, kinds := [], alts := [], laidByText := true, laidKinds := [.data], laidTests := true, laidLooks := .later }
def RealMonotoneCardSaid : Prop := Claim7.holds Tryd.pinned (.plain (OpenSpec.ofChange realMonotoneSpec)) realMonotoneCard

/-- THE SECOND FORM's CARD OF 'clapboardlaw03.RealExact'. -/
def realExactUptoCard : Claim7 := { stood := { row := realExactUptoRow, standIns := [], harness := (true, "00d36d63662cc03c2fe64b45032f1d1e67325579493cc37cca1d21ba7f7423ff"), looks := false }, kinds := [], alts := [], laidByText := true, laidKinds := [.data], laidTests := true, laidLooks := .later }
def RealExactUptoCardSaid : Prop := Claim7.holds Tryd.pinned (.plain (OpenSpec.upto realExactSpec)) realExactUptoCard

/-- THE SECOND FORM's CARD OF 'clapboardlaw03.RealNearest'. -/
def realNearestUptoCard : Claim7 := { stood := { row := realNearestUptoRow, standIns := [], harness := (true, "00d36d63662cc03c2fe64b45032f1d1e67325579493cc37cca1d21ba7f7423ff"), looks := false }, kinds := [], alts := [], laidByText := true, laidKinds := [.data], laidTests := true, laidLooks := .later }
def RealNearestUptoCardSaid : Prop := Claim7.holds Tryd.pinned (.plain (OpenSpec.upto realNearestSpec)) realNearestUptoCard

/-- THE SECOND FORM's CARD OF 'clapboardlaw03.RealBack'. -/
def realBackUptoCard : Claim7 := { stood := { row := realBackUptoRow, standIns := [], harness := (true, "00d36d63662cc03c2fe64b45032f1d1e67325579493cc37cca1d21ba7f7423ff"), looks := false }, kinds := [], alts := [], laidByText := true, laidKinds := [.data], laidTests := true, laidLooks := .later }
def RealBackUptoCardSaid : Prop := Claim7.holds Tryd.pinned (.plain (OpenSpec.upto realBackSpec)) realBackUptoCard

/-- THE SECOND FORM's CARD OF 'clapboardlaw03.RealGrid'. -/
def realGridUptoCard : Claim7 := { stood := { row := realGridUptoRow, standIns := [], harness := (true, "00d36d63662cc03c2fe64b45032f1d1e67325579493cc37cca1d21ba7f7423ff"), looks := false }, kinds := [], alts := [], laidByText := true, laidKinds := [.data], laidTests := true, laidLooks := .later }
def RealGridUptoCardSaid : Prop := Claim7.holds Tryd.pinned (.plain (OpenSpec.upto realGridSpec)) realGridUptoCard

/-- THE SECOND FORM's CARD OF 'clapboardlaw03.RealMonotone'. -/
def realMonotoneUptoCard : Claim7 := { stood := { row := realMonotoneUptoRow, standIns := [], harness := (true, "00d36d63662cc03c2fe64b45032f1d1e67325579493cc37cca1d21ba7f7423ff"), looks := false }, kinds := [], alts := [], laidByText := true, laidKinds := [.data], laidTests := true, laidLooks := .later }
def RealMonotoneUptoCardSaid : Prop := Claim7.holds Tryd.pinned (.plain (OpenSpec.upto realMonotoneSpec)) realMonotoneUptoCard
end Rows
end Go.Proofs.YtdccoebjcaemcaaRRRDoor
