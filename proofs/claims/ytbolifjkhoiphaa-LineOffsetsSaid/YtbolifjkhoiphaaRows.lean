/-
  No cell of these rows narrows 'for every input' (looked for: loops, veiled, ifaces, maps, wideKeys, modest, calm, conditions, laid).
  DERIVED. THE GIVEN ROWS OF THIS SEAT. 7 by the template 'for every input the law returns true; each argument reads behind the call as it read before'; 0 by the template 'total and deterministic' (their statements: YtbolifjkhoiphaaTotals.lean).
  GIVEN WITH THE SEED: the statements are not yours to turn. If you find one false, say at which input.
  Laid BY PROGRAM, IN A SANDBOX (cutbox-rows.mjs): the forced cells as the released guide's own fill.sh prints them over the translation 0fb4ff65499465e0… (all of the seat's roots in one cut). By AI agents, Wed Nov 11 2026. No macro, syntax, notation, axiom, sorry.
-/
import Derived.Test.YtbolifjkhoiphaaChecked
import GoSem.Claim
import GoSem.ClaimJoined
import GoSem.ClaimMapViews
import Derived.JoinedTies
import Derived.KernelRfl
namespace Go.Proofs.Ytbolifjkhoiphaa
/- THE CELL 'sum', in the pinned program and in every row, IS THE sha256 OF THE DUMP (.gsa) THAT YtbolifjkhoiphaaProg.lean LOADS. Nothing in Lean hashes anything: it is a label: what it is worth is what the hold of that sum in a sandbox is worth. -/
noncomputable def Try.pinned : Pinned := { name := "ytbolifjkhoiphaa", sum := "0fb4ff65499465e01a39d901a8ed8ff146e7e6fe4dae27a55d815604d326de56", checked := Try.checked }
namespace Rows
def none {H : Type} : Left H := { results := [], args := [] }

/-- 'clapboardlaw13.LineFills': WHATEVER THE INPUT: true; the input reads as it did. -/
def lineFillsSpec : ChangeSpec := { name := "lineFills", fn := fun _ => fun
  | [d1, d2, d3] => { results := [.lit (.bool true)], args := [d1, d2, d3] }
  | _ => none }
def lineFillsRow : OpenClaim := { program := "ytbolifjkhoiphaa", sum := "0fb4ff65499465e01a39d901a8ed8ff146e7e6fe4dae27a55d815604d326de56", func := "clapboard/clapboardlaw13.LineFills", spec := "lineFills", inPlace := ["math/bits.Sub64", "math/bits.Add64"], unfollowed := true, recurses := true, named := ["math/bits.divideError", "math/bits.overflowError"], apart := false }
def LineFillsSaid : Prop := lineFillsRow.holds Try.pinned (OpenSpec.ofChange lineFillsSpec)

/-- ITS FALSE NEIGHBOUR: 'it returns false'. Refute it at one input. -/
def lineFillsWrong : ChangeSpec := { name := "lineFills", fn := fun _ => fun
  | [d1, d2, d3] => { results := [.lit (.bool false)], args := [d1, d2, d3] }
  | _ => none }
def LineFillsWrongFalsely : Prop := lineFillsRow.holds Try.pinned (OpenSpec.ofChange lineFillsWrong)

/-- 'clapboardlaw13.LineOffsets': WHATEVER THE INPUT: true; the input reads as it did. -/
def lineOffsetsSpec : ChangeSpec := { name := "lineOffsets", fn := fun _ => fun
  | [d] => { results := [.lit (.bool true)], args := [d] }
  | _ => none }
def lineOffsetsRow : OpenClaim := { program := "ytbolifjkhoiphaa", sum := "0fb4ff65499465e01a39d901a8ed8ff146e7e6fe4dae27a55d815604d326de56", func := "clapboard/clapboardlaw13.LineOffsets", spec := "lineOffsets", inPlace := ["math/bits.Sub64", "math/bits.Add64"], unfollowed := true, recurses := true, named := ["math/bits.divideError", "math/bits.overflowError"], apart := false }
def LineOffsetsSaid : Prop := lineOffsetsRow.holds Try.pinned (OpenSpec.ofChange lineOffsetsSpec)

/-- ITS FALSE NEIGHBOUR: 'it returns false'. Refute it at one input. -/
def lineOffsetsWrong : ChangeSpec := { name := "lineOffsets", fn := fun _ => fun
  | [d] => { results := [.lit (.bool false)], args := [d] }
  | _ => none }
def LineOffsetsWrongFalsely : Prop := lineOffsetsRow.holds Try.pinned (OpenSpec.ofChange lineOffsetsWrong)

/-- 'clapboardlaw13.LineGreedy': WHATEVER THE INPUT: true; the input reads as it did. -/
def lineGreedySpec : ChangeSpec := { name := "lineGreedy", fn := fun _ => fun
  | [d1, d2] => { results := [.lit (.bool true)], args := [d1, d2] }
  | _ => none }
def lineGreedyRow : OpenClaim := { program := "ytbolifjkhoiphaa", sum := "0fb4ff65499465e01a39d901a8ed8ff146e7e6fe4dae27a55d815604d326de56", func := "clapboard/clapboardlaw13.LineGreedy", spec := "lineGreedy", inPlace := ["math/bits.Sub64", "math/bits.Add64"], unfollowed := true, recurses := true, named := ["math/bits.divideError", "math/bits.overflowError"], apart := false }
def LineGreedySaid : Prop := lineGreedyRow.holds Try.pinned (OpenSpec.ofChange lineGreedySpec)

/-- ITS FALSE NEIGHBOUR: 'it returns false'. Refute it at one input. -/
def lineGreedyWrong : ChangeSpec := { name := "lineGreedy", fn := fun _ => fun
  | [d1, d2] => { results := [.lit (.bool false)], args := [d1, d2] }
  | _ => none }
def LineGreedyWrongFalsely : Prop := lineGreedyRow.holds Try.pinned (OpenSpec.ofChange lineGreedyWrong)

/-- 'clapboardlaw13.LineStands': WHATEVER THE INPUT: true; the input reads as it did. -/
def lineStandsSpec : ChangeSpec := { name := "lineStands", fn := fun _ => fun
  | [d1, d2, d3] => { results := [.lit (.bool true)], args := [d1, d2, d3] }
  | _ => none }
def lineStandsRow : OpenClaim := { program := "ytbolifjkhoiphaa", sum := "0fb4ff65499465e01a39d901a8ed8ff146e7e6fe4dae27a55d815604d326de56", func := "clapboard/clapboardlaw13.LineStands", spec := "lineStands", inPlace := ["math/bits.Sub64", "math/bits.Add64"], unfollowed := true, recurses := true, named := ["math/bits.divideError", "math/bits.overflowError"], apart := false }
def LineStandsSaid : Prop := lineStandsRow.holds Try.pinned (OpenSpec.ofChange lineStandsSpec)

/-- ITS FALSE NEIGHBOUR: 'it returns false'. Refute it at one input. -/
def lineStandsWrong : ChangeSpec := { name := "lineStands", fn := fun _ => fun
  | [d1, d2, d3] => { results := [.lit (.bool false)], args := [d1, d2, d3] }
  | _ => none }
def LineStandsWrongFalsely : Prop := lineStandsRow.holds Try.pinned (OpenSpec.ofChange lineStandsWrong)

/-- 'clapboardlaw14.SizingOf': WHATEVER THE INPUT: true; the input reads as it did. -/
def sizingOfSpec : ChangeSpec := { name := "sizingOf", fn := fun _ => fun
  | [d1, d2] => { results := [.lit (.bool true)], args := [d1, d2] }
  | _ => none }
def sizingOfRow : OpenClaim := { program := "ytbolifjkhoiphaa", sum := "0fb4ff65499465e01a39d901a8ed8ff146e7e6fe4dae27a55d815604d326de56", func := "clapboard/clapboardlaw14.SizingOf", spec := "sizingOf", inPlace := ["math/bits.Sub64", "math/bits.Add64"], unfollowed := true, recurses := true, named := ["math/bits.divideError", "math/bits.overflowError"], apart := false }
def SizingOfSaid : Prop := sizingOfRow.holds Try.pinned (OpenSpec.ofChange sizingOfSpec)

/-- ITS FALSE NEIGHBOUR: 'it returns false'. Refute it at one input. -/
def sizingOfWrong : ChangeSpec := { name := "sizingOf", fn := fun _ => fun
  | [d1, d2] => { results := [.lit (.bool false)], args := [d1, d2] }
  | _ => none }
def SizingOfWrongFalsely : Prop := sizingOfRow.holds Try.pinned (OpenSpec.ofChange sizingOfWrong)

/-- 'clapboardlaw14.SizingLimits': WHATEVER THE INPUT: true; the input reads as it did. -/
def sizingLimitsSpec : ChangeSpec := { name := "sizingLimits", fn := fun _ => fun
  | [d1, d2, d3] => { results := [.lit (.bool true)], args := [d1, d2, d3] }
  | _ => none }
def sizingLimitsRow : OpenClaim := { program := "ytbolifjkhoiphaa", sum := "0fb4ff65499465e01a39d901a8ed8ff146e7e6fe4dae27a55d815604d326de56", func := "clapboard/clapboardlaw14.SizingLimits", spec := "sizingLimits", inPlace := ["math/bits.Sub64", "math/bits.Add64"], unfollowed := true, recurses := true, named := ["math/bits.divideError", "math/bits.overflowError"], apart := false }
def SizingLimitsSaid : Prop := sizingLimitsRow.holds Try.pinned (OpenSpec.ofChange sizingLimitsSpec)

/-- ITS FALSE NEIGHBOUR: 'it returns false'. Refute it at one input. -/
def sizingLimitsWrong : ChangeSpec := { name := "sizingLimits", fn := fun _ => fun
  | [d1, d2, d3] => { results := [.lit (.bool false)], args := [d1, d2, d3] }
  | _ => none }
def SizingLimitsWrongFalsely : Prop := sizingLimitsRow.holds Try.pinned (OpenSpec.ofChange sizingLimitsWrong)

/-- 'clapboardlaw14.SizingFits': WHATEVER THE INPUT: true; the input reads as it did. -/
def sizingFitsSpec : ChangeSpec := { name := "sizingFits", fn := fun _ => fun
  | [d] => { results := [.lit (.bool true)], args := [d] }
  | _ => none }
def sizingFitsRow : OpenClaim := { program := "ytbolifjkhoiphaa", sum := "0fb4ff65499465e01a39d901a8ed8ff146e7e6fe4dae27a55d815604d326de56", func := "clapboard/clapboardlaw14.SizingFits", spec := "sizingFits", inPlace := ["math/bits.Sub64", "math/bits.Add64"], unfollowed := true, recurses := true, named := ["math/bits.divideError", "math/bits.overflowError"], apart := false }
def SizingFitsSaid : Prop := sizingFitsRow.holds Try.pinned (OpenSpec.ofChange sizingFitsSpec)

/-- ITS FALSE NEIGHBOUR: 'it returns false'. Refute it at one input. -/
def sizingFitsWrong : ChangeSpec := { name := "sizingFits", fn := fun _ => fun
  | [d] => { results := [.lit (.bool false)], args := [d] }
  | _ => none }
def SizingFitsWrongFalsely : Prop := sizingFitsRow.holds Try.pinned (OpenSpec.ofChange sizingFitsWrong)

/- THE SECOND FORM. 'bulk': how many values and letters a reading holds, each counted each time it is reached (what is shared counts as often as it is met; a slice's spare places count too). A statement '..UptoSaid' is the law's where the arguments, and the package variables that the reading takes, are together of bulk at most 1048576: NARROWER than '..Said'. Prove '..Said' where nothing that the law and all that it calls make is longer than what came in: it says more and counts as full. Else prove '..UptoSaid'. A law counts once. -/
mutual
def uptoBulk {H : Type} : DataW H → Nat
  | .lit (.string bytes) => bytes.length + 1
  | .lit _ => 1
  | .nil => 1
  | .ptr d => uptoBulk d + 1
  | .slice elems spare => uptoBulkAll elems + uptoBulkAll spare + 1
  | .agg parts => uptoBulkAll parts + 1
  | .iface _ d => uptoBulk d + 1
  | .map entries => uptoBulkEntries entries + 1
  | .held _ => 1
def uptoBulkAll {H : Type} : List (DataW H) → Nat
  | [] => 0
  | d :: r => uptoBulk d + uptoBulkAll r
def uptoBulkEntries {H : Type} : List (Lit × DataW H) → Nat
  | [] => 0
  | x :: r => uptoBulkEntry x + uptoBulkEntries r
def uptoBulkEntry {H : Type} : Lit × DataW H → Nat
  | (.string bytes, d) => bytes.length + uptoBulk d + 1
  | (_, d) => uptoBulk d + 1
 end
def uptoSmall : (H : Type) → List (DataW H) → Bool := fun _ ds => decide (uptoBulkAll ds ≤ 1048576)
def OpenSpec.upto (s : _root_.Go.ChangeSpec) : _root_.Go.OpenSpec := { _root_.Go.OpenSpec.ofChange s with cond := some uptoSmall }

/-- 'clapboardlaw13.LineFills', WHERE WHAT IT READS IS OF BULK AT MOST 1048576: true; the input reads as it did. -/
def lineFillsUptoRow : OpenClaim := { program := "ytbolifjkhoiphaa", sum := "0fb4ff65499465e01a39d901a8ed8ff146e7e6fe4dae27a55d815604d326de56", func := "clapboard/clapboardlaw13.LineFills", spec := "lineFills", inPlace := ["math/bits.Sub64", "math/bits.Add64"], unfollowed := true, recurses := true, named := ["math/bits.divideError", "math/bits.overflowError"], apart := false, narrowed := true }
def LineFillsUptoSaid : Prop := lineFillsUptoRow.holds Try.pinned (OpenSpec.upto lineFillsSpec)

/-- 'clapboardlaw13.LineOffsets', WHERE WHAT IT READS IS OF BULK AT MOST 1048576: true; the input reads as it did. -/
def lineOffsetsUptoRow : OpenClaim := { program := "ytbolifjkhoiphaa", sum := "0fb4ff65499465e01a39d901a8ed8ff146e7e6fe4dae27a55d815604d326de56", func := "clapboard/clapboardlaw13.LineOffsets", spec := "lineOffsets", inPlace := ["math/bits.Sub64", "math/bits.Add64"], unfollowed := true, recurses := true, named := ["math/bits.divideError", "math/bits.overflowError"], apart := false, narrowed := true }
def LineOffsetsUptoSaid : Prop := lineOffsetsUptoRow.holds Try.pinned (OpenSpec.upto lineOffsetsSpec)

/-- 'clapboardlaw13.LineGreedy', WHERE WHAT IT READS IS OF BULK AT MOST 1048576: true; the input reads as it did. -/
def lineGreedyUptoRow : OpenClaim := { program := "ytbolifjkhoiphaa", sum := "0fb4ff65499465e01a39d901a8ed8ff146e7e6fe4dae27a55d815604d326de56", func := "clapboard/clapboardlaw13.LineGreedy", spec := "lineGreedy", inPlace := ["math/bits.Sub64", "math/bits.Add64"], unfollowed := true, recurses := true, named := ["math/bits.divideError", "math/bits.overflowError"], apart := false, narrowed := true }
def LineGreedyUptoSaid : Prop := lineGreedyUptoRow.holds Try.pinned (OpenSpec.upto lineGreedySpec)

/-- 'clapboardlaw13.LineStands', WHERE WHAT IT READS IS OF BULK AT MOST 1048576: true; the input reads as it did. -/
def lineStandsUptoRow : OpenClaim := { program := "ytbolifjkhoiphaa", sum := "0fb4ff65499465e01a39d901a8ed8ff146e7e6fe4dae27a55d815604d326de56", func := "clapboard/clapboardlaw13.LineStands", spec := "lineStands", inPlace := ["math/bits.Sub64", "math/bits.Add64"], unfollowed := true, recurses := true, named := ["math/bits.divideError", "math/bits.overflowError"], apart := false, narrowed := true }
def LineStandsUptoSaid : Prop := lineStandsUptoRow.holds Try.pinned (OpenSpec.upto lineStandsSpec)

/-- 'clapboardlaw14.SizingOf', WHERE WHAT IT READS IS OF BULK AT MOST 1048576: true; the input reads as it did. -/
def sizingOfUptoRow : OpenClaim := { program := "ytbolifjkhoiphaa", sum := "0fb4ff65499465e01a39d901a8ed8ff146e7e6fe4dae27a55d815604d326de56", func := "clapboard/clapboardlaw14.SizingOf", spec := "sizingOf", inPlace := ["math/bits.Sub64", "math/bits.Add64"], unfollowed := true, recurses := true, named := ["math/bits.divideError", "math/bits.overflowError"], apart := false, narrowed := true }
def SizingOfUptoSaid : Prop := sizingOfUptoRow.holds Try.pinned (OpenSpec.upto sizingOfSpec)

/-- 'clapboardlaw14.SizingLimits', WHERE WHAT IT READS IS OF BULK AT MOST 1048576: true; the input reads as it did. -/
def sizingLimitsUptoRow : OpenClaim := { program := "ytbolifjkhoiphaa", sum := "0fb4ff65499465e01a39d901a8ed8ff146e7e6fe4dae27a55d815604d326de56", func := "clapboard/clapboardlaw14.SizingLimits", spec := "sizingLimits", inPlace := ["math/bits.Sub64", "math/bits.Add64"], unfollowed := true, recurses := true, named := ["math/bits.divideError", "math/bits.overflowError"], apart := false, narrowed := true }
def SizingLimitsUptoSaid : Prop := sizingLimitsUptoRow.holds Try.pinned (OpenSpec.upto sizingLimitsSpec)

/-- 'clapboardlaw14.SizingFits', WHERE WHAT IT READS IS OF BULK AT MOST 1048576: true; the input reads as it did. -/
def sizingFitsUptoRow : OpenClaim := { program := "ytbolifjkhoiphaa", sum := "0fb4ff65499465e01a39d901a8ed8ff146e7e6fe4dae27a55d815604d326de56", func := "clapboard/clapboardlaw14.SizingFits", spec := "sizingFits", inPlace := ["math/bits.Sub64", "math/bits.Add64"], unfollowed := true, recurses := true, named := ["math/bits.divideError", "math/bits.overflowError"], apart := false, narrowed := true }
def SizingFitsUptoSaid : Prop := sizingFitsUptoRow.holds Try.pinned (OpenSpec.upto sizingFitsSpec)

end Rows
end Go.Proofs.Ytbolifjkhoiphaa
