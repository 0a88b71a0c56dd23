/-
  No cell of these rows narrows 'for every input' (looked for: loops, veiled, ifaces, maps, wideKeys, modest, calm, conditions, laid).
  DERIVED. THE GIVEN ROWS OF THIS SEAT. 7 by the template 'for every input the law returns true; each argument reads behind the call as it read before'; 0 by the template 'total and deterministic' (their statements: YtlkpegfbnmecpaaTotals.lean).
  GIVEN WITH THE SEED: the statements are not yours to turn. If you find one false, say at which input.
  Laid BY PROGRAM, IN A SANDBOX (cutbox-rows.mjs): the forced cells as the released guide's own fill.sh prints them over the translation eca84b91ba7c67ab… (all of the seat's roots in one cut). By AI agents, Wed Nov 11 2026. No macro, syntax, notation, axiom, sorry.
-/
import Derived.Test.YtlkpegfbnmecpaaChecked
import GoSem.Claim
import GoSem.ClaimJoined
import GoSem.ClaimMapViews
import Derived.JoinedTies
import Derived.KernelRfl
namespace Go.Proofs.Ytlkpegfbnmecpaa
/- THE CELL 'sum', in the pinned program and in every row, IS THE sha256 OF THE DUMP (.gsa) THAT YtlkpegfbnmecpaaProg.lean LOADS. Nothing in Lean hashes anything: it is a label: what it is worth is what the hold of that sum in a sandbox is worth. -/
noncomputable def Try.pinned : Pinned := { name := "ytlkpegfbnmecpaa", sum := "eca84b91ba7c67abb7f12440d2f795d67a074328f336f194cd2912b794e11c3f", checked := Try.checked }
namespace Rows
def none {H : Type} : Left H := { results := [], args := [] }

/-- 'clapboardlaw05.ShareSplits': WHATEVER THE INPUT: true; the input reads as it did. -/
def shareSplitsSpec : ChangeSpec := { name := "shareSplits", fn := fun _ => fun
  | [d1, d2] => { results := [.lit (.bool true)], args := [d1, d2] }
  | _ => none }
def shareSplitsRow : OpenClaim := { program := "ytlkpegfbnmecpaa", sum := "eca84b91ba7c67abb7f12440d2f795d67a074328f336f194cd2912b794e11c3f", func := "clapboard/clapboardlaw05.ShareSplits", spec := "shareSplits", inPlace := ["math/bits.Sub64", "math/bits.Add64"], unfollowed := true, recurses := true, named := ["math/bits.divideError", "math/bits.overflowError"], apart := false }
def ShareSplitsSaid : Prop := shareSplitsRow.holds Try.pinned (OpenSpec.ofChange shareSplitsSpec)

/-- ITS FALSE NEIGHBOUR: 'it returns false'. Refute it at one input. -/
def shareSplitsWrong : ChangeSpec := { name := "shareSplits", fn := fun _ => fun
  | [d1, d2] => { results := [.lit (.bool false)], args := [d1, d2] }
  | _ => none }
def ShareSplitsWrongFalsely : Prop := shareSplitsRow.holds Try.pinned (OpenSpec.ofChange shareSplitsWrong)

/-- 'clapboardlaw05.ShareCounts': WHATEVER THE INPUT: true; the input reads as it did. -/
def shareCountsSpec : ChangeSpec := { name := "shareCounts", fn := fun _ => fun
  | [d1, d2] => { results := [.lit (.bool true)], args := [d1, d2] }
  | _ => none }
def shareCountsRow : OpenClaim := { program := "ytlkpegfbnmecpaa", sum := "eca84b91ba7c67abb7f12440d2f795d67a074328f336f194cd2912b794e11c3f", func := "clapboard/clapboardlaw05.ShareCounts", spec := "shareCounts", inPlace := ["math/bits.Sub64", "math/bits.Add64"], unfollowed := true, recurses := true, named := ["math/bits.divideError", "math/bits.overflowError"], apart := false }
def ShareCountsSaid : Prop := shareCountsRow.holds Try.pinned (OpenSpec.ofChange shareCountsSpec)

/-- ITS FALSE NEIGHBOUR: 'it returns false'. Refute it at one input. -/
def shareCountsWrong : ChangeSpec := { name := "shareCounts", fn := fun _ => fun
  | [d1, d2] => { results := [.lit (.bool false)], args := [d1, d2] }
  | _ => none }
def ShareCountsWrongFalsely : Prop := shareCountsRow.holds Try.pinned (OpenSpec.ofChange shareCountsWrong)

/-- 'clapboardlaw05.ShareFair': WHATEVER THE INPUT: true; the input reads as it did. -/
def shareFairSpec : ChangeSpec := { name := "shareFair", fn := fun _ => fun
  | [d1, d2] => { results := [.lit (.bool true)], args := [d1, d2] }
  | _ => none }
def shareFairRow : OpenClaim := { program := "ytlkpegfbnmecpaa", sum := "eca84b91ba7c67abb7f12440d2f795d67a074328f336f194cd2912b794e11c3f", func := "clapboard/clapboardlaw05.ShareFair", spec := "shareFair", inPlace := ["math/bits.Sub64", "math/bits.Add64"], unfollowed := true, recurses := true, named := ["math/bits.divideError", "math/bits.overflowError"], apart := false }
def ShareFairSaid : Prop := shareFairRow.holds Try.pinned (OpenSpec.ofChange shareFairSpec)

/-- ITS FALSE NEIGHBOUR: 'it returns false'. Refute it at one input. -/
def shareFairWrong : ChangeSpec := { name := "shareFair", fn := fun _ => fun
  | [d1, d2] => { results := [.lit (.bool false)], args := [d1, d2] }
  | _ => none }
def ShareFairWrongFalsely : Prop := shareFairRow.holds Try.pinned (OpenSpec.ofChange shareFairWrong)

/-- 'clapboardlaw05.ShareMerged': WHATEVER THE INPUT: true; the input reads as it did. -/
def shareMergedSpec : ChangeSpec := { name := "shareMerged", fn := fun _ => fun
  | [d1, d2, d3] => { results := [.lit (.bool true)], args := [d1, d2, d3] }
  | _ => none }
def shareMergedRow : OpenClaim := { program := "ytlkpegfbnmecpaa", sum := "eca84b91ba7c67abb7f12440d2f795d67a074328f336f194cd2912b794e11c3f", func := "clapboard/clapboardlaw05.ShareMerged", spec := "shareMerged", inPlace := ["math/bits.Sub64", "math/bits.Add64"], unfollowed := true, recurses := true, named := ["math/bits.divideError", "math/bits.overflowError"], apart := false }
def ShareMergedSaid : Prop := shareMergedRow.holds Try.pinned (OpenSpec.ofChange shareMergedSpec)

/-- ITS FALSE NEIGHBOUR: 'it returns false'. Refute it at one input. -/
def shareMergedWrong : ChangeSpec := { name := "shareMerged", fn := fun _ => fun
  | [d1, d2, d3] => { results := [.lit (.bool false)], args := [d1, d2, d3] }
  | _ => none }
def ShareMergedWrongFalsely : Prop := shareMergedRow.holds Try.pinned (OpenSpec.ofChange shareMergedWrong)

/-- 'clapboardlaw06.RectRights': WHATEVER THE INPUT: true; the input reads as it did. -/
def rectRightsSpec : ChangeSpec := { name := "rectRights", fn := fun _ => fun
  | [d1, d2, d3] => { results := [.lit (.bool true)], args := [d1, d2, d3] }
  | _ => none }
def rectRightsRow : OpenClaim := { program := "ytlkpegfbnmecpaa", sum := "eca84b91ba7c67abb7f12440d2f795d67a074328f336f194cd2912b794e11c3f", func := "clapboard/clapboardlaw06.RectRights", spec := "rectRights", apart := false }
def RectRightsSaid : Prop := rectRightsRow.holds Try.pinned (OpenSpec.ofChange rectRightsSpec)

/-- ITS FALSE NEIGHBOUR: 'it returns false'. Refute it at one input. -/
def rectRightsWrong : ChangeSpec := { name := "rectRights", fn := fun _ => fun
  | [d1, d2, d3] => { results := [.lit (.bool false)], args := [d1, d2, d3] }
  | _ => none }
def RectRightsWrongFalsely : Prop := rectRightsRow.holds Try.pinned (OpenSpec.ofChange rectRightsWrong)

/-- 'clapboardlaw06.RectMoves': WHATEVER THE INPUT: true; the input reads as it did. -/
def rectMovesSpec : ChangeSpec := { name := "rectMoves", fn := fun _ => fun
  | [d1, d2] => { results := [.lit (.bool true)], args := [d1, d2] }
  | _ => none }
def rectMovesRow : OpenClaim := { program := "ytlkpegfbnmecpaa", sum := "eca84b91ba7c67abb7f12440d2f795d67a074328f336f194cd2912b794e11c3f", func := "clapboard/clapboardlaw06.RectMoves", spec := "rectMoves", apart := false }
def RectMovesSaid : Prop := rectMovesRow.holds Try.pinned (OpenSpec.ofChange rectMovesSpec)

/-- ITS FALSE NEIGHBOUR: 'it returns false'. Refute it at one input. -/
def rectMovesWrong : ChangeSpec := { name := "rectMoves", fn := fun _ => fun
  | [d1, d2] => { results := [.lit (.bool false)], args := [d1, d2] }
  | _ => none }
def RectMovesWrongFalsely : Prop := rectMovesRow.holds Try.pinned (OpenSpec.ofChange rectMovesWrong)

/-- 'clapboardlaw06.RectPixels': WHATEVER THE INPUT: true; the input reads as it did. -/
def rectPixelsSpec : ChangeSpec := { name := "rectPixels", fn := fun _ => fun
  | [d1, d2, d3] => { results := [.lit (.bool true)], args := [d1, d2, d3] }
  | _ => none }
def rectPixelsRow : OpenClaim := { program := "ytlkpegfbnmecpaa", sum := "eca84b91ba7c67abb7f12440d2f795d67a074328f336f194cd2912b794e11c3f", func := "clapboard/clapboardlaw06.RectPixels", spec := "rectPixels", apart := false }
def RectPixelsSaid : Prop := rectPixelsRow.holds Try.pinned (OpenSpec.ofChange rectPixelsSpec)

/-- ITS FALSE NEIGHBOUR: 'it returns false'. Refute it at one input. -/
def rectPixelsWrong : ChangeSpec := { name := "rectPixels", fn := fun _ => fun
  | [d1, d2, d3] => { results := [.lit (.bool false)], args := [d1, d2, d3] }
  | _ => none }
def RectPixelsWrongFalsely : Prop := rectPixelsRow.holds Try.pinned (OpenSpec.ofChange rectPixelsWrong)

/- THE SECOND FORM. 'bulk': how many values and letters a reading holds, each counted each time it is reached (what is shared counts as often as it is met; a slice's spare places count too). A statement '..UptoSaid' is the law's where the arguments, and the package variables that the reading takes, are together of bulk at most 1048576: NARROWER than '..Said'. Prove '..Said' where nothing that the law and all that it calls make is longer than what came in: it says more and counts as full. Else prove '..UptoSaid'. A law counts once. -/
mutual
def uptoBulk {H : Type} : DataW H → Nat
  | .lit (.string bytes) => bytes.length + 1
  | .lit _ => 1
  | .nil => 1
  | .ptr d => uptoBulk d + 1
  | .slice elems spare => uptoBulkAll elems + uptoBulkAll spare + 1
  | .agg parts => uptoBulkAll parts + 1
  | .iface _ d => uptoBulk d + 1
  | .map entries => uptoBulkEntries entries + 1
  | .held _ => 1
def uptoBulkAll {H : Type} : List (DataW H) → Nat
  | [] => 0
  | d :: r => uptoBulk d + uptoBulkAll r
def uptoBulkEntries {H : Type} : List (Lit × DataW H) → Nat
  | [] => 0
  | x :: r => uptoBulkEntry x + uptoBulkEntries r
def uptoBulkEntry {H : Type} : Lit × DataW H → Nat
  | (.string bytes, d) => bytes.length + uptoBulk d + 1
  | (_, d) => uptoBulk d + 1
 end
def uptoSmall : (H : Type) → List (DataW H) → Bool := fun _ ds => decide (uptoBulkAll ds ≤ 1048576)
def OpenSpec.upto (s : _root_.Go.ChangeSpec) : _root_.Go.OpenSpec := { _root_.Go.OpenSpec.ofChange s with cond := some uptoSmall }

/-- 'clapboardlaw05.ShareSplits', WHERE WHAT IT READS IS OF BULK AT MOST 1048576: true; the input reads as it did. -/
def shareSplitsUptoRow : OpenClaim := { program := "ytlkpegfbnmecpaa", sum := "eca84b91ba7c67abb7f12440d2f795d67a074328f336f194cd2912b794e11c3f", func := "clapboard/clapboardlaw05.ShareSplits", spec := "shareSplits", inPlace := ["math/bits.Sub64", "math/bits.Add64"], unfollowed := true, recurses := true, named := ["math/bits.divideError", "math/bits.overflowError"], apart := false, narrowed := true }
def ShareSplitsUptoSaid : Prop := shareSplitsUptoRow.holds Try.pinned (OpenSpec.upto shareSplitsSpec)

/-- 'clapboardlaw05.ShareCounts', WHERE WHAT IT READS IS OF BULK AT MOST 1048576: true; the input reads as it did. -/
def shareCountsUptoRow : OpenClaim := { program := "ytlkpegfbnmecpaa", sum := "eca84b91ba7c67abb7f12440d2f795d67a074328f336f194cd2912b794e11c3f", func := "clapboard/clapboardlaw05.ShareCounts", spec := "shareCounts", inPlace := ["math/bits.Sub64", "math/bits.Add64"], unfollowed := true, recurses := true, named := ["math/bits.divideError", "math/bits.overflowError"], apart := false, narrowed := true }
def ShareCountsUptoSaid : Prop := shareCountsUptoRow.holds Try.pinned (OpenSpec.upto shareCountsSpec)

/-- 'clapboardlaw05.ShareFair', WHERE WHAT IT READS IS OF BULK AT MOST 1048576: true; the input reads as it did. -/
def shareFairUptoRow : OpenClaim := { program := "ytlkpegfbnmecpaa", sum := "eca84b91ba7c67abb7f12440d2f795d67a074328f336f194cd2912b794e11c3f", func := "clapboard/clapboardlaw05.ShareFair", spec := "shareFair", inPlace := ["math/bits.Sub64", "math/bits.Add64"], unfollowed := true, recurses := true, named := ["math/bits.divideError", "math/bits.overflowError"], apart := false, narrowed := true }
def ShareFairUptoSaid : Prop := shareFairUptoRow.holds Try.pinned (OpenSpec.upto shareFairSpec)

/-- 'clapboardlaw05.ShareMerged', WHERE WHAT IT READS IS OF BULK AT MOST 1048576: true; the input reads as it did. -/
def shareMergedUptoRow : OpenClaim := { program := "ytlkpegfbnmecpaa", sum := "eca84b91ba7c67abb7f12440d2f795d67a074328f336f194cd2912b794e11c3f", func := "clapboard/clapboardlaw05.ShareMerged", spec := "shareMerged", inPlace := ["math/bits.Sub64", "math/bits.Add64"], unfollowed := true, recurses := true, named := ["math/bits.divideError", "math/bits.overflowError"], apart := false, narrowed := true }
def ShareMergedUptoSaid : Prop := shareMergedUptoRow.holds Try.pinned (OpenSpec.upto shareMergedSpec)

/-- 'clapboardlaw06.RectRights', WHERE WHAT IT READS IS OF BULK AT MOST 1048576: true; the input reads as it did. -/
def rectRightsUptoRow : OpenClaim := { program := "ytlkpegfbnmecpaa", sum := "eca84b91ba7c67abb7f12440d2f795d67a074328f336f194cd2912b794e11c3f", func := "clapboard/clapboardlaw06.RectRights", spec := "rectRights", apart := false, narrowed := true }
def RectRightsUptoSaid : Prop := rectRightsUptoRow.holds Try.pinned (OpenSpec.upto rectRightsSpec)

/-- 'clapboardlaw06.RectMoves', WHERE WHAT IT READS IS OF BULK AT MOST 1048576: true; the input reads as it did. -/
def rectMovesUptoRow : OpenClaim := { program := "ytlkpegfbnmecpaa", sum := "eca84b91ba7c67abb7f12440d2f795d67a074328f336f194cd2912b794e11c3f", func := "clapboard/clapboardlaw06.RectMoves", spec := "rectMoves", apart := false, narrowed := true }
def RectMovesUptoSaid : Prop := rectMovesUptoRow.holds Try.pinned (OpenSpec.upto rectMovesSpec)

/-- 'clapboardlaw06.RectPixels', WHERE WHAT IT READS IS OF BULK AT MOST 1048576: true; the input reads as it did. -/
def rectPixelsUptoRow : OpenClaim := { program := "ytlkpegfbnmecpaa", sum := "eca84b91ba7c67abb7f12440d2f795d67a074328f336f194cd2912b794e11c3f", func := "clapboard/clapboardlaw06.RectPixels", spec := "rectPixels", apart := false, narrowed := true }
def RectPixelsUptoSaid : Prop := rectPixelsUptoRow.holds Try.pinned (OpenSpec.upto rectPixelsSpec)

end Rows
end Go.Proofs.Ytlkpegfbnmecpaa
