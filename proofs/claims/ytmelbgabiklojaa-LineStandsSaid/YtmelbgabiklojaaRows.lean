/-
  No cell of these rows narrows 'for every input' (looked for: loops, veiled, ifaces, maps, wideKeys, modest, calm, conditions, laid).
  DERIVED. THE GIVEN ROWS OF THIS SEAT. 7 by the template 'for every input the law returns true; each argument reads behind the call as it read before'; 0 by the template 'total and deterministic' (their statements: YtmelbgabiklojaaTotals.lean).
  GIVEN WITH THE SEED: the statements are not yours to turn. If you find one false, say at which input.
  Laid BY PROGRAM, IN A SANDBOX (cutbox-rows.mjs): the forced cells as the released guide's own fill.sh prints them over the translation db584681d0cccd3d… (all of the seat's roots in one cut). By AI agents, Wed Nov 11 2026. No macro, syntax, notation, axiom, sorry.
-/
import Derived.Test.YtmelbgabiklojaaChecked
import GoSem.Claim
import GoSem.ClaimJoined
import GoSem.ClaimMapViews
import Derived.JoinedTies
import Derived.KernelRfl
namespace Go.Proofs.Ytmelbgabiklojaa
/- THE CELL 'sum', in the pinned program and in every row, IS THE sha256 OF THE DUMP (.gsa) THAT YtmelbgabiklojaaProg.lean LOADS. Nothing in Lean hashes anything: it is a label: what it is worth is what the hold of that sum in a sandbox is worth. -/
noncomputable def Try.pinned : Pinned := { name := "ytmelbgabiklojaa", sum := "db584681d0cccd3d73869c2d16eaa9c56e708ba2ee1e7d6892a3fbbe773e4fc8", checked := Try.checked }
namespace Rows
def none {H : Type} : Left H := { results := [], args := [] }

/-- 'clapboardlaw13.LineGreedy': WHATEVER THE INPUT: true; the input reads as it did. -/
def lineGreedySpec : ChangeSpec := { name := "lineGreedy", fn := fun _ => fun
  | [d1, d2] => { results := [.lit (.bool true)], args := [d1, d2] }
  | _ => none }
def lineGreedyRow : OpenClaim := { program := "ytmelbgabiklojaa", sum := "db584681d0cccd3d73869c2d16eaa9c56e708ba2ee1e7d6892a3fbbe773e4fc8", func := "clapboard/clapboardlaw13.LineGreedy", spec := "lineGreedy", inPlace := ["math/bits.Sub64", "math/bits.Add64"], unfollowed := true, recurses := true, named := ["math/bits.divideError", "math/bits.overflowError"], apart := false }
def LineGreedySaid : Prop := lineGreedyRow.holds Try.pinned (OpenSpec.ofChange lineGreedySpec)

/-- ITS FALSE NEIGHBOUR: 'it returns false'. Refute it at one input. -/
def lineGreedyWrong : ChangeSpec := { name := "lineGreedy", fn := fun _ => fun
  | [d1, d2] => { results := [.lit (.bool false)], args := [d1, d2] }
  | _ => none }
def LineGreedyWrongFalsely : Prop := lineGreedyRow.holds Try.pinned (OpenSpec.ofChange lineGreedyWrong)

/-- 'clapboardlaw13.LineStands': WHATEVER THE INPUT: true; the input reads as it did. -/
def lineStandsSpec : ChangeSpec := { name := "lineStands", fn := fun _ => fun
  | [d1, d2, d3] => { results := [.lit (.bool true)], args := [d1, d2, d3] }
  | _ => none }
def lineStandsRow : OpenClaim := { program := "ytmelbgabiklojaa", sum := "db584681d0cccd3d73869c2d16eaa9c56e708ba2ee1e7d6892a3fbbe773e4fc8", func := "clapboard/clapboardlaw13.LineStands", spec := "lineStands", inPlace := ["math/bits.Sub64", "math/bits.Add64"], unfollowed := true, recurses := true, named := ["math/bits.divideError", "math/bits.overflowError"], apart := false }
def LineStandsSaid : Prop := lineStandsRow.holds Try.pinned (OpenSpec.ofChange lineStandsSpec)

/-- ITS FALSE NEIGHBOUR: 'it returns false'. Refute it at one input. -/
def lineStandsWrong : ChangeSpec := { name := "lineStands", fn := fun _ => fun
  | [d1, d2, d3] => { results := [.lit (.bool false)], args := [d1, d2, d3] }
  | _ => none }
def LineStandsWrongFalsely : Prop := lineStandsRow.holds Try.pinned (OpenSpec.ofChange lineStandsWrong)

/-- 'clapboardlaw15.WidthSolves': WHATEVER THE INPUT: true; the input reads as it did. -/
def widthSolvesSpec : ChangeSpec := { name := "widthSolves", fn := fun _ => fun
  | [d] => { results := [.lit (.bool true)], args := [d] }
  | _ => none }
def widthSolvesRow : OpenClaim := { program := "ytmelbgabiklojaa", sum := "db584681d0cccd3d73869c2d16eaa9c56e708ba2ee1e7d6892a3fbbe773e4fc8", func := "clapboard/clapboardlaw15.WidthSolves", spec := "widthSolves", inPlace := ["math/bits.Sub64", "math/bits.Add64"], unfollowed := true, recurses := true, apart := false }
def WidthSolvesSaid : Prop := widthSolvesRow.holds Try.pinned (OpenSpec.ofChange widthSolvesSpec)

/-- ITS FALSE NEIGHBOUR: 'it returns false'. Refute it at one input. -/
def widthSolvesWrong : ChangeSpec := { name := "widthSolves", fn := fun _ => fun
  | [d] => { results := [.lit (.bool false)], args := [d] }
  | _ => none }
def WidthSolvesWrongFalsely : Prop := widthSolvesRow.holds Try.pinned (OpenSpec.ofChange widthSolvesWrong)

/-- 'clapboardlaw15.WidthEquation': WHATEVER THE INPUT: true; the input reads as it did. -/
def widthEquationSpec : ChangeSpec := { name := "widthEquation", fn := fun _ => fun
  | [d] => { results := [.lit (.bool true)], args := [d] }
  | _ => none }
def widthEquationRow : OpenClaim := { program := "ytmelbgabiklojaa", sum := "db584681d0cccd3d73869c2d16eaa9c56e708ba2ee1e7d6892a3fbbe773e4fc8", func := "clapboard/clapboardlaw15.WidthEquation", spec := "widthEquation", inPlace := ["math/bits.Sub64", "math/bits.Add64"], unfollowed := true, recurses := true, apart := false }
def WidthEquationSaid : Prop := widthEquationRow.holds Try.pinned (OpenSpec.ofChange widthEquationSpec)

/-- ITS FALSE NEIGHBOUR: 'it returns false'. Refute it at one input. -/
def widthEquationWrong : ChangeSpec := { name := "widthEquation", fn := fun _ => fun
  | [d] => { results := [.lit (.bool false)], args := [d] }
  | _ => none }
def WidthEquationWrongFalsely : Prop := widthEquationRow.holds Try.pinned (OpenSpec.ofChange widthEquationWrong)

/-- 'clapboardlaw15.WidthRefuses': WHATEVER THE INPUT: true; the input reads as it did. -/
def widthRefusesSpec : ChangeSpec := { name := "widthRefuses", fn := fun _ => fun
  | [d] => { results := [.lit (.bool true)], args := [d] }
  | _ => none }
def widthRefusesRow : OpenClaim := { program := "ytmelbgabiklojaa", sum := "db584681d0cccd3d73869c2d16eaa9c56e708ba2ee1e7d6892a3fbbe773e4fc8", func := "clapboard/clapboardlaw15.WidthRefuses", spec := "widthRefuses", inPlace := ["math/bits.Sub64", "math/bits.Add64"], unfollowed := true, recurses := true, apart := false }
def WidthRefusesSaid : Prop := widthRefusesRow.holds Try.pinned (OpenSpec.ofChange widthRefusesSpec)

/-- ITS FALSE NEIGHBOUR: 'it returns false'. Refute it at one input. -/
def widthRefusesWrong : ChangeSpec := { name := "widthRefuses", fn := fun _ => fun
  | [d] => { results := [.lit (.bool false)], args := [d] }
  | _ => none }
def WidthRefusesWrongFalsely : Prop := widthRefusesRow.holds Try.pinned (OpenSpec.ofChange widthRefusesWrong)

/-- 'clapboardlaw16.MarginSums': WHATEVER THE INPUT: true; the input reads as it did. -/
def marginSumsSpec : ChangeSpec := { name := "marginSums", fn := fun _ => fun
  | [d1, d2] => { results := [.lit (.bool true)], args := [d1, d2] }
  | _ => none }
def marginSumsRow : OpenClaim := { program := "ytmelbgabiklojaa", sum := "db584681d0cccd3d73869c2d16eaa9c56e708ba2ee1e7d6892a3fbbe773e4fc8", func := "clapboard/clapboardlaw16.MarginSums", spec := "marginSums", unfollowed := true, recurses := true, apart := false }
def MarginSumsSaid : Prop := marginSumsRow.holds Try.pinned (OpenSpec.ofChange marginSumsSpec)

/-- ITS FALSE NEIGHBOUR: 'it returns false'. Refute it at one input. -/
def marginSumsWrong : ChangeSpec := { name := "marginSums", fn := fun _ => fun
  | [d1, d2] => { results := [.lit (.bool false)], args := [d1, d2] }
  | _ => none }
def MarginSumsWrongFalsely : Prop := marginSumsRow.holds Try.pinned (OpenSpec.ofChange marginSumsWrong)

/-- 'clapboardlaw16.MarginOrder': WHATEVER THE INPUT: true; the input reads as it did. -/
def marginOrderSpec : ChangeSpec := { name := "marginOrder", fn := fun _ => fun
  | [d1, d2, d3] => { results := [.lit (.bool true)], args := [d1, d2, d3] }
  | _ => none }
def marginOrderRow : OpenClaim := { program := "ytmelbgabiklojaa", sum := "db584681d0cccd3d73869c2d16eaa9c56e708ba2ee1e7d6892a3fbbe773e4fc8", func := "clapboard/clapboardlaw16.MarginOrder", spec := "marginOrder", unfollowed := true, recurses := true, apart := false }
def MarginOrderSaid : Prop := marginOrderRow.holds Try.pinned (OpenSpec.ofChange marginOrderSpec)

/-- ITS FALSE NEIGHBOUR: 'it returns false'. Refute it at one input. -/
def marginOrderWrong : ChangeSpec := { name := "marginOrder", fn := fun _ => fun
  | [d1, d2, d3] => { results := [.lit (.bool false)], args := [d1, d2, d3] }
  | _ => none }
def MarginOrderWrongFalsely : Prop := marginOrderRow.holds Try.pinned (OpenSpec.ofChange marginOrderWrong)

/- THE SECOND FORM. 'bulk': how many values and letters a reading holds, each counted each time it is reached (what is shared counts as often as it is met; a slice's spare places count too). A statement '..UptoSaid' is the law's where the arguments, and the package variables that the reading takes, are together of bulk at most 1048576: NARROWER than '..Said'. Prove '..Said' where nothing that the law and all that it calls make is longer than what came in: it says more and counts as full. Else prove '..UptoSaid'. A law counts once. -/
mutual
def uptoBulk {H : Type} : DataW H → Nat
  | .lit (.string bytes) => bytes.length + 1
  | .lit _ => 1
  | .nil => 1
  | .ptr d => uptoBulk d + 1
  | .slice elems spare => uptoBulkAll elems + uptoBulkAll spare + 1
  | .agg parts => uptoBulkAll parts + 1
  | .iface _ d => uptoBulk d + 1
  | .map entries => uptoBulkEntries entries + 1
  | .held _ => 1
def uptoBulkAll {H : Type} : List (DataW H) → Nat
  | [] => 0
  | d :: r => uptoBulk d + uptoBulkAll r
def uptoBulkEntries {H : Type} : List (Lit × DataW H) → Nat
  | [] => 0
  | x :: r => uptoBulkEntry x + uptoBulkEntries r
def uptoBulkEntry {H : Type} : Lit × DataW H → Nat
  | (.string bytes, d) => bytes.length + uptoBulk d + 1
  | (_, d) => uptoBulk d + 1
 end
def uptoSmall : (H : Type) → List (DataW H) → Bool := fun _ ds => decide (uptoBulkAll ds ≤ 1048576)
def OpenSpec.upto (s : _root_.Go.ChangeSpec) : _root_.Go.OpenSpec := { _root_.Go.OpenSpec.ofChange s with cond := some uptoSmall }

/-- 'clapboardlaw13.LineGreedy', WHERE WHAT IT READS IS OF BULK AT MOST 1048576: true; the input reads as it did. -/
def lineGreedyUptoRow : OpenClaim := { program := "ytmelbgabiklojaa", sum := "db584681d0cccd3d73869c2d16eaa9c56e708ba2ee1e7d6892a3fbbe773e4fc8", func := "clapboard/clapboardlaw13.LineGreedy", spec := "lineGreedy", inPlace := ["math/bits.Sub64", "math/bits.Add64"], unfollowed := true, recurses := true, named := ["math/bits.divideError", "math/bits.overflowError"], apart := false, narrowed := true }
def LineGreedyUptoSaid : Prop := lineGreedyUptoRow.holds Try.pinned (OpenSpec.upto lineGreedySpec)

/-- 'clapboardlaw13.LineStands', WHERE WHAT IT READS IS OF BULK AT MOST 1048576: true; the input reads as it did. -/
def lineStandsUptoRow : OpenClaim := { program := "ytmelbgabiklojaa", sum := "db584681d0cccd3d73869c2d16eaa9c56e708ba2ee1e7d6892a3fbbe773e4fc8", func := "clapboard/clapboardlaw13.LineStands", spec := "lineStands", inPlace := ["math/bits.Sub64", "math/bits.Add64"], unfollowed := true, recurses := true, named := ["math/bits.divideError", "math/bits.overflowError"], apart := false, narrowed := true }
def LineStandsUptoSaid : Prop := lineStandsUptoRow.holds Try.pinned (OpenSpec.upto lineStandsSpec)

/-- 'clapboardlaw15.WidthSolves', WHERE WHAT IT READS IS OF BULK AT MOST 1048576: true; the input reads as it did. -/
def widthSolvesUptoRow : OpenClaim := { program := "ytmelbgabiklojaa", sum := "db584681d0cccd3d73869c2d16eaa9c56e708ba2ee1e7d6892a3fbbe773e4fc8", func := "clapboard/clapboardlaw15.WidthSolves", spec := "widthSolves", inPlace := ["math/bits.Sub64", "math/bits.Add64"], unfollowed := true, recurses := true, apart := false, narrowed := true }
def WidthSolvesUptoSaid : Prop := widthSolvesUptoRow.holds Try.pinned (OpenSpec.upto widthSolvesSpec)

/-- 'clapboardlaw15.WidthEquation', WHERE WHAT IT READS IS OF BULK AT MOST 1048576: true; the input reads as it did. -/
def widthEquationUptoRow : OpenClaim := { program := "ytmelbgabiklojaa", sum := "db584681d0cccd3d73869c2d16eaa9c56e708ba2ee1e7d6892a3fbbe773e4fc8", func := "clapboard/clapboardlaw15.WidthEquation", spec := "widthEquation", inPlace := ["math/bits.Sub64", "math/bits.Add64"], unfollowed := true, recurses := true, apart := false, narrowed := true }
def WidthEquationUptoSaid : Prop := widthEquationUptoRow.holds Try.pinned (OpenSpec.upto widthEquationSpec)

/-- 'clapboardlaw15.WidthRefuses', WHERE WHAT IT READS IS OF BULK AT MOST 1048576: true; the input reads as it did. -/
def widthRefusesUptoRow : OpenClaim := { program := "ytmelbgabiklojaa", sum := "db584681d0cccd3d73869c2d16eaa9c56e708ba2ee1e7d6892a3fbbe773e4fc8", func := "clapboard/clapboardlaw15.WidthRefuses", spec := "widthRefuses", inPlace := ["math/bits.Sub64", "math/bits.Add64"], unfollowed := true, recurses := true, apart := false, narrowed := true }
def WidthRefusesUptoSaid : Prop := widthRefusesUptoRow.holds Try.pinned (OpenSpec.upto widthRefusesSpec)

/-- 'clapboardlaw16.MarginSums', WHERE WHAT IT READS IS OF BULK AT MOST 1048576: true; the input reads as it did. -/
def marginSumsUptoRow : OpenClaim := { program := "ytmelbgabiklojaa", sum := "db584681d0cccd3d73869c2d16eaa9c56e708ba2ee1e7d6892a3fbbe773e4fc8", func := "clapboard/clapboardlaw16.MarginSums", spec := "marginSums", unfollowed := true, recurses := true, apart := false, narrowed := true }
def MarginSumsUptoSaid : Prop := marginSumsUptoRow.holds Try.pinned (OpenSpec.upto marginSumsSpec)

/-- 'clapboardlaw16.MarginOrder', WHERE WHAT IT READS IS OF BULK AT MOST 1048576: true; the input reads as it did. -/
def marginOrderUptoRow : OpenClaim := { program := "ytmelbgabiklojaa", sum := "db584681d0cccd3d73869c2d16eaa9c56e708ba2ee1e7d6892a3fbbe773e4fc8", func := "clapboard/clapboardlaw16.MarginOrder", spec := "marginOrder", unfollowed := true, recurses := true, apart := false, narrowed := true }
def MarginOrderUptoSaid : Prop := marginOrderUptoRow.holds Try.pinned (OpenSpec.upto marginOrderSpec)

end Rows
end Go.Proofs.Ytmelbgabiklojaa
