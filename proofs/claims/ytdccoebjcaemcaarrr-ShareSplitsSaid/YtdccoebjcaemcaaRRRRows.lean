/-
  No cell of these rows narrows 'for every input' (looked for: loops, veiled, ifaces, maps, wideKeys, modest, calm, conditions, laid).
  DERIVED. THE GIVEN ROWS OF THIS SEAT. 4 by the template 'for every input the law returns true; each argument reads behind the call as it read before'; 0 by the template 'total and deterministic' (their statements: YtdccoebjcaemcaaRRRTotals.lean).
  GIVEN WITH THE SEED: the statements are not yours to turn. If you find one false, say at which input.
  Laid BY PROGRAM, IN A SANDBOX (cutbox-rows.mjs): the forced cells as the released guide's own fill.sh prints them over the translation 2ab16030f4a8279b… (all of the seat's roots in one cut). By AI agents, Wed Nov 11 2026. No macro, syntax, notation, axiom, sorry.
-/
import Derived.Test.YtdccoebjcaemcaaRRRChecked
import GoSem.Claim
import GoSem.ClaimJoined
import GoSem.ClaimMapViews
import Derived.JoinedTies
import Derived.KernelRfl
namespace Go.Proofs.YtdccoebjcaemcaaRRR
/- THE CELL 'sum', in the pinned program and in every row, IS THE sha256 OF THE DUMP (.gsa) THAT YtdccoebjcaemcaaRRRProg.lean LOADS. Nothing in Lean hashes anything: it is a label: what it is worth is what the hold of that sum in a sandbox is worth. -/
noncomputable def Try.pinned : Pinned := { name := "ytdccoebjcaemcaarrr", sum := "2ab16030f4a8279b4b491c57c414f3562ba311dd293adee007029b8d43443d9c", checked := Try.checked }
namespace Rows
def none {H : Type} : Left H := { results := [], args := [] }

/-- 'clapboardlaw05.ShareSplits': WHATEVER THE INPUT: true; the input reads as it did. -/
def shareSplitsSpec : ChangeSpec := { name := "shareSplits", fn := fun _ => fun
  | [d1, d2] => { results := [.lit (.bool true)], args := [d1, d2] }
  | _ => none }
def shareSplitsRow : OpenClaim := { program := "ytdccoebjcaemcaarrr", sum := "2ab16030f4a8279b4b491c57c414f3562ba311dd293adee007029b8d43443d9c", func := "clapboard/clapboardlaw05.ShareSplits", spec := "shareSplits", inPlace := ["math/bits.Sub64", "math/bits.Add64"], unfollowed := true, recurses := true, named := ["math/bits.divideError", "math/bits.overflowError"], apart := false }
def ShareSplitsSaid : Prop := shareSplitsRow.holds Try.pinned (OpenSpec.ofChange shareSplitsSpec)

/-- ITS FALSE NEIGHBOUR: 'it returns false'. Refute it at one input. -/
def shareSplitsWrong : ChangeSpec := { name := "shareSplits", fn := fun _ => fun
  | [d1, d2] => { results := [.lit (.bool false)], args := [d1, d2] }
  | _ => none }
def ShareSplitsWrongFalsely : Prop := shareSplitsRow.holds Try.pinned (OpenSpec.ofChange shareSplitsWrong)

/-- 'clapboardlaw07.RegionPlays': WHATEVER THE INPUT: true; the input reads as it did. -/
def regionPlaysSpec : ChangeSpec := { name := "regionPlays", fn := fun _ => fun
  | [d] => { results := [.lit (.bool true)], args := [d] }
  | _ => none }
def regionPlaysRow : OpenClaim := { program := "ytdccoebjcaemcaarrr", sum := "2ab16030f4a8279b4b491c57c414f3562ba311dd293adee007029b8d43443d9c", func := "clapboard/clapboardlaw07.RegionPlays", spec := "regionPlays", unfollowed := true, recurses := true, apart := false }
def RegionPlaysSaid : Prop := regionPlaysRow.holds Try.pinned (OpenSpec.ofChange regionPlaysSpec)

/-- ITS FALSE NEIGHBOUR: 'it returns false'. Refute it at one input. -/
def regionPlaysWrong : ChangeSpec := { name := "regionPlays", fn := fun _ => fun
  | [d] => { results := [.lit (.bool false)], args := [d] }
  | _ => none }
def RegionPlaysWrongFalsely : Prop := regionPlaysRow.holds Try.pinned (OpenSpec.ofChange regionPlaysWrong)

/-- 'clapboardlaw07.RegionFar': WHATEVER THE INPUT: true; the input reads as it did. -/
def regionFarSpec : ChangeSpec := { name := "regionFar", fn := fun _ => fun
  | [d1, d2, d3] => { results := [.lit (.bool true)], args := [d1, d2, d3] }
  | _ => none }
def regionFarRow : OpenClaim := { program := "ytdccoebjcaemcaarrr", sum := "2ab16030f4a8279b4b491c57c414f3562ba311dd293adee007029b8d43443d9c", func := "clapboard/clapboardlaw07.RegionFar", spec := "regionFar", unfollowed := true, recurses := true, apart := false }
def RegionFarSaid : Prop := regionFarRow.holds Try.pinned (OpenSpec.ofChange regionFarSpec)

/-- ITS FALSE NEIGHBOUR: 'it returns false'. Refute it at one input. -/
def regionFarWrong : ChangeSpec := { name := "regionFar", fn := fun _ => fun
  | [d1, d2, d3] => { results := [.lit (.bool false)], args := [d1, d2, d3] }
  | _ => none }
def RegionFarWrongFalsely : Prop := regionFarRow.holds Try.pinned (OpenSpec.ofChange regionFarWrong)

/-- 'clapboardlaw08.DamageHolds': WHATEVER THE INPUT: true; the input reads as it did. -/
def damageHoldsSpec : ChangeSpec := { name := "damageHolds", fn := fun _ => fun
  | [d1, d2] => { results := [.lit (.bool true)], args := [d1, d2] }
  | _ => none }
def damageHoldsRow : OpenClaim := { program := "ytdccoebjcaemcaarrr", sum := "2ab16030f4a8279b4b491c57c414f3562ba311dd293adee007029b8d43443d9c", func := "clapboard/clapboardlaw08.DamageHolds", spec := "damageHolds", unfollowed := true, recurses := true, apart := false }
def DamageHoldsSaid : Prop := damageHoldsRow.holds Try.pinned (OpenSpec.ofChange damageHoldsSpec)

/-- ITS FALSE NEIGHBOUR: 'it returns false'. Refute it at one input. -/
def damageHoldsWrong : ChangeSpec := { name := "damageHolds", fn := fun _ => fun
  | [d1, d2] => { results := [.lit (.bool false)], args := [d1, d2] }
  | _ => none }
def DamageHoldsWrongFalsely : Prop := damageHoldsRow.holds Try.pinned (OpenSpec.ofChange damageHoldsWrong)

/- THE SECOND FORM. 'bulk': how many values and letters a reading holds, each counted each time it is reached (what is shared counts as often as it is met; a slice's spare places count too). A statement '..UptoSaid' is the law's where the arguments, and the package variables that the reading takes, are together of bulk at most 1048576: NARROWER than '..Said'. Prove '..Said' where nothing that the law and all that it calls make is longer than what came in: it says more and counts as full. Else prove '..UptoSaid'. A law counts once. -/
mutual
def uptoBulk {H : Type} : DataW H → Nat
  | .lit (.string bytes) => bytes.length + 1
  | .lit _ => 1
  | .nil => 1
  | .ptr d => uptoBulk d + 1
  | .slice elems spare => uptoBulkAll elems + uptoBulkAll spare + 1
  | .agg parts => uptoBulkAll parts + 1
  | .iface _ d => uptoBulk d + 1
  | .map entries => uptoBulkEntries entries + 1
  | .held _ => 1
def uptoBulkAll {H : Type} : List (DataW H) → Nat
  | [] => 0
  | d :: r => uptoBulk d + uptoBulkAll r
def uptoBulkEntries {H : Type} : List (Lit × DataW H) → Nat
  | [] => 0
  | x :: r => uptoBulkEntry x + uptoBulkEntries r
def uptoBulkEntry {H : Type} : Lit × DataW H → Nat
  | (.string bytes, d) => bytes.length + uptoBulk d + 1
  | (_, d) => uptoBulk d + 1
 end
def uptoSmall : (H : Type) → List (DataW H) → Bool := fun _ ds => decide (uptoBulkAll ds ≤ 1048576)
def OpenSpec.upto (s : _root_.Go.ChangeSpec) : _root_.Go.OpenSpec := { _root_.Go.OpenSpec.ofChange s with cond := some uptoSmall }

/-- 'clapboardlaw05.ShareSplits', WHERE WHAT IT READS IS OF BULK AT MOST 1048576: true; the input reads as it did. -/
def shareSplitsUptoRow : OpenClaim := { program := "ytdccoebjcaemcaarrr", sum := "2ab16030f4a8279b4b491c57c414f3562ba311dd293adee007029b8d43443d9c", func := "clapboard/clapboardlaw05.ShareSplits", spec := "shareSplits", inPlace := ["math/bits.Sub64", "math/bits.Add64"], unfollowed := true, recurses := true, named := ["math/bits.divideError", "math/bits.overflowError"], apart := false, narrowed := true }
def ShareSplitsUptoSaid : Prop := shareSplitsUptoRow.holds Try.pinned (OpenSpec.upto shareSplitsSpec)

/-- 'clapboardlaw07.RegionPlays', WHERE WHAT IT READS IS OF BULK AT MOST 1048576: true; the input reads as it did. -/
def regionPlaysUptoRow : OpenClaim := { program := "ytdccoebjcaemcaarrr", sum := "2ab16030f4a8279b4b491c57c414f3562ba311dd293adee007029b8d43443d9c", func := "clapboard/clapboardlaw07.RegionPlays", spec := "regionPlays", unfollowed := true, recurses := true, apart := false, narrowed := true }
def RegionPlaysUptoSaid : Prop := regionPlaysUptoRow.holds Try.pinned (OpenSpec.upto regionPlaysSpec)

/-- 'clapboardlaw07.RegionFar', WHERE WHAT IT READS IS OF BULK AT MOST 1048576: true; the input reads as it did. -/
def regionFarUptoRow : OpenClaim := { program := "ytdccoebjcaemcaarrr", sum := "2ab16030f4a8279b4b491c57c414f3562ba311dd293adee007029b8d43443d9c", func := "clapboard/clapboardlaw07.RegionFar", spec := "regionFar", unfollowed := true, recurses := true, apart := false, narrowed := true }
def RegionFarUptoSaid : Prop := regionFarUptoRow.holds Try.pinned (OpenSpec.upto regionFarSpec)

/-- 'clapboardlaw08.DamageHolds', WHERE WHAT IT READS IS OF BULK AT MOST 1048576: true; the input reads as it did. -/
def damageHoldsUptoRow : OpenClaim := { program := "ytdccoebjcaemcaarrr", sum := "2ab16030f4a8279b4b491c57c414f3562ba311dd293adee007029b8d43443d9c", func := "clapboard/clapboardlaw08.DamageHolds", spec := "damageHolds", unfollowed := true, recurses := true, apart := false, narrowed := true }
def DamageHoldsUptoSaid : Prop := damageHoldsUptoRow.holds Try.pinned (OpenSpec.upto damageHoldsSpec)

end Rows
end Go.Proofs.YtdccoebjcaemcaaRRR
