/- Offsets of a line's items, program-free. -/
import Derived.Test.YtmelbgabiklojaaLinQ
import Derived.WalkKit
namespace Go.Proofs.Ytmelbgabiklojaa.Lin
set_option linter.unusedVariables false
set_option linter.unusedSimpArgs false
/-- the offsets from the i-th item of a line on, of which `c` items more follow -/
def offs (l : List I4) (f : Nat) (gs : List Int) : Nat → Nat → Int → Option (List Int)
  | 0, i, at_ => some [at_]
  | c + 1, i, at_ => (adds at_ [(itm l (f + i)).1, (itm l (f + i)).2.1, gs.getD i 0]).bind fun a => (offs l f gs c (i + 1) a).map (at_ :: ·)
theorem offs_none {l : List I4} {f : Nat} {gs : List Int} {c i : Nat} {at_ : Int} (h : adds at_ [(itm l (f + i)).1, (itm l (f + i)).2.1, gs.getD i 0] = none) : offs l f gs (c + 1) i at_ = none := by
  rw [offs, h]; rfl
theorem offs_some {l : List I4} {f : Nat} {gs : List Int} {c i : Nat} {at_ a : Int} (h : adds at_ [(itm l (f + i)).1, (itm l (f + i)).2.1, gs.getD i 0] = some a) : offs l f gs (c + 1) i at_ = (offs l f gs c (i + 1) a).map (at_ :: ·) := by
  rw [offs, h]; rfl
/-- where a line begins -/
def indF (d t : Int) : Int := if t = 2 then d else if t = 3 then d / 2 else 0
theorem indF_rng {d t : Int} (h : -17592186044416 ≤ d ∧ d ≤ 17592186044416) : -17592186044416 ≤ indF d t ∧ indF d t ≤ 17592186044416 := by
  unfold indF
  split
  · exact h
  · split
    · omega
    · omega
end Go.Proofs.Ytmelbgabiklojaa.Lin
