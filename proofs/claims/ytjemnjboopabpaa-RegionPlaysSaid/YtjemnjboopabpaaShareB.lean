/- Package share: the parts of a total. -/
import Derived.Test.YtjemnjboopabpaaShare
import Derived.WalkKit
import Derived.WalkSpells
import Derived.WalkLawsBesides
import Derived.Handy
import Derived.Lib.Hide
import Derived.Deep.QuietTactic
import Derived.BigQuiet
import Derived.LoopTactic
import Derived.Defers
import Derived.Recover
import Derived.Outline
namespace Go.Proofs.Ytjemnjboopabpaa
open Go.RowKit Go.Proofs.Reg
set_option linter.unusedVariables false
set_option linter.unusedSimpArgs false
set_option maxRecDepth 100000
/-- a bound: the total times the first weights, by all, rounded down -/
def bnd (T : Int) (xs : List Int) (i : Nat) : Int := T * (xs.take i).sum / xs.sum
/-- a part -/
def part5 (T : Int) (xs : List Int) (i : Nat) : Int := if xs.sum = 0 then 0 else bnd T xs (i + 1) - bnd T xs i
/-- the parts -/
def parts5 (T : Int) (xs : List Int) : List Int := (List.range xs.length).map (part5 T xs)
/-- the first k parts, the others not yet -/
def upto5 (T : Int) (xs : List Int) (k : Nat) : List Int := (List.range xs.length).map fun j => if j < k then part5 T xs j else 0
theorem upto_len (T : Int) (xs : List Int) (k : Nat) : (upto5 T xs k).length = xs.length := by simp [upto5]
theorem upto_zero (T : Int) (xs : List Int) : upto5 T xs 0 = List.replicate xs.length 0 := by
  refine List.ext_getElem (by simp [upto5]) fun i h1 h2 => ?_
  simp [upto5]
theorem upto_succ (T : Int) (xs : List Int) (k : Nat) (hk : k < xs.length) : (upto5 T xs k).set k (part5 T xs k) = upto5 T xs (k + 1) := by
  refine List.ext_getElem (by simp [upto5]) fun i h1 h2 => ?_
  rw [List.getElem_set]
  simp only [upto5, List.getElem_map, List.getElem_range]
  by_cases e : k = i
  · subst e; simp
  · rw [if_neg e]
    by_cases l : i < k
    · rw [if_pos l, if_pos (by omega)]
    · rw [if_neg l, if_neg (by omega)]
theorem upto_all (T : Int) (xs : List Int) : upto5 T xs xs.length = parts5 T xs := by
  refine List.ext_getElem (by simp [upto5, parts5]) fun i h1 h2 => ?_
  have : i < xs.length := by simpa [upto5] using h1
  simp [upto5, parts5, this]
theorem bnd_range {T : Int} {xs : List Int} (h : ∀ x ∈ xs, 0 ≤ x) (p : 0 < xs.sum) (t0 : -17592186044416 ≤ T) (t1 : T ≤ 17592186044416) (i : Nat) : -17592186044416 ≤ bnd T xs i ∧ bnd T xs i ≤ 17592186044416 := by
  obtain ⟨a, b⟩ := sum_take_le h i
  unfold bnd
  obtain ⟨s, hs⟩ : ∃ s, (xs.take i).sum = s := ⟨_, rfl⟩
  rw [hs] at a b ⊢
  constructor
  · rw [Int.le_ediv_iff_mul_le p]
    by_cases c : 0 ≤ T
    · have := Int.mul_nonneg c a
      have : -17592186044416 * xs.sum ≤ 0 := by omega
      omega
    · have h1 : T * xs.sum ≤ T * s := Int.mul_le_mul_of_nonpos_left (by omega) b
      have h2 : -17592186044416 * xs.sum ≤ T * xs.sum := Int.mul_le_mul_of_nonneg_right t0 (by omega)
      omega
  · have : T * s / xs.sum < 17592186044417 := by
      rw [Int.ediv_lt_iff_lt_mul p]
      by_cases c : 0 ≤ T
      · have h1 : T * s ≤ T * xs.sum := Int.mul_le_mul_of_nonneg_left b c
        have h2 : T * xs.sum ≤ 17592186044416 * xs.sum := Int.mul_le_mul_of_nonneg_right t1 (by omega)
        omega
      · have := Int.mul_nonneg (show 0 ≤ -T by omega) a
        rw [Int.neg_mul] at this
        omega
    omega
theorem bnd_zero (T : Int) (xs : List Int) : bnd T xs 0 = 0 := by simp [bnd]
theorem info_i64 : (Try.prog.info? 2).map (fun i => (i.zero, i.size, i.bytes)) = some (some (.int .i64 0), 1, 8) := by kernel_rfl
end Go.Proofs.Ytjemnjboopabpaa
