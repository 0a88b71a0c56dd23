/- RealNearest: the distances. -/
import Derived.Test.YtdccoebjcaemcaaRRRDoorNearB
import Derived.Test.YtdccoebjcaemcaaRRRDoorApart
import Derived.Test.YtdccoebjcaemcaaRRRDoorLawReal5
namespace Go.Proofs.YtdccoebjcaemcaaRRRDoor
open Go.RowKit Go.Proofs.Flo Go.Proofs.Reg Go.Proofs.Big
set_option linter.unusedVariables false
set_option linter.unusedSimpArgs false
set_option maxRecDepth 100000
/-- the distance, in units of the least place -/
def dst (x : Nat) (N D : Int) : Nat := (sval x * D - N * U).natAbs
theorem ap_dst (x : Nat) (N D : Int) (hf : rung x < 9218868437227405312) : apX x N D * U = (dst x N D : Int) * fracD x := by
  have fe := frac_eq x hf
  have e : (fracN x * D + -(N * fracD x)) * U = (sval x * D - N * U) * fracD x := by
    have : (fracN x * D + -(N * fracD x)) * (U : Int) = fracN x * U * D - N * U * fracD x := by grind
    rw [this, fe]; grind
  have a : apX x N D = ((fracN x * D + -(N * fracD x)).natAbs : Int) := by unfold apX; split <;> omega
  have n := congrArg Int.natAbs e
  rw [Int.natAbs_mul, Int.natAbs_mul, Int.natAbs_natCast, Int.natAbs_natCast] at n
  rw [a]
  unfold dst
  rw [← Int.natCast_mul, n, Int.natCast_mul]
theorem dst_same (x : Nat) (N D : Int) (d0 : 1 ≤ D) (hs : sgn x = decide (N < 0)) : dst x N D = ((mag (rung x) * D.toNat : Nat) - (N.natAbs * U : Nat) : Int).natAbs := by
  obtain ⟨d, rfl⟩ := Int.eq_ofNat_of_zero_le (show 0 ≤ D by omega)
  unfold dst sval sg
  rw [hs, Int.toNat_natCast]
  by_cases c : N < 0
  · obtain ⟨n, rfl⟩ : ∃ n : Nat, N = -(n : Int) := ⟨N.natAbs, by omega⟩
    rw [decide_eq_true c, if_pos rfl, Int.natAbs_neg, Int.natAbs_natCast, Int.natCast_mul, Int.natCast_mul, Int.neg_mul, Int.neg_mul]
    omega
  · obtain ⟨n, rfl⟩ : ∃ n : Nat, N = (n : Int) := ⟨N.natAbs, by omega⟩
    rw [decide_eq_false c, Int.natAbs_natCast, Int.natCast_mul, Int.natCast_mul]
    simp only [Bool.false_eq_true, if_false]
theorem beside_pure (M M' T : Nat) (h : (M' < M ∧ M' + M ≤ 2 * T) ∨ (M < M' ∧ 2 * T ≤ M + M')) : ((M : Int) - (T : Int)).natAbs ≤ ((M' : Int) - (T : Int)).natAbs ∧ (((M : Int) - (T : Int)).natAbs = ((M' : Int) - (T : Int)).natAbs → M' + M = 2 * T) := by omega
/-- a neighbour is no nearer; it is as near only where the float is even -/
theorem near_beside (f b : Nat) (N D : Int) (d0 : 1 ≤ D) (n0 : N ≠ 0) (R : NeR N D f) (hb : (b + 1 = f ∨ b = f + 1)) : dst f N D ≤ dst b N D ∧ (dst f N D = dst b N D → f % 2 = 0) ∧ rung b < 9218868437227405312 ∧ b < 18446744073709551616 := by
  rcases R.cs with ⟨a, _⟩ | ⟨_, g0, g1, sf, NB⟩
  · exact absurd a n0
  · have fb := R.fb
    have rf : f % 2 = rung f % 2 := by unfold rung; omega
    have rs : rung b + 1 = rung f ∨ rung b = rung f + 1 := by
      clear NB sf n0 R
      unfold rung at *; omega
    have ss : sgn b = sgn f := by
      clear NB sf n0 R rs rf
      unfold sgn
      congr 1
      unfold rung at *
      omega
    have bb : rung b < 9218868437227405312 ∧ b < 18446744073709551616 := by
      clear NB sf n0 R ss rf
      constructor
      · omega
      · unfold rung at *; omega
    have dp : 0 < D.toNat := by clear NB sf n0 R rs rf ss bb; omega
    rw [dst_same f N D d0 sf, dst_same b N D d0 (by rw [ss]; exact sf), rf]
    have nlo := NB.lo
    have nlo' := NB.lo'
    have nhi := NB.hi
    have nhi' := NB.hi'
    rw [Nat.add_mul, Nat.mul_assoc] at nlo nlo' nhi nhi'
    obtain ⟨T, hT⟩ : ∃ T, N.natAbs * U = T := ⟨_, rfl⟩
    rw [hT] at nlo nlo' nhi nhi' ⊢
    clear NB sf n0 R ss hT
    rcases rs with h | h
    · have m := Nat.mul_lt_mul_of_pos_right (mag_mono (show rung b < rung f by omega)) dp
      rw [show rung f - 1 = rung b by omega] at nlo nlo'
      obtain ⟨c1, c2⟩ := beside_pure _ _ _ (.inl ⟨m, nlo⟩)
      exact ⟨c1, fun e => nlo' (c2 e), bb.1, bb.2⟩
    · have m := Nat.mul_lt_mul_of_pos_right (mag_mono (show rung f < rung b by omega)) dp
      rw [← h] at nhi nhi'
      obtain ⟨c1, c2⟩ := beside_pure _ _ _ (.inr ⟨m, nhi⟩)
      exact ⟨c1, fun e => nhi' (by rw [Nat.add_comm]; exact (c2 e).symm), bb.1, bb.2⟩
theorem near_cmp (f b : Nat) (N D : Int) (d0 : 1 ≤ D) (n0 : N ≠ 0) (R : NeR N D f) (hb : (b + 1 = f ∨ b = f + 1)) : apX f N D * (fracD b * D) ≤ apX b N D * (fracD f * D) ∧ (apX f N D * (fracD b * D) = apX b N D * (fracD f * D) → f % 2 = 0) := by
  obtain ⟨l, e, rb, _⟩ := near_beside f b N D d0 n0 R hb
  rcases R.cs with ⟨a, _⟩ | ⟨_, g0, g1, sf, NB⟩
  · exact absurd a n0
  · have u := U_int
    have hf : rung f < 9218868437227405312 := by omega
    have x1 := ap_dst f N D hf
    have x2 := ap_dst b N D rb
    have p1 := (frac_size f hf).2.2.1
    have p2 := (frac_size b rb).2.2.1
    have kp : 0 < ((fracD f : Int) * fracD b * D) := Int.mul_pos (Int.mul_pos (by omega) (by omega)) (by omega)
    have y1 : apX f N D * (fracD b * D) * U = (dst f N D : Int) * ((fracD f : Int) * fracD b * D) := by
      have : apX f N D * (fracD b * D) * (U : Int) = apX f N D * U * (fracD b * D) := by grind
      rw [this, x1]; grind
    have y2 : apX b N D * (fracD f * D) * U = (dst b N D : Int) * ((fracD f : Int) * fracD b * D) := by
      have : apX b N D * (fracD f * D) * (U : Int) = apX b N D * U * (fracD f * D) := by grind
      rw [this, x2]; grind
    constructor
    · refine Int.le_of_mul_le_mul_right ?_ u
      rw [y1, y2]
      exact Int.mul_le_mul_of_nonneg_right (by omega) (by omega)
    · intro h
      refine e ?_
      have : (dst f N D : Int) * ((fracD f : Int) * fracD b * D) = (dst b N D : Int) * ((fracD f : Int) * fracD b * D) := by rw [← y1, ← y2, h]
      have := Int.eq_of_mul_eq_mul_right (by omega) this
      omega
end Go.Proofs.YtdccoebjcaemcaaRRRDoor
