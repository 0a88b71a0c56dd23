/- Wide numbers and big ones in memory. -/
import Derived.Test.YtmelbgabiklojaaWideE
import Derived.Test.YtmelbgabiklojaaBigH
import Derived.Test.YtmelbgabiklojaaBigI
import Derived.WalkKit
import Derived.WalkSpells
import Derived.WalkLawsBesides
import Derived.Handy
import Derived.Lib.Hide
import Derived.Deep.QuietTactic
import Derived.BigQuiet
import Derived.Deep.RegionHeld3
import Derived.Deep.RegionWith
import Derived.RegionTactic
import Derived.BigRegion
import Derived.Outline
import Derived.Deep.DeepCutAuto
namespace Go.Proofs.Ytmelbgabiklojaa
open Go.RowKit Go.Proofs.Big
set_option linter.unusedVariables false
set_option maxRecDepth 100000
set_option linter.unusedSimpArgs false
/-- a wide number in memory -/
structure WV (w : World) (b : Nat) (h l : Int) : Prop where
  c0 : w.cell? ⟨b, 0, none⟩ = some (.int .i64 h)
  c1 : w.cell? ⟨b, 1, none⟩ = some (.int .u64 l)
theorem WV.later {w w' : World} {b : Nat} {h l : Int} (k : WV w b h l) (hb : Below w.heap.size w w') : WV w' b h l := ⟨cell_later hb k.c0, cell_later hb k.c1⟩
theorem WV.new (w : World) (h l : Int) (t : TypeId) : WV (w.alloc (.cells #[.int .i64 h, .int .u64 l] t)) w.heap.size h l := ⟨by simp [go_sem], by simp [go_sem]⟩
theorem WV.lt {w : World} {b : Nat} {h l : Int} (k : WV w b h l) : b < w.heap.size := World.block_lt_of_cell? w _ k.c0
theorem below_alloc (w : World) (o : Obj) : Below w.heap.size w (w.alloc o) := (Below.refl _ _).alloc (Nat.le_refl _) o
/-- a wide number and a big one in memory, that say the same -/
structure XW (w wr : World) (x g : Nat) (h l : Int) (ng : Bool) (a : Option Addr) (la ca : Nat) (n : Int) : Prop where
  X : WV wr x h l
  G : BV wr g ng a la ca
  Gn : BigV wr ng a la ca n
  bel : Below w.heap.size w wr
theorem XW.later {w wr wx : World} {x g : Nat} {h l : Int} {ng : Bool} {a : Option Addr} {la ca : Nat} {n : Int} (k : XW w wr x g h l ng a la ca n) (hb : Below wr.heap.size wr wx) : XW w wx x g h l ng a la ca n :=
  ⟨k.X.later hb, k.G.later hb, k.Gn.later hb, bel_trans k.bel hb⟩
end Go.Proofs.Ytmelbgabiklojaa
/- A quotient and a rest in memory; what rounding down says of them. -/
namespace Go.Proofs.Ytmelbgabiklojaa
open Go.RowKit Go.Proofs.Big
set_option linter.unusedVariables false
set_option maxRecDepth 100000
set_option linter.unusedSimpArgs false
theorem P50_big : 340282366920938463463374607431768211456 < P 99 := by
  have h : P 9 ≤ P 99 := P_mono (by decide)
  have e : P 9 = 22300745198530623141535718272648361505980416 := by unfold P; rfl
  omega
/-- the program's quotient and the reference's, and its rest, in memory -/
structure DQ (w wr : World) (x g k : Nat) (h l : Int) (ng : Bool) (a : Option Addr) (la ca : Nat) (mg : Bool) (b : Option Addr) (lb cb : Nat) (n m : Int) : Prop where
  X : WV wr x h l
  G : BV wr g ng a la ca
  K : BV wr k mg b lb cb
  Gn : BigV wr ng a la ca n
  Kn : BigV wr mg b lb cb m
  bel : Below w.heap.size w wr
theorem DQ.later {w wr wx : World} {x g k : Nat} {h l : Int} {ng mg : Bool} {a b : Option Addr} {la ca lb cb : Nat} {n m : Int} (q : DQ w wr x g k h l ng a la ca mg b lb cb n m) (hb : Below wr.heap.size wr wx) : DQ w wx x g k h l ng a la ca mg b lb cb n m :=
  ⟨q.X.later hb, q.G.later hb, q.K.later hb, q.Gn.later hb, q.Kn.later hb, bel_trans q.bel hb⟩
/-- the reference's quotient and rest, and what they are -/
theorem down_facts (x d : Int) (dz : d ≠ 0) (x0 : -170141183460469231731687303715884105728 ≤ x) (x1 : x < 170141183460469231731687303715884105728) :
    ∃ q r Q R : Int, Q = (if x < 0 then -x else x) / (if d < 0 then -d else d) ∧ R = (if x < 0 then -x else x) % (if d < 0 then -d else d) ∧
      ((decide (x < 0) == decide (d < 0)) = true → q = Q) ∧ ((decide (x < 0) == decide (d < 0)) = false → q = if R = 0 then -Q else -Q - 1) ∧
      r = x - q * d ∧ ((0 ≤ r ∧ r < d) ∨ (d < r ∧ r ≤ 0)) ∧ 0 ≤ Q ∧ Q ≤ 170141183460469231731687303715884105728 ∧
      -170141183460469231731687303715884105728 ≤ q ∧ q ≤ 170141183460469231731687303715884105728 ∧ (q = 170141183460469231731687303715884105728 → x = -170141183460469231731687303715884105728 ∧ d = -1) := by
  obtain ⟨X, hX⟩ : ∃ X, X = if x < 0 then -x else x := ⟨_, rfl⟩
  obtain ⟨m, hm⟩ : ∃ m, m = if d < 0 then -d else d := ⟨_, rfl⟩
  have m0 : 0 < m := by rw [hm]; split <;> omega
  have X0 : 0 ≤ X := by rw [hX]; split <;> omega
  have Xb : X ≤ 170141183460469231731687303715884105728 := by rw [hX]; split <;> omega
  obtain ⟨Q, hQ⟩ : ∃ Q, Q = X / m := ⟨_, rfl⟩
  obtain ⟨R, hR⟩ : ∃ R, R = X % m := ⟨_, rfl⟩
  have e : X = Q * m + R := by rw [hQ, hR, Int.mul_comm]; exact (Int.mul_ediv_add_emod X m).symm
  have R0 : 0 ≤ R := by rw [hR]; exact Int.emod_nonneg _ (by omega)
  have R1 : R < m := by rw [hR]; exact Int.emod_lt_of_pos _ m0
  have Q0 : 0 ≤ Q := by rw [hQ]; exact Int.ediv_nonneg X0 (by omega)
  have Qm : Q * 1 ≤ Q * m := Int.mul_le_mul_of_nonneg_left (by omega) Q0
  have Q2 : 2 ≤ m → Q * 2 ≤ Q * m := fun h => Int.mul_le_mul_of_nonneg_left h Q0
  rw [← hX, ← hm]
  by_cases s1 : x < 0 <;> by_cases s2 : d < 0
  · rw [if_pos s1] at hX
    rw [if_pos s2] at hm
    have e2 : Q * m = -(Q * d) := by rw [hm, Int.mul_neg]
    refine ⟨Q, x - Q * d, Q, R, hQ, hR, fun _ => rfl, fun h => ?_, rfl, by omega, Q0, by omega, by omega, by omega, fun h => ?_⟩
    · rw [decide_eq_true s1, decide_eq_true s2] at h; cases h
    · by_cases m2 : 2 ≤ m
      · have := Q2 m2; omega
      · have : m = 1 := by omega
        omega
  · rw [if_pos s1] at hX
    rw [if_neg s2] at hm
    have e2 : Q * m = Q * d := by rw [hm]
    by_cases Rz : R = 0
    · refine ⟨-Q, x - -Q * d, Q, R, hQ, hR, fun h => ?_, fun h => by rw [if_pos Rz], rfl, by rw [Int.neg_mul]; omega, Q0, by omega, by omega, by omega, fun h => by omega⟩
      rw [decide_eq_true s1, decide_eq_false s2] at h; cases h
    · have m2 := Q2 (by omega)
      refine ⟨-Q - 1, x - (-Q - 1) * d, Q, R, hQ, hR, fun h => ?_, fun h => by rw [if_neg Rz], rfl, by rw [Int.sub_mul, Int.neg_mul]; omega, Q0, by omega, by omega, by omega, fun h => by omega⟩
      rw [decide_eq_true s1, decide_eq_false s2] at h; cases h
  · rw [if_neg s1] at hX
    rw [if_pos s2] at hm
    have e2 : Q * m = -(Q * d) := by rw [hm, Int.mul_neg]
    by_cases Rz : R = 0
    · refine ⟨-Q, x - -Q * d, Q, R, hQ, hR, fun h => ?_, fun h => by rw [if_pos Rz], rfl, by rw [Int.neg_mul]; omega, Q0, by omega, by omega, by omega, fun h => by omega⟩
      rw [decide_eq_false s1, decide_eq_true s2] at h; cases h
    · have m2 := Q2 (by omega)
      refine ⟨-Q - 1, x - (-Q - 1) * d, Q, R, hQ, hR, fun h => ?_, fun h => by rw [if_neg Rz], rfl, by rw [Int.sub_mul, Int.neg_mul]; omega, Q0, by omega, by omega, by omega, fun h => by omega⟩
      rw [decide_eq_false s1, decide_eq_true s2] at h; cases h
  · rw [if_neg s1] at hX
    rw [if_neg s2] at hm
    have e2 : Q * m = Q * d := by rw [hm]
    refine ⟨Q, x - Q * d, Q, R, hQ, hR, fun _ => rfl, fun h => ?_, rfl, by omega, Q0, by omega, by omega, by omega, fun h => by omega⟩
    rw [decide_eq_false s1, decide_eq_false s2] at h; cases h
end Go.Proofs.Ytmelbgabiklojaa
