/- Package wide: what each function returns, and that of memory only new blocks are laid. -/
import Derived.Test.YtjemnjboopabpaaRows
import Derived.Test.YtjemnjboopabpaaShelf
import Derived.Test.YtjemnjboopabpaaNum
import Derived.Test.YtjemnjboopabpaaDiv64
import Derived.Test.YtjemnjboopabpaaWideD
import Derived.Outline
import Derived.WalkKit
import Derived.WalkSpells
import Derived.WalkLawsBesides
import Derived.Handy
import Derived.Lib.Hide
import Derived.Deep.QuietTactic
import Derived.BigQuiet
import Derived.Deep.RegionHeld3
import Derived.Deep.RegionWith
import Derived.Shelf.Spec.BitsCarry
import Derived.Deep.DeepCutAuto
import Derived.RegionTactic
import Derived.BigRegion
namespace Go.Proofs.Ytjemnjboopabpaa
open Go.RowKit
set_option linter.unusedVariables false

theorem uniq {m q1 r1 q2 r2 : Int} (m0 : 0 < m) (e : q1 * m + r1 = q2 * m + r2) (a : 0 ≤ r1) (b : r1 < m) (c : 0 ≤ r2) (d : r2 < m) : q1 = q2 ∧ r1 = r2 := by
  have u1 := (Int.ediv_emod_unique (a := q1 * m + r1) (r := r1) (q := q1) m0).2 ⟨by rw [Int.mul_comm]; omega, a, b⟩
  have u2 := (Int.ediv_emod_unique (a := q1 * m + r1) (r := r2) (q := q2) m0).2 ⟨by rw [Int.mul_comm]; omega, c, d⟩
  omega
theorem div_steps (a b d : Int) (h0 : -9223372036854775808 ≤ a) (h1 : a ≤ 9223372036854775807) (h2 : 0 ≤ b) (h3 : b < 18446744073709551616) (d0 : -9223372036854775808 ≤ d) (d1 : d ≤ 9223372036854775807) (dz : d ≠ 0) :
    ∃ m uh ul qh ql R Q : Int, DivSteps a b d m uh ul qh ql R ∧ (if a < 0 then -(a * 18446744073709551616 + b) else a * 18446744073709551616 + b) = Q * m + R ∧ 0 ≤ Q ∧ Q ≤ 170141183460469231731687303715884105728 ∧ (Q < 170141183460469231731687303715884105728 → qh * 18446744073709551616 + ql = Q ∧ 0 ≤ qh) ∧
      (Q = 170141183460469231731687303715884105728 → qh = -9223372036854775808 ∧ ql = 0) ∧ (2 ≤ m → Q < 85070591730234615865843651857942052865) := by
  obtain ⟨X, hX⟩ : ∃ X, X = if a < 0 then -(a * 18446744073709551616 + b) else a * 18446744073709551616 + b := ⟨_, rfl⟩
  obtain ⟨m, hm⟩ : ∃ m, m = if d < 0 then -d else d := ⟨_, rfl⟩
  have X0 : 0 ≤ X := by rw [hX]; split <;> omega
  have X1 : X ≤ 170141183460469231731687303715884105728 := by rw [hX]; split <;> omega
  have m0 : 0 < m := by rw [hm]; split <;> omega
  have m1 : m ≤ 9223372036854775808 := by rw [hm]; split <;> omega
  have Qe := Int.mul_ediv_add_emod X m
  have R0 := Int.emod_nonneg X (show m ≠ 0 by omega)
  have R1 := Int.emod_lt_of_pos X m0
  have Q0 : 0 ≤ X / m := Int.ediv_nonneg X0 (by omega)
  have Q1 : X / m ≤ X := Int.ediv_le_self _ X0
  have Q2 : 2 ≤ m → X / m < 85070591730234615865843651857942052865 := fun h => by
    rw [Int.ediv_lt_iff_lt_mul m0]; omega
  obtain ⟨Q, hQ⟩ : ∃ Q, Q = X / m := ⟨_, rfl⟩
  obtain ⟨R, hR⟩ : ∃ R, R = X % m := ⟨_, rfl⟩
  rw [← hQ, ← hR] at Qe
  rw [← hR] at R0 R1
  rw [← hQ] at Q0 Q1 Q2
  have uw : IntKind.u64.wrap (wrap64 (X / 18446744073709551616)) * 18446744073709551616 + X % 18446744073709551616 = X := by
    simp only [IntKind.wrap_u64, wrap64]; omega
  refine ⟨m, wrap64 (X / 18446744073709551616), X % 18446744073709551616, wrap64 (Q / 18446744073709551616), Q % 18446744073709551616, R, Q, ?_, ?_, Q0, by omega, fun h => ⟨by simp only [wrap64]; omega, by simp only [wrap64]; omega⟩, fun h => ⟨by rw [h]; simp only [wrap64]; omega, by rw [h]; omega⟩, Q2⟩
  · exact { a0 := h0, a1 := h1, b0 := h2, b1 := h3, d0 := d0, d1 := d1, dz := by simpa using dz, hm := hm, m0 := m0, m1 := by omega, u0 := by simp only [wrap64]; omega, u1 := by simp only [wrap64]; omega, u2 := by omega, u3 := by omega
            eu := fun h => by rw [if_pos h] at hX; simp only [wrap64]; omega
            eu' := fun h => by rw [if_neg h] at hX; simp only [wrap64]; omega
            q0 := by simp only [wrap64]; omega, q1 := by simp only [wrap64]; omega, q2 := by omega, q3 := by omega
            eq := by rw [uw, ← hQ]; simp only [wrap64]; omega
            er := by rw [uw]; exact hR.symm
            R0 := R0, R1 := by omega, R2 := R1 }
  · rw [← hX, Int.mul_comm]; omega
theorem L_nn {x q d r m Q R : Int} (hd : d < 0) (e : x = q * d + r) (e1 : d < r) (e2 : r ≤ 0) (hm : m = -d) (hX : -x = Q * m + R) (R0 : 0 ≤ R) (R1 : R < m) : q = Q ∧ r = -R := by
  have t : q * m = -(q * d) := by rw [hm, Int.mul_neg]
  obtain ⟨u1, u2⟩ := uniq (m := m) (q1 := q) (r1 := -r) (q2 := Q) (r2 := R) (by omega) (by omega) (by omega) (by omega) R0 R1
  omega
theorem L_pn {x q d r m Q R : Int} (hd : d < 0) (e : x = q * d + r) (e1 : d < r) (e2 : r ≤ 0) (hm : m = -d) (hX : x = Q * m + R) (R0 : 0 ≤ R) (R1 : R < m) : (R = 0 → q = -Q ∧ r = 0) ∧ (R ≠ 0 → q = -(Q + 1) ∧ r = -(m - R)) := by
  have t : q * m = -(q * d) := by rw [hm, Int.mul_neg]
  by_cases rz : r = 0
  · obtain ⟨u1, u2⟩ := uniq (m := m) (q1 := -q) (r1 := 0) (q2 := Q) (r2 := R) (by omega) (by rw [Int.neg_mul]; omega) (by omega) (by omega) R0 R1
    omega
  · obtain ⟨u1, u2⟩ := uniq (m := m) (q1 := -q - 1) (r1 := m + r) (q2 := Q) (r2 := R) (by omega) (by rw [Int.sub_mul, Int.neg_mul]; omega) (by omega) (by omega) R0 R1
    omega
theorem L_pp {x q d r m Q R : Int} (hd : 0 < d) (e : x = q * d + r) (e1 : 0 ≤ r) (e2 : r < d) (hm : m = d) (hX : x = Q * m + R) (R0 : 0 ≤ R) (R1 : R < m) : q = Q ∧ r = R := by
  subst hm
  exact uniq (m := m) hd (by omega) e1 e2 R0 R1
theorem L_np {x q d r m Q R : Int} (hd : 0 < d) (e : x = q * d + r) (e1 : 0 ≤ r) (e2 : r < d) (hm : m = d) (hX : -x = Q * m + R) (R0 : 0 ≤ R) (R1 : R < m) : (R = 0 → q = -Q ∧ r = 0) ∧ (R ≠ 0 → q = -(Q + 1) ∧ r = m - R) := by
  subst hm
  by_cases rz : r = 0
  · obtain ⟨u1, u2⟩ := uniq (m := m) (q1 := -q) (r1 := 0) (q2 := Q) (r2 := R) (by omega) (by rw [Int.neg_mul]; omega) (by omega) (by omega) R0 R1
    omega
  · obtain ⟨u1, u2⟩ := uniq (m := m) (q1 := -q - 1) (r1 := m - r) (q2 := Q) (r2 := R) (by omega) (by rw [Int.sub_mul, Int.neg_mul]; omega) (by omega) (by omega) R0 R1
    omega
theorem nextpair (qh ql Q : Int) (e : qh * 18446744073709551616 + ql = Q) (q0 : 0 ≤ qh) (Q2 : Q < 85070591730234615865843651857942052865) (Q0 : 0 ≤ Q) :
    ∃ nh nl : Int, -9223372036854775808 ≤ nh ∧ nh ≤ 9223372036854775807 ∧ 0 ≤ nl ∧ nl < 18446744073709551616 ∧ nh * 18446744073709551616 + nl = qh * 18446744073709551616 + ql + 1 :=
  ⟨(Q + 1) / 18446744073709551616, (Q + 1) % 18446744073709551616, by omega, by omega, by omega, by omega, by omega⟩
/-- of every product -/
theorem hl (x : Int) (h0 : -170141183460469231731687303715884105728 ≤ x) (h1 : x < 170141183460469231731687303715884105728) :
    ∃ h l : Int, -9223372036854775808 ≤ h ∧ h ≤ 9223372036854775807 ∧ 0 ≤ l ∧ l < 18446744073709551616 ∧ h * 18446744073709551616 + l = x :=
  ⟨x / 18446744073709551616, x % 18446744073709551616, by omega, by omega, by omega, by omega, by omega⟩
theorem prod_range (a b : Int) (h0 : -9223372036854775808 ≤ a) (h1 : a ≤ 9223372036854775807) (g0 : -9223372036854775808 ≤ b) (g1 : b ≤ 9223372036854775807) :
    -85070591730234615865843651857942052864 ≤ a * b ∧ a * b ≤ 85070591730234615865843651857942052864 := by
  have k1 : (a * b).natAbs ≤ 9223372036854775808 * 9223372036854775808 := by
    rw [Int.natAbs_mul]
    exact Nat.mul_le_mul (by omega) (by omega)
  omega
theorem quo_range {x q d r : Int} (h0 : -85070591730234615865843651857942052864 ≤ x) (h1 : x ≤ 85070591730234615865843651857942052864) (dz : d ≠ 0) (e : x = q * d + r) (er : (0 ≤ r ∧ r < d) ∨ (d < r ∧ r ≤ 0)) :
    -85070591730234615865843651857942052865 ≤ q ∧ q ≤ 85070591730234615865843651857942052865 := by
  by_cases q0 : 0 ≤ q
  · rcases er with er | er
    · have : q * 1 ≤ q * d := Int.mul_le_mul_of_nonneg_left (by omega) q0
      omega
    · have : q * 1 ≤ q * -d := Int.mul_le_mul_of_nonneg_left (by omega) q0
      rw [Int.mul_neg] at this
      omega
  · rcases er with er | er
    · have := Int.mul_le_mul_of_nonneg_left (c := -q - 1) (show (1 : Int) ≤ d by omega) (by omega)
      simp only [Int.sub_mul, Int.neg_mul, Int.one_mul, Int.mul_one] at this
      omega
    · have := Int.mul_le_mul_of_nonneg_left (c := -q - 1) (show (1 : Int) ≤ -d by omega) (by omega)
      simp only [Int.sub_mul, Int.neg_mul, Int.mul_neg, Int.one_mul, Int.mul_one] at this
      omega
end Go.Proofs.Ytjemnjboopabpaa
/- Small lemmas on worlds; a quotient rounded down exists. -/
namespace Go.Proofs.Ytjemnjboopabpaa
open Go.RowKit
set_option linter.unusedVariables false
set_option maxRecDepth 100000
set_option linter.unusedSimpArgs false

theorem keep_alloc {w : World} {a : Addr} {v : Value} {o : Obj} (h : w.cell? a = some v) : (w.alloc o).cell? a = some v := by
  obtain ⟨b, i, x⟩ := a
  have hb := World.block_lt_of_cell? w _ h
  rw [← h]
  exact World.cell?_of_block (by simpa using Below.heap_alloc w o b hb)

theorem below_step {w w4 W w6 : World} (h1 : Below w.heap.size w w4) (h2 : Below w4.heap.size w4 W) (h3 : Below W.heap.size W w6) : Below w.heap.size w w6 :=
  h1.trans ((h2.mono h1.size).trans (h3.mono (Nat.le_trans h1.size h2.size)))


theorem floor_exists (x c : Int) (dz : c ≠ 0) : ∃ q r : Int, x = q * c + r ∧ ((0 ≤ r ∧ r < c) ∨ (c < r ∧ r ≤ 0)) := by
  by_cases h : 0 < c
  · exact ⟨x / c, x % c, by have := Int.mul_ediv_add_emod x c; rw [Int.mul_comm]; omega, .inl ⟨Int.emod_nonneg _ dz, Int.emod_lt_of_pos _ h⟩⟩
  · have := Int.mul_ediv_add_emod (-x) (-c)
    have p := Int.emod_nonneg (-x) (show -c ≠ 0 by omega)
    have q := Int.emod_lt_of_pos (-x) (show 0 < -c by omega)
    refine ⟨-x / -c, -(-x % -c), ?_, .inr (by omega)⟩
    rw [Int.neg_mul] at this
    rw [Int.mul_comm]
    omega

end Go.Proofs.Ytjemnjboopabpaa
/- Package wide once more: sums, negations, comparisons, by their values. -/
namespace Go.Proofs.Ytjemnjboopabpaa
open Go.RowKit
set_option linter.unusedVariables false
set_option maxRecDepth 100000
set_option linter.unusedSimpArgs false

/-- three numbers in memory -/
structure Cells3 (w : World) (x y z : Nat) (a b c d f g : Int) : Prop where
  q0 : w.cell? ⟨x, 0, none⟩ = some (.int .i64 a)
  q1 : w.cell? ⟨x, 1, none⟩ = some (.int .u64 b)
  q2 : w.cell? ⟨y, 0, none⟩ = some (.int .i64 c)
  q3 : w.cell? ⟨y, 1, none⟩ = some (.int .u64 d)
  q4 : w.cell? ⟨z, 0, none⟩ = some (.int .i64 f)
  q5 : w.cell? ⟨z, 1, none⟩ = some (.int .u64 g)
theorem Cells3.later {w w' : World} {x y z : Nat} {a b c d f g : Int} (h : Cells3 w x y z a b c d f g) (hb : Below w.heap.size w w') : Cells3 w' x y z a b c d f g :=
  ⟨cell_later hb h.q0, cell_later hb h.q1, cell_later hb h.q2, cell_later hb h.q3, cell_later hb h.q4, cell_later hb h.q5⟩
theorem Cells3.alloc {w : World} {x y z : Nat} {a b c d f g : Int} (h : Cells3 w x y z a b c d f g) (o : Obj) : Cells3 (w.alloc o) x y z a b c d f g :=
  ⟨keep_alloc h.q0, keep_alloc h.q1, keep_alloc h.q2, keep_alloc h.q3, keep_alloc h.q4, keep_alloc h.q5⟩
theorem cmpI_range (x y : Int) : -1 ≤ cmpI x y ∧ cmpI x y ≤ 1 := by unfold cmpI; split <;> (try split) <;> omega
theorem cmpI_swap (x y : Int) : cmpI y x = -cmpI x y := by unfold cmpI; repeat' split
                                                           all_goals omega
end Go.Proofs.Ytjemnjboopabpaa
/- Package wide once more: sums, negations, comparisons, by their values. -/
namespace Go.Proofs.Ytjemnjboopabpaa
open Go.RowKit
set_option linter.unusedVariables false
set_option maxRecDepth 100000
set_option linter.unusedSimpArgs false
end Go.Proofs.Ytjemnjboopabpaa
