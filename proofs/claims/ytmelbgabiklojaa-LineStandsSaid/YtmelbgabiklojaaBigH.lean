/- The reference's big numbers: divided. -/
import Derived.Test.YtmelbgabiklojaaBigD
import Derived.WalkKit
import Derived.WalkSpells
import Derived.WalkLawsBesides
import Derived.Handy
import Derived.Lib.Hide
import Derived.Deep.QuietTactic
import Derived.BigQuiet
import Derived.LoopTactic
import Derived.Deep.LoopGhost
import Derived.Deep.RegionHeld3
import Derived.Deep.RegionWith
import Derived.Outline
import Derived.Deep.DeepCutAuto
namespace Go.Proofs.Ytmelbgabiklojaa
open Go.RowKit Go.Proofs.Big
set_option linter.unusedVariables false
set_option maxRecDepth 100000
set_option linter.unusedSimpArgs false


structure QR (bv V Q R : Int) : Prop where
  e : Q * bv + R = V
  r0 : 0 ≤ R
  r1 : R < bv
  q0 : 0 ≤ Q
theorem QR.le {bv V Q R : Int} (h : QR bv V Q R) : Q ≤ V ∧ 0 ≤ V := by
  have h1 : Q * 1 ≤ Q * bv := Int.mul_le_mul_of_nonneg_left (by have := h.r0; have := h.r1; omega) h.q0
  have := h.e
  have := h.r0
  have := h.q0
  omega
theorem QR.hi {bv V Q R d : Int} (h : QR bv V Q R) (d0 : 0 ≤ d) (d1 : d ≤ 1) (hc : bv ≤ 2 * R + d) : QR bv (2 * V + d) (2 * Q + 1) (2 * R + d - bv) := by
  have := h.e
  have := h.r0
  have := h.r1
  have := h.q0
  have e2 : (2 * Q + 1) * bv = 2 * (Q * bv) + bv := by rw [Int.add_mul, Int.mul_assoc]; omega
  exact ⟨by rw [e2]; omega, by omega, by omega, by omega⟩
theorem QR.lo {bv V Q R d : Int} (h : QR bv V Q R) (d0 : 0 ≤ d) (d1 : d ≤ 1) (hc : 2 * R + d < bv) : QR bv (2 * V + d) (2 * Q) (2 * R + d) := by
  have := h.e
  have := h.r0
  have := h.q0
  have e2 : (2 * Q) * bv = 2 * (Q * bv) := by rw [Int.mul_assoc]
  exact ⟨by rw [e2]; omega, by omega, hc, by omega⟩
/-- the bits of a piece, from the highest on -/
structure Bits (x T V D t : Int) (j : Nat) : Prop where
  hD : D = 2 ^ j
  ht : t = D / 2
  hj : j ≤ 16
  e : V * D + x % D = T
theorem bits_start {x A T : Int} (x0 : 0 ≤ x) (x1 : x < 65536) (hT : T = A * 65536 + x) : Bits x T A 65536 32768 16 := ⟨rfl, rfl, by decide, by rw [Int.emod_eq_of_lt x0 x1]; exact hT.symm⟩
theorem Bits.cases {x T V D t : Int} {j : Nat} (h : Bits x T V D t j) : (t = 0 ∧ V = T) ∨ (1 ≤ t ∧ t ≤ 32768 ∧ D = 2 * t ∧ 0 < j) := by
  have hD := h.hD
  have ht := h.ht
  have e := h.e
  cases j with
  | zero =>
    left
    have : D = 1 := hD
    subst this
    omega
  | succ j =>
    right
    have p : (0 : Int) < 2 ^ j := Int.pow_pos (by decide)
    have q : (2 : Int) ^ j ≤ 2 ^ 15 := by
      have := h.hj
      have c : ∀ k : Nat, (2 : Int) ^ k = ((2 ^ k : Nat) : Int) := fun k => (Int.natCast_pow 2 k).symm
      rw [c, c]
      exact Int.ofNat_le.2 (Nat.pow_le_pow_right (by decide) (by omega))
    rw [Int.pow_succ] at hD
    omega
theorem Bits.step {x T V D t : Int} {j : Nat} (h : Bits x T V D t j) (x0 : 0 ≤ x) (t0 : 1 ≤ t) (hDt : D = 2 * t) (hj : 0 < j) : Bits x T (2 * V + x / t % 2) t (t / 2) (j - 1) := by
  have hD := h.hD
  have e := h.e
  obtain ⟨k, rfl⟩ : ∃ k, j = k + 1 := ⟨j - 1, by omega⟩
  refine ⟨?_, rfl, by have := h.hj; omega, ?_⟩
  · rw [Int.pow_succ] at hD; simp; omega
  · have e1 := Int.mul_ediv_add_emod x t
    have e2 := Int.mul_ediv_add_emod (x / t) 2
    have r0 := Int.emod_nonneg x (show t ≠ 0 by omega)
    have r1 := Int.emod_lt_of_pos x (show 0 < t by omega)
    have s0 := Int.emod_nonneg (x / t) (show (2 : Int) ≠ 0 by omega)
    have s1 := Int.emod_lt_of_pos (x / t) (show (0 : Int) < 2 by omega)
    have key : x % (2 * t) = x / t % 2 * t + x % t := by
      have m1 : x / t % 2 * t ≤ 1 * t := Int.mul_le_mul_of_nonneg_right (by omega) (by omega)
      have m0 : 0 ≤ x / t % 2 * t := Int.mul_nonneg s0 (by omega)
      have ex : x = 2 * t * (x / t / 2) + (x / t % 2 * t + x % t) := by
        have : t * (x / t) = t * (2 * (x / t / 2)) + t * (x / t % 2) := by rw [← Int.mul_add, e2]
        rw [Int.mul_comm 2 t, Int.mul_assoc, Int.mul_comm (x / t % 2) t]
        omega
      exact ((Int.ediv_emod_unique (a := x) (r := x / t % 2 * t + x % t) (q := x / t / 2) (show 0 < 2 * t by omega)).2 ⟨by omega, by omega, by omega⟩).2
    rw [hDt, key] at e
    rw [Int.add_mul]
    have : 2 * V * t = V * (2 * t) := by rw [Int.mul_comm 2 V, Int.mul_assoc]
    omega
theorem sm50 {x : Int} (x0 : 0 ≤ x) (x1 : x < P 99) : Sm x ∧ Sm (2 * x) ∧ Sm (2 * x + 1) ∧ Sm (-x) := by
  have e : P 100 = 65536 * P 99 := P_succ 99
  unfold Sm
  omega
theorem val_drop (xs : List Int) (k : Nat) (hk : k < xs.length) : val (xs.drop k) = val (xs.drop (k + 1)) * 65536 + xs.getD k 0 := by
  rw [List.drop_eq_getElem_cons hk, val, List.getD_eq_getElem?_getD, List.getElem?_eq_getElem hk]
  simp; omega
theorem val_drop_le (xs : List Int) (h : Ok xs) (k : Nat) : val (xs.drop k) ≤ val xs := by
  have e := val_append (xs.take k) (xs.drop k)
  rw [List.take_append_drop] at e
  have a := (val_bd (xs := xs.take k) (fun x hx => h x (List.mem_of_mem_take hx))).1
  have b := (val_bd (xs := xs.drop k) (fun x hx => h x (List.mem_of_mem_drop hx))).1
  have p := P_pos (xs.take k).length
  have : 1 * val (xs.drop k) ≤ P (xs.take k).length * val (xs.drop k) := Int.mul_le_mul_of_nonneg_right p b
  omega
theorem big_pos {w : World} {ng : Bool} {a : Option Addr} {l c : Nat} {n : Int} (h : BigV w ng a l c n) (h0 : 0 ≤ n) : ∃ xs, Rd w a l c xs ∧ Ok xs ∧ Canon xs ∧ val xs = n := by
  obtain ⟨xs, r, o, cn, v⟩ := h.rd
  exact ⟨xs, r, o, cn, by rw [v, if_neg (by omega)]⟩

end Go.Proofs.Ytmelbgabiklojaa
/- The reference's big numbers: one of them in a box. -/
namespace Go.Proofs.Ytmelbgabiklojaa
open Go.RowKit Go.Proofs.Big
set_option linter.unusedVariables false
set_option maxRecDepth 100000
set_option linter.unusedSimpArgs false
theorem bel_trans {w w1 w2 : World} (h : Below w.heap.size w w1) (k : Below w1.heap.size w1 w2) : Below w.heap.size w w2 := h.trans (k.mono h.size)
/-- memory in the course of Fits and Int -/
structure OneW (w wr : World) (ng : Bool) (a : Option Addr) (la ca : Nat) (n : Int) : Prop where
  X : BV wr w.heap.size ng a la ca
  Xn : BigV wr ng a la ca n
  bel : Below w.heap.size w wr
theorem OneW.later {w wr wx : World} {ng : Bool} {a : Option Addr} {la ca : Nat} {n : Int} (h : OneW w wr ng a la ca n) (k : Below wr.heap.size wr wx) : OneW w wx ng a la ca n :=
  ⟨h.X.later k, h.Xn.later k, bel_trans h.bel k⟩
theorem OneW.new {w : World} {ng : Bool} {a : Option Addr} {la ca : Nat} {n : Int} (h : BigV w ng a la ca n) (t : TypeId) : OneW w (w.alloc (.cells #[.bool ng, .slice a la ca] t)) ng a la ca n :=
  ⟨BV.new w ng a la ca t, h.alloc _, (Below.refl _ _).alloc (Nat.le_refl _) _⟩
end Go.Proofs.Ytmelbgabiklojaa
/- The reference's big numbers: Int. -/
namespace Go.Proofs.Ytmelbgabiklojaa
open Go.RowKit Go.Proofs.Big
set_option linter.unusedVariables false
set_option maxRecDepth 100000
set_option linter.unusedSimpArgs false
end Go.Proofs.Ytmelbgabiklojaa
