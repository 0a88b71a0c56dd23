/- Law 5: what is known of the parts. -/
import Derived.Test.YtlkpegfbnmecpaaShareE
namespace Go.Proofs.Ytlkpegfbnmecpaa
open Go.RowKit Go.Proofs.Reg
set_option linter.unusedVariables false
set_option linter.unusedSimpArgs false
theorem parts_len (T : Int) (xs : List Int) : (parts5 T xs).length = xs.length := by simp [parts5]
theorem parts_get (T : Int) (xs : List Int) (i : Nat) (h : i < xs.length) : (parts5 T xs).getD i 0 = part5 T xs i := by
  rw [List.getD_eq_getElem?_getD, List.getElem?_eq_getElem (by simpa [parts5] using h)]
  simp [parts5]
/-- what the first parts are together -/
def cum (T : Int) (xs : List Int) (k : Nat) : Int := if xs.sum = 0 then 0 else bnd T xs k
theorem cum_zero (T : Int) (xs : List Int) : cum T xs 0 = 0 := by unfold cum; rw [bnd_zero]; split <;> rfl
theorem cum_succ (T : Int) (xs : List Int) (k : Nat) : cum T xs (k + 1) = cum T xs k + part5 T xs k := by
  unfold cum part5
  split
  · rfl
  · omega
theorem cum_all (T : Int) (xs : List Int) : cum T xs xs.length = if xs.sum = 0 then 0 else T := by
  unfold cum bnd
  rw [List.take_of_length_le (Nat.le_refl _)]
  split
  · rfl
  · rename_i h
    exact Int.mul_ediv_cancel _ h
theorem cum_range {T : Int} {xs : List Int} (h : ∀ x ∈ xs, 0 ≤ x) (t0 : -17592186044416 ≤ T) (t1 : T ≤ 17592186044416) (k : Nat) : -17592186044416 ≤ cum T xs k ∧ cum T xs k ≤ 17592186044416 := by
  unfold cum
  have := sum_nonneg h
  split
  · decide
  · exact bnd_range h (by omega) t0 t1 k
theorem part_range {T : Int} {xs : List Int} (h : ∀ x ∈ xs, 0 ≤ x) (t0 : -17592186044416 ≤ T) (t1 : T ≤ 17592186044416) (k : Nat) : -35184372088832 ≤ part5 T xs k ∧ part5 T xs k ≤ 35184372088832 := by
  have a := cum_range h t0 t1 k
  have b := cum_range h t0 t1 (k + 1)
  rw [cum_succ] at b
  omega
/-- parts of one weight: the quotient, or one more -/
theorem part_ones {T : Int} {m i : Nat} (hi : i < m) : T / m ≤ part5 T (List.replicate m 1) i ∧ part5 T (List.replicate m 1) i ≤ T / m + 1 := by
  have mp : (0 : Int) < (m : Int) := by omega
  unfold part5 bnd
  rw [sum_ones, if_neg (by omega), List.take_replicate, List.take_replicate, sum_ones, sum_ones, show min (i + 1) m = i + 1 by omega, show min i m = i by omega]
  have e : T * ((i + 1 : Nat) : Int) = T * (i : Int) + T := by
    rw [show ((i + 1 : Nat) : Int) = (i : Int) + 1 by omega, Int.mul_add, Int.mul_one]
  rw [e]
  obtain ⟨a, ha⟩ : ∃ a, T * (i : Int) = a := ⟨_, rfl⟩
  rw [ha]
  have d1 := Int.mul_ediv_add_emod a m
  have d2 := Int.mul_ediv_add_emod T m
  have r1 := Int.emod_nonneg a (show (m : Int) ≠ 0 by omega)
  have r2 := Int.emod_nonneg T (show (m : Int) ≠ 0 by omega)
  have s1 := Int.emod_lt_of_pos a mp
  have s2 := Int.emod_lt_of_pos T mp
  have d3 : a + T = (a % m + T % m) + m * (a / m + T / m) := by rw [Int.mul_add]; omega
  rw [d3, Int.add_mul_ediv_left _ _ (by omega)]
  have u : 0 ≤ (a % m + T % m) / (m : Int) := Int.ediv_nonneg (by omega) (by omega)
  have v : (a % m + T % m) / (m : Int) < 2 := by rw [Int.ediv_lt_iff_lt_mul mp]; omega
  omega
theorem part_ones_zero {T : Int} {m : Nat} (hm : 0 < m) : part5 T (List.replicate m 1) 0 = T / m := by
  unfold part5 bnd
  rw [sum_ones, if_neg (by omega), List.take_replicate, List.take_replicate, sum_ones, sum_ones, show min (0 + 1) m = 1 by omega, show min 0 m = 0 by omega]
  simp
/-- how far a part is off its exact share -/
theorem part_off {T : Int} {xs : List Int} (h : ∀ x ∈ xs, 0 ≤ x) (hs : 0 < xs.sum) {i : Nat} (hi : i < xs.length) :
    part5 T xs i * xs.sum - T * xs.getD i 0 < xs.sum ∧ -xs.sum < part5 T xs i * xs.sum - T * xs.getD i 0 := by
  unfold part5 bnd
  rw [if_neg (by omega), sum_take_succ xs i hi, Int.mul_add]
  obtain ⟨a, ha⟩ : ∃ a, T * (xs.take i).sum = a := ⟨_, rfl⟩
  obtain ⟨b, hb⟩ : ∃ b, T * xs.getD i 0 = b := ⟨_, rfl⟩
  obtain ⟨S, hS⟩ : ∃ S, xs.sum = S := ⟨_, rfl⟩
  rw [hS] at hs ⊢
  rw [ha, hb, Int.sub_mul]
  have d1 := Int.mul_ediv_add_emod a S
  have d2 := Int.mul_ediv_add_emod (a + b) S
  have r1 := Int.emod_nonneg a (show S ≠ 0 by omega)
  have r2 := Int.emod_nonneg (a + b) (show S ≠ 0 by omega)
  have s1 := Int.emod_lt_of_pos a hs
  have s2 := Int.emod_lt_of_pos (a + b) hs
  rw [Int.mul_comm S] at d1 d2
  omega
/-- a weight of 0 gets 0 -/
theorem part_none {T : Int} {xs : List Int} {i : Nat} (hi : i < xs.length) (h : xs.getD i 0 = 0) : part5 T xs i = 0 := by
  unfold part5 bnd
  split
  · rfl
  · rw [sum_take_succ xs i hi, h, Int.add_zero, Int.sub_self]
end Go.Proofs.Ytlkpegfbnmecpaa
