/- Law 5: two neighbours together. -/
import Derived.Test.YtlkpegfbnmecpaaShareG
namespace Go.Proofs.Ytlkpegfbnmecpaa
open Go.RowKit Go.Proofs.Reg
set_option linter.unusedVariables false
set_option linter.unusedSimpArgs false
/-- two neighbours put together -/
def mrg (l : List Int) (k : Nat) : List Int := l.take k ++ [l.getD k 0 + l.getD (k + 1) 0] ++ l.drop (k + 2)
theorem mrg_len {l : List Int} {k : Nat} (h : k + 1 < l.length) : (mrg l k).length = l.length - 1 := by
  simp [mrg]; omega
theorem mrg_get {l : List Int} {k : Nat} (h : k + 1 < l.length) (i : Nat) : (mrg l k).getD i 0 = if i < k then l.getD i 0 else if i = k then l.getD k 0 + l.getD (k + 1) 0 else l.getD (i + 1) 0 := by
  have tl : (l.take k).length = k := by rw [List.length_take]; omega
  unfold mrg
  rw [List.append_assoc]
  by_cases c : i < k
  · rw [if_pos c, List.getD_eq_getElem?_getD, List.getElem?_append_left (by omega), List.getElem?_take_of_lt c, ← List.getD_eq_getElem?_getD]
  · rw [if_neg c, List.getD_eq_getElem?_getD, List.getElem?_append_right (by omega), tl]
    by_cases e : i = k
    · subst e
      rw [if_pos rfl, Nat.sub_self]
      rfl
    · rw [if_neg e, List.singleton_append, show i - k = (i - k - 1) + 1 by omega, List.getElem?_cons_succ, List.getElem?_drop, show k + 2 + (i - k - 1) = i + 1 by omega, ← List.getD_eq_getElem?_getD]
theorem mrg_take {l : List Int} {k : Nat} (h : k + 1 < l.length) : ∀ i, i ≤ l.length - 1 → ((mrg l k).take i).sum = if i ≤ k then (l.take i).sum else (l.take (i + 1)).sum
  | 0, _ => by simp
  | i + 1, hi => by
    rw [sum_take_succ _ i (by rw [mrg_len h]; omega), mrg_take h i (by omega), mrg_get h]
    by_cases c : i < k
    · rw [if_pos (by omega), if_pos c, if_pos (by omega), sum_take_succ l i (by omega)]
    · by_cases e : i = k
      · subst e
        rw [if_pos (Nat.le_refl _), if_neg (by omega), if_pos rfl, if_neg (by omega), sum_take_succ l (i + 1) (by omega), sum_take_succ l i (by omega)]
        omega
      · rw [if_neg (by omega), if_neg c, if_neg e, if_neg (by omega), sum_take_succ l (i + 1) (by omega)]
theorem mrg_sum {l : List Int} {k : Nat} (h : k + 1 < l.length) : (mrg l k).sum = l.sum := by
  have := mrg_take h (l.length - 1) (Nat.le_refl _)
  rw [List.take_of_length_le (by rw [mrg_len h]; exact Nat.le_refl _), if_neg (by omega), List.take_of_length_le (by omega)] at this
  exact this
theorem mrg_part {T : Int} {l : List Int} {k : Nat} (h : k + 1 < l.length) (i : Nat) (hi : i < l.length - 1) :
    part5 T (mrg l k) i = if i < k then part5 T l i else if i = k then part5 T l k + part5 T l (k + 1) else part5 T l (i + 1) := by
  unfold part5 bnd
  rw [mrg_sum h, mrg_take h i (by omega), mrg_take h (i + 1) (by omega)]
  by_cases z : l.sum = 0
  · simp [z]
  · simp only [if_neg z]
    by_cases c : i < k
    · rw [if_pos c, if_pos (by omega), if_pos (by omega)]
    · by_cases e : i = k
      · subst e
        rw [if_neg c, if_pos rfl, if_neg (by omega), if_pos (Nat.le_refl _)]
        omega
      · rw [if_neg c, if_neg e, if_neg (by omega), if_neg (by omega)]
theorem mrg_parts {T : Int} {l : List Int} {k : Nat} (h : k + 1 < l.length) : parts5 T (mrg l k) = mrg (parts5 T l) k := by
  have h2 : k + 1 < (parts5 T l).length := by rw [parts_len]; exact h
  have e : ∀ (a b : List Int), a.length = b.length → (∀ i, i < a.length → a.getD i 0 = b.getD i 0) → a = b := fun a b hl hi => List.ext_getElem hl fun i h1 h2 => by
    have := hi i h1
    rwa [List.getD_eq_getElem?_getD, List.getD_eq_getElem?_getD, List.getElem?_eq_getElem h1, List.getElem?_eq_getElem h2] at this
  refine e _ _ (by rw [parts_len, mrg_len h, mrg_len h2, parts_len]) fun i hi => ?_
  rw [parts_len, mrg_len h] at hi
  rw [parts_get _ _ _ (by rw [mrg_len h]; exact hi), mrg_get h2, mrg_part h i hi]
  by_cases c : i < k
  · rw [if_pos c, if_pos c, parts_get _ _ _ (by omega)]
  · rw [if_neg c, if_neg c]
    by_cases e : i = k
    · rw [if_pos e, if_pos e, parts_get _ _ _ (by omega), parts_get _ _ _ (by omega)]
    · rw [if_neg e, if_neg e, parts_get _ _ _ (by omega)]
theorem mrg_mem {l : List Int} {k : Nat} {B : Int} (h : k + 1 < l.length) (hl : ∀ x ∈ l, 0 ≤ x ∧ x ≤ B) : ∀ x ∈ mrg l k, 0 ≤ x ∧ x ≤ 2 * B := by
  intro x m
  unfold mrg at m
  rw [List.append_assoc, List.mem_append, List.singleton_append, List.mem_cons] at m
  rcases m with m | rfl | m
  · have := hl x (List.mem_of_mem_take m); omega
  · have := hl _ (getD_mem (show k < l.length by omega))
    have := hl _ (getD_mem h)
    omega
  · have := hl x (List.mem_of_mem_drop m); omega
/-- whole rounds: the exact share -/
theorem part_round {q : Int} {l : List Int} (hl : ∀ x ∈ l, 0 ≤ x) {i : Nat} (hi : i < l.length) : part5 (q * l.sum) l i = q * l.getD i 0 := by
  unfold part5 bnd
  split
  · rename_i z
    have a := sum_take_le hl i
    have b := sum_take_le hl (i + 1)
    have c := hl _ (getD_mem hi)
    rw [sum_take_succ l i hi] at b
    rw [show l.getD i 0 = 0 by omega, Int.mul_zero]
  · rename_i z
    have e : ∀ s : Int, q * l.sum * s / l.sum = q * s := fun s => by
      rw [Int.mul_right_comm, Int.mul_ediv_cancel _ z]
    rw [e, e, sum_take_succ l i hi, Int.mul_add]
    omega
end Go.Proofs.Ytlkpegfbnmecpaa
