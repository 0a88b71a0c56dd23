/- The order of floats: what RealOrders asks of it. -/
import Derived.Test.YtlkpegfbnmecpaaDoorRealC
namespace Go.Proofs.YtlkpegfbnmecpaaDoor
open Go.Proofs.Flo
set_option linter.unusedVariables false
set_option linter.unusedSimpArgs false
/-- a word's rank in the order of all floats: NaNs behind all -/
def rank (x : Nat) : Int := if nanB x then 9223372036854775808 else if sgn x then -(rung x : Int) - 1 else rung x
theorem rank_lt (x : Nat) (h : nanB x = false) : -9223372036854775808 ≤ rank x ∧ rank x < 9223372036854775808 := by
  have := rung_lt x
  unfold rank
  rw [h]
  simp only [Bool.false_eq_true, if_false]
  split <;> omega
theorem cmpR_rank (x y : Nat) (hx : x < 18446744073709551616) (hy : y < 18446744073709551616) : cmpR x y = if rank x < rank y then -1 else if rank y < rank x then 1 else 0 := by
  have wx := sgn_word x hx
  have wy := sgn_word y hy
  have bx := rung_lt x
  have bY := rung_lt y
  unfold cmpR rank
  cases nanB x <;> cases nanB y <;> simp only [Bool.or_true, Bool.true_or, Bool.or_false, Bool.and_true, Bool.and_false, if_true, Bool.false_eq_true, if_false, Bool.or_self, Bool.and_self]
  · cases hs : sgn x <;> cases ht : sgn y <;> rw [hs] at wx <;> rw [ht] at wy <;> simp only [if_true, Bool.false_eq_true, if_false, bne_self_eq_false, Bool.true_bne, Bool.false_bne, Bool.not_true, Bool.not_false] at wx wy ⊢ <;> (repeat' split) <;> omega
  · have : (if sgn x = true then -(rung x : Int) - 1 else (rung x : Int)) < 9223372036854775808 := by split <;> omega
    rw [if_pos this]
  · have : (if sgn y = true then -(rung y : Int) - 1 else (rung y : Int)) < 9223372036854775808 := by split <;> omega
    rw [if_neg (by omega), if_pos this]
  · simp
theorem rank_same (x y : Nat) (hx : x < 18446744073709551616) (hy : y < 18446744073709551616) : rank x = rank y ↔ (x = y ∨ (nanB x = true ∧ nanB y = true)) := by
  have wx := sgn_word x hx
  have wy := sgn_word y hy
  have bx := rung_lt x
  have bY := rung_lt y
  constructor
  · intro h
    cases nx : nanB x <;> cases ny : nanB y
    · left
      unfold rank at h
      rw [nx, ny] at h
      simp only [Bool.false_eq_true, if_false] at h
      cases hs : sgn x <;> cases ht : sgn y <;> rw [hs] at wx h <;> rw [ht] at wy h <;> simp only [if_true, Bool.false_eq_true, if_false] at wx wy h <;> omega
    · have := rank_lt x nx
      have e : rank y = 9223372036854775808 := by unfold rank; rw [ny]; rfl
      omega
    · have := rank_lt y ny
      have e : rank x = 9223372036854775808 := by unfold rank; rw [nx]; rfl
      omega
    · exact .inr ⟨rfl, rfl⟩
  · rintro (rfl | ⟨a, b⟩)
    · rfl
    · unfold rank; rw [a, b]; rfl
theorem cmpR_anti (x y : Nat) (hx : x < 18446744073709551616) (hy : y < 18446744073709551616) : cmpR x y = -cmpR y x := by
  rw [cmpR_rank x y hx hy, cmpR_rank y x hy hx]
  repeat' split
  all_goals omega
theorem cmpR_self (x : Nat) (hx : x < 18446744073709551616) : cmpR x x = 0 := by
  rw [cmpR_rank x x hx hx, if_neg (by omega), if_neg (by omega)]
theorem cmpR_trans (x y z : Nat) (hx : x < 18446744073709551616) (hy : y < 18446744073709551616) (hz : z < 18446744073709551616) (h : cmpR x y ≤ 0) (k : cmpR y z ≤ 0) : cmpR x z ≤ 0 := by
  rw [cmpR_rank x y hx hy] at h
  rw [cmpR_rank y z hy hz] at k
  rw [cmpR_rank x z hx hz]
  have a : rank x ≤ rank y := by
    by_cases c : rank y < rank x
    · rw [if_neg (by omega), if_pos c] at h; omega
    · omega
  have b : rank y ≤ rank z := by
    by_cases c : rank z < rank y
    · rw [if_neg (by omega), if_pos c] at k; omega
    · omega
  rw [if_neg (show ¬ rank z < rank x by omega)]
  split <;> omega
theorem cmpR_zero (x y : Nat) (hx : x < 18446744073709551616) (hy : y < 18446744073709551616) : (cmpR x y == 0) = ((x == y) || (nanB x && nanB y)) := by
  have h := rank_same x y hx hy
  rw [cmpR_rank x y hx hy]
  by_cases c : rank x = rank y
  · rw [if_neg (by omega), if_neg (by omega)]
    rcases h.1 c with e | ⟨a, b⟩
    · rw [e]; simp
    · rw [a, b]; simp
  · have n := fun e => c (h.2 e)
    have e1 : (x == y) = false := by simpa using fun e => n (.inl e)
    have e2 : (nanB x && nanB y) = false := by
      cases a : nanB x
      · rfl
      · cases b : nanB y
        · rfl
        · exact absurd (.inr ⟨a, b⟩) n
    rw [e1, e2]
    by_cases d : rank x < rank y
    · rw [if_pos d]; rfl
    · rw [if_neg d, if_pos (by omega)]; rfl
end Go.Proofs.YtlkpegfbnmecpaaDoor
