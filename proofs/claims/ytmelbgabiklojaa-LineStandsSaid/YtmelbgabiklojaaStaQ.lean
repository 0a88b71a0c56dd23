/- Where small items of a line stand, program-free. -/
import Derived.Test.YtmelbgabiklojaaGreQ
import Derived.Test.YtmelbgabiklojaaLinO
import Derived.WalkKit
namespace Go.Proofs.Ytmelbgabiklojaa.Lin
set_option linter.unusedVariables false
set_option linter.unusedSimpArgs false
/-- the widths and spaces of the first k items of a line -/
def AS (l : List I4) (f : Nat) : Nat → Int
  | 0 => 0
  | k + 1 => AS l f k + (itm l (f + k)).1 + (itm l (f + k)).2.1
theorem AS_rng {l : List I4} (h : Sml l) (f : Nat) : ∀ k, 0 ≤ AS l f k ∧ AS l f k ≤ 131070 * (k : Int)
  | 0 => by rw [AS]; simp
  | k + 1 => by
    have := AS_rng h f k
    have := sml_itm h (f + k)
    rw [AS]; omega
theorem AS_wd (l : List I4) (f : Nat) : ∀ m, AS l f m + (itm l (f + m)).1 = wd l f (f + m + 1)
  | 0 => by rw [AS, Nat.add_zero, wd_one]; omega
  | m + 1 => by
    rw [show f + (m + 1) + 1 = (f + m + 1) + 1 by omega, wd_snoc l f (f + m + 1) (by omega), ← AS_wd l f m, AS]
    rw [show f + (m + 1) = f + m + 1 by omega, show f + m + 1 - 1 = f + m by omega]
/-- the gaps before the k-th item -/
def gF (d : Int) (m : Nat) (j : Bool) (k : Nat) : Int := if j then d * (k : Int) / (m : Int) else 0
theorem gF_zero (d : Int) (m : Nat) (j : Bool) : gF d m j 0 = 0 := by unfold gF; cases j <;> simp
theorem gF_mono {d : Int} {m : Nat} {j : Bool} (hd : j = true → 0 ≤ d) (k : Nat) : gF d m j k ≤ gF d m j (k + 1) := by
  unfold gF; cases j
  · exact Int.le_refl _
  · rw [if_pos rfl, if_pos rfl]
    have := hd rfl
    by_cases z : m = 0
    · subst z; simp
    · exact Int.ediv_le_ediv (by omega) (Int.mul_le_mul_of_nonneg_left (by omega) this)
theorem gF_rng {d : Int} {m : Nat} {j : Bool} (hd : j = true → 0 ≤ d) {k : Nat} (hk : k ≤ m) : 0 ≤ gF d m j k ∧ gF d m j k ≤ max d 0 := by
  unfold gF; cases j
  · simp; omega
  · rw [if_pos rfl]
    have h := hd rfl
    by_cases z : m = 0
    · subst z; simp; omega
    · have mp : (0 : Int) < (m : Int) := by omega
      have q : 0 ≤ d * (k : Int) := Int.mul_nonneg h (by omega)
      have r : d * (k : Int) ≤ d * (m : Int) := Int.mul_le_mul_of_nonneg_left (by omega) h
      refine ⟨Int.ediv_nonneg q (by omega), ?_⟩
      have : d * (k : Int) / (m : Int) ≤ d * (m : Int) / (m : Int) := Int.ediv_le_ediv mp r
      rw [Int.mul_ediv_cancel _ (by omega)] at this
      omega
theorem gF_all {d : Int} {m : Nat} (hm : m ≠ 0) : gF d m true m = d := by
  unfold gF; rw [if_pos rfl]; exact Int.mul_ediv_cancel _ (by omega)
/-- the place of the k-th item -/
def ov (l : List I4) (f m : Nat) (a0 d : Int) (j : Bool) (k : Nat) : Int := a0 + AS l f k + gF d m j k
def ovs (l : List I4) (f m : Nat) (a0 d : Int) (j : Bool) : List Int := (List.range (m + 1)).map (ov l f m a0 d j)
theorem ovs_get (l : List I4) (f m : Nat) (a0 d : Int) (j : Bool) {k : Nat} (hk : k ≤ m) : (ovs l f m a0 d j)[k]? = some (ov l f m a0 d j k) := by
  unfold ovs; rw [List.getElem?_map, List.getElem?_range (by omega)]; rfl
theorem offs_ovs {l : List I4} (hs : Sml l) (f m : Nat) (a0 d : Int) (j : Bool) (gs : List Int) (hm : m ≤ 40) (hg : ∀ i, i < m → gs.getD i 0 = gF d m j (i + 1) - gF d m j i) (h0 : -6000000 ≤ a0) (h1 : a0 ≤ 200000) (hd : j = true → 0 ≤ d) (hd1 : d ≤ 200000) :
    ∀ c i, i + c = m → offs l f gs c i (ov l f m a0 d j i) = some ((List.range' i (c + 1)).map (ov l f m a0 d j)) := by
  intro c
  induction c with
  | zero => intro i h; rfl
  | succ c ih =>
    intro i h
    have A := AS_rng hs f i
    have B := sml_itm hs (f + i)
    have G := gF_rng (d := d) (m := m) (j := j) hd (show i ≤ m by omega)
    have G1 := gF_rng (d := d) (m := m) (j := j) hd (show i + 1 ≤ m by omega)
    have e : adds (ov l f m a0 d j i) [(itm l (f + i)).1, (itm l (f + i)).2.1, gs.getD i 0] = some (ov l f m a0 d j (i + 1)) := by
      rw [hg i (by omega)]
      have q : ov l f m a0 d j (i + 1) = ov l f m a0 d j i + (itm l (f + i)).1 + (itm l (f + i)).2.1 + (gF d m j (i + 1) - gF d m j i) := by
        unfold ov; rw [AS]; omega
      have b0 : -6000000 ≤ ov l f m a0 d j i ∧ ov l f m a0 d j i ≤ 10000000 := by unfold ov; omega
      have b1 : -6000000 ≤ ov l f m a0 d j (i + 1) ∧ ov l f m a0 d j (i + 1) ≤ 10000000 := by
        have := AS_rng hs f (i + 1)
        unfold ov; omega
      rw [adds, if_pos (by omega), adds, if_pos (by omega), adds, if_pos (by omega), adds, q]
    rw [offs_some e, ih (i + 1) (by omega), Option.map_some, List.range'_succ (n := c + 1), List.map_cons]
theorem offs_all {l : List I4} (hs : Sml l) (f m : Nat) (a0 d : Int) (j : Bool) (gs : List Int) (hm : m ≤ 40) (hg : ∀ i, i < m → gs.getD i 0 = gF d m j (i + 1) - gF d m j i) (h0 : -6000000 ≤ a0) (h1 : a0 ≤ 200000) (hd : j = true → 0 ≤ d) (hd1 : d ≤ 200000) :
    offs l f gs m 0 a0 = some (ovs l f m a0 d j) := by
  have := offs_ovs hs f m a0 d j gs hm hg h0 h1 hd hd1 m 0 (by omega)
  rw [show ov l f m a0 d j 0 = a0 by unfold ov; rw [gF_zero, AS]; omega] at this
  rw [this]; unfold ovs; rw [List.range_eq_range']
theorem ov_zero (l : List I4) (f m : Nat) (a0 d : Int) (j : Bool) : ov l f m a0 d j 0 = a0 := by unfold ov; rw [gF_zero, AS]; omega
theorem ov_next {l : List I4} {f m : Nat} {a0 d : Int} {j : Bool} (hd : j = true → 0 ≤ d) (k : Nat) : ov l f m a0 d j k + (itm l (f + k)).1 + (itm l (f + k)).2.1 ≤ ov l f m a0 d j (k + 1) := by
  have := gF_mono (m := m) hd k
  unfold ov; rw [AS]; omega
theorem ov_end (l : List I4) (f m : Nat) (a0 d : Int) (j : Bool) : ov l f m a0 d j m + (itm l (f + m)).1 = a0 + wd l f (f + m + 1) + gF d m j m := by
  have := AS_wd l f m
  unfold ov; omega
/-- with more room, no item is nearer to the start -/
theorem ov_more {l : List I4} {f m : Nat} {a0 a1 d d1 : Int} {j j1 : Bool} (ha : a0 ≤ a1) (hd : d ≤ d1) (hj : j = true → 0 ≤ d ∧ j1 = true) (hj1 : j1 = true → 0 ≤ d1) {k : Nat} (hk : k ≤ m) : ov l f m a0 d j k ≤ ov l f m a1 d1 j1 k := by
  have : gF d m j k ≤ gF d1 m j1 k := by
    cases j
    · exact (gF_rng hj1 hk).1
    · obtain ⟨h0, rfl⟩ := hj rfl
      unfold gF; rw [if_pos rfl, if_pos rfl]
      by_cases z : m = 0
      · subst z; simp
      · exact Int.ediv_le_ediv (by omega) (Int.mul_le_mul_of_nonneg_right hd (by omega))
  unfold ov; omega
theorem indF_mono {d d1 t : Int} (h : d ≤ d1) : indF d t ≤ indF d1 t := by
  unfold indF; split
  · exact h
  · split <;> omega
end Go.Proofs.Ytmelbgabiklojaa.Lin
