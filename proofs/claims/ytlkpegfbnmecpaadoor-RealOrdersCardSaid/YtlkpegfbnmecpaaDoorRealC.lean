/- The reference's order of floats. -/
import Derived.Test.YtlkpegfbnmecpaaDoorRealB
import Derived.WalkKit
import Derived.WalkSpells
import Derived.WalkLawsBesides
import Derived.Handy
import Derived.Lib.Hide
import Derived.Outline
namespace Go.Proofs.YtlkpegfbnmecpaaDoor
open Go.RowKit Go.Proofs.Flo
set_option linter.unusedVariables false
set_option linter.unusedSimpArgs false
set_option maxRecDepth 100000
/-- the order of all floats, as the reference tells it -/
def cmpR (x y : Nat) : Int :=
  if nanB x || nanB y then (if nanB x && nanB y then 0 else if nanB x then 1 else -1)
  else if sgn x != sgn y then (if sgn x then -1 else 1)
  else if x < y then (if sgn x then 1 else -1) else if y < x then (if sgn x then -1 else 1) else 0
theorem sgn_word (x : Nat) (hx : x < 18446744073709551616) : x = (if sgn x then 9223372036854775808 else 0) + rung x := by
  unfold sgn rung
  by_cases h : x < 9223372036854775808
  · rw [show x / 9223372036854775808 % 2 = 0 by omega]
    simp; omega
  · rw [show x / 9223372036854775808 % 2 = 1 by omega]
    simp; omega
theorem cmpB_eq (x y : Nat) (hx : x < 18446744073709551616) (hy : y < 18446744073709551616) : cmpB x y = cmpR x y := by
  have wx := sgn_word x hx
  have wy := sgn_word y hy
  unfold cmpB cmpR befB key
  cases nanB x <;> cases nanB y <;> simp only [Bool.or_true, Bool.true_or, Bool.or_false, Bool.and_true, Bool.and_false, if_true, Bool.false_eq_true, if_false, Bool.or_self, Bool.and_self]
  · obtain ⟨r, hr⟩ : ∃ r, rung x = r := ⟨_, rfl⟩
    obtain ⟨q, hq⟩ : ∃ q, rung y = q := ⟨_, rfl⟩
    rw [hr] at wx ⊢
    rw [hq] at wy ⊢
    cases hs : sgn x <;> cases ht : sgn y <;> rw [hs] at wx <;> rw [ht] at wy <;> simp only [sg, if_true, Bool.false_eq_true, if_false, bne_self_eq_false, Bool.true_bne, Bool.false_bne, Bool.not_true, Bool.not_false, Bool.and_true, Bool.and_false, Bool.and_self] at wx wy ⊢
    all_goals
      by_cases c : r = q
      · subst c
        simp <;> omega
      · by_cases d : r < q
        · simp <;> (repeat' split) <;> omega
        · simp <;> (repeat' split) <;> omega
theorem kind_one (x : Nat) : (kindN x == 1) = nanB x := by
  unfold kindN
  cases nanB x
  · simp only [Bool.false_eq_true, if_false]
    split
    · rfl
    · split
      · rfl
      · split <;> rfl
  · rfl
theorem kind_same (x y : Nat) (h : (nanB x || nanB y) = true) : (kindN x == kindN y) = (nanB x && nanB y) := by
  have a := kind_one x
  have b := kind_one y
  cases hx : nanB x <;> cases hy : nanB y
  · rw [hx, hy] at h; cases h
  · rw [hx] at a; rw [hy] at b
    have b' : kindN y = 1 := by simpa using b
    rw [b', a]; rfl
  · rw [hx] at a; rw [hy] at b
    have a' : kindN x = 1 := by simpa using a
    have b' : kindN y ≠ 1 := by simpa using b
    rw [a']
    simp only [Bool.and_false]
    simpa using fun h => b' h.symm
  · rw [hx] at a; rw [hy] at b
    have a' : kindN x = 1 := by simpa using a
    have b' : kindN y = 1 := by simpa using b
    rw [a', b']; rfl
set_option maxHeartbeats 1000000 in
theorem cmp3_any (x y : Nat) (hx : x < 18446744073709551616) (hy : y < 18446744073709551616) (w : World) : Calls Tryd.prog 15 #[.int .u64 (x : Int), .int .u64 (y : Int)] w fun e w' => e = .returned (.int .i64 (cmpR x y)) ∧ w' = w := by
  have K1 := Lib.hid (kind3_any x hx)
  have K2 := Lib.hid (kind3_any y hy)
  have n1 := kind_one x
  have n2 := kind_one y
  have n3 := kind_same x y
  have CR : Hid (cmpR x y = if nanB x || nanB y then (if nanB x && nanB y then 0 else if nanB x then 1 else -1)
    else if sgn x != sgn y then (if sgn x then -1 else 1)
    else if x < y then (if sgn x then 1 else -1) else if y < x then (if sgn x then -1 else 1) else 0) := Lib.hid rfl
  have s1 : kindS x = if nanB x then false else sgn x := rfl
  have s2 : kindS y = if nanB y then false else sgn y := rfl
  obtain ⟨f1, h1⟩ : ∃ f, nanB x = f := ⟨_, rfl⟩
  obtain ⟨f2, h2⟩ : ∃ f, nanB y = f := ⟨_, rfl⟩
  obtain ⟨g1, h3⟩ : ∃ f, sgn x = f := ⟨_, rfl⟩
  obtain ⟨g2, h4⟩ : ∃ f, sgn y = f := ⟨_, rfl⟩
  rw [h1] at n1 n3 s1 CR
  rw [h2] at n2 n3 s2 CR
  rw [h3] at s1 CR
  rw [h4] at s2 CR
  rw [s1] at K1
  rw [s2] at K2
  obtain ⟨k, hk⟩ : ∃ k, kindN x = k := ⟨_, rfl⟩
  obtain ⟨l, hl⟩ : ∃ k, kindN y = k := ⟨_, rfl⟩
  rw [hk] at n1 n3 K1
  rw [hl] at n2 n3 K2
  clear s1 s2 h1 h2 h3 h4 hk hl
  cases f1 <;> cases f2
  · clear n3
    cases g1 <;> cases g2
    · skip
      by_cases c : x < y
      · have c' : (x : Int) < y := by omega
        have d' : ¬ (y : Int) < x := by omega
        have E : Hid (cmpR x y = -1) := Lib.hid (by rw [CR.out]; simp [*])
        clear CR
        go_enter Tryd.func15, Tryd.ntmps15
        go_wp2_with fail
        refine (K1.out _).mono ?_
        rintro e w1 ⟨rfl, rfl⟩
        go_wp2_with fail
        refine (K2.out _).mono ?_
        rintro e w1 ⟨rfl, rfl⟩
        go_wp2_with fail
        go_returns
        exact ⟨by rw [E.out]; rfl, rfl⟩
      · by_cases d : y < x
        · have c' : ¬ (x : Int) < y := by omega
          have d' : (y : Int) < x := by omega
          have E : Hid (cmpR x y = 1) := Lib.hid (by rw [CR.out]; simp [*])
          clear CR
          go_enter Tryd.func15, Tryd.ntmps15
          go_wp2_with fail
          refine (K1.out _).mono ?_
          rintro e w1 ⟨rfl, rfl⟩
          go_wp2_with fail
          refine (K2.out _).mono ?_
          rintro e w1 ⟨rfl, rfl⟩
          go_wp2_with fail
          go_returns
          exact ⟨by rw [E.out]; rfl, rfl⟩
        · have c' : ¬ (x : Int) < y := by omega
          have d' : ¬ (y : Int) < x := by omega
          have E : Hid (cmpR x y = 0) := Lib.hid (by rw [CR.out]; simp [*])
          clear CR
          go_enter Tryd.func15, Tryd.ntmps15
          go_wp2_with fail
          refine (K1.out _).mono ?_
          rintro e w1 ⟨rfl, rfl⟩
          go_wp2_with fail
          refine (K2.out _).mono ?_
          rintro e w1 ⟨rfl, rfl⟩
          go_wp2_with fail
          go_returns
          exact ⟨by rw [E.out]; rfl, rfl⟩
    · skip
      have E : Hid (cmpR x y = 1) := Lib.hid (by rw [CR.out]; simp [*])
      clear CR
      go_enter Tryd.func15, Tryd.ntmps15
      go_wp2_with fail
      refine (K1.out _).mono ?_
      rintro e w1 ⟨rfl, rfl⟩
      go_wp2_with fail
      refine (K2.out _).mono ?_
      rintro e w1 ⟨rfl, rfl⟩
      go_wp2_with fail
      go_returns
      exact ⟨by rw [E.out]; rfl, rfl⟩
    · skip
      have E : Hid (cmpR x y = -1) := Lib.hid (by rw [CR.out]; simp [*])
      clear CR
      go_enter Tryd.func15, Tryd.ntmps15
      go_wp2_with fail
      refine (K1.out _).mono ?_
      rintro e w1 ⟨rfl, rfl⟩
      go_wp2_with fail
      refine (K2.out _).mono ?_
      rintro e w1 ⟨rfl, rfl⟩
      go_wp2_with fail
      go_returns
      exact ⟨by rw [E.out]; rfl, rfl⟩
    · skip
      by_cases c : x < y
      · have c' : (x : Int) < y := by omega
        have d' : ¬ (y : Int) < x := by omega
        have E : Hid (cmpR x y = 1) := Lib.hid (by rw [CR.out]; simp [*])
        clear CR
        go_enter Tryd.func15, Tryd.ntmps15
        go_wp2_with fail
        refine (K1.out _).mono ?_
        rintro e w1 ⟨rfl, rfl⟩
        go_wp2_with fail
        refine (K2.out _).mono ?_
        rintro e w1 ⟨rfl, rfl⟩
        go_wp2_with fail
        go_returns
        exact ⟨by rw [E.out]; rfl, rfl⟩
      · by_cases d : y < x
        · have c' : ¬ (x : Int) < y := by omega
          have d' : (y : Int) < x := by omega
          have E : Hid (cmpR x y = -1) := Lib.hid (by rw [CR.out]; simp [*])
          clear CR
          go_enter Tryd.func15, Tryd.ntmps15
          go_wp2_with fail
          refine (K1.out _).mono ?_
          rintro e w1 ⟨rfl, rfl⟩
          go_wp2_with fail
          refine (K2.out _).mono ?_
          rintro e w1 ⟨rfl, rfl⟩
          go_wp2_with fail
          go_returns
          exact ⟨by rw [E.out]; rfl, rfl⟩
        · have c' : ¬ (x : Int) < y := by omega
          have d' : ¬ (y : Int) < x := by omega
          have E : Hid (cmpR x y = 0) := Lib.hid (by rw [CR.out]; simp [*])
          clear CR
          go_enter Tryd.func15, Tryd.ntmps15
          go_wp2_with fail
          refine (K1.out _).mono ?_
          rintro e w1 ⟨rfl, rfl⟩
          go_wp2_with fail
          refine (K2.out _).mono ?_
          rintro e w1 ⟨rfl, rfl⟩
          go_wp2_with fail
          go_returns
          exact ⟨by rw [E.out]; rfl, rfl⟩
  · have y3 := n3 rfl
    clear n3
    have E : Hid (cmpR x y = -1) := Lib.hid (by rw [CR.out]; simp [*])
    clear CR
    go_enter Tryd.func15, Tryd.ntmps15
    go_wp2_with fail
    refine (K1.out _).mono ?_
    rintro e w1 ⟨rfl, rfl⟩
    go_wp2_with fail
    refine (K2.out _).mono ?_
    rintro e w1 ⟨rfl, rfl⟩
    go_wp2_with fail
    go_returns
    exact ⟨by rw [E.out]; rfl, rfl⟩
  · have y3 := n3 rfl
    clear n3
    have E : Hid (cmpR x y = 1) := Lib.hid (by rw [CR.out]; simp [*])
    clear CR
    go_enter Tryd.func15, Tryd.ntmps15
    go_wp2_with fail
    refine (K1.out _).mono ?_
    rintro e w1 ⟨rfl, rfl⟩
    go_wp2_with fail
    refine (K2.out _).mono ?_
    rintro e w1 ⟨rfl, rfl⟩
    go_wp2_with fail
    go_returns
    exact ⟨by rw [E.out]; rfl, rfl⟩
  · have y3 := n3 rfl
    clear n3
    have E : Hid (cmpR x y = 0) := Lib.hid (by rw [CR.out]; simp [*])
    clear CR
    go_enter Tryd.func15, Tryd.ntmps15
    go_wp2_with fail
    refine (K1.out _).mono ?_
    rintro e w1 ⟨rfl, rfl⟩
    go_wp2_with fail
    refine (K2.out _).mono ?_
    rintro e w1 ⟨rfl, rfl⟩
    go_wp2_with fail
    go_returns
    exact ⟨by rw [E.out]; rfl, rfl⟩
end Go.Proofs.YtlkpegfbnmecpaaDoor
