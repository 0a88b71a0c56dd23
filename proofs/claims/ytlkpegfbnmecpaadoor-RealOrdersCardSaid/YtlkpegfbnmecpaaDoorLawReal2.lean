/- The walk of RealOrders. -/
import Derived.Test.YtlkpegfbnmecpaaDoorSpk3c
import Derived.WalkKit
import Derived.WalkSpells
import Derived.WalkLawsBesides
import Derived.Handy
import Derived.Lib.Hide
import Derived.Outline
namespace Go.Proofs.YtlkpegfbnmecpaaDoor
open Go.RowKit Go.Proofs.Flo
set_option linter.unusedVariables false
set_option linter.unusedSimpArgs false
set_option maxRecDepth 100000
theorem cmpR_three (x y : Nat) (hx : x < 18446744073709551616) (hy : y < 18446744073709551616) : cmpR x y = -1 ∨ cmpR x y = 0 ∨ cmpR x y = 1 := by
  rw [cmpR_rank x y hx hy]
  split
  · exact .inl rfl
  · split
    · exact .inr (.inr rfl)
    · exact .inr (.inl rfl)
/-- of two numbers that aren't the same one: by the order of numbers -/
theorem cmpR_less (x y : Nat) (hx : x < 18446744073709551616) (hy : y < 18446744073709551616) (a : nanB x = false) (b : nanB y = false) (h : key x ≠ key y) : decide (cmpR x y < 0) = decide (key x < key y) := by
  have h' : ¬ key y = key x := fun e => h e.symm
  have b1 : befB x y = decide (key x < key y) := by unfold befB; rw [a, b, if_neg h]; rfl
  have b2 : befB y x = decide (key y < key x) := by unfold befB; rw [a, b, if_neg h']; rfl
  rw [← cmpB_eq x y hx hy]
  unfold cmpB
  rw [b1, b2]
  by_cases c : key x < key y
  · rw [decide_eq_true c]; rfl
  · rw [decide_eq_false c, decide_eq_true (show key y < key x by omega)]; rfl
set_option maxHeartbeats 4000000 in
theorem law_orders (x y z : Nat) (hx : x < 18446744073709551616) (hy : y < 18446744073709551616) (hz : z < 18446744073709551616) (w : World) (hD : Deb w) :
    Calls Tryd.prog 4 #[.int .u64 (x : Int), .int .u64 (y : Int), .int .u64 (z : Int)] w fun e w' => e = .returned (.bool true) ∧ Below w.heap.size w w' := by
  have HS := Lib.hid (speaks3_any w hD)
  have C1 := Lib.hid (kcmp_any x y hx hy)
  have C2 := Lib.hid (kcmp_any y z hy hz)
  have C3 := Lib.hid (kcmp_any y x hy hx)
  have C4 := Lib.hid (kcmp_any x x hx hx)
  have C5 := Lib.hid (kcmp_any x z hx hz)
  rw [cmpB_eq x y hx hy] at C1
  rw [cmpB_eq y z hy hz] at C2
  rw [cmpB_eq y x hy hx, cmpR_anti y x hy hx] at C3
  rw [cmpB_eq x x hx hx, cmpR_self x hx] at C4
  rw [cmpB_eq x z hx hz] at C5
  have T := Lib.hid (cmpR_trans x y z hx hy hz)
  have Z := cmpR_zero x y hx hy
  have L := Lib.hid (cmpR_less x y hx hy)
  have Q := Lib.hid (eql_key x y)
  have p3 := cmpR_three x y hx hy
  have q3 := cmpR_three y z hy hz
  have u3 := cmpR_three x z hx hz
  have e1 := neq_self x
  have e2 := neq_self y
  have ex : ((x : Int) == (y : Int)) = (x == y) := by
    by_cases c : x = y
    · subst c; simp
    · rw [show (x == y) = false by simpa using c]; simp; omega
  have r1 : ∀ w : World, (callFunc 12 #[.int .u64 (x : Int)]).run Tryd.prog w = .ok (.value (.float .f64 x)) w := fun w => run_frombits x w
  have r2 : ∀ w : World, (callFunc 12 #[.int .u64 (y : Int)]).run Tryd.prog w = .ok (.value (.float .f64 y)) w := fun w => run_frombits y w
  have r3 : ∀ w : World, (callFunc 12 #[.int .u64 (z : Int)]).run Tryd.prog w = .ok (.value (.float .f64 z)) w := fun w => run_frombits z w
  obtain ⟨p, hp⟩ : ∃ p, cmpR x y = p := ⟨_, rfl⟩
  obtain ⟨q, hq⟩ : ∃ q, cmpR y z = q := ⟨_, rfl⟩
  obtain ⟨u, hu⟩ : ∃ u, cmpR x z = u := ⟨_, rfl⟩
  obtain ⟨b, hb⟩ : ∃ b, (x == y) = b := ⟨_, rfl⟩
  obtain ⟨nx, hnx⟩ : ∃ b, nanB x = b := ⟨_, rfl⟩
  obtain ⟨ny, hny⟩ : ∃ b, nanB y = b := ⟨_, rfl⟩
  rw [hp] at C1 C3 T Z L p3
  rw [hq] at C2 T q3
  rw [hu] at C5 T u3
  rw [hb] at Z ex
  rw [hnx] at Z e1 L Q
  rw [hny] at Z e2 L Q
  have ZZ := Lib.hid Z
  clear hD hp hq hu hb hnx hny Z
  go_enter Tryd.func4, Tryd.ntmps4
  go_wp2_with fail
  refine HS.out.mono ?_
  rintro e w1 ⟨rfl, hb1⟩
  have K1 := Lib.hid hb1
  clear hb1
  go_wp2_with fail
  refine (C1.out _).mono ?_
  rintro e w2 ⟨rfl, rfl⟩
  go_wp2_with fail
  refine (C2.out _).mono ?_
  rintro e w3 ⟨rfl, rfl⟩
  go_wp2_with fail
  refine (C3.out _).mono ?_
  rintro e w4 ⟨rfl, rfl⟩
  have ZV := ZZ.out
  clear ZZ
  rcases p3 with rfl | rfl | rfl
  · cases b <;> cases nx <;> cases ny <;> first | (exact absurd ZV (by decide)) | skip
    · clear ZV
      obtain ⟨y1, y2, _⟩ := Q.out (by first | rfl | trivial) (by first | rfl | trivial)
      by_cases kk : key x = key y
      · rw [decide_eq_true kk] at y1
        clear y2 kk
        rcases q3 with rfl | rfl | rfl
        · have ul := T.out (by decide) (by decide)
          have u0 : decide (0 < u) = false := decide_eq_false (by omega)
          have u1 : ¬ 0 < u := by omega
          clear u3
          go_wp2_with fail
          refine (C4.out _).mono ?_
          rintro e w5 ⟨rfl, rfl⟩
          go_wp2_with fail
          refine (C5.out _).mono ?_
          rintro e w6 ⟨rfl, rfl⟩
          go_wp2_with fail
          go_returns
          exact ⟨rfl, K1.out⟩
        · have ul := T.out (by decide) (by decide)
          have u0 : decide (0 < u) = false := decide_eq_false (by omega)
          have u1 : ¬ 0 < u := by omega
          clear u3
          go_wp2_with fail
          refine (C4.out _).mono ?_
          rintro e w5 ⟨rfl, rfl⟩
          go_wp2_with fail
          refine (C5.out _).mono ?_
          rintro e w6 ⟨rfl, rfl⟩
          go_wp2_with fail
          go_returns
          exact ⟨rfl, K1.out⟩
        · go_wp2_with fail
          refine (C4.out _).mono ?_
          rintro e w5 ⟨rfl, rfl⟩
          go_wp2_with fail
          go_returns
          exact ⟨rfl, K1.out⟩
      · rw [decide_eq_false kk] at y1
        rw [← L.out (by first | rfl | trivial) (by first | rfl | trivial) kk] at y2
        clear kk
        rcases q3 with rfl | rfl | rfl
        · have ul := T.out (by decide) (by decide)
          have u0 : decide (0 < u) = false := decide_eq_false (by omega)
          have u1 : ¬ 0 < u := by omega
          clear u3
          go_wp2_with fail
          refine (C4.out _).mono ?_
          rintro e w5 ⟨rfl, rfl⟩
          go_wp2_with fail
          refine (C5.out _).mono ?_
          rintro e w6 ⟨rfl, rfl⟩
          go_wp2_with fail
          go_returns
          exact ⟨rfl, K1.out⟩
        · have ul := T.out (by decide) (by decide)
          have u0 : decide (0 < u) = false := decide_eq_false (by omega)
          have u1 : ¬ 0 < u := by omega
          clear u3
          go_wp2_with fail
          refine (C4.out _).mono ?_
          rintro e w5 ⟨rfl, rfl⟩
          go_wp2_with fail
          refine (C5.out _).mono ?_
          rintro e w6 ⟨rfl, rfl⟩
          go_wp2_with fail
          go_returns
          exact ⟨rfl, K1.out⟩
        · go_wp2_with fail
          refine (C4.out _).mono ?_
          rintro e w5 ⟨rfl, rfl⟩
          go_wp2_with fail
          go_returns
          exact ⟨rfl, K1.out⟩
    · clear ZV
      rcases q3 with rfl | rfl | rfl
      · have ul := T.out (by decide) (by decide)
        have u0 : decide (0 < u) = false := decide_eq_false (by omega)
        have u1 : ¬ 0 < u := by omega
        clear u3
        go_wp2_with fail
        refine (C4.out _).mono ?_
        rintro e w5 ⟨rfl, rfl⟩
        go_wp2_with fail
        refine (C5.out _).mono ?_
        rintro e w6 ⟨rfl, rfl⟩
        go_wp2_with fail
        go_returns
        exact ⟨rfl, K1.out⟩
      · have ul := T.out (by decide) (by decide)
        have u0 : decide (0 < u) = false := decide_eq_false (by omega)
        have u1 : ¬ 0 < u := by omega
        clear u3
        go_wp2_with fail
        refine (C4.out _).mono ?_
        rintro e w5 ⟨rfl, rfl⟩
        go_wp2_with fail
        refine (C5.out _).mono ?_
        rintro e w6 ⟨rfl, rfl⟩
        go_wp2_with fail
        go_returns
        exact ⟨rfl, K1.out⟩
      · go_wp2_with fail
        refine (C4.out _).mono ?_
        rintro e w5 ⟨rfl, rfl⟩
        go_wp2_with fail
        go_returns
        exact ⟨rfl, K1.out⟩
    · clear ZV
      rcases q3 with rfl | rfl | rfl
      · have ul := T.out (by decide) (by decide)
        have u0 : decide (0 < u) = false := decide_eq_false (by omega)
        have u1 : ¬ 0 < u := by omega
        clear u3
        go_wp2_with fail
        refine (C4.out _).mono ?_
        rintro e w5 ⟨rfl, rfl⟩
        go_wp2_with fail
        refine (C5.out _).mono ?_
        rintro e w6 ⟨rfl, rfl⟩
        go_wp2_with fail
        go_returns
        exact ⟨rfl, K1.out⟩
      · have ul := T.out (by decide) (by decide)
        have u0 : decide (0 < u) = false := decide_eq_false (by omega)
        have u1 : ¬ 0 < u := by omega
        clear u3
        go_wp2_with fail
        refine (C4.out _).mono ?_
        rintro e w5 ⟨rfl, rfl⟩
        go_wp2_with fail
        refine (C5.out _).mono ?_
        rintro e w6 ⟨rfl, rfl⟩
        go_wp2_with fail
        go_returns
        exact ⟨rfl, K1.out⟩
      · go_wp2_with fail
        refine (C4.out _).mono ?_
        rintro e w5 ⟨rfl, rfl⟩
        go_wp2_with fail
        go_returns
        exact ⟨rfl, K1.out⟩
  · cases b <;> cases nx <;> cases ny <;> first | (exact absurd ZV (by decide)) | skip
    · clear ZV
      rcases q3 with rfl | rfl | rfl
      · have ul := T.out (by decide) (by decide)
        have u0 : decide (0 < u) = false := decide_eq_false (by omega)
        have u1 : ¬ 0 < u := by omega
        clear u3
        go_wp2_with fail
        refine (C4.out _).mono ?_
        rintro e w5 ⟨rfl, rfl⟩
        go_wp2_with fail
        refine (C5.out _).mono ?_
        rintro e w6 ⟨rfl, rfl⟩
        go_wp2_with fail
        go_returns
        exact ⟨rfl, K1.out⟩
      · have ul := T.out (by decide) (by decide)
        have u0 : decide (0 < u) = false := decide_eq_false (by omega)
        have u1 : ¬ 0 < u := by omega
        clear u3
        go_wp2_with fail
        refine (C4.out _).mono ?_
        rintro e w5 ⟨rfl, rfl⟩
        go_wp2_with fail
        refine (C5.out _).mono ?_
        rintro e w6 ⟨rfl, rfl⟩
        go_wp2_with fail
        go_returns
        exact ⟨rfl, K1.out⟩
      · go_wp2_with fail
        refine (C4.out _).mono ?_
        rintro e w5 ⟨rfl, rfl⟩
        go_wp2_with fail
        go_returns
        exact ⟨rfl, K1.out⟩
    · clear ZV
      obtain ⟨y1, y2, _⟩ := Q.out (by first | rfl | trivial) (by first | rfl | trivial)
      by_cases kk : key x = key y
      · rw [decide_eq_true kk] at y1
        clear y2 kk
        rcases q3 with rfl | rfl | rfl
        · have ul := T.out (by decide) (by decide)
          have u0 : decide (0 < u) = false := decide_eq_false (by omega)
          have u1 : ¬ 0 < u := by omega
          clear u3
          go_wp2_with fail
          refine (C4.out _).mono ?_
          rintro e w5 ⟨rfl, rfl⟩
          go_wp2_with fail
          refine (C5.out _).mono ?_
          rintro e w6 ⟨rfl, rfl⟩
          go_wp2_with fail
          go_returns
          exact ⟨rfl, K1.out⟩
        · have ul := T.out (by decide) (by decide)
          have u0 : decide (0 < u) = false := decide_eq_false (by omega)
          have u1 : ¬ 0 < u := by omega
          clear u3
          go_wp2_with fail
          refine (C4.out _).mono ?_
          rintro e w5 ⟨rfl, rfl⟩
          go_wp2_with fail
          refine (C5.out _).mono ?_
          rintro e w6 ⟨rfl, rfl⟩
          go_wp2_with fail
          go_returns
          exact ⟨rfl, K1.out⟩
        · go_wp2_with fail
          refine (C4.out _).mono ?_
          rintro e w5 ⟨rfl, rfl⟩
          go_wp2_with fail
          go_returns
          exact ⟨rfl, K1.out⟩
      · rw [decide_eq_false kk] at y1
        rw [← L.out (by first | rfl | trivial) (by first | rfl | trivial) kk] at y2
        clear kk
        rcases q3 with rfl | rfl | rfl
        · have ul := T.out (by decide) (by decide)
          have u0 : decide (0 < u) = false := decide_eq_false (by omega)
          have u1 : ¬ 0 < u := by omega
          clear u3
          go_wp2_with fail
          refine (C4.out _).mono ?_
          rintro e w5 ⟨rfl, rfl⟩
          go_wp2_with fail
          refine (C5.out _).mono ?_
          rintro e w6 ⟨rfl, rfl⟩
          go_wp2_with fail
          go_returns
          exact ⟨rfl, K1.out⟩
        · have ul := T.out (by decide) (by decide)
          have u0 : decide (0 < u) = false := decide_eq_false (by omega)
          have u1 : ¬ 0 < u := by omega
          clear u3
          go_wp2_with fail
          refine (C4.out _).mono ?_
          rintro e w5 ⟨rfl, rfl⟩
          go_wp2_with fail
          refine (C5.out _).mono ?_
          rintro e w6 ⟨rfl, rfl⟩
          go_wp2_with fail
          go_returns
          exact ⟨rfl, K1.out⟩
        · go_wp2_with fail
          refine (C4.out _).mono ?_
          rintro e w5 ⟨rfl, rfl⟩
          go_wp2_with fail
          go_returns
          exact ⟨rfl, K1.out⟩
    · clear ZV
      rcases q3 with rfl | rfl | rfl
      · have ul := T.out (by decide) (by decide)
        have u0 : decide (0 < u) = false := decide_eq_false (by omega)
        have u1 : ¬ 0 < u := by omega
        clear u3
        go_wp2_with fail
        refine (C4.out _).mono ?_
        rintro e w5 ⟨rfl, rfl⟩
        go_wp2_with fail
        refine (C5.out _).mono ?_
        rintro e w6 ⟨rfl, rfl⟩
        go_wp2_with fail
        go_returns
        exact ⟨rfl, K1.out⟩
      · have ul := T.out (by decide) (by decide)
        have u0 : decide (0 < u) = false := decide_eq_false (by omega)
        have u1 : ¬ 0 < u := by omega
        clear u3
        go_wp2_with fail
        refine (C4.out _).mono ?_
        rintro e w5 ⟨rfl, rfl⟩
        go_wp2_with fail
        refine (C5.out _).mono ?_
        rintro e w6 ⟨rfl, rfl⟩
        go_wp2_with fail
        go_returns
        exact ⟨rfl, K1.out⟩
      · go_wp2_with fail
        refine (C4.out _).mono ?_
        rintro e w5 ⟨rfl, rfl⟩
        go_wp2_with fail
        go_returns
        exact ⟨rfl, K1.out⟩
    · clear ZV
      rcases q3 with rfl | rfl | rfl
      · have ul := T.out (by decide) (by decide)
        have u0 : decide (0 < u) = false := decide_eq_false (by omega)
        have u1 : ¬ 0 < u := by omega
        clear u3
        go_wp2_with fail
        refine (C4.out _).mono ?_
        rintro e w5 ⟨rfl, rfl⟩
        go_wp2_with fail
        refine (C5.out _).mono ?_
        rintro e w6 ⟨rfl, rfl⟩
        go_wp2_with fail
        go_returns
        exact ⟨rfl, K1.out⟩
      · have ul := T.out (by decide) (by decide)
        have u0 : decide (0 < u) = false := decide_eq_false (by omega)
        have u1 : ¬ 0 < u := by omega
        clear u3
        go_wp2_with fail
        refine (C4.out _).mono ?_
        rintro e w5 ⟨rfl, rfl⟩
        go_wp2_with fail
        refine (C5.out _).mono ?_
        rintro e w6 ⟨rfl, rfl⟩
        go_wp2_with fail
        go_returns
        exact ⟨rfl, K1.out⟩
      · go_wp2_with fail
        refine (C4.out _).mono ?_
        rintro e w5 ⟨rfl, rfl⟩
        go_wp2_with fail
        go_returns
        exact ⟨rfl, K1.out⟩
    · clear ZV
      rcases q3 with rfl | rfl | rfl
      · have ul := T.out (by decide) (by decide)
        have u0 : decide (0 < u) = false := decide_eq_false (by omega)
        have u1 : ¬ 0 < u := by omega
        clear u3
        go_wp2_with fail
        refine (C4.out _).mono ?_
        rintro e w5 ⟨rfl, rfl⟩
        go_wp2_with fail
        refine (C5.out _).mono ?_
        rintro e w6 ⟨rfl, rfl⟩
        go_wp2_with fail
        go_returns
        exact ⟨rfl, K1.out⟩
      · have ul := T.out (by decide) (by decide)
        have u0 : decide (0 < u) = false := decide_eq_false (by omega)
        have u1 : ¬ 0 < u := by omega
        clear u3
        go_wp2_with fail
        refine (C4.out _).mono ?_
        rintro e w5 ⟨rfl, rfl⟩
        go_wp2_with fail
        refine (C5.out _).mono ?_
        rintro e w6 ⟨rfl, rfl⟩
        go_wp2_with fail
        go_returns
        exact ⟨rfl, K1.out⟩
      · go_wp2_with fail
        refine (C4.out _).mono ?_
        rintro e w5 ⟨rfl, rfl⟩
        go_wp2_with fail
        go_returns
        exact ⟨rfl, K1.out⟩
  · cases b <;> cases nx <;> cases ny <;> first | (exact absurd ZV (by decide)) | skip
    · clear ZV
      obtain ⟨y1, y2, _⟩ := Q.out (by first | rfl | trivial) (by first | rfl | trivial)
      by_cases kk : key x = key y
      · rw [decide_eq_true kk] at y1
        clear y2 kk
        go_wp2_with fail
        refine (C4.out _).mono ?_
        rintro e w5 ⟨rfl, rfl⟩
        go_wp2_with fail
        go_returns
        exact ⟨rfl, K1.out⟩
      · rw [decide_eq_false kk] at y1
        rw [← L.out (by first | rfl | trivial) (by first | rfl | trivial) kk] at y2
        clear kk
        go_wp2_with fail
        refine (C4.out _).mono ?_
        rintro e w5 ⟨rfl, rfl⟩
        go_wp2_with fail
        go_returns
        exact ⟨rfl, K1.out⟩
    · clear ZV
      go_wp2_with fail
      refine (C4.out _).mono ?_
      rintro e w5 ⟨rfl, rfl⟩
      go_wp2_with fail
      go_returns
      exact ⟨rfl, K1.out⟩
    · clear ZV
      go_wp2_with fail
      refine (C4.out _).mono ?_
      rintro e w5 ⟨rfl, rfl⟩
      go_wp2_with fail
      go_returns
      exact ⟨rfl, K1.out⟩
end Go.Proofs.YtlkpegfbnmecpaaDoor
