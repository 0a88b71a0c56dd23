/- Packages style and words: the small functions, and the reference's. -/
import Derived.Test.YtjemnjboopabpaaDoorValQ
import Derived.Test.YtjemnjboopabpaaDoorArrM
import Derived.WalkKit
import Derived.WalkSpells
import Derived.WalkLawsBesides
import Derived.Handy
import Derived.Lib.Hide
import Derived.LoopTactic
import Derived.Outline
namespace Go.Proofs.YtjemnjboopabpaaDoor
open Go.RowKit Go.Proofs.Flo Go.Proofs.Reg Go.Proofs.Arr
set_option linter.unusedVariables false
set_option linter.unusedSimpArgs false
set_option maxRecDepth 100000
theorem wcounted_any (x : Nat) (hx : x < 18446744073709551616) (w : World) (hD : Deb w) :
    Calls Tryd.prog 54 #[.float .f64 x] w fun e w' => e = .returned (.tuple #[.int .i64 (gridN x 64 0 1073741824), .int .i64 (gridE x 64 0 1073741824)]) ∧ Below w.heap.size w w' := by
  have G := Lib.hid (kgrid_any x 64 0 1073741824 hx (by decide) (by decide) w hD)
  obtain ⟨n, hn⟩ : ∃ n, gridN x 64 0 1073741824 = n := ⟨_, rfl⟩
  obtain ⟨er, he⟩ : ∃ n, gridE x 64 0 1073741824 = n := ⟨_, rfl⟩
  rw [hn, he] at G ⊢
  clear hn he hD
  go_enter Tryd.func54, Tryd.ntmps54
  go_wp2_with fail
  refine G.out.mono ?_
  rintro e w1 ⟨rfl, hb⟩
  have KB := Lib.hid hb
  clear hb
  go_wp2_with fail
  go_returns
  exact ⟨rfl, KB.out⟩
/-- a number of a style, as its row of the table has it -/
def cntN (x : Nat) (p lo hi : Int) (m : Bool) (fn : Int) : Int := if m && nanB x then fn else gridN x p lo hi
def cntE (x : Nat) (p lo hi : Int) (m : Bool) : Int := if m && nanB x then 0 else gridE x p lo hi
set_option maxHeartbeats 1000000 in
theorem scount_any (x : Nat) (hx : x < 18446744073709551616) (p lo hi fn : Int) (m : Bool) (a0 : -9223372036854775808 ≤ lo) (a2 : hi ≤ 9223372036854775807) (w : World) (hD : Deb w) :
    Calls Tryd.prog 57 #[.float .f64 x, .agg #[.int .i64 p, .int .i64 lo, .int .i64 hi, .bool m, .int .i64 fn]] w fun e w' => e = .returned (.tuple #[.int .i64 (cntN x p lo hi m fn), .int .i64 (cntE x p lo hi m)]) ∧ Below w.heap.size w w' := by
  have G := Lib.hid (fun w h => kgrid_any x p lo hi hx a0 a2 w h)
  have HD := Lib.hid hD
  have NA := Lib.hid (isnan_any x)
  unfold cntN cntE
  obtain ⟨n, hn⟩ : ∃ n, gridN x p lo hi = n := ⟨_, rfl⟩
  obtain ⟨er, he⟩ : ∃ n, gridE x p lo hi = n := ⟨_, rfl⟩
  obtain ⟨b, hb⟩ : ∃ n, nanB x = n := ⟨_, rfl⟩
  rw [hn, he] at G
  rw [hn, he, hb]
  rw [hb] at NA
  clear hn he hb hD
  cases m
  · simp only [Bool.false_and, Bool.false_eq_true, if_false]
    go_enter Tryd.func57, Tryd.ntmps57
    go_wp2_with fail
    refine (G.out _ (HD.out.later (by go_grown))).mono ?_
    rintro e w1 ⟨rfl, hb⟩
    have KB := Lib.hid (show Below w.heap.size w w1 from bel_tr0 (by go_grown) hb)
    clear hb
    go_wp2_with fail
    go_returns
    exact ⟨rfl, KB.out⟩
  · cases b
    · simp only [Bool.true_and, Bool.false_eq_true, if_false]
      go_enter Tryd.func57, Tryd.ntmps57
      go_wp2_with fail
      refine (NA.out _).mono ?_
      rintro e w1 ⟨rfl, rfl⟩
      go_wp2_with fail
      refine (G.out _ (HD.out.later (by go_grown))).mono ?_
      rintro e w1 ⟨rfl, hb⟩
      have KB := Lib.hid (show Below w.heap.size w w1 from bel_tr0 (by go_grown) hb)
      clear hb
      go_wp2_with fail
      go_returns
      exact ⟨rfl, KB.out⟩
    · simp only [Bool.true_and, if_true]
      go_enter Tryd.func57, Tryd.ntmps57
      go_wp2_with fail
      refine (NA.out _).mono ?_
      rintro e w1 ⟨rfl, rfl⟩
      go_wp2_with fail
      go_returns
      exact ⟨rfl, by go_grown⟩
/-- what is permitted for the lengths -/
def mayN (i : Nat) : Nat := if i = 4 ∨ i = 5 then 6 else if (6 ≤ i ∧ i ≤ 9) ∨ (14 ≤ i ∧ i ≤ 17) then 13 else if 10 ≤ i ∧ i ≤ 13 then 4 else 5
theorem mayN_lt (i : Nat) : mayN i < 256 := by unfold mayN; split <;> (try split) <;> (try split) <;> decide
theorem cases19 {i : Nat} (h : i < 19) : i = 0 ∨ i = 1 ∨ i = 2 ∨ i = 3 ∨ i = 4 ∨ i = 5 ∨ i = 6 ∨ i = 7 ∨ i = 8 ∨ i = 9 ∨ i = 10 ∨ i = 11 ∨ i = 12 ∨ i = 13 ∨ i = 14 ∨ i = 15 ∨ i = 16 ∨ i = 17 ∨ i = 18 := by omega
theorem cases12 {i : Nat} (h : i < 12) : i = 0 ∨ i = 1 ∨ i = 2 ∨ i = 3 ∨ i = 4 ∨ i = 5 ∨ i = 6 ∨ i = 7 ∨ i = 8 ∨ i = 9 ∨ i = 10 ∨ i = 11 := by omega
theorem cases10 {i : Nat} (h : i < 10) : i = 0 ∨ i = 1 ∨ i = 2 ∨ i = 3 ∨ i = 4 ∨ i = 5 ∨ i = 6 ∨ i = 7 ∨ i = 8 ∨ i = 9 := by omega
set_option maxHeartbeats 2000000 in
theorem r11may_any (i : Nat) (h : i < 19) (w : World) : Calls Tryd.prog 37 #[.int .i64 (i : Int)] w fun e w' => e = .returned (.int .i64 (mayN i : Nat)) ∧ Below w.heap.size w w' := by
  rcases cases19 h with rfl | rfl | rfl | rfl | rfl | rfl | rfl | rfl | rfl | rfl | rfl | rfl | rfl | rfl | rfl | rfl | rfl | rfl | rfl
  all_goals
    clear h
    go_enter Tryd.func37, Tryd.ntmps37
    go_wp2_with fail
    go_returns
    exact ⟨by rfl, Below.refl _ _⟩
/-- the numbers' limits -/
def parN (i : Nat) : Int := if i = 4 then 1 else if i = 5 ∨ i = 6 then 4096 else 64
def lowN (i : Nat) : Int := if i = 4 then -1000 else 0
def highN (i : Nat) : Int := if i = 4 then 1000 else if i = 5 ∨ i = 6 then 4096000 else 1073741824
def nanN (i : Nat) : Bool := decide (i = 4 ∨ i = 9)
def fornN (i : Nat) : Int := if i = 9 then 1280 else 0
def numN (i : Nat) (x : Nat) : Int := cntN x (parN i) (lowN i) (highN i) (nanN i) (fornN i)
def numE (i : Nat) (x : Nat) : Int := cntE x (parN i) (lowN i) (highN i) (nanN i)
theorem kind_not1 {x : Nat} (nn : nanB x = false) : (kindN x == 1) = false := by
  unfold kindN
  rw [nn]
  simp only [Bool.false_eq_true, if_false]
  split
  · rfl
  · split
    · rfl
    · split <;> rfl
theorem num_ok {x : Nat} (nn : nanB x = false) (i : Nat) : numN i x = gridN x (parN i) (lowN i) (highN i) ∧ numE i x = gridE x (parN i) (lowN i) (highN i) := by
  unfold numN numE cntN cntE
  rw [nn, Bool.and_false]
  exact ⟨rfl, rfl⟩
theorem num_nan {x : Nat} (nn : nanB x = true) (i : Nat) : (nanN i = true → numN i x = fornN i ∧ numE i x = 0) ∧ (nanN i = false → numN i x = gridN x (parN i) (lowN i) (highN i) ∧ numE i x = gridE x (parN i) (lowN i) (highN i)) := by
  unfold numN numE cntN cntE
  rw [nn, Bool.and_true]
  constructor <;> intro h <;> rw [h] <;> exact ⟨rfl, rfl⟩
theorem num_groups {i : Nat} (h : i < 10) : (parN i = 64 ∧ lowN i = 0 ∧ highN i = 1073741824 ∧ ((nanN i = false ∧ (i = 0 ∨ i = 1 ∨ i = 2 ∨ i = 3 ∨ i = 7 ∨ i = 8)) ∨ i = 9)) ∨ (parN i = 4096 ∧ lowN i = 0 ∧ highN i = 4096000 ∧ nanN i = false ∧ (i = 5 ∨ i = 6)) ∨ i = 4 := by
  rcases cases10 h with rfl | rfl | rfl | rfl | rfl | rfl | rfl | rfl | rfl | rfl <;> decide
/-- what holds where Grid answers -/
theorem r11num_grid (i : Nat) (h : i < 10) (x : Nat) (hx : x < 18446744073709551616) (nn : nanB x = false ∨ nanN i = false) (w : World) :
    Calls Tryd.prog 38 #[.int .i64 (i : Int), .int .u64 (x : Int)] w fun e w' => e = .returned (.tuple #[.int .i64 (numN i x), .int .i64 (numE i x)]) ∧ Below w.heap.size w w' := by
  have K := Lib.hid (kind3_any x hx)
  have G := Lib.hid (fun p lo hi a b c d w => r3grid_any x p lo hi hx a b c d w)
  have E : numN i x = gridN x (parN i) (lowN i) (highN i) ∧ numE i x = gridE x (parN i) (lowN i) (highN i) := by
    rcases nn with nn | nn
    · exact num_ok nn i
    · cases nx : nanB x
      · exact num_ok nx i
      · exact (num_nan nx i).2 nn
  obtain ⟨kk, hk⟩ : ∃ k, kindN x = k := ⟨_, rfl⟩
  obtain ⟨ks, hs⟩ : ∃ k, kindS x = k := ⟨_, rfl⟩
  have k1 : (kk == 1) = false ∨ (kk = 1 ∧ nanN i = false) := by
    rcases nn with nn | nn
    · rw [← hk]; exact .inl (kind_not1 nn)
    · by_cases e : kk = 1
      · exact .inr ⟨e, nn⟩
      · exact .inl (by simpa using e)
  rw [hk, hs] at K
  rw [E.1, E.2]
  clear E hk hs nn
  rcases num_groups h with ⟨e1, e2, e3, g⟩ | ⟨e1, e2, e3, e4, g⟩ | rfl
  · rw [e1, e2, e3]
    have G := Lib.hid (fun w => G.out 64 0 1073741824 (by decide) (by decide) (by decide) (by decide) w)
    obtain ⟨n, hn⟩ : ∃ n, gridN x 64 0 1073741824 = n := ⟨_, rfl⟩
    obtain ⟨er, he⟩ : ∃ n, gridE x 64 0 1073741824 = n := ⟨_, rfl⟩
    rw [hn, he] at G ⊢
    clear hn he e1 e2 e3 h
    rcases g with ⟨e4, g⟩ | rfl
    · rcases k1 with k1 | ⟨rfl, _⟩
      · clear e4
        rcases g with rfl | rfl | rfl | rfl | rfl | rfl
        all_goals
          go_enter Tryd.func38, Tryd.ntmps38
          go_wp2_with fail
          refine (K.out _).mono ?_
          rintro e w1 ⟨rfl, hw⟩
          obtain rfl := hw.symm
          clear hw
          go_wp2_with fail
          refine (G.out _).mono ?_
          rintro e w2 ⟨rfl, hb⟩
          have KC := Lib.hid hb
          clear hb
          go_wp2_with fail
          go_returns
          exact ⟨rfl, KC.out⟩
      · clear e4
        rcases g with rfl | rfl | rfl | rfl | rfl | rfl
        all_goals
          go_enter Tryd.func38, Tryd.ntmps38
          go_wp2_with fail
          refine (K.out _).mono ?_
          rintro e w1 ⟨rfl, hw⟩
          obtain rfl := hw.symm
          clear hw
          go_wp2_with fail
          refine (G.out _).mono ?_
          rintro e w2 ⟨rfl, hb⟩
          have KC := Lib.hid hb
          clear hb
          go_wp2_with fail
          go_returns
          exact ⟨rfl, KC.out⟩
    · rcases k1 with k1 | ⟨_, k1⟩
      · go_enter Tryd.func38, Tryd.ntmps38
        go_wp2_with fail
        refine (K.out _).mono ?_
        rintro e w1 ⟨rfl, hw⟩
        obtain rfl := hw.symm
        clear hw
        go_wp2_with fail
        refine (G.out _).mono ?_
        rintro e w2 ⟨rfl, hb⟩
        have KC := Lib.hid hb
        clear hb
        go_wp2_with fail
        go_returns
        exact ⟨rfl, KC.out⟩
      · exact absurd k1 (by decide)
  · rw [e1, e2, e3]
    have G := Lib.hid (fun w => G.out 4096 0 4096000 (by decide) (by decide) (by decide) (by decide) w)
    obtain ⟨n, hn⟩ : ∃ n, gridN x 4096 0 4096000 = n := ⟨_, rfl⟩
    obtain ⟨er, he⟩ : ∃ n, gridE x 4096 0 4096000 = n := ⟨_, rfl⟩
    rw [hn, he] at G ⊢
    clear hn he e1 e2 e3 e4 h
    rcases k1 with k1 | ⟨rfl, _⟩
    all_goals
      rcases g with rfl | rfl
      all_goals
        go_enter Tryd.func38, Tryd.ntmps38
        go_wp2_with fail
        refine (K.out _).mono ?_
        rintro e w1 ⟨rfl, hw⟩
        obtain rfl := hw.symm
        clear hw
        go_wp2_with fail
        refine (G.out _).mono ?_
        rintro e w2 ⟨rfl, hb⟩
        have KC := Lib.hid hb
        clear hb
        go_wp2_with fail
        go_returns
        exact ⟨rfl, KC.out⟩
  · rw [show parN 4 = 1 from rfl, show lowN 4 = -1000 from rfl, show highN 4 = 1000 from rfl]
    have G := Lib.hid (fun w => G.out 1 (-1000) 1000 (by decide) (by decide) (by decide) (by decide) w)
    obtain ⟨n, hn⟩ : ∃ n, gridN x 1 (-1000) 1000 = n := ⟨_, rfl⟩
    obtain ⟨er, he⟩ : ∃ n, gridE x 1 (-1000) 1000 = n := ⟨_, rfl⟩
    rw [hn, he] at G ⊢
    clear hn he h
    rcases k1 with k1 | ⟨_, k1⟩
    · go_enter Tryd.func38, Tryd.ntmps38
      go_wp2_with fail
      refine (K.out _).mono ?_
      rintro e w1 ⟨rfl, hw⟩
      obtain rfl := hw.symm
      clear hw
      go_wp2_with fail
      refine (G.out _).mono ?_
      rintro e w2 ⟨rfl, hb⟩
      have KC := Lib.hid hb
      clear hb
      go_wp2_with fail
      go_returns
      exact ⟨rfl, KC.out⟩
    · exact absurd k1 (by decide)
theorem r11num_nan (i : Nat) (h : i = 4 ∨ i = 9) (x : Nat) (hx : x < 18446744073709551616) (nn : nanB x = true) (w : World) :
    Calls Tryd.prog 38 #[.int .i64 (i : Int), .int .u64 (x : Int)] w fun e w' => e = .returned (.tuple #[.int .i64 (numN i x), .int .i64 (numE i x)]) ∧ Below w.heap.size w w' := by
  have K := Lib.hid (kind3_any x hx)
  obtain ⟨k1, k2⟩ := kind_nan nn
  rw [k1, k2] at K
  obtain ⟨p1, p2⟩ := (num_nan nn i).1 (by rcases h with rfl | rfl <;> decide)
  rw [p1, p2]
  clear k1 k2 p1 p2 nn
  rcases h with rfl | rfl
  · show Calls _ _ _ w fun e w' => e = .returned (.tuple #[.int .i64 0, .int .i64 0]) ∧ Below w.heap.size w w'
    go_enter Tryd.func38, Tryd.ntmps38
    go_wp2_with fail
    refine (K.out _).mono ?_
    rintro e w1 ⟨rfl, hw⟩
    obtain rfl := hw.symm
    clear hw
    go_wp2_with fail
    go_returns
    exact ⟨rfl, Below.refl _ _⟩
  · show Calls _ _ _ w fun e w' => e = .returned (.tuple #[.int .i64 1280, .int .i64 0]) ∧ Below w.heap.size w w'
    go_enter Tryd.func38, Tryd.ntmps38
    go_wp2_with fail
    refine (K.out _).mono ?_
    rintro e w1 ⟨rfl, hw⟩
    obtain rfl := hw.symm
    clear hw
    go_wp2_with fail
    go_returns
    exact ⟨rfl, Below.refl _ _⟩
theorem r11number_any (i : Nat) (h : i < 10) (x : Nat) (hx : x < 18446744073709551616) (w : World) :
    Calls Tryd.prog 38 #[.int .i64 (i : Int), .int .u64 (x : Int)] w fun e w' => e = .returned (.tuple #[.int .i64 (numN i x), .int .i64 (numE i x)]) ∧ Below w.heap.size w w' := by
  by_cases a : i = 4 ∨ i = 9
  · cases nn : nanB x
    · exact r11num_grid i h x hx (.inl nn) w
    · exact r11num_nan i a x hx nn w
  · exact r11num_grid i h x hx (.inr (by unfold nanN; exact decide_eq_false a)) w
/-- the words' limits -/
def wlow (i : Nat) : Int := if i = 4 then -1000 else if i = 9 then 0 else 1
def whigh (i : Nat) : Int := [4, 3, 3, 2, 1000, 4, 3, 6, 4, 4, 7, 4].getD i 0
def wordB (i : Nat) (n : Int) : Bool := decide (wlow i ≤ n) && decide (n ≤ whigh i)
set_option maxHeartbeats 8000000 in
theorem r11word_any (i : Nat) (h : i < 12) (n : Int) (w : World) :
    Calls Tryd.prog 40 #[.int .i64 (i : Int), .int .i64 n] w fun e w' => e = .returned (.bool (wordB i n)) ∧ Below w.heap.size w w' := by
  have cs : (n < wlow i ∧ wordB i n = false) ∨ (wlow i ≤ n ∧ n ≤ whigh i ∧ wordB i n = true) ∨ (wlow i ≤ n ∧ whigh i < n ∧ wordB i n = false) := by
    unfold wordB
    by_cases a : wlow i ≤ n <;> by_cases b : n ≤ whigh i <;> simp [a, b] <;> omega
  obtain ⟨r, hr⟩ : ∃ r, wordB i n = r := ⟨_, rfl⟩
  rw [hr] at cs ⊢
  clear hr
  rcases cs with ⟨c1, rfl⟩ | ⟨c1, c2, rfl⟩ | ⟨c1, c2, rfl⟩
  · rcases cases12 h with rfl | rfl | rfl | rfl | rfl | rfl | rfl | rfl | rfl | rfl | rfl | rfl
    all_goals
      clear h
      first
      | change n < 1 at c1
      | change n < -1000 at c1
      | change n < 0 at c1
      have c1' : ¬ n ≥ _ := Int.not_le.2 c1
      go_enter Tryd.func40, Tryd.ntmps40
      go_wp2_with fail
      go_returns
      exact ⟨rfl, by go_grown⟩
  · rcases cases12 h with rfl | rfl | rfl | rfl | rfl | rfl | rfl | rfl | rfl | rfl | rfl | rfl
    all_goals
      clear h
      first
      | change 1 ≤ n at c1
      | change -1000 ≤ n at c1
      | change 0 ≤ n at c1
      first
      | change n ≤ 4 at c2
      | change n ≤ 3 at c2
      | change n ≤ 2 at c2
      | change n ≤ 1000 at c2
      | change n ≤ 6 at c2
      | change n ≤ 7 at c2
      go_enter Tryd.func40, Tryd.ntmps40
      go_wp2_with fail
      go_returns
      exact ⟨rfl, by go_grown⟩
  · rcases cases12 h with rfl | rfl | rfl | rfl | rfl | rfl | rfl | rfl | rfl | rfl | rfl | rfl
    all_goals
      clear h
      first
      | change 1 ≤ n at c1
      | change -1000 ≤ n at c1
      | change 0 ≤ n at c1
      first
      | change 4 < n at c2
      | change 3 < n at c2
      | change 2 < n at c2
      | change 1000 < n at c2
      | change 6 < n at c2
      | change 7 < n at c2
      have c2' : ¬ n ≤ _ := Int.not_le.2 c2
      go_enter Tryd.func40, Tryd.ntmps40
      go_wp2_with fail
      go_returns
      exact ⟨rfl, by go_grown⟩
end Go.Proofs.YtjemnjboopabpaaDoor
