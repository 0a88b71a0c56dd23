/- WideOrder: its walk, out of package wide's contracts. -/
import Derived.Test.YtfhfackhiliejaaLawWide1
import Derived.WalkKit
import Derived.WalkSpells
import Derived.WalkLawsBesides
import Derived.Handy
import Derived.Lib.Hide
import Derived.Deep.QuietTactic
import Derived.BigQuiet
import Derived.Deep.RegionHeld3
import Derived.Deep.RegionWith
import Derived.RegionTactic
import Derived.BigRegion
import Derived.Outline
import Derived.Deep.DeepCutAuto
namespace Go.Proofs.Ytfhfackhiliejaa
open Go.RowKit
set_option linter.unusedVariables false
set_option linter.unusedSimpArgs false

/-- three numbers in memory -/
structure Cells3 (w : World) (x y z : Nat) (a b c d f g : Int) : Prop where
  q0 : w.cell? ⟨x, 0, none⟩ = some (.int .i64 a)
  q1 : w.cell? ⟨x, 1, none⟩ = some (.int .u64 b)
  q2 : w.cell? ⟨y, 0, none⟩ = some (.int .i64 c)
  q3 : w.cell? ⟨y, 1, none⟩ = some (.int .u64 d)
  q4 : w.cell? ⟨z, 0, none⟩ = some (.int .i64 f)
  q5 : w.cell? ⟨z, 1, none⟩ = some (.int .u64 g)
theorem Cells3.later {w w' : World} {x y z : Nat} {a b c d f g : Int} (h : Cells3 w x y z a b c d f g) (hb : Below w.heap.size w w') : Cells3 w' x y z a b c d f g :=
  ⟨cell_later hb h.q0, cell_later hb h.q1, cell_later hb h.q2, cell_later hb h.q3, cell_later hb h.q4, cell_later hb h.q5⟩
theorem Cells3.alloc {w : World} {x y z : Nat} {a b c d f g : Int} (h : Cells3 w x y z a b c d f g) (o : Obj) : Cells3 (w.alloc o) x y z a b c d f g :=
  ⟨keep_alloc h.q0, keep_alloc h.q1, keep_alloc h.q2, keep_alloc h.q3, keep_alloc h.q4, keep_alloc h.q5⟩
theorem cmp_below (a b c d m : Int) (h2 : 0 ≤ b) (h3 : b < 18446744073709551616) (g2 : 0 ≤ d) (g3 : d < 18446744073709551616)
    (hm : m = cmpI (a * 18446744073709551616 + b) (c * 18446744073709551616 + d)) (w : World) :
    Calls Try.prog 26 #[.agg #[.int .i64 a, .int .u64 b], .agg #[.int .i64 c, .int .u64 d]] w fun e w' => e = .returned (.int .i64 m) ∧ Below w.heap.size w w' :=
  (cmp_any a b c d m h2 h3 g2 g3 hm w).mono fun e w' h => ⟨h.1, by rw [h.2]; go_grown⟩
theorem add_ex (a b c d : Int) (h0 : -9223372036854775808 ≤ a) (h1 : a ≤ 9223372036854775807) (h2 : 0 ≤ b) (h3 : b < 18446744073709551616) 
   (g0 : -9223372036854775808 ≤ c) (g1 : c ≤ 9223372036854775807) (g2 : 0 ≤ d) (g3 : d < 18446744073709551616) :
   ∃ (ok : Bool) (h l : Int), -9223372036854775808 ≤ h ∧ h ≤ 9223372036854775807 ∧ 0 ≤ l ∧ l < 18446744073709551616 ∧
     (ok = true → h * 18446744073709551616 + l = (a * 18446744073709551616 + b) + (c * 18446744073709551616 + d)) ∧
     (ok = decide (-170141183460469231731687303715884105728 ≤ (a * 18446744073709551616 + b) + (c * 18446744073709551616 + d) ∧ (a * 18446744073709551616 + b) + (c * 18446744073709551616 + d) < 170141183460469231731687303715884105728)) ∧
     (ok = false → h = 0 ∧ l = 0) ∧
     ∀ w : World, Calls Try.prog 21 #[.agg #[.int .i64 a, .int .u64 b], .agg #[.int .i64 c, .int .u64 d]] w fun e w' => e = .returned (.tuple #[.agg #[.int .i64 h, .int .u64 l], .bool ok]) ∧ Below w.heap.size w w' := by
  by_cases hS : -170141183460469231731687303715884105728 ≤ (a * 18446744073709551616 + b) + (c * 18446744073709551616 + d) ∧ (a * 18446744073709551616 + b) + (c * 18446744073709551616 + d) < 170141183460469231731687303715884105728
  · obtain ⟨h, l, x0, x1, x2, x3, xe⟩ := hl ((a * 18446744073709551616 + b) + (c * 18446744073709551616 + d)) hS.1 hS.2
    exact ⟨true, h, l, x0, x1, x2, x3, fun _ => xe, by rw [decide_eq_true hS], (fun h => by cases h), fun w => add_mid a b c d h l h l true h0 h1 h2 h3 g0 g1 g2 g3 x0 x1 x2 x3 (by omega) (fun _ => ⟨rfl, rfl, by omega⟩) (fun h => by cases h) w⟩
  · by_cases hp : (a * 18446744073709551616 + b) + (c * 18446744073709551616 + d) < 0
    · obtain ⟨h, l, x0, x1, x2, x3, xe⟩ := hl ((a * 18446744073709551616 + b) + (c * 18446744073709551616 + d) + 340282366920938463463374607431768211456) (by omega) (by omega)
      exact ⟨false, 0, 0, by decide, by decide, by decide, by decide, (fun h => by cases h), by rw [decide_eq_false hS], fun _ => ⟨rfl, rfl⟩, fun w => add_mid a b c d h l 0 0 false h0 h1 h2 h3 g0 g1 g2 g3 x0 x1 x2 x3 (by omega) (fun h => by cases h) (fun _ => ⟨rfl, rfl, by omega⟩) w⟩
    · obtain ⟨h, l, x0, x1, x2, x3, xe⟩ := hl ((a * 18446744073709551616 + b) + (c * 18446744073709551616 + d) - 340282366920938463463374607431768211456) (by omega) (by omega)
      exact ⟨false, 0, 0, by decide, by decide, by decide, by decide, (fun h => by cases h), by rw [decide_eq_false hS], fun _ => ⟨rfl, rfl⟩, fun w => add_mid a b c d h l 0 0 false h0 h1 h2 h3 g0 g1 g2 g3 x0 x1 x2 x3 (by omega) (fun h => by cases h) (fun _ => ⟨rfl, rfl, by omega⟩) w⟩
theorem wneg_ex (a b : Int) (h0 : -9223372036854775808 ≤ a) (h1 : a ≤ 9223372036854775807) (h2 : 0 ≤ b) (h3 : b < 18446744073709551616) :
   ∃ (ok : Bool) (h l : Int), -9223372036854775808 ≤ h ∧ h ≤ 9223372036854775807 ∧ 0 ≤ l ∧ l < 18446744073709551616 ∧
     (ok = true → h * 18446744073709551616 + l = -(a * 18446744073709551616 + b)) ∧
     (ok = decide (-(a * 18446744073709551616 + b) < 170141183460469231731687303715884105728)) ∧
     (ok = false → h = 0 ∧ l = 0) ∧
     ∀ w : World, Calls Try.prog 23 #[.agg #[.int .i64 a, .int .u64 b]] w fun e w' => e = .returned (.tuple #[.agg #[.int .i64 h, .int .u64 l], .bool ok]) ∧ Below w.heap.size w w' := by
  by_cases hS : -(a * 18446744073709551616 + b) < 170141183460469231731687303715884105728
  · obtain ⟨h, l, x0, x1, x2, x3, xe⟩ := hl (-(a * 18446744073709551616 + b)) (by omega) hS
    exact ⟨true, h, l, x0, x1, x2, x3, fun _ => xe, by rw [decide_eq_true hS], (fun h => by cases h), fun w => wneg_ok a b h l h0 h1 h2 h3 x0 x1 x2 x3 xe w⟩
  · obtain rfl : a = -9223372036854775808 := by omega
    obtain rfl : b = 0 := by omega
    exact ⟨false, 0, 0, by decide, by decide, by decide, by decide, (fun h => by cases h), by rw [decide_eq_false hS], fun _ => ⟨rfl, rfl⟩, fun w => wneg_no w⟩
theorem cmpI_range (x y : Int) : -1 ≤ cmpI x y ∧ cmpI x y ≤ 1 := by unfold cmpI; split <;> (try split) <;> omega
theorem cmpI_swap (x y : Int) : cmpI y x = -cmpI x y := by unfold cmpI; repeat' split
                                                           all_goals omega
set_option maxRecDepth 100000 in
set_option maxHeartbeats 2000000 in
theorem order_start (a b c d f g m : Int) (A0 : -9223372036854775808 ≤ a) (A1 : a ≤ 9223372036854775807) (B0 : 0 ≤ b) (B1 : b < 18446744073709551616) (C0 : -9223372036854775808 ≤ c) (C1 : c ≤ 9223372036854775807) (D0 : 0 ≤ d) (D1 : d < 18446744073709551616)
    (F0 : -9223372036854775808 ≤ f) (F1 : f ≤ 9223372036854775807) (G0 : 0 ≤ g) (G1 : g < 18446744073709551616) (hm : Hid (m = cmpI (a * 18446744073709551616 + b) (c * 18446744073709551616 + d)))
    (ok1 ok2 ok3 ok4 : Bool) (h1 l1 h2 l2 h3 l3 h4 l4 : Int)
    (S1 : ∀ w : World, Calls Try.prog 21 #[.agg #[.int .i64 a, .int .u64 b], .agg #[.int .i64 f, .int .u64 g]] w fun e w' => e = .returned (.tuple #[.agg #[.int .i64 h1, .int .u64 l1], .bool ok1]) ∧ Below w.heap.size w w')
    (S2 : ∀ w : World, Calls Try.prog 21 #[.agg #[.int .i64 c, .int .u64 d], .agg #[.int .i64 f, .int .u64 g]] w fun e w' => e = .returned (.tuple #[.agg #[.int .i64 h2, .int .u64 l2], .bool ok2]) ∧ Below w.heap.size w w')
    (S3 : ∀ w : World, Calls Try.prog 23 #[.agg #[.int .i64 a, .int .u64 b]] w fun e w' => e = .returned (.tuple #[.agg #[.int .i64 h3, .int .u64 l3], .bool ok3]) ∧ Below w.heap.size w w')
    (S4 : ∀ w : World, Calls Try.prog 23 #[.agg #[.int .i64 c, .int .u64 d]] w fun e w' => e = .returned (.tuple #[.agg #[.int .i64 h4, .int .u64 l4], .bool ok4]) ∧ Below w.heap.size w w')
    (C1 : Hid (ok1 = true → ok2 = true → ∀ w : World, Calls Try.prog 26 #[.agg #[.int .i64 h1, .int .u64 l1], .agg #[.int .i64 h2, .int .u64 l2]] w fun e w' => e = .returned (.int .i64 m) ∧ Below w.heap.size w w'))
    (C2 : Hid (ok3 = true → ok4 = true → ∀ w : World, Calls Try.prog 26 #[.agg #[.int .i64 h3, .int .u64 l3], .agg #[.int .i64 h4, .int .u64 l4]] w fun e w' => e = .returned (.int .i64 (-m)) ∧ Below w.heap.size w w'))
    (m0 : -1 ≤ m) (m1 : m ≤ 1) (w : World) :
    Calls Try.prog 7 #[.agg #[.int .i64 a, .int .u64 b], .agg #[.int .i64 c, .int .u64 d], .agg #[.int .i64 f, .int .u64 g]] w fun e w' => e = .returned (.bool true) ∧ Below w.heap.size w w' := by
  go_enter Try.func7, Try.ntmps7
  go_wp2_with fail
  refine (speaks1_any _).mono ?_
  rintro e w1 ⟨rfl, hb1⟩
  obtain ⟨hc1, hf1⟩ := bcell hb1
  have z1 := hb1.size
  simp only [World.size_alloc] at z1
  have HB1 := Lib.hid ((((Below.refl w.heap.size w).alloc (Nat.le_refl _) _).alloc (by simp) _ |>.alloc (by simp; omega) _).trans (hb1.mono (by simp; omega)))
  clear hb1
  have q0 : w1.cell? ⟨w.heap.size, 0, none⟩ = some (.int .i64 a) := by rw [hc1 _ _ (by simp; omega)]; simp [go_sem]
  have q1 : w1.cell? ⟨w.heap.size, 1, none⟩ = some (.int .u64 b) := by rw [hc1 _ _ (by simp; omega)]; simp [go_sem]
  have q2 : w1.cell? ⟨w.heap.size + 1, 0, none⟩ = some (.int .i64 c) := by rw [hc1 _ _ (by simp)]; simp [go_sem]
  have q3 : w1.cell? ⟨w.heap.size + 1, 1, none⟩ = some (.int .u64 d) := by rw [hc1 _ _ (by simp)]; simp [go_sem]
  have q4 : w1.cell? ⟨w.heap.size + 1 + 1, 0, none⟩ = some (.int .i64 f) := by rw [hc1 _ _ (by simp)]; simp [go_sem]
  have q5 : w1.cell? ⟨w.heap.size + 1 + 1, 1, none⟩ = some (.int .u64 g) := by rw [hc1 _ _ (by simp)]; simp [go_sem]
  clear hc1 hf1
  have n0 : w.heap.size < w1.heap.size := by omega
  have n1 : w.heap.size + 1 < w1.heap.size := by omega
  have n2 : w.heap.size + 1 + 1 < w1.heap.size := by omega
  have n01 : w.heap.size < w1.heap.size + 1 := by omega
  have n02 : w.heap.size < w1.heap.size + 1 + 1 := by omega
  have n03 : w.heap.size < w1.heap.size + 1 + 1 + 1 := by omega
  have n11 : w.heap.size + 1 < w1.heap.size + 1 := by omega
  have n12 : w.heap.size + 1 < w1.heap.size + 1 + 1 := by omega
  have n13 : w.heap.size + 1 < w1.heap.size + 1 + 1 + 1 := by omega
  have n21 : w.heap.size + 1 + 1 < w1.heap.size + 1 := by omega
  have n22 : w.heap.size + 1 + 1 < w1.heap.size + 1 + 1 := by omega
  have n23 : w.heap.size + 1 + 1 < w1.heap.size + 1 + 1 + 1 := by omega
  go_upto_region 3 with fail
  go_cut [7, 8, 9] (fun s7 s8 s9 wx => ∃ x y z : Nat, s7 = .pointer (some ⟨x, 0, none⟩) ∧ s8 = .pointer (some ⟨y, 0, none⟩) ∧ s9 = .pointer (some ⟨z, 0, none⟩) ∧ Hid (Cells3 wx x y z a b c d f g) ∧ Hid (Below w.heap.size w wx))
  case first =>
    go_region_held3 (fun w' => w'.cell? ⟨w.heap.size, 0, none⟩ = some (.int .i64 a) ∧ w'.cell? ⟨w.heap.size, 1, none⟩ = some (.int .u64 b) ∧ w'.cell? ⟨w.heap.size + 1, 0, none⟩ = some (.int .i64 c) ∧ w'.cell? ⟨w.heap.size + 1, 1, none⟩ = some (.int .u64 d) ∧ w'.cell? ⟨w.heap.size + 1 + 1, 0, none⟩ = some (.int .i64 f) ∧ w'.cell? ⟨w.heap.size + 1 + 1, 1, none⟩ = some (.int .u64 g)) (simp [go_sem, World.cell?_alloc_past, *]) (fail)
    all_goals
      go_wp2_with fail
      go_meet
      refine ⟨_, _, _, rfl, rfl, rfl, Lib.hid ⟨by simp [go_sem], by simp [go_sem], by simp [go_sem], by simp [go_sem], by simp [go_sem], by simp [go_sem]⟩, Lib.hid ?_⟩
      have hb := HB1.out
      repeat' (first | exact hb | (with_reducible refine Below.drew ?_) | (with_reducible refine Below.alloc ?_ ?_ _) | (with_reducible refine Below.setCell ?_ ?_ _) | go_size)
  case rest =>
    obtain ⟨x, y, z, rfl, rfl, rfl, HC, HB⟩ := hcut
    clear q0 q1 q2 q3 q4 q5 n0 n1 n2 n01 n02 n03 n11 n12 n13 n21 n22 n23 HB1
    have q := HC.out
    obtain ⟨q0, q1, q2, q3, q4, q5⟩ := HC.out
    go_wp2_with fail
    refine (cmp_below a b c d m B0 B1 D0 D1 hm.out _).mono ?_
    rintro e w4 ⟨rfl, hb4⟩
    have HC4 := Lib.hid (HC.out.later hb4)
    have HB4 := Lib.hid (HB.out.trans (hb4.mono HB.out.size))
    clear hb4 q0 q1 q2 q3 q4 q5 HC HB
    go_upto_region 5 with fail
    go_cut [54] (fun s wx => s = .bool false ∧ Hid (Cells3 wx x y z a b c d f g) ∧ Hid (Below w.heap.size w wx))
    case first =>
      obtain ⟨q0, q1, q2, q3, q4, q5⟩ := HC4.out
      have hcase : (m = 0 ∧ a = c ∧ b = d) ∨ (m = -1 ∧ ¬ (a = c ∧ b = d) ∧ (a * 18446744073709551616 + b) < (c * 18446744073709551616 + d)) ∨ (m = 1 ∧ ¬ (a = c ∧ b = d) ∧ (c * 18446744073709551616 + d) < (a * 18446744073709551616 + b)) := by
        have := hm.out
        unfold cmpI at this
        split at this
        · left; omega
        · split at this
          · right; left; omega
          · right; right; omega
      rcases hcase with ⟨rfl, rfl, rfl⟩ | ⟨rfl, ne, lt⟩ | ⟨rfl, ne, lt⟩
      · go_wp2_with fail
        refine (cmp_below a b a b 0 B0 B1 B0 B1 ?_ _).mono ?_
        · unfold cmpI; simp
        rintro e w5 ⟨rfl, hb5⟩
        have HC5 := Lib.hid (HC4.out.later hb5)
        have HB5 := Lib.hid (HB4.out.trans (hb5.mono HB4.out.size))
        clear hb5 q0 q1 q2 q3 q4 q5 HC4 HB4
        obtain ⟨q0, q1, q2, q3, q4, q5⟩ := HC5.out
        obtain ⟨n, hn⟩ : ∃ n, n = cmpI (a * 18446744073709551616 + b) (f * 18446744073709551616 + g) := ⟨_, rfl⟩
        have HN := Lib.hid hn
        clear hn
        by_cases nz : n ≤ 0
        · obtain ⟨k, hk⟩ : ∃ k, k = cmpI (a * 18446744073709551616 + b) (f * 18446744073709551616 + g) := ⟨_, rfl⟩
          have kz : k ≤ 0 := by
            have := HN.out
            try have lt := LT.out
            revert nz
            rw [this, hk]
            unfold cmpI
            repeat' split
            all_goals omega
          have HK := Lib.hid hk
          clear hk
          go_wp2_with fail
          refine (cmp_below a b f g n B0 B1 G0 G1 HN.out _).mono ?_
          rintro e w6 ⟨rfl, hb6⟩
          have HC6 := Lib.hid (HC5.out.later hb6)
          have HB6 := Lib.hid (HB5.out.trans (hb6.mono HB5.out.size))
          clear hb6 q0 q1 q2 q3 q4 q5 HC5 HB5
          obtain ⟨q0, q1, q2, q3, q4, q5⟩ := HC6.out
          go_wp2_with fail
          refine (cmp_below a b f g k B0 B1 G0 G1 HK.out _).mono ?_
          rintro e w7 ⟨rfl, hb7⟩
          have HC7 := Lib.hid (HC6.out.later hb7)
          have HB7 := Lib.hid (HB6.out.trans (hb7.mono HB6.out.size))
          clear hb7 q0 q1 q2 q3 q4 q5 HC6 HB6
          go_wp2_with fail
          go_meet
          exact ⟨by first | rfl | (simp; omega), HC7, HB7⟩
        · go_wp2_with fail
          refine (cmp_below a b f g n B0 B1 G0 G1 HN.out _).mono ?_
          rintro e w6 ⟨rfl, hb6⟩
          have HC6 := Lib.hid (HC5.out.later hb6)
          have HB6 := Lib.hid (HB5.out.trans (hb6.mono HB5.out.size))
          clear hb6 q0 q1 q2 q3 q4 q5 HC5 HB5
          go_wp2_with fail
          go_meet
          exact ⟨by first | rfl | (simp; omega), HC6, HB6⟩
      · have nb : (a == c && b == d) = false := by
          rw [Bool.and_eq_false_iff, beq_eq_false_iff_ne, beq_eq_false_iff_ne]; omega
        have LT := Lib.hid lt
        clear ne lt
        go_wp2_with fail
        refine (cmp_below c d a b 1 D0 D1 B0 B1 ?_ _).mono ?_
        · have := LT.out; unfold cmpI; rw [if_neg (by omega), if_neg (by omega)]
        rintro e w5 ⟨rfl, hb5⟩
        have HC5 := Lib.hid (HC4.out.later hb5)
        have HB5 := Lib.hid (HB4.out.trans (hb5.mono HB4.out.size))
        clear hb5 q0 q1 q2 q3 q4 q5 HC4 HB4
        obtain ⟨q0, q1, q2, q3, q4, q5⟩ := HC5.out
        by_cases ac : a = c
        · subst ac
          have bd : ¬ b = d := by simpa using nb
          obtain ⟨n, hn⟩ : ∃ n, n = cmpI (a * 18446744073709551616 + d) (f * 18446744073709551616 + g) := ⟨_, rfl⟩
          have HN := Lib.hid hn
          clear hn
          by_cases nz : n ≤ 0
          · obtain ⟨k, hk⟩ : ∃ k, k = cmpI (a * 18446744073709551616 + b) (f * 18446744073709551616 + g) := ⟨_, rfl⟩
            have kz : k ≤ 0 := by
              have := HN.out
              try have lt := LT.out
              revert nz
              rw [this, hk]
              unfold cmpI
              repeat' split
              all_goals omega
            have HK := Lib.hid hk
            clear hk
            go_wp2_with fail
            refine (cmp_below a d f g n D0 D1 G0 G1 HN.out _).mono ?_
            rintro e w6 ⟨rfl, hb6⟩
            have HC6 := Lib.hid (HC5.out.later hb6)
            have HB6 := Lib.hid (HB5.out.trans (hb6.mono HB5.out.size))
            clear hb6 q0 q1 q2 q3 q4 q5 HC5 HB5
            obtain ⟨q0, q1, q2, q3, q4, q5⟩ := HC6.out
            go_wp2_with fail
            refine (cmp_below a b f g k B0 B1 G0 G1 HK.out _).mono ?_
            rintro e w7 ⟨rfl, hb7⟩
            have HC7 := Lib.hid (HC6.out.later hb7)
            have HB7 := Lib.hid (HB6.out.trans (hb7.mono HB6.out.size))
            clear hb7 q0 q1 q2 q3 q4 q5 HC6 HB6
            go_wp2_with fail
            go_meet
            exact ⟨by first | rfl | (simp; omega), HC7, HB7⟩
          · go_wp2_with fail
            refine (cmp_below a d f g n D0 D1 G0 G1 HN.out _).mono ?_
            rintro e w6 ⟨rfl, hb6⟩
            have HC6 := Lib.hid (HC5.out.later hb6)
            have HB6 := Lib.hid (HB5.out.trans (hb6.mono HB5.out.size))
            clear hb6 q0 q1 q2 q3 q4 q5 HC5 HB5
            go_wp2_with fail
            go_meet
            exact ⟨by first | rfl | (simp; omega), HC6, HB6⟩
        · clear nb
          obtain ⟨n, hn⟩ : ∃ n, n = cmpI (c * 18446744073709551616 + d) (f * 18446744073709551616 + g) := ⟨_, rfl⟩
          have HN := Lib.hid hn
          clear hn
          by_cases nz : n ≤ 0
          · obtain ⟨k, hk⟩ : ∃ k, k = cmpI (a * 18446744073709551616 + b) (f * 18446744073709551616 + g) := ⟨_, rfl⟩
            have kz : k ≤ 0 := by
              have := HN.out
              try have lt := LT.out
              revert nz
              rw [this, hk]
              unfold cmpI
              repeat' split
              all_goals omega
            have HK := Lib.hid hk
            clear hk
            go_wp2_with fail
            refine (cmp_below c d f g n D0 D1 G0 G1 HN.out _).mono ?_
            rintro e w6 ⟨rfl, hb6⟩
            have HC6 := Lib.hid (HC5.out.later hb6)
            have HB6 := Lib.hid (HB5.out.trans (hb6.mono HB5.out.size))
            clear hb6 q0 q1 q2 q3 q4 q5 HC5 HB5
            obtain ⟨q0, q1, q2, q3, q4, q5⟩ := HC6.out
            go_wp2_with fail
            refine (cmp_below a b f g k B0 B1 G0 G1 HK.out _).mono ?_
            rintro e w7 ⟨rfl, hb7⟩
            have HC7 := Lib.hid (HC6.out.later hb7)
            have HB7 := Lib.hid (HB6.out.trans (hb7.mono HB6.out.size))
            clear hb7 q0 q1 q2 q3 q4 q5 HC6 HB6
            go_wp2_with fail
            go_meet
            exact ⟨by first | rfl | (simp; omega), HC7, HB7⟩
          · go_wp2_with fail
            refine (cmp_below c d f g n D0 D1 G0 G1 HN.out _).mono ?_
            rintro e w6 ⟨rfl, hb6⟩
            have HC6 := Lib.hid (HC5.out.later hb6)
            have HB6 := Lib.hid (HB5.out.trans (hb6.mono HB5.out.size))
            clear hb6 q0 q1 q2 q3 q4 q5 HC5 HB5
            go_wp2_with fail
            go_meet
            exact ⟨by first | rfl | (simp; omega), HC6, HB6⟩
      · have nb : (a == c && b == d) = false := by
          rw [Bool.and_eq_false_iff, beq_eq_false_iff_ne, beq_eq_false_iff_ne]; omega
        have LT := Lib.hid lt
        clear ne lt
        go_wp2_with fail
        refine (cmp_below c d a b (-1) D0 D1 B0 B1 ?_ _).mono ?_
        · have := LT.out; unfold cmpI; rw [if_neg (by omega), if_pos (by omega)]
        rintro e w5 ⟨rfl, hb5⟩
        have HC5 := Lib.hid (HC4.out.later hb5)
        have HB5 := Lib.hid (HB4.out.trans (hb5.mono HB4.out.size))
        clear hb5 q0 q1 q2 q3 q4 q5 HC4 HB4
        obtain ⟨q0, q1, q2, q3, q4, q5⟩ := HC5.out
        by_cases ac : a = c
        · subst ac
          have bd : ¬ b = d := by simpa using nb
          go_wp2_with fail
          go_meet
          exact ⟨by first | rfl | (simp; omega), HC5, HB5⟩
        · clear nb
          go_wp2_with fail
          go_meet
          exact ⟨by first | rfl | (simp; omega), HC5, HB5⟩
    case rest =>
      obtain ⟨rfl, HC7, HB7⟩ := hcut
      clear HC4 HB4
      obtain ⟨q0, q1, q2, q3, q4, q5⟩ := HC7.out
      go_wp2_with fail
      refine (S1 _).mono ?_
      rintro e w8 ⟨rfl, hb8⟩
      have HC8 := Lib.hid ((HC7.out.later hb8).alloc (.cells #[.int .i64 h1, .int .u64 l1] 25))
      have HB8 := Lib.hid ((HB7.out.trans (hb8.mono HB7.out.size)).alloc (Nat.le_trans HB7.out.size hb8.size) (.cells #[.int .i64 h1, .int .u64 l1] 25))
      clear hb8 q0 q1 q2 q3 q4 q5 HC7 HB7
      obtain ⟨q0, q1, q2, q3, q4, q5⟩ := HC8.out
      go_wp2_with fail
      refine (S2 _).mono ?_
      rintro e w9 ⟨rfl, hb9⟩
      have r0 : w9.cell? ⟨w8.heap.size, 0, none⟩ = some (.int .i64 h1) := cell_later hb9 (by simp [go_sem])
      have r1 : w9.cell? ⟨w8.heap.size, 1, none⟩ = some (.int .u64 l1) := cell_later hb9 (by simp [go_sem])
      have n9 : w8.heap.size < w9.heap.size := by have := hb9.size; simp only [World.size_alloc] at this; omega
      have HC9 := Lib.hid ((HC8.out.later hb9).alloc (.cells #[.int .i64 h2, .int .u64 l2] 25))
      have HB9 := Lib.hid ((HB8.out.trans (hb9.mono HB8.out.size)).alloc (Nat.le_trans HB8.out.size hb9.size) (.cells #[.int .i64 h2, .int .u64 l2] 25))
      clear hb9 q0 q1 q2 q3 q4 q5 HC8 HB8
      go_upto_region 9 with fail
      go_cut [77] (fun s wx => s = .bool false ∧ Hid (Cells3 wx x y z a b c d f g) ∧ Hid (Below w.heap.size w wx))
      case first =>
        cases ok1
        · go_wp2_with fail
          go_meet
          exact ⟨rfl, HC9, HB9⟩
        · cases ok2
          · go_wp2_with fail
            go_meet
            exact ⟨rfl, HC9, HB9⟩
          · have k := C1.out rfl rfl
            clear C1
            go_wp2_with fail
            refine (k _).mono ?_
            rintro e w10 ⟨rfl, hb10⟩
            have HC10 := Lib.hid (HC9.out.later hb10)
            have HB10 := Lib.hid (HB9.out.trans (hb10.mono HB9.out.size))
            clear hb10
            go_wp2_with fail
            go_meet
            exact ⟨rfl, HC10, HB10⟩
      case rest =>
        obtain ⟨rfl, HC10, HB10⟩ := hcut
        clear HC9 HB9
        obtain ⟨q0, q1, q2, q3, q4, q5⟩ := HC10.out
        go_wp2_with fail
        refine (S3 _).mono ?_
        rintro e w11 ⟨rfl, hb11⟩
        have HC11 := Lib.hid ((HC10.out.later hb11).alloc (.cells #[.int .i64 h3, .int .u64 l3] 25))
        have HB11 := Lib.hid ((HB10.out.trans (hb11.mono HB10.out.size)).alloc (Nat.le_trans HB10.out.size hb11.size) (.cells #[.int .i64 h3, .int .u64 l3] 25))
        clear hb11 q0 q1 q2 q3 q4 q5 HC10 HB10
        obtain ⟨q0, q1, q2, q3, q4, q5⟩ := HC11.out
        go_wp2_with fail
        refine (S4 _).mono ?_
        rintro e w12 ⟨rfl, hb12⟩
        have r2 : w12.cell? ⟨w11.heap.size, 0, none⟩ = some (.int .i64 h3) := cell_later hb12 (by simp [go_sem])
        have r3 : w12.cell? ⟨w11.heap.size, 1, none⟩ = some (.int .u64 l3) := cell_later hb12 (by simp [go_sem])
        have n12 : w11.heap.size < w12.heap.size := by have := hb12.size; simp only [World.size_alloc] at this; omega
        have HB12 := Lib.hid ((HB11.out.trans (hb12.mono HB11.out.size)).alloc (Nat.le_trans HB11.out.size hb12.size) (.cells #[.int .i64 h4, .int .u64 l4] 25))
        clear hb12 q0 q1 q2 q3 q4 q5 HC11 HB11
        cases ok3
        · go_wp2_with fail
          go_returns
          exact ⟨rfl, HB12.out⟩
        · cases ok4
          · go_wp2_with fail
            go_returns
            exact ⟨rfl, HB12.out⟩
          · have k := C2.out rfl rfl
            clear C2
            go_wp2_with fail
            refine (k _).mono ?_
            rintro e w13 ⟨rfl, hb13⟩
            have HB13 := Lib.hid (HB12.out.trans (hb13.mono HB12.out.size))
            clear hb13
            go_wp2_with fail
            go_returns
            exact ⟨rfl, HB13.out⟩
theorem law_order (a b c d f g : Int) (A0 : -9223372036854775808 ≤ a) (A1 : a ≤ 9223372036854775807) (B0 : 0 ≤ b) (B1 : b < 18446744073709551616) (C0 : -9223372036854775808 ≤ c) (C1 : c ≤ 9223372036854775807) (D0 : 0 ≤ d) (D1 : d < 18446744073709551616)
    (F0 : -9223372036854775808 ≤ f) (F1 : f ≤ 9223372036854775807) (G0 : 0 ≤ g) (G1 : g < 18446744073709551616) (w : World) :
    Calls Try.prog 7 #[.agg #[.int .i64 a, .int .u64 b], .agg #[.int .i64 c, .int .u64 d], .agg #[.int .i64 f, .int .u64 g]] w fun e w' => e = .returned (.bool true) ∧ Below w.heap.size w w' := by
  obtain ⟨ok1, h1, l1, x10, x11, x12, x13, e1, o1, _, S1⟩ := add_ex a b f g A0 A1 B0 B1 F0 F1 G0 G1
  obtain ⟨ok2, h2, l2, x20, x21, x22, x23, e2, o2, _, S2⟩ := add_ex c d f g C0 C1 D0 D1 F0 F1 G0 G1
  obtain ⟨ok3, h3, l3, x30, x31, x32, x33, e3, o3, _, S3⟩ := wneg_ex a b A0 A1 B0 B1
  obtain ⟨ok4, h4, l4, x40, x41, x42, x43, e4, o4, _, S4⟩ := wneg_ex c d C0 C1 D0 D1
  obtain ⟨m0, m1⟩ := cmpI_range (a * 18446744073709551616 + b) (c * 18446744073709551616 + d)
  refine order_start a b c d f g _ A0 A1 B0 B1 C0 C1 D0 D1 F0 F1 G0 G1 (Lib.hid rfl) ok1 ok2 ok3 ok4 h1 l1 h2 l2 h3 l3 h4 l4 S1 S2 S3 S4 (Lib.hid fun p q w => ?_) (Lib.hid fun p q w => ?_) m0 m1 w
  · refine cmp_below h1 l1 h2 l2 _ x12 x13 x22 x23 ?_ w
    rw [e1 p, e2 q]
    unfold cmpI
    repeat' split
    all_goals omega
  · refine cmp_below h3 l3 h4 l4 _ x32 x33 x42 x43 ?_ w
    rw [e3 p, e4 q]
    unfold cmpI
    repeat' split
    all_goals omega
end Go.Proofs.Ytfhfackhiliejaa
