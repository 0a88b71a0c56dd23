/- Two ratios multiplied. -/
import Derived.Test.YtkohefgendcofaaRatioD
import Derived.Test.YtkohefgendcofaaRatioE
import Derived.Test.YtkohefgendcofaaBut
import Derived.WalkKit
import Derived.WalkSpells
import Derived.WalkLawsBesides
import Derived.Handy
import Derived.Lib.Hide
import Derived.Deep.QuietTactic
import Derived.BigQuiet
import Derived.LoopTactic
import Derived.RegionTactic
import Derived.BigRegion
import Derived.Deep.RegionHeld3
import Derived.Deep.RegionWith
import Derived.Outline
import Derived.Deep.DeepCutAuto
namespace Go.Proofs.Ytkohefgendcofaa
open Go.RowKit Go.Proofs.Big Go.Proofs.Reg
set_option linter.unusedVariables false
set_option linter.unusedSimpArgs false
set_option maxRecDepth 100000
/-- lowest terms, once the greatest common divisor is known -/
theorem lowest_form (x y g P Q : Int) (g1 : 1 ≤ g) (y1 : 1 ≤ y) (hP : P * g = x) (hQ : Q * g = y) (ng mg : Bool) (hn : ng = decide (x < 0)) (hm : mg = decide (y < 0)) :
    (if (ng != mg) then -((if x < 0 then -x else x) / g) else (if x < 0 then -x else x) / g) = P ∧ (if y < 0 then -y else y) / g = Q := by
  have yz : decide (y < 0) = false := decide_eq_false (by omega)
  rw [hn, hm, yz, if_neg (show ¬ y < 0 by omega)]
  refine ⟨?_, div_of_mul hQ g1⟩
  by_cases c : x < 0
  · rw [decide_eq_true c, if_pos c]
    have : -x / g = -P := div_of_mul (by rw [Int.neg_mul]; omega) g1
    simp [this]
  · rw [decide_eq_false c, if_neg c]
    have : x / g = P := div_of_mul hP g1
    simp [this]
/-- the boxes in the course of Times -/
structure RT (w wr : World) (n d m c : Int) : Prop where
  R : RR wr w.heap.size (w.heap.size + 1) n d m c
  z0 : Var wr ⟨w.heap.size + 1 + 1, 0, none⟩ (.int .i64 0)
  z1 : Var wr ⟨w.heap.size + 1 + 1, 1, none⟩ (.int .i64 0)
  bel : Below w.heap.size w wr
theorem RT.later {w wr wx : World} {n d m c : Int} (h : RT w wr n d m c) (k : Below wr.heap.size wr wx) : RT w wx n d m c := ⟨h.R.later k, h.z0.later k, h.z1.later k, bel_trans h.bel k⟩
theorem RT.start (w : World) (n d m c : Int) : RT w (((w.alloc (.cells #[.int .i64 n, .int .i64 d] 42)).alloc (.cells #[.int .i64 m, .int .i64 c] 42)).alloc (.cells #[.int .i64 0, .int .i64 0] 42)) n d m c :=
  ⟨⟨by simp [go_sem], by simp [go_sem], by simp [go_sem], by simp [go_sem]⟩, ⟨by simp [go_sem], by simp [go_sem]⟩, ⟨by simp [go_sem], by simp [go_sem]⟩, bel_alloc (bel_alloc (bel_alloc (Below.refl _ _) _) _) _⟩
set_option maxHeartbeats 1000000 in
theorem rtimes_bad (n d m c : Int) (n0 : -9223372036854775808 ≤ n) (n1 : n ≤ 9223372036854775807) (d0 : -9223372036854775808 ≤ d) (d1 : d ≤ 9223372036854775807) (m0 : -9223372036854775808 ≤ m) (m1 : m ≤ 9223372036854775807) (c0 : -9223372036854775808 ≤ c) (c1 : c ≤ 9223372036854775807) (hb : (goodB n d && goodB m c) = false) (w : World) :
    Calls Try.prog 29 #[.agg #[.int .i64 n, .int .i64 d], .agg #[.int .i64 m, .int .i64 c]] w fun e w' => e = .returned (.tuple #[.agg #[.int .i64 0, .int .i64 0], .int .i64 1]) ∧ Below w.heap.size w w' := by
  have G1 := Lib.hid (good_any n d n0 n1 d0 d1)
  have G2 := Lib.hid (good_any m c m0 m1 c0 c1)
  obtain ⟨f, hf⟩ : ∃ f, goodB n d = f := ⟨_, rfl⟩
  obtain ⟨g, hg⟩ : ∃ g, goodB m c = g := ⟨_, rfl⟩
  rw [hf] at G1 hb
  rw [hg] at G2 hb
  clear hf hg
  have T0 := Lib.hid (RT.start w n d m c)
  cases f
  · clear hb G2
    go_enter Try.func29, Try.ntmps29
    go_wp2_with fail
    refine (G1.out _).mono ?_
    rintro e w1 ⟨rfl, hb1⟩
    have T1 := Lib.hid (T0.out.later hb1)
    obtain ⟨⟨k0, k1, k2, k3⟩, ⟨z0, y0⟩, ⟨z1, y1⟩, _⟩ := T0.out.later hb1
    have lt1 := T1.out.z0.lt
    simp only at lt1
    clear hb1
    go_wp2_with fail
    have e0 := (T1.out.z0.set (.int .i64 0)).c
    have e1 := ((T1.out.z1.other (q := ⟨w.heap.size + 1 + 1, 0, none⟩) (by simp) (.int .i64 0)).set (.int .i64 0)).c
    refine bodyPost_ret (v := .tuple #[.agg #[.int .i64 0, .int .i64 0], .int .i64 1]) (by simp [results, Try.results29, go_sem, e0, e1, *]) rfl ?_
    exact ⟨rfl, (T1.out.bel.setCell (by show w.heap.size ≤ w.heap.size + 1 + 1; omega) _).setCell (by show w.heap.size ≤ w.heap.size + 1 + 1; omega) _⟩
  · obtain rfl : g = false := by simpa using hb
    clear hb
    go_enter Try.func29, Try.ntmps29
    go_wp2_with fail
    refine (G1.out _).mono ?_
    rintro e w1 ⟨rfl, hb1⟩
    have T1 := Lib.hid (T0.out.later hb1)
    obtain ⟨⟨k0, k1, k2, k3⟩, ⟨z0, y0⟩, ⟨z1, y1⟩, _⟩ := T0.out.later hb1
    clear hb1
    go_wp2_with fail
    refine (G2.out _).mono ?_
    rintro e w2 ⟨rfl, hb2⟩
    have T2 := Lib.hid (T1.out.later hb2)
    clear k0 k1 k2 k3 z0 y0 z1 y1
    obtain ⟨⟨k0, k1, k2, k3⟩, ⟨z0, y0⟩, ⟨z1, y1⟩, _⟩ := T1.out.later hb2
    have lt2 := T2.out.z0.lt
    simp only at lt2
    clear hb2
    go_wp2_with fail
    have e0 := (T2.out.z0.set (.int .i64 0)).c
    have e1 := ((T2.out.z1.other (q := ⟨w.heap.size + 1 + 1, 0, none⟩) (by simp) (.int .i64 0)).set (.int .i64 0)).c
    refine bodyPost_ret (v := .tuple #[.agg #[.int .i64 0, .int .i64 0], .int .i64 1]) (by simp [results, Try.results29, go_sem, e0, e1, *]) rfl ?_
    exact ⟨rfl, (T2.out.bel.setCell (by show w.heap.size ≤ w.heap.size + 1 + 1; omega) _).setCell (by show w.heap.size ≤ w.heap.size + 1 + 1; omega) _⟩
set_option maxHeartbeats 4000000 in
theorem rtimes_any (n d m c l r a1 a2 b1 b2 h1 l1 k1 h2 l2 k2 : Int) (f1 f2 : Bool) (n0 : -9223372036854775808 ≤ n) (n1 : n ≤ 9223372036854775807) (d0 : 1 ≤ d) (d1 : d ≤ 9223372036854775807) (m0 : -9223372036854775808 ≤ m) (m1 : m ≤ 9223372036854775807) (c0 : 1 ≤ c) (c1 : c ≤ 9223372036854775807) (hg1 : goodB n d = true) (hg2 : goodB m c = true) (K : Crs n d m c l r a1 a2 b1 b2)
    (M1 : ∀ w : World, Calls Try.prog 79 #[.int .i64 a1, .int .i64 a2] w fun e w' => e = .returned (.agg #[.int .i64 h1, .int .u64 l1]) ∧ Below w.heap.size w w')
    (I1 : ∀ w : World, Calls Try.prog 64 #[.agg #[.int .i64 h1, .int .u64 l1]] w fun e w' => e = .returned (.tuple #[.int .i64 k1, .bool f1]) ∧ Below w.heap.size w w')
    (M2 : ∀ w : World, Calls Try.prog 79 #[.int .i64 b1, .int .i64 b2] w fun e w' => e = .returned (.agg #[.int .i64 h2, .int .u64 l2]) ∧ Below w.heap.size w w')
    (I2 : ∀ w : World, Calls Try.prog 64 #[.agg #[.int .i64 h2, .int .u64 l2]] w fun e w' => e = .returned (.tuple #[.int .i64 k2, .bool f2]) ∧ Below w.heap.size w w') (w : World) :
    Calls Try.prog 29 #[.agg #[.int .i64 n, .int .i64 d], .agg #[.int .i64 m, .int .i64 c]] w fun e w' => e = .returned (.tuple #[.agg #[.int .i64 (if f1 && f2 then k1 else 0), .int .i64 (if f1 && f2 then k2 else 0)], .int .i64 (if f1 && f2 then 0 else 2)]) ∧ Below w.heap.size w w' := by
  have G1 := Lib.hid (good_any n d n0 n1 (by omega) d1)
  have G2 := Lib.hid (good_any m c m0 m1 (by omega) c1)
  rw [hg1] at G1
  rw [hg2] at G2
  obtain ⟨xn, hxn⟩ : ∃ x, x = if n < 0 then -n else n := ⟨_, rfl⟩
  obtain ⟨xm, hxm⟩ : ∃ x, x = if m < 0 then -m else m := ⟨_, rfl⟩
  have hxd : d = if d < 0 then -d else d := by rw [if_neg (by omega)]
  have hxc : c = if c < 0 then -c else c := by rw [if_neg (by omega)]
  have bn : 0 ≤ xn ∧ xn < 18446744073709551616 := by rw [hxn]; split <;> omega
  have bm : 0 ≤ xm ∧ xm < 18446744073709551616 := by rw [hxm]; split <;> omega
  have HL : Hid (((Int.gcd xn c : Nat) : Int) = l) := Lib.hid (by have := gcd_abs n c; rw [← hxn, ← hxc] at this; rw [this]; exact K.hl)
  have HR : Hid (((Int.gcd xm d : Nat) : Int) = r) := Lib.hid (by have := gcd_abs m d; rw [← hxm, ← hxd] at this; rw [this]; exact K.hr)
  have SN := Lib.hid (rsize_below n xn n0 n1 hxn)
  have SM := Lib.hid (rsize_below m xm m0 m1 hxm)
  have SD := Lib.hid (rsize_below d d (by omega) d1 hxd)
  have SC := Lib.hid (rsize_below c c (by omega) c1 hxc)
  have DL := Lib.hid (divisor_below xn c l bn.1 bn.2 (by omega) (by omega) HL)
  have DR := Lib.hid (divisor_below xm d r bm.1 bm.2 (by omega) (by omega) HR)
  have KK := Lib.hid K
  have ll := (one_of_mul K.ec K.l1 c0).2.2
  have rr := (one_of_mul K.ed K.r1 d0).2.2
  have sa1 := small_of_mul K.en K.l1 n0 n1
  have sa2 := small_of_mul K.em K.r1 m0 m1
  have sb1 := small_of_mul K.ed K.r1 (by omega) d1
  have sb2 := small_of_mul K.ec K.l1 (by omega) c1
  have BB : Hid ((0 ≤ l ∧ l ≤ 9223372036854775807) ∧ (0 ≤ r ∧ r ≤ 9223372036854775807) ∧ (-9223372036854775808 ≤ a1 ∧ a1 ≤ 9223372036854775807) ∧ (-9223372036854775808 ≤ a2 ∧ a2 ≤ 9223372036854775807) ∧ (-9223372036854775808 ≤ b1 ∧ b1 ≤ 9223372036854775807) ∧ (-9223372036854775808 ≤ b2 ∧ b2 ≤ 9223372036854775807)) :=
    Lib.hid ⟨⟨by have := K.l1; omega, by omega⟩, ⟨by have := K.r1; omega, by omega⟩, sa1, sa2, sb1, sb2⟩
  have MM1 := Lib.hid M1
  have II1 := Lib.hid I1
  have MM2 := Lib.hid M2
  have II2 := Lib.hid I2
  have T0 := Lib.hid (RT.start w n d m c)
  clear M1 I1 M2 I2 K hg1 hg2 hxn hxm hxd hxc bn bm HL HR ll rr sa1 sa2 sb1 sb2
  go_enter Try.func29, Try.ntmps29
  go_wp2_with fail
  refine (G1.out _).mono ?_
  rintro e w1 ⟨rfl, hb1⟩
  have T1 := Lib.hid (T0.out.later hb1)
  obtain ⟨⟨k0, q1, k2, k3⟩, _, _, _⟩ := T0.out.later hb1
  clear hb1 T0
  go_wp2_with fail
  refine (G2.out _).mono ?_
  rintro e w2 ⟨rfl, hb2⟩
  have T2 := Lib.hid (T1.out.later hb2)
  clear k0 q1 k2 k3 hb2 T1
  go_wp2_with fail
  refine wp_region_kinds [constK (.pointer (some ⟨w.heap.size, 0, none⟩)), constK (.int .i64 n), keptK (.int .u64 xn), constK (.pointer (some ⟨w.heap.size + 1, 1, none⟩)), constK (.int .i64 c), keptK (.int .u64 c), keptK (.int .u64 l), constK (.int .i64 l), constK (.int .i64 l)]
    [some 21, some 22, some 23, some 24, some 25, some 26, some 27, some 28, some 6] (by kernel_rfl) (by kernel_rfl) (by kernel_rfl) (by kernel_rfl) (by kernel_rfl) (by kernel_rfl) (by kernel_rfl) (fun i o ho => ?_) (fun val2 w3 hf hne hb => ?_)
  · match i, ho with
    | 0, ho =>
      obtain rfl := Option.some.inj ho
      exact ok_fieldR0 (by kernel_rfl) rfl
    | 1, ho =>
      obtain rfl := Option.some.inj ho
      exact ok_cell64 (j := 0) rfl (by kernel_rfl) rfl T2.out.R.k0
    | 2, ho =>
      obtain rfl := Option.some.inj ho
      refine ok_keptG (fun _ _ => by kernel_rfl) fun A' L val w env facts hb => ?_
      rw [map1, dep_const env facts 1 22 _ (by kernel_rfl) rfl rfl]
      exact SN.out w
    | 3, ho =>
      obtain rfl := Option.some.inj ho
      exact ok_fieldR1 (by kernel_rfl) rfl
    | 4, ho =>
      obtain rfl := Option.some.inj ho
      exact ok_cell64 (j := 3) rfl (by kernel_rfl) rfl T2.out.R.k3
    | 5, ho =>
      obtain rfl := Option.some.inj ho
      refine ok_keptG (fun _ _ => by kernel_rfl) fun A' L val w env facts hb => ?_
      rw [map1, dep_const env facts 4 25 _ (by kernel_rfl) rfl rfl]
      exact SC.out w
    | 6, ho =>
      obtain rfl := Option.some.inj ho
      refine ok_keptG (fun _ _ => by kernel_rfl) fun A' L val w env facts hb => ?_
      rw [map2, dep_kept env facts 2 23 _ (by kernel_rfl) rfl rfl, dep_kept env facts 5 26 _ (by kernel_rfl) rfl rfl]
      exact DL.out w
    | 7, ho =>
      obtain rfl := Option.some.inj ho
      exact ok_conv (j := 6) rfl (by kernel_rfl) rfl BB.out.1.1 BB.out.1.2
    | 8, ho =>
      obtain rfl := Option.some.inj ho
      exact ok_assignC (j := 7) rfl (by kernel_rfl) rfl
    | n + 9, ho => simp at ho
  have F : val2 8 = .int .i64 l := hf 8 (by decide)
  have T3 := Lib.hid (T2.out.later hb)
  simp only [puts2, Act.put, List.setIfInBounds_toArray, List.set_cons_zero, List.set_cons_succ, Nat.zero_add, Nat.reduceAdd]
  rw [F]
  clear hf hne hb F T2
  go_wp2_with fail
  refine wp_region_kinds [constK (.pointer (some ⟨w.heap.size + 1, 0, none⟩)), constK (.int .i64 m), keptK (.int .u64 xm), constK (.pointer (some ⟨w.heap.size, 1, none⟩)), constK (.int .i64 d), keptK (.int .u64 d), keptK (.int .u64 r), constK (.int .i64 r), constK (.int .i64 r)]
    [some 29, some 30, some 31, some 32, some 33, some 34, some 35, some 36, some 7] (by kernel_rfl) (by kernel_rfl) (by kernel_rfl) (by kernel_rfl) (by kernel_rfl) (by kernel_rfl) (by kernel_rfl) (fun i o ho => ?_) (fun val2 w4 hf hne hb => ?_)
  · match i, ho with
    | 0, ho =>
      obtain rfl := Option.some.inj ho
      exact ok_fieldR0 (by kernel_rfl) rfl
    | 1, ho =>
      obtain rfl := Option.some.inj ho
      exact ok_cell64 (j := 0) rfl (by kernel_rfl) rfl T3.out.R.k2
    | 2, ho =>
      obtain rfl := Option.some.inj ho
      refine ok_keptG (fun _ _ => by kernel_rfl) fun A' L val w env facts hb => ?_
      rw [map1, dep_const env facts 1 30 _ (by kernel_rfl) rfl rfl]
      exact SM.out w
    | 3, ho =>
      obtain rfl := Option.some.inj ho
      exact ok_fieldR1 (by kernel_rfl) rfl
    | 4, ho =>
      obtain rfl := Option.some.inj ho
      exact ok_cell64 (j := 3) rfl (by kernel_rfl) rfl T3.out.R.k1
    | 5, ho =>
      obtain rfl := Option.some.inj ho
      refine ok_keptG (fun _ _ => by kernel_rfl) fun A' L val w env facts hb => ?_
      rw [map1, dep_const env facts 4 33 _ (by kernel_rfl) rfl rfl]
      exact SD.out w
    | 6, ho =>
      obtain rfl := Option.some.inj ho
      refine ok_keptG (fun _ _ => by kernel_rfl) fun A' L val w env facts hb => ?_
      rw [map2, dep_kept env facts 2 31 _ (by kernel_rfl) rfl rfl, dep_kept env facts 5 34 _ (by kernel_rfl) rfl rfl]
      exact DR.out w
    | 7, ho =>
      obtain rfl := Option.some.inj ho
      exact ok_conv (j := 6) rfl (by kernel_rfl) rfl BB.out.2.1.1 BB.out.2.1.2
    | 8, ho =>
      obtain rfl := Option.some.inj ho
      exact ok_assignC (j := 7) rfl (by kernel_rfl) rfl
    | n + 9, ho => simp at ho
  have F : val2 8 = .int .i64 r := hf 8 (by decide)
  have T4 := Lib.hid (T3.out.later hb)
  simp only [puts2, Act.put, List.setIfInBounds_toArray, List.set_cons_zero, List.set_cons_succ, Nat.zero_add, Nat.reduceAdd]
  rw [F]
  clear hf hne hb F T3
  go_wp2_with fail
  refine wp_region_kinds [constK (.pointer (some ⟨w.heap.size, 0, none⟩)), constK (.int .i64 n), constK (.int .i64 l), constK (.int .i64 a1), constK (.pointer (some ⟨w.heap.size + 1, 0, none⟩)), constK (.int .i64 m), constK (.int .i64 r), constK (.int .i64 a2), keptK (.agg #[.int .i64 h1, .int .u64 l1]), keptK (.tuple #[.int .i64 k1, .bool f1]), constK (.tuple #[.int .i64 k1, .bool f1]), constK (.int .i64 k1), constK (.bool f1), constK (.int .i64 k1), constK (.bool f1)]
    [some 38, some 39, some 40, some 41, some 42, some 43, some 44, some 45, some 46, some 47, some 37, some 48, some 49, some 8, some 9] (by kernel_rfl) (by kernel_rfl) (by kernel_rfl) (by kernel_rfl) (by kernel_rfl) (by kernel_rfl) (by kernel_rfl) (fun i o ho => ?_) (fun val2 w5 hf hne hb => ?_)
  · match i, ho with
    | 0, ho =>
      obtain rfl := Option.some.inj ho
      exact ok_fieldR0 (by kernel_rfl) rfl
    | 1, ho =>
      obtain rfl := Option.some.inj ho
      exact ok_cell64 (j := 0) rfl (by kernel_rfl) rfl T4.out.R.k0
    | 2, ho =>
      obtain rfl := Option.some.inj ho
      exact ok_argG (by kernel_rfl) rfl
    | 3, ho =>
      obtain rfl := Option.some.inj ho
      exact ok_quo (j := 1) (k := 2) rfl (by kernel_rfl) rfl rfl (by kernel_rfl) rfl KK.out.l1 KK.out.en BB.out.2.2.1.1 BB.out.2.2.1.2
    | 4, ho =>
      obtain rfl := Option.some.inj ho
      exact ok_fieldR0 (by kernel_rfl) rfl
    | 5, ho =>
      obtain rfl := Option.some.inj ho
      exact ok_cell64 (j := 4) rfl (by kernel_rfl) rfl T4.out.R.k2
    | 6, ho =>
      obtain rfl := Option.some.inj ho
      exact ok_argG (by kernel_rfl) rfl
    | 7, ho =>
      obtain rfl := Option.some.inj ho
      exact ok_quo (j := 5) (k := 6) rfl (by kernel_rfl) rfl rfl (by kernel_rfl) rfl KK.out.r1 KK.out.em BB.out.2.2.2.1.1 BB.out.2.2.2.1.2
    | 8, ho =>
      obtain rfl := Option.some.inj ho
      refine ok_keptG (fun _ _ => by kernel_rfl) fun A' L val w env facts hb => ?_
      rw [map2, dep_const env facts 3 41 _ (by kernel_rfl) rfl rfl, dep_const env facts 7 45 _ (by kernel_rfl) rfl rfl]
      exact MM1.out w
    | 9, ho =>
      obtain rfl := Option.some.inj ho
      refine ok_keptG (fun _ _ => by kernel_rfl) fun A' L val w env facts hb => ?_
      rw [map1, dep_kept env facts 8 46 _ (by kernel_rfl) rfl rfl]
      exact II1.out w
    | 10, ho =>
      obtain rfl := Option.some.inj ho
      exact ok_moveKp2 (j := 9) rfl (by kernel_rfl) rfl
    | 11, ho =>
      obtain rfl := Option.some.inj ho
      exact ok_ext (j := 10) rfl (by kernel_rfl) rfl rfl
    | 12, ho =>
      obtain rfl := Option.some.inj ho
      exact ok_ext (j := 10) rfl (by kernel_rfl) rfl rfl
    | 13, ho =>
      obtain rfl := Option.some.inj ho
      exact ok_assignC (j := 11) rfl (by kernel_rfl) rfl
    | 14, ho =>
      obtain rfl := Option.some.inj ho
      exact ok_assignC (j := 12) rfl (by kernel_rfl) rfl
    | n + 15, ho => simp at ho
  have F13 : val2 13 = .int .i64 k1 := hf 13 (by decide)
  have F14 : val2 14 = .bool f1 := hf 14 (by decide)
  have T5 := Lib.hid (T4.out.later hb)
  simp only [puts2, Act.put, List.setIfInBounds_toArray, List.set_cons_zero, List.set_cons_succ, Nat.zero_add, Nat.reduceAdd]
  rw [F13, F14]
  clear hf hne hb F13 F14 T4
  go_wp2_with fail
  refine wp_region_kinds [constK (.pointer (some ⟨w.heap.size, 1, none⟩)), constK (.int .i64 d), constK (.int .i64 r), constK (.int .i64 b1), constK (.pointer (some ⟨w.heap.size + 1, 1, none⟩)), constK (.int .i64 c), constK (.int .i64 l), constK (.int .i64 b2), keptK (.agg #[.int .i64 h2, .int .u64 l2]), keptK (.tuple #[.int .i64 k2, .bool f2]), constK (.tuple #[.int .i64 k2, .bool f2]), constK (.int .i64 k2), constK (.bool f2), constK (.int .i64 k2), constK (.bool f2)]
    [some 51, some 52, some 53, some 54, some 55, some 56, some 57, some 58, some 59, some 60, some 50, some 61, some 62, some 10, some 11] (by kernel_rfl) (by kernel_rfl) (by kernel_rfl) (by kernel_rfl) (by kernel_rfl) (by kernel_rfl) (by kernel_rfl) (fun i o ho => ?_) (fun val2 w6 hf hne hb => ?_)
  · match i, ho with
    | 0, ho =>
      obtain rfl := Option.some.inj ho
      exact ok_fieldR1 (by kernel_rfl) rfl
    | 1, ho =>
      obtain rfl := Option.some.inj ho
      exact ok_cell64 (j := 0) rfl (by kernel_rfl) rfl T5.out.R.k1
    | 2, ho =>
      obtain rfl := Option.some.inj ho
      exact ok_argG (by kernel_rfl) rfl
    | 3, ho =>
      obtain rfl := Option.some.inj ho
      exact ok_quo (j := 1) (k := 2) rfl (by kernel_rfl) rfl rfl (by kernel_rfl) rfl KK.out.r1 KK.out.ed BB.out.2.2.2.2.1.1 BB.out.2.2.2.2.1.2
    | 4, ho =>
      obtain rfl := Option.some.inj ho
      exact ok_fieldR1 (by kernel_rfl) rfl
    | 5, ho =>
      obtain rfl := Option.some.inj ho
      exact ok_cell64 (j := 4) rfl (by kernel_rfl) rfl T5.out.R.k3
    | 6, ho =>
      obtain rfl := Option.some.inj ho
      exact ok_argG (by kernel_rfl) rfl
    | 7, ho =>
      obtain rfl := Option.some.inj ho
      exact ok_quo (j := 5) (k := 6) rfl (by kernel_rfl) rfl rfl (by kernel_rfl) rfl KK.out.l1 KK.out.ec BB.out.2.2.2.2.2.1 BB.out.2.2.2.2.2.2
    | 8, ho =>
      obtain rfl := Option.some.inj ho
      refine ok_keptG (fun _ _ => by kernel_rfl) fun A' L val w env facts hb => ?_
      rw [map2, dep_const env facts 3 54 _ (by kernel_rfl) rfl rfl, dep_const env facts 7 58 _ (by kernel_rfl) rfl rfl]
      exact MM2.out w
    | 9, ho =>
      obtain rfl := Option.some.inj ho
      refine ok_keptG (fun _ _ => by kernel_rfl) fun A' L val w env facts hb => ?_
      rw [map1, dep_kept env facts 8 59 _ (by kernel_rfl) rfl rfl]
      exact II2.out w
    | 10, ho =>
      obtain rfl := Option.some.inj ho
      exact ok_moveKp2 (j := 9) rfl (by kernel_rfl) rfl
    | 11, ho =>
      obtain rfl := Option.some.inj ho
      exact ok_ext (j := 10) rfl (by kernel_rfl) rfl rfl
    | 12, ho =>
      obtain rfl := Option.some.inj ho
      exact ok_ext (j := 10) rfl (by kernel_rfl) rfl rfl
    | 13, ho =>
      obtain rfl := Option.some.inj ho
      exact ok_assignC (j := 11) rfl (by kernel_rfl) rfl
    | 14, ho =>
      obtain rfl := Option.some.inj ho
      exact ok_assignC (j := 12) rfl (by kernel_rfl) rfl
    | n + 15, ho => simp at ho
  have F13 : val2 13 = .int .i64 k2 := hf 13 (by decide)
  have F14 : val2 14 = .bool f2 := hf 14 (by decide)
  have T6 := Lib.hid (T5.out.later hb)
  simp only [puts2, Act.put, List.setIfInBounds_toArray, List.set_cons_zero, List.set_cons_succ, Nat.zero_add, Nat.reduceAdd]
  rw [F13, F14]
  clear hf hne hb F13 F14 T5
  obtain ⟨_, ⟨z0, y0⟩, ⟨z1, y1⟩, _⟩ := T6.out
  have lt6 := T6.out.z0.lt
  simp only at lt6
  cases f1 <;> cases f2
  · go_wp2_with fail
    have e0 := (T6.out.z0.set (.int .i64 0)).c
    have e1 := ((T6.out.z1.other (q := ⟨w.heap.size + 1 + 1, 0, none⟩) (by simp) (.int .i64 0)).set (.int .i64 0)).c
    refine bodyPost_ret (v := .tuple #[.agg #[.int .i64 0, .int .i64 0], .int .i64 2]) (by simp [results, Try.results29, go_sem, e0, e1, *]) rfl ?_
    exact ⟨rfl, (T6.out.bel.setCell (by show w.heap.size ≤ w.heap.size + 1 + 1; omega) _).setCell (by show w.heap.size ≤ w.heap.size + 1 + 1; omega) _⟩
  · go_wp2_with fail
    have e0 := (T6.out.z0.set (.int .i64 0)).c
    have e1 := ((T6.out.z1.other (q := ⟨w.heap.size + 1 + 1, 0, none⟩) (by simp) (.int .i64 0)).set (.int .i64 0)).c
    refine bodyPost_ret (v := .tuple #[.agg #[.int .i64 0, .int .i64 0], .int .i64 2]) (by simp [results, Try.results29, go_sem, e0, e1, *]) rfl ?_
    exact ⟨rfl, (T6.out.bel.setCell (by show w.heap.size ≤ w.heap.size + 1 + 1; omega) _).setCell (by show w.heap.size ≤ w.heap.size + 1 + 1; omega) _⟩
  · go_wp2_with fail
    have e0 := (T6.out.z0.set (.int .i64 0)).c
    have e1 := ((T6.out.z1.other (q := ⟨w.heap.size + 1 + 1, 0, none⟩) (by simp) (.int .i64 0)).set (.int .i64 0)).c
    refine bodyPost_ret (v := .tuple #[.agg #[.int .i64 0, .int .i64 0], .int .i64 2]) (by simp [results, Try.results29, go_sem, e0, e1, *]) rfl ?_
    exact ⟨rfl, (T6.out.bel.setCell (by show w.heap.size ≤ w.heap.size + 1 + 1; omega) _).setCell (by show w.heap.size ≤ w.heap.size + 1 + 1; omega) _⟩
  · go_wp2_with fail
    have e0 := (T6.out.z0.set (.int .i64 k1)).c
    have e1 := ((T6.out.z1.other (q := ⟨w.heap.size + 1 + 1, 0, none⟩) (by simp) (.int .i64 k1)).set (.int .i64 k2)).c
    refine bodyPost_ret (v := .tuple #[.agg #[.int .i64 k1, .int .i64 k2], .int .i64 0]) (by simp [results, Try.results29, go_sem, e0, e1, *]) rfl ?_
    exact ⟨rfl, (T6.out.bel.setCell (by show w.heap.size ≤ w.heap.size + 1 + 1; omega) _).setCell (by show w.heap.size ≤ w.heap.size + 1 + 1; omega) _⟩
end Go.Proofs.Ytkohefgendcofaa
