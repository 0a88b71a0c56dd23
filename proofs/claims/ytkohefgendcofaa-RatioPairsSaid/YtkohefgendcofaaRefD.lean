/- The reference's fractions: Good, Half. -/
import Derived.Test.YtkohefgendcofaaRefC
import Derived.WalkKit
import Derived.WalkSpells
import Derived.WalkLawsBesides
import Derived.Handy
import Derived.Lib.Hide
import Derived.Deep.QuietTactic
import Derived.BigQuiet
import Derived.LoopTactic
import Derived.RegionTactic
import Derived.BigRegion
import Derived.Deep.RegionHeld3
import Derived.Deep.RegionWith
import Derived.Outline
import Derived.Deep.DeepCutAuto
namespace Go.Proofs.Ytkohefgendcofaa
open Go.RowKit Go.Proofs.Big Go.Proofs.Reg
set_option linter.unusedVariables false
set_option linter.unusedSimpArgs false
set_option maxRecDepth 100000
theorem Lowest.good_iff {n d g N D : Int} (L : Lowest n d g N D) (d1 : 1 ≤ d) : (goodB n d = true ∧ N = n ∧ D = d) ∨ (goodB n d = false ∧ D ≠ d) := by
  have eN := L.eN
  have eD := L.eD
  rw [if_neg (by omega)] at eN eD
  have g1 := L.gpos
  have D1 := L.Dpos
  by_cases h : g = 1
  · left
    subst h
    refine ⟨?_, by omega, by omega⟩
    unfold goodB
    rw [decide_eq_true d1, L.hg]
    rfl
  · right
    refine ⟨?_, fun e => ?_⟩
    · unfold goodB
      rw [decide_eq_true d1, L.hg]
      simpa using h
    · rw [e] at eD
      have : d * 2 ≤ d * g := Int.mul_le_mul_of_nonneg_left (by omega) (by omega)
      omega
theorem Lowest.fits {n d g N D : Int} (L : Lowest n d g N D) (d1 : 1 ≤ d) : (-9223372036854775808 ≤ N ∧ N < 9223372036854775808) ∧ (-9223372036854775808 ≤ D ∧ D < 9223372036854775808) := by
  have eN := L.eN
  have eD := L.eD
  rw [if_neg (by omega)] at eN eD
  have g1 := L.gpos
  have D1 := L.Dpos
  have n0 := L.n0
  have n1 := L.n1
  have dd1 := L.d1
  have h1 : D * 1 ≤ D * g := Int.mul_le_mul_of_nonneg_left (by omega) (by omega)
  have h2 : 0 ≤ N → N * 1 ≤ N * g := fun h => Int.mul_le_mul_of_nonneg_left (by omega) h
  have h3 : N ≤ 0 → N * g ≤ N * 1 := fun h => by
    have := Int.mul_le_mul_of_nonneg_left (c := -N) (show (1 : Int) ≤ g by omega) (by omega)
    rw [Int.neg_mul, Int.neg_mul] at this
    omega
  omega
set_option maxHeartbeats 2000000 in
theorem good2_any (n d : Int) (n0 : -9223372036854775808 ≤ n) (n1 : n ≤ 9223372036854775807) (d0 : -9223372036854775808 ≤ d) (d1 : d ≤ 9223372036854775807) (w : World) :
    Calls Try.prog 25 #[.int .i64 n, .int .i64 d] w fun e w' => e = .returned (.bool (goodB n d)) ∧ Below w.heap.size w w' := by
  by_cases dp : 1 ≤ d
  · obtain ⟨g, N, D, L⟩ := lowest_ex n d n0 n1 d0 d1 (by omega)
    have LL := Lib.hid L
    obtain ⟨⟨N0, N1⟩, D0, D1⟩ := L.fits dp
    have fN := Lib.hid (show true = decide (-9223372036854775808 ≤ N ∧ N < 9223372036854775808) from (decide_eq_true ⟨N0, N1⟩).symm)
    have fD := Lib.hid (show true = decide (-9223372036854775808 ≤ D ∧ D < 9223372036854775808) from (decide_eq_true ⟨D0, D1⟩).symm)
    have kN := Lib.hid (show N = if -9223372036854775808 ≤ N ∧ N < 9223372036854775808 then N else 0 from (if_pos ⟨N0, N1⟩).symm)
    have kD := Lib.hid (show D = if -9223372036854775808 ≤ D ∧ D < 9223372036854775808 then D else 0 from (if_pos ⟨D0, D1⟩).symm)
    have SN := Lib.hid (sm_of N (by omega) (by omega))
    have SD := Lib.hid (sm_of D (by omega) (by omega))
    obtain ⟨r, bN, bD, hr, hbN, hbD, hrr⟩ : ∃ r bN bD : Bool, r = goodB n d ∧ (N == n) = bN ∧ (D == d) = bD ∧ ((r = true ∧ bN = true ∧ bD = true) ∨ (r = false ∧ bD = false)) := by
      refine ⟨_, _, _, rfl, rfl, rfl, ?_⟩
      rcases L.good_iff dp with h | h
      · left; exact ⟨h.1, by simp [h.2.1], by simp [h.2.2]⟩
      · right; exact ⟨h.1, by simpa using h.2⟩
    rw [← hr]
    clear L hr
    go_enter Try.func25, Try.ntmps25
    go_wp2_with fail
    refine (bof_any n n0 n1 _).mono ?_
    rintro e w1 ⟨ng1, a1, l1, c1, rfl, hv1, hb1⟩
    have H1 := Lib.hid hv1
    have K1 := Lib.hid hb1
    clear hv1 hb1
    go_wp2_with fail
    refine (bof_any d d0 d1 _).mono ?_
    rintro e w2 ⟨ng2, a2, l2, c2, rfl, hv2, hb2⟩
    have H2 := Lib.hid hv2
    have H1' := Lib.hid (H1.out.later hb2)
    have K2 := Lib.hid (bel_trans K1.out hb2)
    clear hv2 hb2 H1 K1
    go_wp2_with fail
    refine (lowest_ints ng1 ng2 a1 a2 l1 c1 l2 c2 n d N D g _ H1'.out H2.out n0 n1 d0 d1 LL.out).mono ?_
    rintro e w3 ⟨ng3, a3, l3, c3, ng4, a4, l4, c4, rfl, hv3, hv4, hb3⟩
    have H3 := Lib.hid ((hv3.alloc (.cells #[.bool ng3, .slice a3 l3 c3] 29)).alloc (.cells #[.bool ng4, .slice a4 l4 c4] 29))
    have H4 := Lib.hid ((hv4.alloc (.cells #[.bool ng3, .slice a3 l3 c3] 29)).alloc (.cells #[.bool ng4, .slice a4 l4 c4] 29))
    have K3 := Lib.hid (bel_alloc (bel_alloc (bel_trans K2.out hb3) (.cells #[.bool ng3, .slice a3 l3 c3] 29)) (.cells #[.bool ng4, .slice a4 l4 c4] 29))
    clear hv3 hv4 hb3 H1' H2 K2
    go_wp2_with fail
    refine (ints_any ng3 ng4 a3 a4 l3 c3 l4 c4 N D _ H3.out H4.out (Nat.le_trans (Sm.le H3.out SN.out) (by decide)) (Nat.le_trans (Sm.le H4.out SD.out) (by decide)) true true N D fN kN fD kD).mono ?_
    rintro e w4 ⟨rfl, hb4⟩
    have K4 := Lib.hid (bel_trans K3.out hb4)
    clear hb4 K3 H3 H4
    rcases hrr with ⟨rfl, rfl, rfl⟩ | ⟨rfl, rfl⟩
    · go_wp2_with fail
      go_returns
      exact ⟨rfl, K4.out⟩
    · cases bN
      all_goals
        go_wp2_with fail
        go_returns
        exact ⟨rfl, K4.out⟩
  · have hg : goodB n d = false := by unfold goodB; rw [decide_eq_false dp]; rfl
    rw [hg]
    have dl : d < 1 := by omega
    clear hg dp
    go_enter Try.func25, Try.ntmps25
    go_wp2_with fail
    go_returns
    exact ⟨rfl, Below.refl _ _⟩
set_option maxHeartbeats 4000000 in
theorem r2half_any (x n d : Int) (x0 : -9223372036854775808 ≤ x) (x1 : x ≤ 9223372036854775807) (n0 : -9223372036854775808 ≤ n) (n1 : n ≤ 9223372036854775807) (d0 : 1 ≤ d) (d1 : d ≤ 9223372036854775807) (w : World) :
    Calls Try.prog 36 #[.int .i64 x, .int .i64 n, .int .i64 d] w (RetBig w ((2 * (x * n) + d) / (2 * d))) := by
  have PR := Lib.hid (prod_range x n x0 x1 n0 n1)
  have SX := Lib.hid (sm_of x (by omega) (by omega))
  have SN := Lib.hid (sm_of n (by omega) (by omega))
  have SD := Lib.hid (sm_of d (by omega) (by omega))
  have S2 := Lib.hid (sm_of 2 (by omega) (by omega))
  have SP := Lib.hid (sm_of (x * n) (by have := PR.out; omega) (by have := PR.out; omega))
  have SPP := Lib.hid (sm_of (2 * (x * n)) (by have := PR.out; omega) (by have := PR.out; omega))
  go_enter Try.func36, Try.ntmps36
  go_wp2_with fail
  refine (ofu_any 2 (by decide) (by decide) _).mono ?_
  rintro e w1 ⟨ng1, a1, l1, c1, rfl, hv1, hb1⟩
  obtain rfl : ng1 = false := by
    have := hv1.hng
    rw [decide_eq_false (by omega)] at this
    exact this
  have R1 := Lib.hid (((BV.new w false none 0 0 29).later hb1).alloc (.cells #[.bool false, .slice a1 l1 c1] 29))
  have T1 := Lib.hid (show BN (w1.alloc (.cells #[.bool false, .slice a1 l1 c1] 29)) w1.heap.size false a1 l1 c1 2 from ⟨BV.new w1 false a1 l1 c1 29, hv1.alloc _⟩)
  have K1 := Lib.hid (bel_alloc (bel_trans (bel_alloc (Below.refl _ _) _) hb1) (.cells #[.bool false, .slice a1 l1 c1] 29))
  clear hv1 hb1
  go_wp2_with fail
  refine wp_region_kinds [constK (.agg #[.bool false, .slice a1 l1 c1]), constK (.int .i64 x), bigK x, constK (.int .i64 n), bigK n, bigK (x * n), bigK (2 * (x * n)), .box 29 8 6, .put 7 6]
    [some 12, some 13, some 14, some 15, some 16, some 17, some 18, some 8, none] (by kernel_rfl) (by kernel_rfl) (by kernel_rfl) (by kernel_rfl) (by kernel_rfl) (by kernel_rfl) (by kernel_rfl) (fun i o ho => ?_) (fun val2 w2 hf hne hb => ?_)
  · match i, ho with
    | 0, ho =>
      obtain rfl := Option.some.inj ho
      exact ok_load (by kernel_rfl) rfl T1.out.B
    | 1, ho =>
      obtain rfl := Option.some.inj ho
      exact ok_arg (by kernel_rfl) rfl
    | 2, ho =>
      obtain rfl := Option.some.inj ho
      refine ok_big (fun _ _ => by kernel_rfl) fun A L val w env facts hb => ?_
      rw [map1, dep_const env facts 1 13 _ (by kernel_rfl) rfl rfl]
      exact bof_any x x0 x1 w
    | 3, ho =>
      obtain rfl := Option.some.inj ho
      exact ok_arg (by kernel_rfl) rfl
    | 4, ho =>
      obtain rfl := Option.some.inj ho
      refine ok_big (fun _ _ => by kernel_rfl) fun A L val w env facts hb => ?_
      rw [map1, dep_const env facts 3 15 _ (by kernel_rfl) rfl rfl]
      exact bof_any n n0 n1 w
    | 5, ho =>
      obtain rfl := Option.some.inj ho
      refine ok_big (fun _ _ => by kernel_rfl) fun A L val w env facts hb => ?_
      obtain ⟨ng2, a2, l2, c2, e2, v2⟩ := dep_big env facts 2 14 x (by kernel_rfl) rfl rfl
      obtain ⟨ng3, a3, l3, c3, e3, v3⟩ := dep_big env facts 4 16 n (by kernel_rfl) rfl rfl
      rw [map2, e2, e3]
      exact times_any ng2 ng3 a2 a3 l2 c2 l3 c3 x n w v2 v3 (Nat.le_trans (Sm.le v2 SX.out) (by decide)) (Nat.le_trans (Sm.le v3 SN.out) (by decide))
    | 6, ho =>
      obtain rfl := Option.some.inj ho
      refine ok_big (fun _ _ => by kernel_rfl) fun A L val w env facts hb => ?_
      obtain ⟨ng2, a2, l2, c2, e2, v2⟩ := dep_big env facts 5 17 (x * n) (by kernel_rfl) rfl rfl
      have v1 := (T1.out.later hb).V
      rw [map2, dep_const env facts 0 12 _ (by kernel_rfl) rfl rfl, e2]
      exact times_any false ng2 a1 a2 l1 c1 l2 c2 2 (x * n) w v1 v2 (Nat.le_trans (Sm.le v1 S2.out) (by decide)) (Nat.le_trans (Sm.le v2 SP.out) (by decide))
    | 7, ho =>
      obtain rfl := Option.some.inj ho
      exact ok_box
    | 8, ho =>
      obtain rfl := Option.some.inj ho
      refine ok_put rfl rfl (by kernel_rfl) (by kernel_rfl) (fun L val w h => ?_)
      obtain ⟨n, a, l, c, e, _⟩ : BigC (2 * (x * n)) (val 6) w := h
      exact ⟨n, a, l, c, e⟩
    | n + 9, ho => simp at ho
  have F6 : BigC (2 * (x * n)) (val2 6) w2 := hf 6 (by decide)
  obtain ⟨qA, eA, q0, q1, BA⟩ : ∃ q, val2 7 = .pointer (some ⟨q, 0, none⟩) ∧ _ ≤ q ∧ q < w2.heap.size ∧ BoxAt w2 q (val2 6) := hf 7 (by decide)
  obtain ⟨nA, aA, lA, cA, e6, CA⟩ := BN.of BA F6
  have TA := Lib.hid CA
  have T2 := Lib.hid (T1.out.later hb)
  have R2 := Lib.hid (R1.out.later hb)
  have K2 := Lib.hid (bel_trans K1.out hb)
  simp only [puts2, Act.put, List.setIfInBounds_toArray, List.set_cons_zero, List.set_cons_succ, Nat.zero_add, Nat.reduceAdd]
  rw [eA]
  clear hf hne hb F6 BA CA eA e6 q0 q1 R1 K1 T1
  go_wp2_with fail
  refine wp_region_kinds [constK (.agg #[.bool nA, .slice aA lA cA]), constK (.int .i64 d), bigK d, bigK (2 * (x * n) + d), constK (.agg #[.bool false, .slice a1 l1 c1]), constK (.int .i64 d), bigK d, bigK (2 * d), pairK ((2 * (x * n) + d) / (2 * d)) ((2 * (x * n) + d) % (2 * d)), moveK 8, fstK 9, sndK 9, .box 29 14 10, .box 29 15 11, .put 12 10, .put 13 11]
    [some 20, some 21, some 22, some 23, some 24, some 25, some 26, some 27, some 28, some 19, some 29, some 30, some 9, some 10, none, none] (by kernel_rfl) (by kernel_rfl) (by kernel_rfl) (by kernel_rfl) (by kernel_rfl) (by kernel_rfl) (by kernel_rfl) (fun i o ho => ?_) (fun val3 w3 hf hne hb => ?_)
  · match i, ho with
    | 0, ho =>
      obtain rfl := Option.some.inj ho
      exact ok_load (by kernel_rfl) rfl TA.out.B
    | 1, ho =>
      obtain rfl := Option.some.inj ho
      exact ok_arg (by kernel_rfl) rfl
    | 2, ho =>
      obtain rfl := Option.some.inj ho
      refine ok_big (fun _ _ => by kernel_rfl) fun A L val w env facts hb => ?_
      rw [map1, dep_const env facts 1 21 _ (by kernel_rfl) rfl rfl]
      exact bof_any d (by omega) d1 w
    | 3, ho =>
      obtain rfl := Option.some.inj ho
      refine ok_big (fun _ _ => by kernel_rfl) fun A L val w env facts hb => ?_
      obtain ⟨ng2, a2, l2, c2, e2, v2⟩ := dep_big env facts 2 22 d (by kernel_rfl) rfl rfl
      have v1 := (TA.out.later hb).V
      rw [map2, dep_const env facts 0 20 _ (by kernel_rfl) rfl rfl, e2]
      exact plus_any nA ng2 aA a2 lA cA l2 c2 (2 * (x * n)) d w v1 v2 (Nat.le_trans (Sm.le v1 SPP.out) (by decide)) (Nat.le_trans (Sm.le v2 SD.out) (by decide))
    | 4, ho =>
      obtain rfl := Option.some.inj ho
      exact ok_load (by kernel_rfl) rfl T2.out.B
    | 5, ho =>
      obtain rfl := Option.some.inj ho
      exact ok_arg (by kernel_rfl) rfl
    | 6, ho =>
      obtain rfl := Option.some.inj ho
      refine ok_big (fun _ _ => by kernel_rfl) fun A L val w env facts hb => ?_
      rw [map1, dep_const env facts 5 25 _ (by kernel_rfl) rfl rfl]
      exact bof_any d (by omega) d1 w
    | 7, ho =>
      obtain rfl := Option.some.inj ho
      refine ok_big (fun _ _ => by kernel_rfl) fun A L val w env facts hb => ?_
      obtain ⟨ng2, a2, l2, c2, e2, v2⟩ := dep_big env facts 6 26 d (by kernel_rfl) rfl rfl
      have v1 := (T2.out.later hb).V
      rw [map2, dep_const env facts 4 24 _ (by kernel_rfl) rfl rfl, e2]
      exact times_any false ng2 a1 a2 l1 c1 l2 c2 2 d w v1 v2 (Nat.le_trans (Sm.le v1 S2.out) (by decide)) (Nat.le_trans (Sm.le v2 SD.out) (by decide))
    | 8, ho =>
      obtain rfl := Option.some.inj ho
      refine ok_pair (fun _ _ => by kernel_rfl) fun A L val w env facts hb => ?_
      obtain ⟨ng2, a2, l2, c2, e2, v2⟩ := dep_big env facts 3 23 _ (by kernel_rfl) rfl rfl
      obtain ⟨ng3, a3, l3, c3, e3, v3⟩ := dep_big env facts 7 27 _ (by kernel_rfl) rfl rfl
      obtain rfl : ng3 = false := by
        have := v3.hng
        rw [decide_eq_false (by omega)] at this
        exact this
      rw [map2, e2, e3]
      exact bdown_pos ng2 a2 a3 l2 c2 l3 c3 (2 * (x * n) + d) (2 * d) w v2 v3 (by have := P98_big; have := PR.out; omega) (by have := P98_big; have := PR.out; omega) (by omega) (by have := P98_big; omega)
    | 9, ho =>
      obtain rfl := Option.some.inj ho
      exact ok_move rfl (by kernel_rfl) rfl
    | 10, ho =>
      obtain rfl := Option.some.inj ho
      exact ok_fst rfl (by kernel_rfl) rfl
    | 11, ho =>
      obtain rfl := Option.some.inj ho
      exact ok_snd rfl (by kernel_rfl) rfl
    | 12, ho =>
      obtain rfl := Option.some.inj ho
      exact ok_box
    | 13, ho =>
      obtain rfl := Option.some.inj ho
      exact ok_box
    | 14, ho =>
      obtain rfl := Option.some.inj ho
      exact ok_put rfl rfl (by kernel_rfl) (by kernel_rfl) (fun L val w h => (h : IsBig (val 10) ∧ _).1)
    | 15, ho =>
      obtain rfl := Option.some.inj ho
      exact ok_put rfl rfl (by kernel_rfl) (by kernel_rfl) (fun L val w h => (h : IsBig (val 11) ∧ _).1)
    | n + 16, ho => simp at ho
  have F8 : PairC ((2 * (x * n) + d) / (2 * d)) ((2 * (x * n) + d) % (2 * d)) (val3 8) w3 := hf 8 (by decide)
  have F9 : val3 9 = val3 8 ∧ _ := hf 9 (by decide)
  have F10 : _ ∧ ∃ q, val3 9 = .tuple #[val3 10, q] := hf 10 (by decide)
  obtain ⟨qB, eB, q0, q1, BB⟩ : ∃ q, val3 12 = .pointer (some ⟨q, 0, none⟩) ∧ _ ≤ q ∧ q < w3.heap.size ∧ BoxAt w3 q (val3 10) := hf 12 (by decide)
  obtain ⟨nB, aB, lB, cB, e10, CB⟩ := BN.of BB (pair_fst F8 F9.1 F10.2)
  have TB := Lib.hid CB
  have R3 := Lib.hid (R2.out.later hb)
  have K3 := Lib.hid (bel_trans K2.out hb)
  simp only [puts2, Act.put, List.setIfInBounds_toArray, List.set_cons_zero, List.set_cons_succ, Nat.zero_add, Nat.reduceAdd]
  rw [eB]
  clear hf hne hb F8 F9 F10 BB CB eB e10 q0 q1 R2 K2 T2 TA
  obtain ⟨k0, k1, k2, k3⟩ := R3.out
  obtain ⟨g0, g1, _, _⟩ := TB.out.B
  go_wp2_with fail
  refine bodyPost_ret (v := .agg #[.bool nB, .slice aB lB cB]) (by simp [results, Try.results36, go_sem, k0, k1, k2, k3, g0, g1]) rfl ?_
  exact RetBig.mk (TB.out.V.setBV R3.out _ _) ((K3.out.setCell (by show w.heap.size ≤ w.heap.size; omega) _).setCell (by show w.heap.size ≤ w.heap.size; omega) _)
end Go.Proofs.Ytkohefgendcofaa
