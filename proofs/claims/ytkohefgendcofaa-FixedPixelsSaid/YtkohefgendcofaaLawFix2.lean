/- The walk of FixedPixels. -/
import Derived.Test.YtkohefgendcofaaSpk4
import Derived.Test.YtkohefgendcofaaRefC
import Derived.WalkKit
import Derived.WalkSpells
import Derived.WalkLawsBesides
import Derived.Handy
import Derived.Lib.Hide
import Derived.Deep.QuietTactic
import Derived.BigQuiet
import Derived.LoopTactic
import Derived.Deep.RegionHeld3
import Derived.Deep.RegionWith
import Derived.Outline
import Derived.Deep.DeepCutAuto
namespace Go.Proofs.Ytkohefgendcofaa
open Go.RowKit Go.Proofs.Big Go.Proofs.Reg
set_option linter.unusedVariables false
set_option linter.unusedSimpArgs false
set_option maxRecDepth 100000
theorem undrew {w w' : World} (h : Below w.drew.heap.size w.drew w') : Below w.heap.size w w' := below_undrew h
set_option maxHeartbeats 2000000 in
theorem pixels0 (a : Int) (h0 : -9223372036854775808 ≤ a) (h1 : a ≤ 9223372036854775807) (w : World) :
    Calls Try.prog 55 #[.int .i64 a, .int .i64 0] w fun e w' => e = .returned (.int .i64 ((a) / 64)) ∧ Below w.heap.size w w' := by
  have SA := Lib.hid (sm_of a (by omega) (by omega))
  go_enter Try.func55, Try.ntmps55
  go_wp2_with fail
  refine (bof_any a h0 h1 _).mono ?_
  rintro e w1 ⟨n1, a1, l1, c1, rfl, hv1, hb1⟩
  have LA := Lib.hid (Sm.le hv1 SA.out)
  have hw1 := Lib.hid hb1.size
  have TA0 := Lib.hid (show BN (w1.alloc (.cells #[.bool n1, .slice a1 l1 c1] 29)) w1.heap.size n1 a1 l1 c1 a from ⟨BV.new w1 n1 a1 l1 c1 29, hv1.alloc _⟩)
  have KA0 := Lib.hid (bel_alloc (bel_trans (Below.refl _ _) hb1) (.cells #[.bool n1, .slice a1 l1 c1] 29))
  clear hv1 hb1
  have TA := TA0
  have KA := KA0
  clear TA0 KA0
  go_wp2_with fail
  refine wp_region_kinds [constK (.agg #[.bool n1, .slice a1 l1 c1]), bigK 64, pairK ((a) / 64) ((a) % 64), moveK 2, fstK 3, sndK 3, .box 29 8 4, .box 29 9 5, .put 6 4, .put 7 5]
    [some 23, some 24, some 25, some 22, some 26, some 27, some 6, some 7, none, none] (by kernel_rfl) (by kernel_rfl) (by kernel_rfl) (by kernel_rfl) (by kernel_rfl) (by kernel_rfl) (by kernel_rfl) (fun i o ho => ?_) (fun val3 w3 hf hne hb => ?_)
  · match i, ho with
    | 0, ho =>
      obtain rfl := Option.some.inj ho
      exact ok_load (by kernel_rfl) rfl TA.out.B
    | 1, ho =>
      obtain rfl := Option.some.inj ho
      refine ok_big (fun _ _ => by kernel_rfl) fun A L val w env facts hb => ?_
      rw [map1, show A.eval (.const (.int .u64 64)) = .int .u64 64 from rfl]
      exact ofu_any 64 (by decide) (by decide) w
    | 2, ho =>
      obtain rfl := Option.some.inj ho
      refine ok_pair (fun _ _ => by kernel_rfl) fun A L val w env facts hb => ?_
      obtain ⟨ng3, a3, l3, c3, e3, v3⟩ := dep_big env facts 1 24 _ (by kernel_rfl) rfl rfl
      obtain rfl : ng3 = false := by
        have := v3.hng
        rw [decide_eq_false (by omega)] at this
        exact this
      have v2 := (TA.out.later hb).V
      rw [map2, dep_const env facts 0 23 _ (by kernel_rfl) rfl rfl, e3]
      exact bdown_pos n1 a1 a3 l1 c1 l3 c3 (a) 64 w v2 v3 (by have := P98_big; omega) (by have := P98_big; omega) (by omega) (by have := P98_big; omega)
    | 3, ho =>
      obtain rfl := Option.some.inj ho
      exact ok_move rfl (by kernel_rfl) rfl
    | 4, ho =>
      obtain rfl := Option.some.inj ho
      exact ok_fst rfl (by kernel_rfl) rfl
    | 5, ho =>
      obtain rfl := Option.some.inj ho
      exact ok_snd rfl (by kernel_rfl) rfl
    | 6, ho =>
      obtain rfl := Option.some.inj ho
      exact ok_box
    | 7, ho =>
      obtain rfl := Option.some.inj ho
      exact ok_box
    | 8, ho =>
      obtain rfl := Option.some.inj ho
      exact ok_put rfl rfl (by kernel_rfl) (by kernel_rfl) (fun L val w h => (h : IsBig (val 4) ∧ _).1)
    | 9, ho =>
      obtain rfl := Option.some.inj ho
      exact ok_put rfl rfl (by kernel_rfl) (by kernel_rfl) (fun L val w h => (h : IsBig (val 5) ∧ _).1)
    | n + 10, ho => simp at ho
  have F8 : PairC ((a) / 64) ((a) % 64) (val3 2) w3 := hf 2 (by decide)
  have F9 : val3 3 = val3 2 ∧ _ := hf 3 (by decide)
  have F10 : _ ∧ ∃ q, val3 3 = .tuple #[val3 4, q] := hf 4 (by decide)
  obtain ⟨qB, eB, q0, q1, BB⟩ : ∃ q, val3 6 = .pointer (some ⟨q, 0, none⟩) ∧ _ ≤ q ∧ q < w3.heap.size ∧ BoxAt w3 q (val3 4) := hf 6 (by decide)
  obtain ⟨nB, aB, lB, cB, e10, CB⟩ := BN.of BB (pair_fst F8 F9.1 F10.2)
  have TB := Lib.hid CB
  have K3 := Lib.hid (bel_trans KA.out hb)
  simp only [puts2, Act.put, List.setIfInBounds_toArray, List.set_cons_zero, List.set_cons_succ, Nat.zero_add, Nat.reduceAdd]
  rw [eB]
  clear hf hne hb F8 F9 F10 BB CB eB e10 q0 q1 KA TA
  obtain ⟨g0, g1, _, _⟩ := TB.out.B
  have SQ := sm_of ((a) / 64) (by omega) (by omega)
  have LQ := Lib.hid (Sm.le TB.out.V SQ)
  clear SQ
  go_wp2_with fail
  refine (bint_any nB aB lB cB ((a) / 64) _ TB.out.V (by have := LQ.out; omega) true ((a) / 64) (Lib.hid (decide_eq_true (by omega)).symm) (Lib.hid (by rw [if_pos (by omega)]))).mono ?_
  rintro e w4 ⟨rfl, hb4⟩
  have K4 := Lib.hid (bel_trans K3.out hb4)
  clear hb4
  go_wp2_with fail
  go_returns
  exact ⟨rfl, K4.out⟩
set_option maxHeartbeats 2000000 in
theorem pixels1 (a : Int) (h0 : -9223372036854775808 ≤ a) (h1 : a ≤ 9223372036854775807) (w : World) :
    Calls Try.prog 55 #[.int .i64 a, .int .i64 1] w fun e w' => e = .returned (.int .i64 ((a + 63) / 64)) ∧ Below w.heap.size w w' := by
  have SA := Lib.hid (sm_of a (by omega) (by omega))
  go_enter Try.func55, Try.ntmps55
  go_wp2_with fail
  refine (bof_any a h0 h1 _).mono ?_
  rintro e w1 ⟨n1, a1, l1, c1, rfl, hv1, hb1⟩
  have LA := Lib.hid (Sm.le hv1 SA.out)
  have hw1 := Lib.hid hb1.size
  have TA0 := Lib.hid (show BN (w1.alloc (.cells #[.bool n1, .slice a1 l1 c1] 29)) w1.heap.size n1 a1 l1 c1 a from ⟨BV.new w1 n1 a1 l1 c1 29, hv1.alloc _⟩)
  have KA0 := Lib.hid (bel_alloc (bel_trans (Below.refl _ _) hb1) (.cells #[.bool n1, .slice a1 l1 c1] 29))
  clear hv1 hb1
  obtain ⟨k0, k1, k2, k3⟩ := TA0.out.B
  go_wp2_with fail
  go_cut [] (fun wx => ∃ (nA : Bool) (aA : Option Addr) (lA cA : Nat), Hid (BN wx w1.heap.size nA aA lA cA (a + 63)) ∧ Hid (Below w.heap.size w wx))
  case first =>
    go_region_with (first
      | (go_at_call 67; refine (ofu_any 63 (by decide) (by decide) _).mono ?_; rintro e w5 ⟨n5, a5, l5, c5, rfl, hv5, hb5⟩; have H5 := Lib.hid hv5; have B5 := Lib.hid (undrew hb5); obtain ⟨k0, k1, k2, k3⟩ := (TA0.out.later (undrew hb5)).B; clear hv5 hb5)
      | (go_at_call 15; refine (plus_any n1 n5 a1 a5 l1 c1 l5 c5 a 63 _ (TA0.out.later B5.out).V H5.out (by have := LA.out; omega) (Nat.le_trans (Sm.le H5.out (sm_of 63 (by decide) (by decide))) (by decide))).mono ?_; rintro e w6 ⟨n6, a6, l6, c6, rfl, hv6, hb6⟩; have H6 := Lib.hid hv6; have B6 := Lib.hid (bel_trans' B5.out hb6); obtain ⟨k0, k1, k2, k3⟩ := (TA0.out.later (bel_trans' B5.out hb6)).B; clear hv6 hb6))
    all_goals
      go_wp2_with fail
      go_meet
      have T6 := TA0.out.later B6.out
      have lw := KA0.out.size
      exact ⟨n6, a6, l6, c6, Lib.hid ⟨T6.B.set _ _ _ _, H6.out.setBV T6.B _ _⟩, Lib.hid (((bel_trans KA0.out B6.out).setCell (by show w.heap.size ≤ w1.heap.size; have := hw1.out; omega) _).setCell (by show w.heap.size ≤ w1.heap.size; have := hw1.out; omega) _)⟩
  case rest =>
    obtain ⟨nA, aA, lA, cA, TA, KA⟩ := hcut
    obtain ⟨k0, k1, k2, k3⟩ := TA.out.B
    go_wp2_with fail
    refine wp_region_kinds [constK (.agg #[.bool nA, .slice aA lA cA]), bigK 64, pairK ((a + 63) / 64) ((a + 63) % 64), moveK 2, fstK 3, sndK 3, .box 29 8 4, .box 29 9 5, .put 6 4, .put 7 5]
      [some 23, some 24, some 25, some 22, some 26, some 27, some 6, some 7, none, none] (by kernel_rfl) (by kernel_rfl) (by kernel_rfl) (by kernel_rfl) (by kernel_rfl) (by kernel_rfl) (by kernel_rfl) (fun i o ho => ?_) (fun val3 w3 hf hne hb => ?_)
    · match i, ho with
      | 0, ho =>
        obtain rfl := Option.some.inj ho
        exact ok_load (by kernel_rfl) rfl TA.out.B
      | 1, ho =>
        obtain rfl := Option.some.inj ho
        refine ok_big (fun _ _ => by kernel_rfl) fun A L val w env facts hb => ?_
        rw [map1, show A.eval (.const (.int .u64 64)) = .int .u64 64 from rfl]
        exact ofu_any 64 (by decide) (by decide) w
      | 2, ho =>
        obtain rfl := Option.some.inj ho
        refine ok_pair (fun _ _ => by kernel_rfl) fun A L val w env facts hb => ?_
        obtain ⟨ng3, a3, l3, c3, e3, v3⟩ := dep_big env facts 1 24 _ (by kernel_rfl) rfl rfl
        obtain rfl : ng3 = false := by
          have := v3.hng
          rw [decide_eq_false (by omega)] at this
          exact this
        have v2 := (TA.out.later hb).V
        rw [map2, dep_const env facts 0 23 _ (by kernel_rfl) rfl rfl, e3]
        exact bdown_pos nA aA a3 lA cA l3 c3 (a + 63) 64 w v2 v3 (by have := P98_big; omega) (by have := P98_big; omega) (by omega) (by have := P98_big; omega)
      | 3, ho =>
        obtain rfl := Option.some.inj ho
        exact ok_move rfl (by kernel_rfl) rfl
      | 4, ho =>
        obtain rfl := Option.some.inj ho
        exact ok_fst rfl (by kernel_rfl) rfl
      | 5, ho =>
        obtain rfl := Option.some.inj ho
        exact ok_snd rfl (by kernel_rfl) rfl
      | 6, ho =>
        obtain rfl := Option.some.inj ho
        exact ok_box
      | 7, ho =>
        obtain rfl := Option.some.inj ho
        exact ok_box
      | 8, ho =>
        obtain rfl := Option.some.inj ho
        exact ok_put rfl rfl (by kernel_rfl) (by kernel_rfl) (fun L val w h => (h : IsBig (val 4) ∧ _).1)
      | 9, ho =>
        obtain rfl := Option.some.inj ho
        exact ok_put rfl rfl (by kernel_rfl) (by kernel_rfl) (fun L val w h => (h : IsBig (val 5) ∧ _).1)
      | n + 10, ho => simp at ho
    have F8 : PairC ((a + 63) / 64) ((a + 63) % 64) (val3 2) w3 := hf 2 (by decide)
    have F9 : val3 3 = val3 2 ∧ _ := hf 3 (by decide)
    have F10 : _ ∧ ∃ q, val3 3 = .tuple #[val3 4, q] := hf 4 (by decide)
    obtain ⟨qB, eB, q0, q1, BB⟩ : ∃ q, val3 6 = .pointer (some ⟨q, 0, none⟩) ∧ _ ≤ q ∧ q < w3.heap.size ∧ BoxAt w3 q (val3 4) := hf 6 (by decide)
    obtain ⟨nB, aB, lB, cB, e10, CB⟩ := BN.of BB (pair_fst F8 F9.1 F10.2)
    have TB := Lib.hid CB
    have K3 := Lib.hid (bel_trans KA.out hb)
    simp only [puts2, Act.put, List.setIfInBounds_toArray, List.set_cons_zero, List.set_cons_succ, Nat.zero_add, Nat.reduceAdd]
    rw [eB]
    clear hf hne hb F8 F9 F10 BB CB eB e10 q0 q1 KA TA
    obtain ⟨g0, g1, _, _⟩ := TB.out.B
    have SQ := sm_of ((a + 63) / 64) (by omega) (by omega)
    have LQ := Lib.hid (Sm.le TB.out.V SQ)
    clear SQ
    go_wp2_with fail
    refine (bint_any nB aB lB cB ((a + 63) / 64) _ TB.out.V (by have := LQ.out; omega) true ((a + 63) / 64) (Lib.hid (decide_eq_true (by omega)).symm) (Lib.hid (by rw [if_pos (by omega)]))).mono ?_
    rintro e w4 ⟨rfl, hb4⟩
    have K4 := Lib.hid (bel_trans K3.out hb4)
    clear hb4
    go_wp2_with fail
    go_returns
    exact ⟨rfl, K4.out⟩
set_option maxHeartbeats 2000000 in
theorem pixels2 (a : Int) (h0 : -9223372036854775808 ≤ a) (h1 : a ≤ 9223372036854775807) (w : World) :
    Calls Try.prog 55 #[.int .i64 a, .int .i64 2] w fun e w' => e = .returned (.int .i64 ((a + 32) / 64)) ∧ Below w.heap.size w w' := by
  have SA := Lib.hid (sm_of a (by omega) (by omega))
  go_enter Try.func55, Try.ntmps55
  go_wp2_with fail
  refine (bof_any a h0 h1 _).mono ?_
  rintro e w1 ⟨n1, a1, l1, c1, rfl, hv1, hb1⟩
  have LA := Lib.hid (Sm.le hv1 SA.out)
  have hw1 := Lib.hid hb1.size
  have TA0 := Lib.hid (show BN (w1.alloc (.cells #[.bool n1, .slice a1 l1 c1] 29)) w1.heap.size n1 a1 l1 c1 a from ⟨BV.new w1 n1 a1 l1 c1 29, hv1.alloc _⟩)
  have KA0 := Lib.hid (bel_alloc (bel_trans (Below.refl _ _) hb1) (.cells #[.bool n1, .slice a1 l1 c1] 29))
  clear hv1 hb1
  obtain ⟨k0, k1, k2, k3⟩ := TA0.out.B
  go_wp2_with fail
  go_cut [] (fun wx => ∃ (nA : Bool) (aA : Option Addr) (lA cA : Nat), Hid (BN wx w1.heap.size nA aA lA cA (a + 32)) ∧ Hid (Below w.heap.size w wx))
  case first =>
    go_region_with (first
      | (go_at_call 67; refine (ofu_any 32 (by decide) (by decide) _).mono ?_; rintro e w5 ⟨n5, a5, l5, c5, rfl, hv5, hb5⟩; have H5 := Lib.hid hv5; have B5 := Lib.hid (undrew hb5); obtain ⟨k0, k1, k2, k3⟩ := (TA0.out.later (undrew hb5)).B; clear hv5 hb5)
      | (go_at_call 15; refine (plus_any n1 n5 a1 a5 l1 c1 l5 c5 a 32 _ (TA0.out.later B5.out).V H5.out (by have := LA.out; omega) (Nat.le_trans (Sm.le H5.out (sm_of 32 (by decide) (by decide))) (by decide))).mono ?_; rintro e w6 ⟨n6, a6, l6, c6, rfl, hv6, hb6⟩; have H6 := Lib.hid hv6; have B6 := Lib.hid (bel_trans' B5.out hb6); obtain ⟨k0, k1, k2, k3⟩ := (TA0.out.later (bel_trans' B5.out hb6)).B; clear hv6 hb6))
    all_goals
      go_wp2_with fail
      go_meet
      have T6 := TA0.out.later B6.out
      have lw := KA0.out.size
      exact ⟨n6, a6, l6, c6, Lib.hid ⟨T6.B.set _ _ _ _, H6.out.setBV T6.B _ _⟩, Lib.hid (((bel_trans KA0.out B6.out).setCell (by show w.heap.size ≤ w1.heap.size; have := hw1.out; omega) _).setCell (by show w.heap.size ≤ w1.heap.size; have := hw1.out; omega) _)⟩
  case rest =>
    obtain ⟨nA, aA, lA, cA, TA, KA⟩ := hcut
    obtain ⟨k0, k1, k2, k3⟩ := TA.out.B
    go_wp2_with fail
    refine wp_region_kinds [constK (.agg #[.bool nA, .slice aA lA cA]), bigK 64, pairK ((a + 32) / 64) ((a + 32) % 64), moveK 2, fstK 3, sndK 3, .box 29 8 4, .box 29 9 5, .put 6 4, .put 7 5]
      [some 23, some 24, some 25, some 22, some 26, some 27, some 6, some 7, none, none] (by kernel_rfl) (by kernel_rfl) (by kernel_rfl) (by kernel_rfl) (by kernel_rfl) (by kernel_rfl) (by kernel_rfl) (fun i o ho => ?_) (fun val3 w3 hf hne hb => ?_)
    · match i, ho with
      | 0, ho =>
        obtain rfl := Option.some.inj ho
        exact ok_load (by kernel_rfl) rfl TA.out.B
      | 1, ho =>
        obtain rfl := Option.some.inj ho
        refine ok_big (fun _ _ => by kernel_rfl) fun A L val w env facts hb => ?_
        rw [map1, show A.eval (.const (.int .u64 64)) = .int .u64 64 from rfl]
        exact ofu_any 64 (by decide) (by decide) w
      | 2, ho =>
        obtain rfl := Option.some.inj ho
        refine ok_pair (fun _ _ => by kernel_rfl) fun A L val w env facts hb => ?_
        obtain ⟨ng3, a3, l3, c3, e3, v3⟩ := dep_big env facts 1 24 _ (by kernel_rfl) rfl rfl
        obtain rfl : ng3 = false := by
          have := v3.hng
          rw [decide_eq_false (by omega)] at this
          exact this
        have v2 := (TA.out.later hb).V
        rw [map2, dep_const env facts 0 23 _ (by kernel_rfl) rfl rfl, e3]
        exact bdown_pos nA aA a3 lA cA l3 c3 (a + 32) 64 w v2 v3 (by have := P98_big; omega) (by have := P98_big; omega) (by omega) (by have := P98_big; omega)
      | 3, ho =>
        obtain rfl := Option.some.inj ho
        exact ok_move rfl (by kernel_rfl) rfl
      | 4, ho =>
        obtain rfl := Option.some.inj ho
        exact ok_fst rfl (by kernel_rfl) rfl
      | 5, ho =>
        obtain rfl := Option.some.inj ho
        exact ok_snd rfl (by kernel_rfl) rfl
      | 6, ho =>
        obtain rfl := Option.some.inj ho
        exact ok_box
      | 7, ho =>
        obtain rfl := Option.some.inj ho
        exact ok_box
      | 8, ho =>
        obtain rfl := Option.some.inj ho
        exact ok_put rfl rfl (by kernel_rfl) (by kernel_rfl) (fun L val w h => (h : IsBig (val 4) ∧ _).1)
      | 9, ho =>
        obtain rfl := Option.some.inj ho
        exact ok_put rfl rfl (by kernel_rfl) (by kernel_rfl) (fun L val w h => (h : IsBig (val 5) ∧ _).1)
      | n + 10, ho => simp at ho
    have F8 : PairC ((a + 32) / 64) ((a + 32) % 64) (val3 2) w3 := hf 2 (by decide)
    have F9 : val3 3 = val3 2 ∧ _ := hf 3 (by decide)
    have F10 : _ ∧ ∃ q, val3 3 = .tuple #[val3 4, q] := hf 4 (by decide)
    obtain ⟨qB, eB, q0, q1, BB⟩ : ∃ q, val3 6 = .pointer (some ⟨q, 0, none⟩) ∧ _ ≤ q ∧ q < w3.heap.size ∧ BoxAt w3 q (val3 4) := hf 6 (by decide)
    obtain ⟨nB, aB, lB, cB, e10, CB⟩ := BN.of BB (pair_fst F8 F9.1 F10.2)
    have TB := Lib.hid CB
    have K3 := Lib.hid (bel_trans KA.out hb)
    simp only [puts2, Act.put, List.setIfInBounds_toArray, List.set_cons_zero, List.set_cons_succ, Nat.zero_add, Nat.reduceAdd]
    rw [eB]
    clear hf hne hb F8 F9 F10 BB CB eB e10 q0 q1 KA TA
    obtain ⟨g0, g1, _, _⟩ := TB.out.B
    have SQ := sm_of ((a + 32) / 64) (by omega) (by omega)
    have LQ := Lib.hid (Sm.le TB.out.V SQ)
    clear SQ
    go_wp2_with fail
    refine (bint_any nB aB lB cB ((a + 32) / 64) _ TB.out.V (by have := LQ.out; omega) true ((a + 32) / 64) (Lib.hid (decide_eq_true (by omega)).symm) (Lib.hid (by rw [if_pos (by omega)]))).mono ?_
    rintro e w4 ⟨rfl, hb4⟩
    have K4 := Lib.hid (bel_trans K3.out hb4)
    clear hb4
    go_wp2_with fail
    go_returns
    exact ⟨rfl, K4.out⟩
set_option maxHeartbeats 1000000 in
theorem law_pixels (a : Int) (h0 : -9223372036854775808 ≤ a) (h1 : a ≤ 9223372036854775807) (w : World) :
    Calls Try.prog 9 #[.int .i64 a] w fun e w' => e = .returned (.bool true) ∧ Below w.heap.size w w' := by
  have U : up64 a = (a + 63) / 64 := by unfold up64; split <;> omega
  have N : near64 a = (a + 32) / 64 := by unfold near64; split <;> omega
  have UH := Lib.hid U
  have NH := Lib.hid N
  clear U N
  go_enter Try.func9, Try.ntmps9
  go_wp2_with fail
  refine (speaks4_any _).mono ?_
  rintro e w1 ⟨rfl, hb1⟩
  have K1 := Lib.hid hb1
  clear hb1
  go_wp2_with fail
  refine (floor_any a h0 h1 _).mono ?_
  rintro e w' ⟨rfl, rfl⟩
  go_wp2_with fail
  refine (pixels0 a h0 h1 _).mono ?_
  rintro e w2 ⟨rfl, hb2⟩
  have K2 := Lib.hid (bel_trans K1.out hb2)
  clear hb2
  go_wp2_with fail
  refine (ceil_any a h0 h1 _).mono ?_
  rintro e w' ⟨rfl, rfl⟩
  rw [UH.out]
  go_wp2_with fail
  refine (pixels1 a h0 h1 _).mono ?_
  rintro e w3 ⟨rfl, hb3⟩
  have K3 := Lib.hid (bel_trans K2.out hb3)
  clear hb3
  go_wp2_with fail
  refine (round_any a h0 h1 _).mono ?_
  rintro e w' ⟨rfl, rfl⟩
  rw [NH.out]
  go_wp2_with fail
  refine (pixels2 a h0 h1 _).mono ?_
  rintro e w4 ⟨rfl, hb4⟩
  have K4 := Lib.hid (bel_trans K3.out hb4)
  clear hb4
  go_wp2_with fail
  go_returns
  exact ⟨rfl, K4.out⟩
end Go.Proofs.Ytkohefgendcofaa
