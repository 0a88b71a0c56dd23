/- The walk of FixedPixels. -/
import Derived.Test.YtjemnjboopabpaaDoorSpk4
import Derived.Test.YtjemnjboopabpaaDoorRefC
import Derived.Test.YtjemnjboopabpaaDoorParts
import Derived.Test.YtjemnjboopabpaaDoorRefD
import Derived.Test.YtjemnjboopabpaaDoorRegW
import Derived.WalkKit
import Derived.WalkSpells
import Derived.WalkLawsBesides
import Derived.Handy
import Derived.Lib.Hide
import Derived.Deep.QuietTactic
import Derived.BigQuiet
import Derived.LoopTactic
import Derived.Deep.RegionHeld3
import Derived.Deep.RegionWith
import Derived.Outline
import Derived.Deep.DeepCutAuto
import Derived.LaidEql
namespace Go.Proofs.YtjemnjboopabpaaDoor
open Go.RowKit Go.Proofs.Big Go.Proofs.Reg
set_option linter.unusedVariables false
set_option linter.unusedSimpArgs false
set_option maxRecDepth 100000
theorem undrew {w w' : World} (h : Below w.drew.heap.size w.drew w') : Below w.heap.size w w' := below_undrew h
set_option maxHeartbeats 2000000 in
theorem pixels0 (a : Int) (h0 : -9223372036854775808 ≤ a) (h1 : a ≤ 9223372036854775807) (w : World) :
    Calls Tryd.prog 49 #[.int .i64 a, .int .i64 0] w fun e w' => e = .returned (.int .i64 ((a) / 64)) ∧ Below w.heap.size w w' := by
  have SA := Lib.hid (sm_of a (by omega) (by omega))
  go_enter Tryd.func49, Tryd.ntmps49
  go_wp2_with fail
  refine (bof_any a h0 h1 _).mono ?_
  rintro e w1 ⟨n1, a1, l1, c1, rfl, hv1, hb1⟩
  have LA := Lib.hid (Sm.le hv1 SA.out)
  have hw1 := Lib.hid hb1.size
  have TA0 := Lib.hid (show BN (w1.alloc (.cells #[.bool n1, .slice a1 l1 c1] 151)) w1.heap.size n1 a1 l1 c1 a from ⟨BV.new w1 n1 a1 l1 c1 151, hv1.alloc _⟩)
  have KA0 := Lib.hid (bel_alloc (bel_trans (Below.refl _ _) hb1) (.cells #[.bool n1, .slice a1 l1 c1] 151))
  clear hv1 hb1
  have TA := TA0
  have KA := KA0
  clear TA0 KA0
  go_wp2_with fail
  refine wp_region_kinds [constK (.agg #[.bool n1, .slice a1 l1 c1]), bigK 64, pairK ((a) / 64) ((a) % 64), moveK 2, fstK 3, sndK 3, .box 151 8 4, .box 151 9 5, .put 6 4, .put 7 5]
    [some 23, some 24, some 25, some 22, some 26, some 27, some 6, some 7, none, none] (by kernel_rfl) (by kernel_rfl) (by kernel_rfl) (by kernel_rfl) (by kernel_rfl) (by kernel_rfl) (by kernel_rfl) (fun i o ho => ?_) (fun val3 w3 hf hne hb => ?_)
  · match i, ho with
    | 0, ho =>
      obtain rfl := Option.some.inj ho
      exact ok_load (by kernel_rfl) rfl TA.out.B
    | 1, ho =>
      obtain rfl := Option.some.inj ho
      refine ok_big (fun _ _ => by kernel_rfl) fun A L val w env facts hb => ?_
      rw [map1, show A.eval (.const (.int .u64 64)) = .int .u64 64 from rfl]
      exact ofu_any 64 (by decide) (by decide) w
    | 2, ho =>
      obtain rfl := Option.some.inj ho
      refine ok_pair (fun _ _ => by kernel_rfl) fun A L val w env facts hb => ?_
      obtain ⟨ng3, a3, l3, c3, e3, v3⟩ := dep_big env facts 1 24 _ (by kernel_rfl) rfl rfl
      obtain rfl : ng3 = false := by
        have := v3.hng
        rw [decide_eq_false (by omega)] at this
        exact this
      have v2 := (TA.out.later hb).V
      rw [map2, dep_const env facts 0 23 _ (by kernel_rfl) rfl rfl, e3]
      exact bdown_pos n1 a1 a3 l1 c1 l3 c3 (a) 64 w v2 v3 (by have := P98_big; omega) (by have := P98_big; omega) (by omega) (by have := P98_big; omega)
    | 3, ho =>
      obtain rfl := Option.some.inj ho
      exact ok_move rfl (by kernel_rfl) rfl
    | 4, ho =>
      obtain rfl := Option.some.inj ho
      exact ok_fst rfl (by kernel_rfl) rfl
    | 5, ho =>
      obtain rfl := Option.some.inj ho
      exact ok_snd rfl (by kernel_rfl) rfl
    | 6, ho =>
      obtain rfl := Option.some.inj ho
      exact ok_box
    | 7, ho =>
      obtain rfl := Option.some.inj ho
      exact ok_box
    | 8, ho =>
      obtain rfl := Option.some.inj ho
      exact ok_put rfl rfl (by kernel_rfl) (by kernel_rfl) (fun L val w h => (h : IsBig (val 4) ∧ _).1)
    | 9, ho =>
      obtain rfl := Option.some.inj ho
      exact ok_put rfl rfl (by kernel_rfl) (by kernel_rfl) (fun L val w h => (h : IsBig (val 5) ∧ _).1)
    | n + 10, ho => simp at ho
  have F8 : PairC ((a) / 64) ((a) % 64) (val3 2) w3 := hf 2 (by decide)
  have F9 : val3 3 = val3 2 ∧ _ := hf 3 (by decide)
  have F10 : _ ∧ ∃ q, val3 3 = .tuple #[val3 4, q] := hf 4 (by decide)
  obtain ⟨qB, eB, q0, q1, BB⟩ : ∃ q, val3 6 = .pointer (some ⟨q, 0, none⟩) ∧ _ ≤ q ∧ q < w3.heap.size ∧ BoxAt w3 q (val3 4) := hf 6 (by decide)
  obtain ⟨nB, aB, lB, cB, e10, CB⟩ := BN.of BB (pair_fst F8 F9.1 F10.2)
  have TB := Lib.hid CB
  have K3 := Lib.hid (bel_trans KA.out hb)
  simp only [puts2, Act.put, List.setIfInBounds_toArray, List.set_cons_zero, List.set_cons_succ, Nat.zero_add, Nat.reduceAdd]
  rw [eB]
  clear hf hne hb F8 F9 F10 BB CB eB e10 q0 q1 KA TA
  obtain ⟨g0, g1, _, _⟩ := TB.out.B
  have SQ := sm_of ((a) / 64) (by omega) (by omega)
  have LQ := Lib.hid (Sm.le TB.out.V SQ)
  clear SQ
  go_wp2_with fail
  refine (bint_any nB aB lB cB ((a) / 64) _ TB.out.V (by have := LQ.out; omega) true ((a) / 64) (Lib.hid (decide_eq_true (by omega)).symm) (Lib.hid (by rw [if_pos (by omega)]))).mono ?_
  rintro e w4 ⟨rfl, hb4⟩
  have K4 := Lib.hid (bel_trans K3.out hb4)
  clear hb4
  go_wp2_with fail
  go_returns
  exact ⟨rfl, K4.out⟩
set_option maxHeartbeats 2000000 in
theorem pixels1 (a : Int) (h0 : -9223372036854775808 ≤ a) (h1 : a ≤ 9223372036854775807) (w : World) :
    Calls Tryd.prog 49 #[.int .i64 a, .int .i64 1] w fun e w' => e = .returned (.int .i64 ((a + 63) / 64)) ∧ Below w.heap.size w w' := by
  have SA := Lib.hid (sm_of a (by omega) (by omega))
  go_enter Tryd.func49, Tryd.ntmps49
  go_wp2_with fail
  refine (bof_any a h0 h1 _).mono ?_
  rintro e w1 ⟨n1, a1, l1, c1, rfl, hv1, hb1⟩
  have LA := Lib.hid (Sm.le hv1 SA.out)
  have hw1 := Lib.hid hb1.size
  have TA0 := Lib.hid (show BN (w1.alloc (.cells #[.bool n1, .slice a1 l1 c1] 151)) w1.heap.size n1 a1 l1 c1 a from ⟨BV.new w1 n1 a1 l1 c1 151, hv1.alloc _⟩)
  have KA0 := Lib.hid (bel_alloc (bel_trans (Below.refl _ _) hb1) (.cells #[.bool n1, .slice a1 l1 c1] 151))
  clear hv1 hb1
  obtain ⟨k0, k1, k2, k3⟩ := TA0.out.B
  go_wp2_with fail
  go_cut [] (fun wx => ∃ (nA : Bool) (aA : Option Addr) (lA cA : Nat), Hid (BN wx w1.heap.size nA aA lA cA (a + 63)) ∧ Hid (Below w.heap.size w wx))
  case first =>
    go_region_with (first
      | (go_at_call 72; refine (ofu_any 63 (by decide) (by decide) _).mono ?_; rintro e w5 ⟨n5, a5, l5, c5, rfl, hv5, hb5⟩; have H5 := Lib.hid hv5; have B5 := Lib.hid (undrew hb5); obtain ⟨k0, k1, k2, k3⟩ := (TA0.out.later (undrew hb5)).B; clear hv5 hb5)
      | (go_at_call 71; refine (plus_any n1 n5 a1 a5 l1 c1 l5 c5 a 63 _ (TA0.out.later B5.out).V H5.out (by have := LA.out; omega) (Nat.le_trans (Sm.le H5.out (sm_of 63 (by decide) (by decide))) (by decide))).mono ?_; rintro e w6 ⟨n6, a6, l6, c6, rfl, hv6, hb6⟩; have H6 := Lib.hid hv6; have B6 := Lib.hid (bel_trans' B5.out hb6); obtain ⟨k0, k1, k2, k3⟩ := (TA0.out.later (bel_trans' B5.out hb6)).B; clear hv6 hb6))
    all_goals
      go_wp2_with fail
      go_meet
      have T6 := TA0.out.later B6.out
      have lw := KA0.out.size
      exact ⟨n6, a6, l6, c6, Lib.hid ⟨T6.B.set _ _ _ _, H6.out.setBV T6.B _ _⟩, Lib.hid (((bel_trans KA0.out B6.out).setCell (by show w.heap.size ≤ w1.heap.size; have := hw1.out; omega) _).setCell (by show w.heap.size ≤ w1.heap.size; have := hw1.out; omega) _)⟩
  case rest =>
    obtain ⟨nA, aA, lA, cA, TA, KA⟩ := hcut
    obtain ⟨k0, k1, k2, k3⟩ := TA.out.B
    go_wp2_with fail
    refine wp_region_kinds [constK (.agg #[.bool nA, .slice aA lA cA]), bigK 64, pairK ((a + 63) / 64) ((a + 63) % 64), moveK 2, fstK 3, sndK 3, .box 151 8 4, .box 151 9 5, .put 6 4, .put 7 5]
      [some 23, some 24, some 25, some 22, some 26, some 27, some 6, some 7, none, none] (by kernel_rfl) (by kernel_rfl) (by kernel_rfl) (by kernel_rfl) (by kernel_rfl) (by kernel_rfl) (by kernel_rfl) (fun i o ho => ?_) (fun val3 w3 hf hne hb => ?_)
    · match i, ho with
      | 0, ho =>
        obtain rfl := Option.some.inj ho
        exact ok_load (by kernel_rfl) rfl TA.out.B
      | 1, ho =>
        obtain rfl := Option.some.inj ho
        refine ok_big (fun _ _ => by kernel_rfl) fun A L val w env facts hb => ?_
        rw [map1, show A.eval (.const (.int .u64 64)) = .int .u64 64 from rfl]
        exact ofu_any 64 (by decide) (by decide) w
      | 2, ho =>
        obtain rfl := Option.some.inj ho
        refine ok_pair (fun _ _ => by kernel_rfl) fun A L val w env facts hb => ?_
        obtain ⟨ng3, a3, l3, c3, e3, v3⟩ := dep_big env facts 1 24 _ (by kernel_rfl) rfl rfl
        obtain rfl : ng3 = false := by
          have := v3.hng
          rw [decide_eq_false (by omega)] at this
          exact this
        have v2 := (TA.out.later hb).V
        rw [map2, dep_const env facts 0 23 _ (by kernel_rfl) rfl rfl, e3]
        exact bdown_pos nA aA a3 lA cA l3 c3 (a + 63) 64 w v2 v3 (by have := P98_big; omega) (by have := P98_big; omega) (by omega) (by have := P98_big; omega)
      | 3, ho =>
        obtain rfl := Option.some.inj ho
        exact ok_move rfl (by kernel_rfl) rfl
      | 4, ho =>
        obtain rfl := Option.some.inj ho
        exact ok_fst rfl (by kernel_rfl) rfl
      | 5, ho =>
        obtain rfl := Option.some.inj ho
        exact ok_snd rfl (by kernel_rfl) rfl
      | 6, ho =>
        obtain rfl := Option.some.inj ho
        exact ok_box
      | 7, ho =>
        obtain rfl := Option.some.inj ho
        exact ok_box
      | 8, ho =>
        obtain rfl := Option.some.inj ho
        exact ok_put rfl rfl (by kernel_rfl) (by kernel_rfl) (fun L val w h => (h : IsBig (val 4) ∧ _).1)
      | 9, ho =>
        obtain rfl := Option.some.inj ho
        exact ok_put rfl rfl (by kernel_rfl) (by kernel_rfl) (fun L val w h => (h : IsBig (val 5) ∧ _).1)
      | n + 10, ho => simp at ho
    have F8 : PairC ((a + 63) / 64) ((a + 63) % 64) (val3 2) w3 := hf 2 (by decide)
    have F9 : val3 3 = val3 2 ∧ _ := hf 3 (by decide)
    have F10 : _ ∧ ∃ q, val3 3 = .tuple #[val3 4, q] := hf 4 (by decide)
    obtain ⟨qB, eB, q0, q1, BB⟩ : ∃ q, val3 6 = .pointer (some ⟨q, 0, none⟩) ∧ _ ≤ q ∧ q < w3.heap.size ∧ BoxAt w3 q (val3 4) := hf 6 (by decide)
    obtain ⟨nB, aB, lB, cB, e10, CB⟩ := BN.of BB (pair_fst F8 F9.1 F10.2)
    have TB := Lib.hid CB
    have K3 := Lib.hid (bel_trans KA.out hb)
    simp only [puts2, Act.put, List.setIfInBounds_toArray, List.set_cons_zero, List.set_cons_succ, Nat.zero_add, Nat.reduceAdd]
    rw [eB]
    clear hf hne hb F8 F9 F10 BB CB eB e10 q0 q1 KA TA
    obtain ⟨g0, g1, _, _⟩ := TB.out.B
    have SQ := sm_of ((a + 63) / 64) (by omega) (by omega)
    have LQ := Lib.hid (Sm.le TB.out.V SQ)
    clear SQ
    go_wp2_with fail
    refine (bint_any nB aB lB cB ((a + 63) / 64) _ TB.out.V (by have := LQ.out; omega) true ((a + 63) / 64) (Lib.hid (decide_eq_true (by omega)).symm) (Lib.hid (by rw [if_pos (by omega)]))).mono ?_
    rintro e w4 ⟨rfl, hb4⟩
    have K4 := Lib.hid (bel_trans K3.out hb4)
    clear hb4
    go_wp2_with fail
    go_returns
    exact ⟨rfl, K4.out⟩
set_option maxHeartbeats 2000000 in
theorem pixels2 (a : Int) (h0 : -9223372036854775808 ≤ a) (h1 : a ≤ 9223372036854775807) (w : World) :
    Calls Tryd.prog 49 #[.int .i64 a, .int .i64 2] w fun e w' => e = .returned (.int .i64 ((a + 32) / 64)) ∧ Below w.heap.size w w' := by
  have SA := Lib.hid (sm_of a (by omega) (by omega))
  go_enter Tryd.func49, Tryd.ntmps49
  go_wp2_with fail
  refine (bof_any a h0 h1 _).mono ?_
  rintro e w1 ⟨n1, a1, l1, c1, rfl, hv1, hb1⟩
  have LA := Lib.hid (Sm.le hv1 SA.out)
  have hw1 := Lib.hid hb1.size
  have TA0 := Lib.hid (show BN (w1.alloc (.cells #[.bool n1, .slice a1 l1 c1] 151)) w1.heap.size n1 a1 l1 c1 a from ⟨BV.new w1 n1 a1 l1 c1 151, hv1.alloc _⟩)
  have KA0 := Lib.hid (bel_alloc (bel_trans (Below.refl _ _) hb1) (.cells #[.bool n1, .slice a1 l1 c1] 151))
  clear hv1 hb1
  obtain ⟨k0, k1, k2, k3⟩ := TA0.out.B
  go_wp2_with fail
  go_cut [] (fun wx => ∃ (nA : Bool) (aA : Option Addr) (lA cA : Nat), Hid (BN wx w1.heap.size nA aA lA cA (a + 32)) ∧ Hid (Below w.heap.size w wx))
  case first =>
    go_region_with (first
      | (go_at_call 72; refine (ofu_any 32 (by decide) (by decide) _).mono ?_; rintro e w5 ⟨n5, a5, l5, c5, rfl, hv5, hb5⟩; have H5 := Lib.hid hv5; have B5 := Lib.hid (undrew hb5); obtain ⟨k0, k1, k2, k3⟩ := (TA0.out.later (undrew hb5)).B; clear hv5 hb5)
      | (go_at_call 71; refine (plus_any n1 n5 a1 a5 l1 c1 l5 c5 a 32 _ (TA0.out.later B5.out).V H5.out (by have := LA.out; omega) (Nat.le_trans (Sm.le H5.out (sm_of 32 (by decide) (by decide))) (by decide))).mono ?_; rintro e w6 ⟨n6, a6, l6, c6, rfl, hv6, hb6⟩; have H6 := Lib.hid hv6; have B6 := Lib.hid (bel_trans' B5.out hb6); obtain ⟨k0, k1, k2, k3⟩ := (TA0.out.later (bel_trans' B5.out hb6)).B; clear hv6 hb6))
    all_goals
      go_wp2_with fail
      go_meet
      have T6 := TA0.out.later B6.out
      have lw := KA0.out.size
      exact ⟨n6, a6, l6, c6, Lib.hid ⟨T6.B.set _ _ _ _, H6.out.setBV T6.B _ _⟩, Lib.hid (((bel_trans KA0.out B6.out).setCell (by show w.heap.size ≤ w1.heap.size; have := hw1.out; omega) _).setCell (by show w.heap.size ≤ w1.heap.size; have := hw1.out; omega) _)⟩
  case rest =>
    obtain ⟨nA, aA, lA, cA, TA, KA⟩ := hcut
    obtain ⟨k0, k1, k2, k3⟩ := TA.out.B
    go_wp2_with fail
    refine wp_region_kinds [constK (.agg #[.bool nA, .slice aA lA cA]), bigK 64, pairK ((a + 32) / 64) ((a + 32) % 64), moveK 2, fstK 3, sndK 3, .box 151 8 4, .box 151 9 5, .put 6 4, .put 7 5]
      [some 23, some 24, some 25, some 22, some 26, some 27, some 6, some 7, none, none] (by kernel_rfl) (by kernel_rfl) (by kernel_rfl) (by kernel_rfl) (by kernel_rfl) (by kernel_rfl) (by kernel_rfl) (fun i o ho => ?_) (fun val3 w3 hf hne hb => ?_)
    · match i, ho with
      | 0, ho =>
        obtain rfl := Option.some.inj ho
        exact ok_load (by kernel_rfl) rfl TA.out.B
      | 1, ho =>
        obtain rfl := Option.some.inj ho
        refine ok_big (fun _ _ => by kernel_rfl) fun A L val w env facts hb => ?_
        rw [map1, show A.eval (.const (.int .u64 64)) = .int .u64 64 from rfl]
        exact ofu_any 64 (by decide) (by decide) w
      | 2, ho =>
        obtain rfl := Option.some.inj ho
        refine ok_pair (fun _ _ => by kernel_rfl) fun A L val w env facts hb => ?_
        obtain ⟨ng3, a3, l3, c3, e3, v3⟩ := dep_big env facts 1 24 _ (by kernel_rfl) rfl rfl
        obtain rfl : ng3 = false := by
          have := v3.hng
          rw [decide_eq_false (by omega)] at this
          exact this
        have v2 := (TA.out.later hb).V
        rw [map2, dep_const env facts 0 23 _ (by kernel_rfl) rfl rfl, e3]
        exact bdown_pos nA aA a3 lA cA l3 c3 (a + 32) 64 w v2 v3 (by have := P98_big; omega) (by have := P98_big; omega) (by omega) (by have := P98_big; omega)
      | 3, ho =>
        obtain rfl := Option.some.inj ho
        exact ok_move rfl (by kernel_rfl) rfl
      | 4, ho =>
        obtain rfl := Option.some.inj ho
        exact ok_fst rfl (by kernel_rfl) rfl
      | 5, ho =>
        obtain rfl := Option.some.inj ho
        exact ok_snd rfl (by kernel_rfl) rfl
      | 6, ho =>
        obtain rfl := Option.some.inj ho
        exact ok_box
      | 7, ho =>
        obtain rfl := Option.some.inj ho
        exact ok_box
      | 8, ho =>
        obtain rfl := Option.some.inj ho
        exact ok_put rfl rfl (by kernel_rfl) (by kernel_rfl) (fun L val w h => (h : IsBig (val 4) ∧ _).1)
      | 9, ho =>
        obtain rfl := Option.some.inj ho
        exact ok_put rfl rfl (by kernel_rfl) (by kernel_rfl) (fun L val w h => (h : IsBig (val 5) ∧ _).1)
      | n + 10, ho => simp at ho
    have F8 : PairC ((a + 32) / 64) ((a + 32) % 64) (val3 2) w3 := hf 2 (by decide)
    have F9 : val3 3 = val3 2 ∧ _ := hf 3 (by decide)
    have F10 : _ ∧ ∃ q, val3 3 = .tuple #[val3 4, q] := hf 4 (by decide)
    obtain ⟨qB, eB, q0, q1, BB⟩ : ∃ q, val3 6 = .pointer (some ⟨q, 0, none⟩) ∧ _ ≤ q ∧ q < w3.heap.size ∧ BoxAt w3 q (val3 4) := hf 6 (by decide)
    obtain ⟨nB, aB, lB, cB, e10, CB⟩ := BN.of BB (pair_fst F8 F9.1 F10.2)
    have TB := Lib.hid CB
    have K3 := Lib.hid (bel_trans KA.out hb)
    simp only [puts2, Act.put, List.setIfInBounds_toArray, List.set_cons_zero, List.set_cons_succ, Nat.zero_add, Nat.reduceAdd]
    rw [eB]
    clear hf hne hb F8 F9 F10 BB CB eB e10 q0 q1 KA TA
    obtain ⟨g0, g1, _, _⟩ := TB.out.B
    have SQ := sm_of ((a + 32) / 64) (by omega) (by omega)
    have LQ := Lib.hid (Sm.le TB.out.V SQ)
    clear SQ
    go_wp2_with fail
    refine (bint_any nB aB lB cB ((a + 32) / 64) _ TB.out.V (by have := LQ.out; omega) true ((a + 32) / 64) (Lib.hid (decide_eq_true (by omega)).symm) (Lib.hid (by rw [if_pos (by omega)]))).mono ?_
    rintro e w4 ⟨rfl, hb4⟩
    have K4 := Lib.hid (bel_trans K3.out hb4)
    clear hb4
    go_wp2_with fail
    go_returns
    exact ⟨rfl, K4.out⟩
end Go.Proofs.YtjemnjboopabpaaDoor
/- The walk of FixedParts. -/
namespace Go.Proofs.YtjemnjboopabpaaDoor
open Go.RowKit Go.Proofs.Big Go.Proofs.Reg
set_option linter.unusedVariables false
set_option linter.unusedSimpArgs false
set_option maxRecDepth 100000
/-- what the program and the reference say of a part, the same -/
structure Same3 (x n d v er : Int) : Prop where
  prog : ∀ w, Calls Tryd.prog 63 #[.int .i64 x, .int .i64 n, .int .i64 d] w fun e w' => Ends v er e ∧ Below w.heap.size w w'
  ref : ∀ w, Calls Tryd.prog 48 #[.int .i64 x, .int .i64 n, .int .i64 d] w fun e w' => e = .returned (.tuple #[.int .i64 v, .int .i64 er]) ∧ Below w.heap.size w w'
  zero : er ≠ 0 → v = 0
theorem Tl.zero {n v er : Int} (h : Tl n v er) : er ≠ 0 → v = 0 := fun z => by
  rcases h with ⟨_, _, h⟩ | ⟨_, h, _⟩
  · exact absurd h z
  · exact h
theorem prod_127 (x n : Int) (x0 : -9223372036854775808 ≤ x) (x1 : x ≤ 9223372036854775807) (n0 : -9223372036854775808 ≤ n) (n1 : n ≤ 9223372036854775807) : -170141183460469231731687303715884105728 ≤ x * n ∧ x * n < 170141183460469231731687303715884105728 := by
  have := prod_range x n x0 x1 n0 n1
  omega
theorem same3_ex (x n d : Int) (x0 : -9223372036854775808 ≤ x) (x1 : x ≤ 9223372036854775807) (n0 : -9223372036854775808 ≤ n) (n1 : n ≤ 9223372036854775807) (d0 : -9223372036854775808 ≤ d) (d1 : d ≤ 9223372036854775807) : ∃ v er, Same3 x n d v er := by
  by_cases z : d = 0
  · subst z
    refine ⟨0, 3, fun w => (fpart_zero x n w).mono ?_, part4_zero x n, fun _ => rfl⟩
    rintro e w' ⟨rfl, rfl⟩
    exact ⟨.inr ⟨by decide, rfl, rfl⟩, Below.refl _ _⟩
  · obtain ⟨p0, p1⟩ := prod_127 x n x0 x1 n0 n1
    obtain ⟨q, r, Q, R, F⟩ := df_ex (x * n) d z p0 p1
    obtain ⟨v, er, ht⟩ := tl_ex q
    exact ⟨v, er, part_ends x n d q r Q R v er x0 x1 n0 n1 d0 d1 F ht, part4_any x n d q r Q R v er x0 x1 n0 n1 d0 d1 F ht, ht.zero⟩
/-- a good ratio's scale, and the reference's part -/
theorem scale_same (x n d : Int) (x0 : -9223372036854775808 ≤ x) (x1 : x ≤ 9223372036854775807) (n0 : -9223372036854775808 ≤ n) (n1 : n ≤ 9223372036854775807) (d0 : 1 ≤ d) (d1 : d ≤ 9223372036854775807) (hg : goodB n d = true) :
    ∃ v er, (∀ w, Calls Tryd.prog 44 #[.int .i64 x, .agg #[.int .i64 n, .int .i64 d]] w fun e w' => Ends v er e ∧ Below w.heap.size w w') ∧
      (∀ w, Calls Tryd.prog 48 #[.int .i64 x, .int .i64 n, .int .i64 d] w fun e w' => e = .returned (.tuple #[.int .i64 v, .int .i64 er]) ∧ Below w.heap.size w w') ∧ (er ≠ 0 → v = 0) := by
  obtain ⟨p0, p1⟩ := prod_127 x n x0 x1 n0 n1
  obtain ⟨q, r, Q, R, F⟩ := df_ex (x * n) d (by omega) p0 p1
  have hq : x * n / d = q := ((Int.ediv_emod_unique (a := x * n) (r := r) (q := q) (show 0 < d by omega)).2 ⟨by have := F.er; rw [Int.mul_comm d q]; omega, by have := F.rr; omega, by have := F.rr; omega⟩).1
  obtain ⟨v, er, ht⟩ := tl_ex q
  refine ⟨v, er, scale_ends x n d v er x0 x1 n0 n1 d0 d1 hg (by rw [hq]; exact ht), part4_any x n d q r Q R v er x0 x1 n0 n1 (by omega) d1 F ht, ht.zero⟩
theorem goodB_pos {n d : Int} (h : goodB n d = true) : 1 ≤ d := by
  unfold goodB at h
  rw [Bool.and_eq_true] at h
  exact of_decide_eq_true h.1
end Go.Proofs.YtjemnjboopabpaaDoor
/- A border's whole pixels: the program's and the reference's. -/
namespace Go.Proofs.YtjemnjboopabpaaDoor
open Go.RowKit Go.Proofs.Big Go.Proofs.Reg
set_option linter.unusedVariables false
set_option linter.unusedSimpArgs false
set_option maxRecDepth 100000
/-- the whole pixels of a border x whose exact width is s -/
def hairV (x s : Int) : Int := if x = 0 then 0 else max (s / 64) 1 * 64
theorem hair_gave (x n d er : Int) (z : er ≠ 0) (hs : ∀ w, Calls Tryd.prog 44 #[.int .i64 x, .agg #[.int .i64 n, .int .i64 d]] w fun e w' => Ends 0 er e ∧ Below w.heap.size w w') (w : World) :
    Calls Tryd.prog 19 #[.int .i64 x, .agg #[.int .i64 n, .int .i64 d]] w fun e w' => Ends 0 er e ∧ Below w.heap.size w w' := by
  have HS := Lib.hid hs
  have HZ := Lib.hid z
  clear hs z
  go_enter Tryd.func19, Tryd.ntmps19
  go_wp2_with fail
  refine (HS.out _).mono ?_
  rintro e w1 ⟨he, hb⟩
  have KB := Lib.hid (show Below w.heap.size w w1 from bel_tr0 (by go_grown) hb)
  clear hb
  rcases he with ⟨h, _⟩ | ⟨_, _, rfl⟩
  · exact absurd h HZ.out
  · exact ⟨rfl, .inr ⟨HZ.out, rfl, rfl⟩, KB.out⟩
set_option maxHeartbeats 1000000 in
theorem hair_ret (x n d s : Int) (s0 : -17592186044416 ≤ s) (s1 : s ≤ 17592186044416) (hs : ∀ w, Calls Tryd.prog 44 #[.int .i64 x, .agg #[.int .i64 n, .int .i64 d]] w fun e w' => Ends s 0 e ∧ Below w.heap.size w w') (w : World) :
    Calls Tryd.prog 19 #[.int .i64 x, .agg #[.int .i64 n, .int .i64 d]] w fun e w' => Ends (hairV x s) 0 e ∧ Below w.heap.size w w' := by
  have HS := Lib.hid hs
  clear hs
  by_cases x0 : x = 0
  · subst x0
    go_enter Tryd.func19, Tryd.ntmps19
    go_wp2_with fail
    refine (HS.out _).mono ?_
    rintro e w1 ⟨he, hb⟩
    have KB := Lib.hid (show Below w.heap.size w w1 from bel_tr0 (by go_grown) hb)
    clear hb
    rcases he with ⟨_, rfl⟩ | ⟨h, _⟩
    · go_wp2_with fail
      go_returns
      exact ⟨.inl ⟨rfl, rfl⟩, KB.out⟩
    · exact absurd rfl h
  · have xb : (x == 0) = false := by simpa using x0
    have HV : Hid (hairV x s = max (s / 64) 1 * 64) := Lib.hid (by unfold hairV; rw [if_neg x0])
    have FL := Lib.hid (fun w => floor_any s (by omega) (by omega) w)
    obtain ⟨q, hq⟩ : ∃ q, s / 64 = q := ⟨_, rfl⟩
    have q0 : -274877906944 ≤ q := by omega
    have q1 : q ≤ 274877906944 := by omega
    rw [hq] at FL HV
    have PX := Lib.hid (fun w => fpx_any (max q 1) (by omega) (by omega) w)
    have AL : Hid (asLen (max q 1 * 64) = some (max q 1 * 64)) := Lib.hid (by rw [asLen, if_pos (by omega)])
    clear x0 hq
    go_enter Tryd.func19, Tryd.ntmps19
    go_wp2_with fail
    refine (HS.out _).mono ?_
    rintro e w1 ⟨he, hb⟩
    have KB := Lib.hid (show Below w.heap.size w w1 from bel_tr0 (by go_grown) hb)
    clear hb
    rcases he with ⟨_, rfl⟩ | ⟨h, _⟩
    · go_wp2_with fail
      refine (FL.out _).mono ?_
      rintro e w2 ⟨rfl, rfl⟩
      go_wp2_with fail
      refine (PX.out _).mono ?_
      rintro e w2 ⟨he, hb⟩
      have KC := Lib.hid (bel_tr0 KB.out hb)
      clear hb
      rw [AL.out] at he
      obtain rfl : e = .returned (.int .i64 (max q 1 * 64)) := he
      go_wp2_with fail
      go_returns
      exact ⟨.inl ⟨rfl, by rw [HV.out]; rfl⟩, KC.out⟩
    · exact absurd rfl h
theorem r11hair_bad (x n d : Int) (hg : ∀ w, Calls Tryd.prog 47 #[.int .i64 n, .int .i64 d] w fun e w' => e = .returned (.bool false) ∧ Below w.heap.size w w') (w : World) :
    Calls Tryd.prog 20 #[.int .i64 x, .int .i64 n, .int .i64 d] w fun e w' => e = .returned (.tuple #[.int .i64 0, .int .i64 1]) ∧ Below w.heap.size w w' := by
  have HG := Lib.hid hg
  clear hg
  go_enter Tryd.func20, Tryd.ntmps20
  go_wp2_with fail
  refine (HG.out _).mono ?_
  rintro e w1 ⟨rfl, hb⟩
  have KB := Lib.hid hb
  clear hb
  go_wp2_with fail
  go_returns
  exact ⟨rfl, KB.out⟩
theorem r11hair_gave (x n d s er : Int) (z : er ≠ 0) (hg : ∀ w, Calls Tryd.prog 47 #[.int .i64 n, .int .i64 d] w fun e w' => e = .returned (.bool true) ∧ Below w.heap.size w w')
    (hp : ∀ w, Calls Tryd.prog 48 #[.int .i64 x, .int .i64 n, .int .i64 d] w fun e w' => e = .returned (.tuple #[.int .i64 s, .int .i64 er]) ∧ Below w.heap.size w w') (w : World) :
    Calls Tryd.prog 20 #[.int .i64 x, .int .i64 n, .int .i64 d] w fun e w' => e = .returned (.tuple #[.int .i64 0, .int .i64 er]) ∧ Below w.heap.size w w' := by
  have HG := Lib.hid hg
  have HP := Lib.hid hp
  have z1 : (er == 0) = false := by simpa using z
  have z2 : (er != 0) = true := by simpa using z
  clear hg hp z
  go_enter Tryd.func20, Tryd.ntmps20
  go_wp2_with fail
  refine (HG.out _).mono ?_
  rintro e w1 ⟨rfl, hb⟩
  have KB := Lib.hid hb
  clear hb
  go_wp2_with fail
  refine (HP.out _).mono ?_
  rintro e w2 ⟨rfl, hb⟩
  have KC := Lib.hid (bel_tr0 KB.out hb)
  clear hb
  go_wp2_with fail
  go_returns
  exact ⟨rfl, KC.out⟩
set_option maxHeartbeats 1000000 in
theorem r11hair_ret (x n d s : Int) (s0 : -17592186044416 ≤ s) (s1 : s ≤ 17592186044416) (hg : ∀ w, Calls Tryd.prog 47 #[.int .i64 n, .int .i64 d] w fun e w' => e = .returned (.bool true) ∧ Below w.heap.size w w')
    (hp : ∀ w, Calls Tryd.prog 48 #[.int .i64 x, .int .i64 n, .int .i64 d] w fun e w' => e = .returned (.tuple #[.int .i64 s, .int .i64 0]) ∧ Below w.heap.size w w') (w : World) :
    Calls Tryd.prog 20 #[.int .i64 x, .int .i64 n, .int .i64 d] w fun e w' => e = .returned (.tuple #[.int .i64 (hairV x s), .int .i64 0]) ∧ Below w.heap.size w w' := by
  have HG := Lib.hid hg
  have HP := Lib.hid hp
  clear hg hp
  by_cases x0 : x = 0
  · subst x0
    go_enter Tryd.func20, Tryd.ntmps20
    go_wp2_with fail
    refine (HG.out _).mono ?_
    rintro e w1 ⟨rfl, hb⟩
    have KB := Lib.hid hb
    clear hb
    go_wp2_with fail
    refine (HP.out _).mono ?_
    rintro e w2 ⟨rfl, hb⟩
    have KC := Lib.hid (bel_tr0 KB.out hb)
    clear hb
    go_wp2_with fail
    go_returns
    exact ⟨rfl, KC.out⟩
  · have xb : (x == 0) = false := by simpa using x0
    have HV : Hid (hairV x s = max (s / 64) 1 * 64) := Lib.hid (by unfold hairV; rw [if_neg x0])
    have PX := Lib.hid (fun w => pixels0 s (by omega) (by omega) w)
    obtain ⟨q, hq⟩ : ∃ q, s / 64 = q := ⟨_, rfl⟩
    have q0 : -274877906944 ≤ q := by omega
    have q1 : q ≤ 274877906944 := by omega
    rw [hq] at PX HV
    clear x0 hq
    by_cases c : q < 1
    · go_enter Tryd.func20, Tryd.ntmps20
      go_wp2_with fail
      refine (HG.out _).mono ?_
      rintro e w1 ⟨rfl, hb⟩
      have KB := Lib.hid hb
      clear hb
      go_wp2_with fail
      refine (HP.out _).mono ?_
      rintro e w2 ⟨rfl, hb⟩
      have KC := Lib.hid (bel_tr0 KB.out hb)
      clear hb
      go_wp2_with fail
      refine (PX.out _).mono ?_
      rintro e w3 ⟨rfl, hb⟩
      have KD := Lib.hid (bel_tr0 KC.out hb)
      clear hb
      go_wp2_with fail
      go_returns
      refine ⟨?_, KD.out⟩
      rw [HV.out, show max q 1 = 1 by omega]
      rfl
    · go_enter Tryd.func20, Tryd.ntmps20
      go_wp2_with fail
      refine (HG.out _).mono ?_
      rintro e w1 ⟨rfl, hb⟩
      have KB := Lib.hid hb
      clear hb
      go_wp2_with fail
      refine (HP.out _).mono ?_
      rintro e w2 ⟨rfl, hb⟩
      have KC := Lib.hid (bel_tr0 KB.out hb)
      clear hb
      go_wp2_with fail
      refine (PX.out _).mono ?_
      rintro e w3 ⟨rfl, hb⟩
      have KD := Lib.hid (bel_tr0 KC.out hb)
      clear hb
      go_wp2_with fail
      go_returns
      refine ⟨?_, KD.out⟩
      rw [HV.out, show max q 1 = q by omega, Int.mul_comm q 64]
      rfl
/-- both sides of a border -/
structure HairS (x n d v er : Int) : Prop where
  prog : ∀ w, Calls Tryd.prog 19 #[.int .i64 x, .agg #[.int .i64 n, .int .i64 d]] w fun e w' => Ends v er e ∧ Below w.heap.size w w'
  ref : ∀ w, Calls Tryd.prog 20 #[.int .i64 x, .int .i64 n, .int .i64 d] w fun e w' => e = .returned (.tuple #[.int .i64 v, .int .i64 er]) ∧ Below w.heap.size w w'
  zero : er ≠ 0 → v = 0
theorem hair_ex (x n d : Int) (x0 : -9223372036854775808 ≤ x) (x1 : x ≤ 9223372036854775807) (n0 : -9223372036854775808 ≤ n) (n1 : n ≤ 9223372036854775807) (d0 : -9223372036854775808 ≤ d) (d1 : d ≤ 9223372036854775807) : ∃ v er, HairS x n d v er := by
  have G : ∀ w, Calls Tryd.prog 47 #[.int .i64 n, .int .i64 d] w fun e w' => e = .returned (.bool (goodB n d)) ∧ Below w.heap.size w w' := fun w => good2_any n d n0 n1 d0 d1 w
  cases hg : goodB n d
  · rw [hg] at G
    exact ⟨0, 1, hair_gave x n d 1 (by decide) (scale_bad x n d n0 n1 d0 d1 hg), r11hair_bad x n d G, fun _ => rfl⟩
  · rw [hg] at G
    obtain ⟨p0, p1⟩ := prod_127 x n x0 x1 n0 n1
    have dp := goodB_pos hg
    obtain ⟨q, r, Q, R, F⟩ := df_ex (x * n) d (by omega) p0 p1
    have hq : x * n / d = q := ((Int.ediv_emod_unique (a := x * n) (r := r) (q := q) (show 0 < d by omega)).2 ⟨by have := F.er; rw [Int.mul_comm d q]; omega, by have := F.rr; omega, by have := F.rr; omega⟩).1
    obtain ⟨v, er, ht⟩ := tl_ex q
    have SC := scale_ends x n d v er x0 x1 n0 n1 dp d1 hg (by rw [hq]; exact ht)
    have PT := part4_any x n d q r Q R v er x0 x1 n0 n1 (by omega) d1 F ht
    rcases ht with ⟨hl, rfl, rfl⟩ | ⟨hl, rfl, rfl⟩
    · obtain ⟨b0, b1⟩ := lenB_true hl
      exact ⟨hairV x v, 0, hair_ret x n d v b0 b1 SC, r11hair_ret x n d v b0 b1 G PT, fun z => absurd rfl z⟩
    · exact ⟨0, 2, hair_gave x n d 2 (by decide) SC, r11hair_gave x n d 0 2 (by decide) G PT, fun _ => rfl⟩
/-- within the law's range a border is scaled exactly -/
theorem hair_in (x n d : Int) (x0 : 0 ≤ x) (x1 : x ≤ 1073741824) (n0 : 1 ≤ n) (n1 : n ≤ 4096) (d0 : 1 ≤ d) (d1 : d ≤ 4096) (hg : goodB n d = true) (w : World) :
    Calls Tryd.prog 19 #[.int .i64 x, .agg #[.int .i64 n, .int .i64 d]] w fun e w' => e = .returned (.int .i64 (hairV x (x * n / d))) ∧ Below w.heap.size w w' := by
  have h1 : x * n ≤ 1073741824 * n := Int.mul_le_mul_of_nonneg_right x1 (by omega)
  have h0 : 0 ≤ x * n := Int.mul_nonneg x0 (by omega)
  have a : x * n / d ≤ 4398046511104 := by
    have := Int.ediv_le_ediv (c := d) (by omega) (show x * n ≤ 4398046511104 by omega)
    have := Int.ediv_le_self d (show (0 : Int) ≤ 4398046511104 by decide)
    omega
  have b : 0 ≤ x * n / d := Int.ediv_nonneg h0 (by omega)
  have hl : lenB (x * n / d) = true := by unfold lenB; rw [decide_eq_true (by omega), decide_eq_true (by omega)]; rfl
  refine (hair_ret x n d (x * n / d) (by omega) (by omega) (scale_ends x n d _ 0 (by omega) (by omega) (by omega) (by omega) d0 (by omega) hg (.inl ⟨hl, rfl, rfl⟩)) w).mono ?_
  rintro e w' ⟨he, hb⟩
  rcases he with ⟨_, h⟩ | ⟨h, _⟩
  · exact ⟨h, hb⟩
  · exact absurd rfl h
end Go.Proofs.YtjemnjboopabpaaDoor
