/- The reference's big numbers: Of, Power, OfWide. -/
import Derived.Test.YtkohefgendcofaaBigE
import Derived.WalkKit
import Derived.WalkSpells
import Derived.WalkLawsBesides
import Derived.Handy
import Derived.Lib.Hide
import Derived.Deep.QuietTactic
import Derived.BigQuiet
import Derived.LoopTactic
import Derived.Deep.LoopGhost
import Derived.Deep.RegionHeld3
import Derived.Deep.RegionWith
import Derived.Outline
import Derived.Deep.DeepCutAuto
namespace Go.Proofs.Ytkohefgendcofaa
open Go.RowKit Go.Proofs.Big
set_option linter.unusedVariables false
set_option maxRecDepth 100000
set_option linter.unusedSimpArgs false

/-- numbers of at most 100 pieces -/
def Sm (n : Int) : Prop := -P 100 < n ∧ n < P 100
theorem Sm.le {w : World} {ng : Bool} {a : Option Addr} {l c : Nat} {n : Int} (h : BigV w ng a l c n) (s : Sm n) : l ≤ 100 := h.len 100 s.1 s.2
theorem P_num (k : Nat) : P k = 65536 ^ k := rfl
theorem sm_of (n : Int) (h0 : -115792089237316195423570985008687907853269984665640564039457584007913129639936 ≤ n) (h1 : n ≤ 115792089237316195423570985008687907853269984665640564039457584007913129639936) : Sm n := by
  have p : P 17 ≤ P 100 := P_mono (by decide)
  have e : P 17 = 7588550360256754183279148073529370729071901715047420004889892225542594864082845696 := by unfold P; rfl
  unfold Sm; omega

theorem bof_any (n : Int) (h0 : -9223372036854775808 ≤ n) (h1 : n ≤ 9223372036854775807) (w : World) :
    Calls Try.prog 28 #[.int .i64 n] w (RetBig w n) := by
  by_cases c : 0 ≤ n
  · go_enter Try.func28, Try.ntmps28
    go_wp2_with fail
    refine (ofu_any n c (by omega) _).mono ?_
    rintro e w1 ⟨ng1, a1, l1, c1, rfl, hv1, hb1⟩
    have bv := (BV.new w false none 0 0 29).later hb1
    have BVH := Lib.hid bv
    have HV1 := Lib.hid hv1
    have HB1 := Lib.hid hb1
    obtain ⟨k0, k1, k2, k3⟩ := bv
    clear hv1 hb1
    go_wp2_with fail
    refine bodyPost_ret (v := .agg #[.bool ng1, .slice a1 l1 c1]) (by simp [results, Try.results28, go_sem, k0, k1]) rfl ?_
    refine RetBig.mk (HV1.out.setBV BVH.out _ _) ?_
    refine Below.setCell (Below.setCell (Below.trans ?_ (HB1.out.mono ?_)) ?_ _) ?_ _
    · go_grown
    · simp
    · exact Nat.le_refl _
    · exact Nat.le_refl _
  · go_enter Try.func28, Try.ntmps28
    go_wp2_with fail
    refine (ofu_any (-(n + 1)) (by omega) (by omega) _).mono ?_
    rintro e w1 ⟨ng1, a1, l1, c1, rfl, hv1, hb1⟩
    have BVH := Lib.hid ((BV.new w false none 0 0 29).later hb1)
    have HV1 := Lib.hid hv1
    have HB1 := Lib.hid (((Below.refl w.heap.size w).alloc (Nat.le_refl _) _).trans (hb1.mono (by simp)))
    clear hv1 hb1
    go_wp2_with fail
    refine (ofu_any 1 (by decide) (by decide) _).mono ?_
    rintro e w2 ⟨ng2, a2, l2, c2, rfl, hv2, hb2⟩
    have BVH2 := Lib.hid (BVH.out.later hb2)
    have HV1' := Lib.hid (HV1.out.later hb2)
    have HV2 := Lib.hid hv2
    have HB2 := Lib.hid (HB1.out.trans (hb2.mono HB1.out.size))
    clear hv2 hb2 HB1 BVH HV1
    go_wp2_with fail
    refine (plus_any ng1 ng2 a1 a2 l1 c1 l2 c2 (-(n + 1)) 1 _ HV1'.out HV2.out (by have := Sm.le HV1'.out (sm_of _ (by omega) (by omega)); omega) (by have := Sm.le HV2.out (sm_of _ (by omega) (by omega)); omega)).mono ?_
    rintro e w3 ⟨ng3, a3, l3, c3, rfl, hv3, hb3⟩
    have BVH3 := Lib.hid (BVH2.out.later hb3)
    have HV3 := Lib.hid hv3
    have HB3 := Lib.hid (HB2.out.trans (hb3.mono HB2.out.size))
    obtain ⟨k0, k1, k2, k3⟩ := BVH3.out
    have lt3 := BVH3.out.lt
    clear hv3 hb3
    go_wp2_with fail
    refine bodyPost_ret (v := .agg #[.bool true, .slice a3 l3 c3]) (by simp [results, Try.results28, go_sem, k0, k1, lt3]) rfl ?_
    obtain ⟨xs, r3, o3, cn3, v3⟩ := HV3.out.rd
    have hv : BigV w3 true a3 l3 c3 n := ⟨⟨xs, r3, o3, cn3, by rw [v3, if_neg (by omega), if_pos (by omega)]; omega⟩, by simp; omega⟩
    refine RetBig.mk ((hv.setBV BVH3.out _ _).alloc _) (((HB3.out.setCell (Nat.le_refl _) _).setCell (Nat.le_refl _) _).alloc ?_ _)
    have := HB3.out.size
    simpa using this
theorem below_undrew {B : Nat} {w w' : World} (h : Below B w.drew w') : Below B w w' := (Below.drew (Below.refl _ _)).trans h
theorem pow_sm (i : Nat) (h : i ≤ 1500) : (1 : Int) ≤ 2 ^ i ∧ Sm (2 ^ i) := by
  have h1 : (0 : Int) < 2 ^ i := Int.pow_pos (by decide)
  have h2 : (2 : Int) ^ i < P 100 := by
    have e : P 100 = 2 ^ (16 * 100) := by unfold P; rw [Int.pow_mul]; rfl
    have c : ∀ k : Nat, (2 : Int) ^ k = ((2 ^ k : Nat) : Int) := fun k => (Int.natCast_pow 2 k).symm
    obtain ⟨m, hm⟩ : ∃ m, m = 16 * 100 := ⟨_, rfl⟩
    rw [← hm] at e
    rw [e, c i, c m]
    exact Int.ofNat_lt.2 (Nat.pow_lt_pow_right (show 1 < 2 by decide) (show i < m by omega))
  exact ⟨by omega, by unfold Sm; omega⟩
set_option maxRecDepth 100000 in
set_option maxHeartbeats 2000000 in
theorem power_any (n : Nat) (hn : n ≤ 1500) (w : World) :
    Calls Try.prog 66 #[.int .i64 n] w (RetBig w (2 ^ n)) := by
  go_enter Try.func66, Try.ntmps66
  go_wp2_with fail
  refine (ofu_any 1 (by decide) (by decide) _).mono ?_
  rintro e w1 ⟨ng1, a1, l1, c1, rfl, hv1, hb1⟩
  have bv1 := (BV.new w false none 0 0 29).later hb1
  have BR := Lib.hid (bv1.alloc (.cells #[.bool ng1, .slice a1 l1 c1] 29))
  have BX := Lib.hid (BV.new w1 ng1 a1 l1 c1 29)
  have HV1 := Lib.hid (hv1.alloc (.cells #[.bool ng1, .slice a1 l1 c1] 29))
  have hs1 := hb1.size
  simp only [World.size_alloc] at hs1
  have HB1 := Lib.hid ((((Below.refl w.heap.size w).alloc (Nat.le_refl _) _).trans (hb1.mono (by simp))).alloc (by omega) (.cells #[.bool ng1, .slice a1 l1 c1] 29))
  have hg : w.heap.size < w1.heap.size := by omega
  clear hv1 hb1 bv1
  go_wp2_with fail
  go_loopw [4] (fun s wr => ∃ (i : Nat) (ng : Bool) (a : Option Addr) (l c : Nat), s = .int .i64 i ∧ i ≤ n ∧ Hid (BV wr w.heap.size false none 0 0) ∧ Hid (BV wr w1.heap.size ng a l c) ∧ Hid (BigV wr ng a l c (2 ^ i)) ∧ Hid (Below w.heap.size w wr)) (fun s _ => n - (intOf s).toNat)
  case atStart => exact ⟨0, ng1, a1, l1, c1, rfl, by omega, BR, BX, HV1, HB1⟩
  case round =>
    clear BR BX HV1 HB1
    obtain ⟨i, ng, a, l, c, rfl, hi, BR, BX, HV, HB⟩ := hrel
    obtain ⟨p0, p1, p2, p3⟩ := BR.out
    obtain ⟨k0, k1, k2, k3⟩ := BX.out
    obtain ⟨ps, psm⟩ := pow_sm i (by omega)
    have PSM := Lib.hid psm
    by_cases hlt : i < n
    · clear psm ps
      go_wp2_with fail
      go_region_with (first
        | (go_at_call 67; refine (ofu_any 2 (by decide) (by decide) _).mono ?_; rintro e w5 ⟨ng5, a5, l5, c5, rfl, hv5, hb5⟩; have H5 := Lib.hid hv5; have B5 := Lib.hid (below_undrew hb5); obtain ⟨k0, k1, k2, k3⟩ := BX.out.later (below_undrew hb5); clear hv5 hb5)
        | (go_at_call 31; refine (times_any ng ng5 a a5 l c l5 c5 (2 ^ i) 2 _ (HV.out.later B5.out) H5.out (Nat.le_trans (Sm.le HV.out PSM.out) (by decide)) (Nat.le_trans (Sm.le H5.out (sm_of 2 (by decide) (by decide))) (by decide))).mono ?_; rintro e w6 ⟨ng6, a6, l6, c6, rfl, hv6, hb6⟩; have H6 := Lib.hid hv6; have B6 := Lib.hid (B5.out.trans (hb6.mono B5.out.size)); obtain ⟨k0, k1, k2, k3⟩ := (BX.out.later B5.out).later hb6; clear hv6 hb6))
      all_goals
        go_wp2_with fail
        go_roundw
        case rel =>
          have bx6 := BX.out.later B6.out
          refine ⟨i + 1, ng6, a6, l6, c6, by go_num, by omega, Lib.hid ((BR.out.later B6.out).other (by omega) _ _), Lib.hid (bx6.set _ _ _ _), Lib.hid ?_, Lib.hid ?_⟩
          · have := H6.out.setBV bx6 (.bool ng6) (.slice a6 l6 c6)
            rw [Int.pow_succ]; exact this
          · exact ((HB.out.trans (B6.out.mono HB.out.size)).setCell (Nat.le_of_lt hg) _).setCell (Nat.le_of_lt hg) _
        case measure => simp [intOf]; omega
    · obtain rfl : i = n := by omega
      clear psm ps
      go_wp2_with fail
      refine bodyPost_ret (v := .agg #[.bool ng, .slice a l c]) (by simp [results, Try.results66, go_sem, p0, p1]) rfl ?_
      exact RetBig.mk (HV.out.setBV BR.out _ _) ((HB.out.setCell (Nat.le_refl _) _).setCell (Nat.le_refl _) _)
end Go.Proofs.Ytkohefgendcofaa
