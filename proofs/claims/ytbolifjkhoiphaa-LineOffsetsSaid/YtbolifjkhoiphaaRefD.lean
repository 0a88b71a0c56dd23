/- The reference's fractions: Good, Half. -/
import Derived.Test.YtbolifjkhoiphaaRefC
import Derived.WalkKit
import Derived.WalkSpells
import Derived.WalkLawsBesides
import Derived.Handy
import Derived.Lib.Hide
import Derived.Deep.QuietTactic
import Derived.BigQuiet
import Derived.LoopTactic
import Derived.RegionTactic
import Derived.BigRegion
import Derived.Deep.RegionHeld3
import Derived.Deep.RegionWith
import Derived.Outline
import Derived.Deep.DeepCutAuto
namespace Go.Proofs.Ytbolifjkhoiphaa
open Go.RowKit Go.Proofs.Big Go.Proofs.Reg
set_option linter.unusedVariables false
set_option linter.unusedSimpArgs false
set_option maxRecDepth 100000
theorem Lowest.good_iff {n d g N D : Int} (L : Lowest n d g N D) (d1 : 1 ≤ d) : (goodB n d = true ∧ N = n ∧ D = d) ∨ (goodB n d = false ∧ D ≠ d) := by
  have eN := L.eN
  have eD := L.eD
  rw [if_neg (by omega)] at eN eD
  have g1 := L.gpos
  have D1 := L.Dpos
  by_cases h : g = 1
  · left
    subst h
    refine ⟨?_, by omega, by omega⟩
    unfold goodB
    rw [decide_eq_true d1, L.hg]
    rfl
  · right
    refine ⟨?_, fun e => ?_⟩
    · unfold goodB
      rw [decide_eq_true d1, L.hg]
      simpa using h
    · rw [e] at eD
      have : d * 2 ≤ d * g := Int.mul_le_mul_of_nonneg_left (by omega) (by omega)
      omega
theorem Lowest.fits {n d g N D : Int} (L : Lowest n d g N D) (d1 : 1 ≤ d) : (-9223372036854775808 ≤ N ∧ N < 9223372036854775808) ∧ (-9223372036854775808 ≤ D ∧ D < 9223372036854775808) := by
  have eN := L.eN
  have eD := L.eD
  rw [if_neg (by omega)] at eN eD
  have g1 := L.gpos
  have D1 := L.Dpos
  have n0 := L.n0
  have n1 := L.n1
  have dd1 := L.d1
  have h1 : D * 1 ≤ D * g := Int.mul_le_mul_of_nonneg_left (by omega) (by omega)
  have h2 : 0 ≤ N → N * 1 ≤ N * g := fun h => Int.mul_le_mul_of_nonneg_left (by omega) h
  have h3 : N ≤ 0 → N * g ≤ N * 1 := fun h => by
    have := Int.mul_le_mul_of_nonneg_left (c := -N) (show (1 : Int) ≤ g by omega) (by omega)
    rw [Int.neg_mul, Int.neg_mul] at this
    omega
  omega
set_option maxHeartbeats 2000000 in
theorem good2_any (n d : Int) (n0 : -9223372036854775808 ≤ n) (n1 : n ≤ 9223372036854775807) (d0 : -9223372036854775808 ≤ d) (d1 : d ≤ 9223372036854775807) (w : World) :
    Calls Try.prog 77 #[.int .i64 n, .int .i64 d] w fun e w' => e = .returned (.bool (goodB n d)) ∧ Below w.heap.size w w' := by
  by_cases dp : 1 ≤ d
  · obtain ⟨g, N, D, L⟩ := lowest_ex n d n0 n1 d0 d1 (by omega)
    have LL := Lib.hid L
    obtain ⟨⟨N0, N1⟩, D0, D1⟩ := L.fits dp
    have fN := Lib.hid (show true = decide (-9223372036854775808 ≤ N ∧ N < 9223372036854775808) from (decide_eq_true ⟨N0, N1⟩).symm)
    have fD := Lib.hid (show true = decide (-9223372036854775808 ≤ D ∧ D < 9223372036854775808) from (decide_eq_true ⟨D0, D1⟩).symm)
    have kN := Lib.hid (show N = if -9223372036854775808 ≤ N ∧ N < 9223372036854775808 then N else 0 from (if_pos ⟨N0, N1⟩).symm)
    have kD := Lib.hid (show D = if -9223372036854775808 ≤ D ∧ D < 9223372036854775808 then D else 0 from (if_pos ⟨D0, D1⟩).symm)
    have SN := Lib.hid (sm_of N (by omega) (by omega))
    have SD := Lib.hid (sm_of D (by omega) (by omega))
    obtain ⟨r, bN, bD, hr, hbN, hbD, hrr⟩ : ∃ r bN bD : Bool, r = goodB n d ∧ (N == n) = bN ∧ (D == d) = bD ∧ ((r = true ∧ bN = true ∧ bD = true) ∨ (r = false ∧ bD = false)) := by
      refine ⟨_, _, _, rfl, rfl, rfl, ?_⟩
      rcases L.good_iff dp with h | h
      · left; exact ⟨h.1, by simp [h.2.1], by simp [h.2.2]⟩
      · right; exact ⟨h.1, by simpa using h.2⟩
    rw [← hr]
    clear L hr
    go_enter Try.func77, Try.ntmps77
    go_wp2_with fail
    refine (bof_any n n0 n1 _).mono ?_
    rintro e w1 ⟨ng1, a1, l1, c1, rfl, hv1, hb1⟩
    have H1 := Lib.hid hv1
    have K1 := Lib.hid hb1
    clear hv1 hb1
    go_wp2_with fail
    refine (bof_any d d0 d1 _).mono ?_
    rintro e w2 ⟨ng2, a2, l2, c2, rfl, hv2, hb2⟩
    have H2 := Lib.hid hv2
    have H1' := Lib.hid (H1.out.later hb2)
    have K2 := Lib.hid (bel_trans K1.out hb2)
    clear hv2 hb2 H1 K1
    go_wp2_with fail
    refine (lowest_ints ng1 ng2 a1 a2 l1 c1 l2 c2 n d N D g _ H1'.out H2.out n0 n1 d0 d1 LL.out).mono ?_
    rintro e w3 ⟨ng3, a3, l3, c3, ng4, a4, l4, c4, rfl, hv3, hv4, hb3⟩
    have H3 := Lib.hid ((hv3.alloc (.cells #[.bool ng3, .slice a3 l3 c3] 112)).alloc (.cells #[.bool ng4, .slice a4 l4 c4] 112))
    have H4 := Lib.hid ((hv4.alloc (.cells #[.bool ng3, .slice a3 l3 c3] 112)).alloc (.cells #[.bool ng4, .slice a4 l4 c4] 112))
    have K3 := Lib.hid (bel_alloc (bel_alloc (bel_trans K2.out hb3) (.cells #[.bool ng3, .slice a3 l3 c3] 112)) (.cells #[.bool ng4, .slice a4 l4 c4] 112))
    clear hv3 hv4 hb3 H1' H2 K2
    go_wp2_with fail
    refine (ints_any ng3 ng4 a3 a4 l3 c3 l4 c4 N D _ H3.out H4.out (Nat.le_trans (Sm.le H3.out SN.out) (by decide)) (Nat.le_trans (Sm.le H4.out SD.out) (by decide)) true true N D fN kN fD kD).mono ?_
    rintro e w4 ⟨rfl, hb4⟩
    have K4 := Lib.hid (bel_trans K3.out hb4)
    clear hb4 K3 H3 H4
    rcases hrr with ⟨rfl, rfl, rfl⟩ | ⟨rfl, rfl⟩
    · go_wp2_with fail
      go_returns
      exact ⟨rfl, K4.out⟩
    · cases bN
      all_goals
        go_wp2_with fail
        go_returns
        exact ⟨rfl, K4.out⟩
  · have hg : goodB n d = false := by unfold goodB; rw [decide_eq_false dp]; rfl
    rw [hg]
    have dl : d < 1 := by omega
    clear hg dp
    go_enter Try.func77, Try.ntmps77
    go_wp2_with fail
    go_returns
    exact ⟨rfl, Below.refl _ _⟩
end Go.Proofs.Ytbolifjkhoiphaa
