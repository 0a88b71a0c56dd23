/- The walk of RatioMakes. -/
import Derived.Test.YtkohefgendcofaaRefD
import Derived.Test.YtkohefgendcofaaSpk2
import Derived.WalkKit
import Derived.WalkSpells
import Derived.WalkLawsBesides
import Derived.Handy
import Derived.Lib.Hide
import Derived.Deep.QuietTactic
import Derived.BigQuiet
import Derived.LoopTactic
import Derived.RegionTactic
import Derived.BigRegion
import Derived.Deep.RegionHeld3
import Derived.Deep.RegionWith
import Derived.Outline
import Derived.Deep.DeepCutAuto
namespace Go.Proofs.Ytkohefgendcofaa
open Go.RowKit Go.Proofs.Big Go.Proofs.Reg
set_option linter.unusedVariables false
set_option linter.unusedSimpArgs false
set_option maxRecDepth 100000
/-- two ints in memory -/
structure TwoI (w : World) (q : Nat) (a b : Int) : Prop where
  c0 : w.cell? ⟨q, 0, none⟩ = some (.int .i64 a)
  c1 : w.cell? ⟨q, 1, none⟩ = some (.int .i64 b)
theorem TwoI.later {w w' : World} {q : Nat} {a b : Int} (h : TwoI w q a b) (hb : Below w.heap.size w w') : TwoI w' q a b := ⟨cell_later hb h.c0, cell_later hb h.c1⟩
theorem TwoI.new (w : World) (a b : Int) (t : TypeId) : TwoI (w.alloc (.cells #[.int .i64 a, .int .i64 b] t)) w.heap.size a b := ⟨by simp [go_sem], by simp [go_sem]⟩
theorem TwoI.lt {w : World} {q : Nat} {a b : Int} (h : TwoI w q a b) : q < w.heap.size := World.block_lt_of_cell? w _ h.c0
set_option maxHeartbeats 1000000 in
theorem makes_zero (n : Int) (n0 : -9223372036854775808 ≤ n) (n1 : n ≤ 9223372036854775807) (w : World) :
    Calls Try.prog 4 #[.int .i64 n, .int .i64 0] w fun e w' => e = .returned (.bool true) ∧ Below w.heap.size w w' := by
  go_enter Try.func4, Try.ntmps4
  go_wp2_with fail
  refine (speaks2_any _).mono ?_
  rintro e w1 ⟨rfl, hb1⟩
  have K1 := Lib.hid hb1
  clear hb1
  go_wp2_with fail
  refine (of_zero n _).mono ?_
  rintro e w2 ⟨rfl, hb2⟩
  have T2 := Lib.hid (TwoI.new w2 0 0 42)
  have K2 := Lib.hid (bel_alloc (bel_trans K1.out hb2) (.cells #[.int .i64 0, .int .i64 0] 42))
  clear hb2 K1
  go_wp2_with fail
  refine (good_any n 0 n0 n1 (by decide) (by decide) _).mono ?_
  rintro e w3 ⟨rfl, hb3⟩
  have T3 := Lib.hid (T2.out.later hb3)
  have K3 := Lib.hid (bel_trans K2.out hb3)
  clear hb3 K2 T2
  go_wp2_with fail
  refine (good2_any n 0 n0 n1 (by decide) (by decide) _).mono ?_
  rintro e w4 ⟨rfl, hb4⟩
  have T4 := Lib.hid (T3.out.later hb4)
  have K4 := Lib.hid (bel_trans K3.out hb4)
  clear hb4 K3 T3
  obtain ⟨c0, c1⟩ := T4.out
  have n4 := T4.out.lt
  go_wp2_with fail
  go_returns
  exact ⟨rfl, K4.out⟩
set_option maxHeartbeats 1000000 in
theorem makes_some (n d g N D : Int) (L : Lowest n d g N D) (w : World) :
    Calls Try.prog 4 #[.int .i64 n, .int .i64 d] w fun e w' => e = .returned (.bool true) ∧ Below w.heap.size w w' := by
  have n0 := L.n0
  have n1 := L.n1
  have d0 := L.d0
  have d1 := L.d1
  have dzb : (d == 0) = false := by simpa using L.dz
  have Nl := L.Nle
  have Dp := L.Dpos
  have LL := Lib.hid L
  have SN := Lib.hid (sm_of N (by split at Nl <;> omega) (by split at Nl <;> omega))
  have SD := Lib.hid (sm_of D (by omega) (by omega))
  have GD := Lib.hid L.good
  obtain ⟨fN, hfN⟩ : ∃ f, f = decide (-9223372036854775808 ≤ N ∧ N < 9223372036854775808) := ⟨_, rfl⟩
  obtain ⟨fD, hfD⟩ : ∃ f, f = decide (-9223372036854775808 ≤ D ∧ D < 9223372036854775808) := ⟨_, rfl⟩
  obtain ⟨kN, hkN⟩ : ∃ k, k = if -9223372036854775808 ≤ N ∧ N < 9223372036854775808 then N else 0 := ⟨_, rfl⟩
  obtain ⟨kD, hkD⟩ : ∃ k, k = if -9223372036854775808 ≤ D ∧ D < 9223372036854775808 then D else 0 := ⟨_, rfl⟩
  obtain ⟨er, a, b, hr, hrr⟩ : ∃ er a b : Int, ((N ≤ 9223372036854775807 ∧ D ≤ 9223372036854775807 ∧ er = 0 ∧ a = N ∧ b = D) ∨ (¬ (N ≤ 9223372036854775807 ∧ D ≤ 9223372036854775807) ∧ er = 2 ∧ a = 0 ∧ b = 0)) ∧
      ((fN = true ∧ fD = true ∧ kN = N ∧ kD = D ∧ er = 0 ∧ a = N ∧ b = D ∧ -9223372036854775808 ≤ N ∧ N ≤ 9223372036854775807 ∧ D ≤ 9223372036854775807) ∨ ((fN && fD) = false ∧ er = 2 ∧ a = 0 ∧ b = 0)) := by
    by_cases c : N ≤ 9223372036854775807 ∧ D ≤ 9223372036854775807
    · have cN : -9223372036854775808 ≤ N ∧ N < 9223372036854775808 := by split at Nl <;> omega
      have cD : -9223372036854775808 ≤ D ∧ D < 9223372036854775808 := by omega
      exact ⟨0, N, D, .inl ⟨c.1, c.2, rfl, rfl, rfl⟩, .inl ⟨by rw [hfN, decide_eq_true cN], by rw [hfD, decide_eq_true cD], by rw [hkN, if_pos cN], by rw [hkD, if_pos cD], rfl, rfl, rfl, cN.1, c.1, c.2⟩⟩
    · refine ⟨2, 0, 0, .inr ⟨c, rfl, rfl, rfl⟩, .inr ⟨?_, rfl, rfl, rfl⟩⟩
      by_cases cN : N ≤ 9223372036854775807
      · rw [hfD, decide_eq_false (by omega), Bool.and_false]
      · rw [hfN, decide_eq_false (by omega), Bool.false_and]
  have HfN := Lib.hid hfN
  have HfD := Lib.hid hfD
  have HkN := Lib.hid hkN
  have HkD := Lib.hid hkD
  have OF := Lib.hid (fun w => of_any' L er a b hr w)
  have HRR := Lib.hid hrr
  clear L Nl hfN hfD hkN hkD hr hrr
  go_enter Try.func4, Try.ntmps4
  go_wp2_with fail
  refine (speaks2_any _).mono ?_
  rintro e w1 ⟨rfl, hb1⟩
  have K1 := Lib.hid hb1
  clear hb1
  go_wp2_with fail
  refine (OF.out _).mono ?_
  rintro e w2 ⟨rfl, hb2⟩
  have T2 := Lib.hid (TwoI.new w2 a b 42)
  have K2 := Lib.hid (bel_alloc (bel_trans K1.out hb2) (.cells #[.int .i64 a, .int .i64 b] 42))
  clear hb2 K1
  go_wp2_with fail
  refine (good_any n d n0 n1 d0 d1 _).mono ?_
  rintro e w3 ⟨rfl, hb3⟩
  have T3 := Lib.hid (T2.out.later hb3)
  have K3 := Lib.hid (bel_trans K2.out hb3)
  clear hb3 K2 T2
  go_wp2_with fail
  refine (good2_any n d n0 n1 d0 d1 _).mono ?_
  rintro e w4 ⟨rfl, hb4⟩
  have T4 := Lib.hid (T3.out.later hb4)
  have K4 := Lib.hid (bel_trans K3.out hb4)
  clear hb4 K3 T3
  go_wp2_with fail
  refine (bof_any n n0 n1 _).mono ?_
  rintro e w5 ⟨ng5, a5, l5, c5, rfl, hv5, hb5⟩
  have H5 := Lib.hid hv5
  have T5 := Lib.hid (T4.out.later hb5)
  have K5 := Lib.hid (bel_trans K4.out hb5)
  clear hv5 hb5 T4 K4
  go_wp2_with fail
  refine (bof_any d d0 d1 _).mono ?_
  rintro e w6 ⟨ng6, a6, l6, c6, rfl, hv6, hb6⟩
  have H6 := Lib.hid hv6
  have H5' := Lib.hid (H5.out.later hb6)
  have T6 := Lib.hid (T5.out.later hb6)
  have K6 := Lib.hid (bel_trans K5.out hb6)
  clear hv6 hb6 T5 K5 H5
  go_wp2_with fail
  refine (lowest_ints ng5 ng6 a5 a6 l5 c5 l6 c6 n d N D g _ H5'.out H6.out n0 n1 d0 d1 LL.out).mono ?_
  rintro e w7 ⟨ng7, a7, l7, c7, ng8, a8, l8, c8, rfl, hv7, hv8, hb7⟩
  have H7 := Lib.hid hv7
  have H8 := Lib.hid hv8
  have T7 := Lib.hid (T6.out.later hb7)
  have K7 := Lib.hid (bel_trans K6.out hb7)
  clear hv7 hv8 hb7 T6 K6 H5' H6
  go_wp2_with fail
  refine (ints_any ng7 ng8 a7 a8 l7 c7 l8 c8 N D _ H7.out H8.out (Nat.le_trans (Sm.le H7.out SN.out) (by decide)) (Nat.le_trans (Sm.le H8.out SD.out) (by decide)) fN fD kN kD HfN HkN HfD HkD).mono ?_
  rintro e w8 ⟨rfl, hb8⟩
  have T8 := Lib.hid (T7.out.later hb8)
  have K8 := Lib.hid (bel_trans K7.out hb8)
  clear hb8 T7 K7 H7 H8 HfN HfD HkN HkD OF
  obtain ⟨c0, c1⟩ := T8.out
  have n8 := T8.out.lt
  rcases HRR.out with ⟨rfl, rfl, rfl, rfl, rfl, rfl, rfl, N0, N1, D1⟩ | ⟨hf, rfl, rfl, rfl⟩
  · go_wp2_with fail
    refine (good_any a b N0 N1 (by omega) D1 _).mono ?_
    rintro e w9 ⟨rfl, hb9⟩
    have K9 := Lib.hid (bel_trans K8.out hb9)
    clear hb9
    rw [GD.out]
    go_wp2_with fail
    go_returns
    exact ⟨rfl, K9.out⟩
  · go_wp2_with fail
    go_returns
    exact ⟨rfl, K8.out⟩
theorem law_makes (n d : Int) (n0 : -9223372036854775808 ≤ n) (n1 : n ≤ 9223372036854775807) (d0 : -9223372036854775808 ≤ d) (d1 : d ≤ 9223372036854775807) (w : World) :
    Calls Try.prog 4 #[.int .i64 n, .int .i64 d] w fun e w' => e = .returned (.bool true) ∧ Below w.heap.size w w' := by
  by_cases dz : d = 0
  · subst dz
    exact makes_zero n n0 n1 w
  · obtain ⟨g, N, D, L⟩ := lowest_ex n d n0 n1 d0 d1 dz
    exact makes_some n d g N D L w
end Go.Proofs.Ytkohefgendcofaa
