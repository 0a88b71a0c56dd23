/- The reference's big numbers: Fits and Int. -/
import Derived.Test.YtkohefgendcofaaBigH
import Derived.WalkKit
import Derived.WalkSpells
import Derived.WalkLawsBesides
import Derived.Handy
import Derived.Lib.Hide
import Derived.Deep.QuietTactic
import Derived.BigQuiet
import Derived.LoopTactic
import Derived.Deep.LoopGhost
import Derived.Deep.RegionHeld3
import Derived.Deep.RegionWith
import Derived.Outline
import Derived.Deep.DeepCutAuto
namespace Go.Proofs.Ytkohefgendcofaa
open Go.RowKit Go.Proofs.Big
set_option linter.unusedVariables false
set_option maxRecDepth 100000
set_option linter.unusedSimpArgs false
theorem power127 (w : World) : Calls Try.prog 66 #[.int .i64 127] w (RetBig w 170141183460469231731687303715884105728) := by
  have := power_any 127 (by decide) w
  rw [show (2 : Int) ^ 127 = 170141183460469231731687303715884105728 from by decide] at this
  exact this
theorem power63 (w : World) : Calls Try.prog 66 #[.int .i64 63] w (RetBig w 9223372036854775808) := by
  have := power_any 63 (by decide) w
  rw [show (2 : Int) ^ 63 = 9223372036854775808 from by decide] at this
  exact this
theorem bel_trans {w w1 w2 : World} (h : Below w.heap.size w w1) (k : Below w1.heap.size w1 w2) : Below w.heap.size w w2 := h.trans (k.mono h.size)
/-- memory in the course of Fits and Int -/
structure OneW (w wr : World) (ng : Bool) (a : Option Addr) (la ca : Nat) (n : Int) : Prop where
  X : BV wr w.heap.size ng a la ca
  Xn : BigV wr ng a la ca n
  bel : Below w.heap.size w wr
theorem OneW.later {w wr wx : World} {ng : Bool} {a : Option Addr} {la ca : Nat} {n : Int} (h : OneW w wr ng a la ca n) (k : Below wr.heap.size wr wx) : OneW w wx ng a la ca n :=
  ⟨h.X.later k, h.Xn.later k, bel_trans h.bel k⟩
theorem OneW.new {w : World} {ng : Bool} {a : Option Addr} {la ca : Nat} {n : Int} (h : BigV w ng a la ca n) (t : TypeId) : OneW w (w.alloc (.cells #[.bool ng, .slice a la ca] t)) ng a la ca n :=
  ⟨BV.new w ng a la ca t, h.alloc _, (Below.refl _ _).alloc (Nat.le_refl _) _⟩
set_option maxRecDepth 100000 in
set_option maxHeartbeats 4000000 in
theorem bfits_any (ng : Bool) (a : Option Addr) (la ca : Nat) (n : Int) (w : World) (h : BigV w ng a la ca n) (sa : la ≤ 1000) (f : Bool) (hf : Hid (f = decide (-170141183460469231731687303715884105728 ≤ n ∧ n < 170141183460469231731687303715884105728))) :
    Calls Try.prog 18 #[.agg #[.bool ng, .slice a la ca]] w fun e w' => e = .returned (.bool f) ∧ Below w.heap.size w w' := by
  have hD := Lib.hid (OneW.new h 29)
  clear h
  obtain ⟨x0, x1, _, _⟩ := hD.out.X
  have S1 := Lib.hid (sm_of 170141183460469231731687303715884105728 (by decide) (by decide))
  have S2 := Lib.hid (sm_of (-170141183460469231731687303715884105728) (by decide) (by decide))
  obtain ⟨r, hr⟩ : ∃ r, r = cmpI n (-170141183460469231731687303715884105728) := ⟨_, rfl⟩
  obtain ⟨q, hq⟩ : ∃ q, q = cmpI n 170141183460469231731687303715884105728 := ⟨_, rfl⟩
  have HR := Lib.hid hr
  have HQ := Lib.hid hq
  have hrr : (r < 0 ∧ n < -170141183460469231731687303715884105728) ∨ (0 ≤ r ∧ -170141183460469231731687303715884105728 ≤ n) := by
    rw [hr]; unfold cmpI; repeat' split
    all_goals omega
  have hqq : (q < 0 ∧ n < 170141183460469231731687303715884105728) ∨ (0 ≤ q ∧ 170141183460469231731687303715884105728 ≤ n) := by
    rw [hq]; unfold cmpI; repeat' split
    all_goals omega
  clear hr hq
  go_enter Try.func18, Try.ntmps18
  go_wp2_with fail
  rcases hrr with ⟨r0, nr⟩ | ⟨r0, nr⟩
  · clear hqq
    go_region_with (first
    | (go_at_call 66; refine (power127 _).mono ?_; rintro e w5 ⟨n5, a5, l5, c5, rfl, hv5, hb5⟩; have H5 := Lib.hid hv5; have D5 := Lib.hid (hD.out.later (below_undrew hb5)); obtain ⟨x0, x1, _, _⟩ := D5.out.X; clear hv5 hb5)
    | (go_at_call 17; refine (minus_any n5 a5 l5 c5 170141183460469231731687303715884105728 _ H5.out (Nat.le_trans (Sm.le H5.out S1.out) (by decide))).mono ?_; rintro e w6 ⟨n6, a6, l6, c6, rfl, hv6, hb6⟩; have H6 := Lib.hid hv6; have D6 := Lib.hid (D5.out.later hb6); obtain ⟨x0, x1, _, _⟩ := D6.out.X; clear hv6 hb6)
    | (go_at_call 21; refine (bcmp_any ng n6 a a6 la ca l6 c6 n (-170141183460469231731687303715884105728) r _ D6.out.Xn H6.out (by omega) (Nat.le_trans (Sm.le H6.out S2.out) (by decide)) HR).mono ?_; rintro e w7 ⟨rfl, hb7⟩; have D7 := Lib.hid (D6.out.later hb7); obtain ⟨x0, x1, _, _⟩ := D7.out.X; clear hb7))
    all_goals
      go_wp2_with fail
      go_returns
      refine ⟨?_, D7.out.bel⟩
      rw [hf.out, decide_eq_false (by omega)]
      first | rfl | (simp [go_sem]; done) | go_simp
  · have QQ := Lib.hid hqq
    clear hqq
    go_region_with (first
    | (go_at_call 21; refine (bcmp_any ng n8 a a8 la ca l8 c8 n 170141183460469231731687303715884105728 q _ D8.out.Xn H8.out (by omega) (Nat.le_trans (Sm.le H8.out S1.out) (by decide)) HQ).mono ?_; rintro e w9 ⟨rfl, hb9⟩; have D9 := Lib.hid (D8.out.later hb9); obtain ⟨x0, x1, _, _⟩ := D9.out.X; clear hb9)
    | (go_at_call 66; refine (power127 _).mono ?_; rintro e w8 ⟨n8, a8, l8, c8, rfl, hv8, hb8⟩; have H8 := Lib.hid hv8; have D8 := Lib.hid (D7.out.later hb8); obtain ⟨x0, x1, _, _⟩ := D8.out.X; clear hv8 hb8)
    | (go_at_call 21; refine (bcmp_any ng n6 a a6 la ca l6 c6 n (-170141183460469231731687303715884105728) r _ D6.out.Xn H6.out (by omega) (Nat.le_trans (Sm.le H6.out S2.out) (by decide)) HR).mono ?_; rintro e w7 ⟨rfl, hb7⟩; have D7 := Lib.hid (D6.out.later hb7); obtain ⟨x0, x1, _, _⟩ := D7.out.X; clear hb7)
    | (go_at_call 17; refine (minus_any n5 a5 l5 c5 170141183460469231731687303715884105728 _ H5.out (Nat.le_trans (Sm.le H5.out S1.out) (by decide))).mono ?_; rintro e w6 ⟨n6, a6, l6, c6, rfl, hv6, hb6⟩; have H6 := Lib.hid hv6; have D6 := Lib.hid (D5.out.later hb6); obtain ⟨x0, x1, _, _⟩ := D6.out.X; clear hv6 hb6)
    | (go_at_call 66; refine (power127 _).mono ?_; rintro e w5 ⟨n5, a5, l5, c5, rfl, hv5, hb5⟩; have H5 := Lib.hid hv5; have D5 := Lib.hid (hD.out.later (below_undrew hb5)); obtain ⟨x0, x1, _, _⟩ := D5.out.X; clear hv5 hb5))
    all_goals
      go_wp2_with fail
      go_returns
      refine ⟨?_, D9.out.bel⟩
      have e : f = decide (q < 0) := by
        rw [hf.out]
        apply decide_eq_decide.2
        have := QQ.out
        omega
      rw [e]
      first | rfl | (simp [go_sem]; done) | go_simp
end Go.Proofs.Ytkohefgendcofaa
