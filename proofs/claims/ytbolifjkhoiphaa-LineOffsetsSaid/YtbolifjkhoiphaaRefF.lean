/- The reference's Add. -/
import Derived.Test.YtbolifjkhoiphaaSums
import Derived.WalkKit
import Derived.WalkSpells
import Derived.WalkLawsBesides
import Derived.Handy
import Derived.Lib.Hide
import Derived.Deep.QuietTactic
import Derived.BigQuiet
import Derived.LoopTactic
import Derived.RegionTactic
import Derived.BigRegion
import Derived.Deep.RegionHeld3
import Derived.Deep.RegionWith
import Derived.Outline
import Derived.Deep.DeepCutAuto
namespace Go.Proofs.Ytbolifjkhoiphaa
open Go.RowKit Go.Proofs.Big Go.Proofs.Reg
set_option linter.unusedVariables false
set_option linter.unusedSimpArgs false
set_option maxRecDepth 100000
theorem Tl.zero' {n v er : Int} (h : Tl n v er) : er ≠ 0 → v = 0 := fun z => by
  rcases h with ⟨_, _, h⟩ | ⟨_, h, _⟩
  · exact absurd h z
  · exact h
theorem Ri.later {w w' : World} {a : Option Addr} {len cap : Nat} {xs : List Int} (h : Ri w a len cap xs) (hb : Below w.heap.size w w') : Ri w' a len cap xs :=
  ⟨h.hlen, h.hmax, fun k => by
    obtain ⟨p, e, c⟩ := h.addr k
    exact ⟨p, e, fun j hj => cell_later hb (c j hj)⟩⟩
set_option maxHeartbeats 4000000 in
theorem r4add_any (s : Option Addr) (len cap : Nat) (xs : List Int) (o : Option Int) (v er : Int) (w : World) (R : Ri w s len cap xs) (hx : Hid (∀ x ∈ xs, -9223372036854775808 ≤ x ∧ x ≤ 9223372036854775807)) (ho : Hid (addAll 0 xs = o)) (ht : Hid (Ts o v er)) :
    Calls Try.prog 47 #[.slice s len cap] w fun e w' => e = .returned (.tuple #[.int .i64 v, .int .i64 er]) ∧ Below w.heap.size w w' := by
  have hl := R.hlen
  have hm := R.hmax
  have H := Lib.hid R
  clear R
  go_enter Try.func47, Try.ntmps47
  go_wp2_with fail
  refine (ofu_any 0 (by decide) (by decide) _).mono ?_
  rintro e w1 ⟨ng1, a1, l1, c1, rfl, hv1, hb1⟩
  have BX := Lib.hid (BV.new w1 ng1 a1 l1 c1 112)
  have HV1 := Lib.hid (hv1.alloc (.cells #[.bool ng1, .slice a1 l1 c1] 112))
  have hg := hb1.size
  have HB1 := Lib.hid (bel_alloc hb1 (.cells #[.bool ng1, .slice a1 l1 c1] 112))
  clear hv1 hb1
  go_wp2_with fail
  go_loopw [5] (fun s5 wr => ∃ (k : Nat) (t : Int) (ng : Bool) (a : Option Addr) (l c : Nat), s5 = .int .i64 k ∧ k ≤ len ∧ -17592186044416 ≤ t ∧ t ≤ 17592186044416 ∧ Hid (BV wr w1.heap.size ng a l c) ∧ Hid (BigV wr ng a l c t) ∧ Hid (Below w.heap.size w wr) ∧ Hid (addAll t (xs.drop k) = o)) (fun s5 _ => len - (intOf s5).toNat)
  case atStart => exact ⟨0, 0, ng1, a1, l1, c1, rfl, Nat.zero_le _, by decide, by decide, BX, HV1, HB1, ho⟩
  case round =>
    clear BX HV1 HB1
    obtain ⟨k, t, ng, a, l, c, rfl, hk, t0, t1, BX, HV, HB, hs⟩ := hrel
    obtain ⟨k0, k1, k2, k3⟩ := BX.out
    have ST := Lib.hid (sm_of t (by omega) (by omega))
    by_cases hlt : k < len
    · obtain ⟨p, rfl, hc⟩ := H.out.addr (by omega)
      obtain ⟨x, hxk⟩ : ∃ x, xs.getD k 0 = x := ⟨_, rfl⟩
      have d1 := cell_later HB.out (hc k hlt)
      rw [hxk] at d1
      have xb : -9223372036854775808 ≤ x ∧ x ≤ 9223372036854775807 := by
        rw [← hxk, List.getD_eq_getElem?_getD, List.getElem?_eq_getElem (by omega)]
        exact hx.out _ (List.getElem_mem _)
      have hs2 := hs.out
      rw [addAll_drop t xs k (by omega), hxk] at hs2
      have kl : (k : Int) < (len : Int) := by omega
      have SX := Lib.hid (sm_of x (by omega) (by omega))
      have SS := Lib.hid (sm_of (t + x) (by omega) (by omega))
      have x0 := xb.1
      have x1 := xb.2
      have LB : Hid (lenB (t + x) = decide (-17592186044416 ≤ t + x ∧ t + x ≤ 17592186044416)) := Lib.hid (by
        unfold lenB
        by_cases h1 : t + x ≤ 17592186044416 <;> by_cases h2 : -17592186044416 ≤ t + x <;> simp [h1, h2])
      have HS := Lib.hid hs2
      clear hs2 hs hc hxk xb
      go_wp2_with fail
      go_region_with (first
        | (go_at_call 58; refine (bof_any x x0 x1 _).mono ?_; rintro e w5 ⟨ng5, a5, l5, c5, rfl, hv5, hb5⟩; have H5 := Lib.hid hv5; have B5 := Lib.hid (below_undrew hb5); obtain ⟨k0, k1, k2, k3⟩ := BX.out.later (below_undrew hb5); clear hv5 hb5)
        | (go_at_call 57; refine (plus_any ng ng5 a a5 l c l5 c5 t x _ (HV.out.later B5.out) H5.out (Nat.le_trans (Sm.le HV.out ST.out) (by decide)) (Nat.le_trans (Sm.le H5.out SX.out) (by decide))).mono ?_; rintro e w6 ⟨ng6, a6, l6, c6, rfl, hv6, hb6⟩; have H6 := Lib.hid hv6; have B6 := Lib.hid (B5.out.trans (hb6.mono B5.out.size)); obtain ⟨k0, k1, k2, k3⟩ := (BX.out.later B5.out).later hb6; clear hv6 hb6))
      all_goals
        have BN6 := Lib.hid ((BX.out.later B6.out).set ng6 a6 l6 c6)
        have HN6 := Lib.hid (H6.out.setBV (BX.out.later B6.out) (.bool ng6) (.slice a6 l6 c6))
        have HB6 := Lib.hid (((HB.out.trans (B6.out.mono HB.out.size)).setCell (p := ⟨w1.heap.size, 0, none⟩) hg (.bool ng6)).setCell (p := ⟨w1.heap.size, 1, none⟩) hg (.slice a6 l6 c6))
        go_wp2_with fail
        refine (len4_any ng6 a6 l6 c6 (t + x) _ HN6.out (Nat.le_trans (Sm.le HN6.out SS.out) (by decide))).mono ?_
        rw [LB.out]
        rintro e w7 ⟨rfl, hb7⟩
        by_cases r : -17592186044416 ≤ t + x ∧ t + x ≤ 17592186044416
        · have hs2 := HS.out
          rw [if_pos r] at hs2
          rw [decide_eq_true r]
          obtain ⟨r0, r1⟩ := r
          have BN7 := Lib.hid (BN6.out.later hb7)
          have HN7 := Lib.hid (HN6.out.later hb7)
          have HB7 := Lib.hid (bel_trans HB6.out hb7)
          have HS7 := Lib.hid hs2
          clear hs2 hb7
          go_wp2_with fail
          go_roundw
          case rel => exact ⟨k + 1, t + x, ng6, a6, l6, c6, by go_num, by omega, r0, r1, BN7, HN7, HB7, HS7⟩
          case measure => simp [intOf]; omega
        · have hs2 := HS.out
          rw [if_neg r] at hs2
          rw [decide_eq_false r]
          have HB7 := Lib.hid (bel_trans HB6.out hb7)
          have TT : Hid (v = 0 ∧ er = 2) := Lib.hid (by have := ht.out; rw [← hs2] at this; exact this)
          obtain ⟨rfl, rfl⟩ := TT.out
          clear hs2 hb7 r
          go_wp2_with fail
          go_returns
          exact ⟨rfl, HB7.out⟩
    · have kl : ¬ (k : Int) < (len : Int) := by omega
      have TT : Hid (v = t ∧ er = 0) := Lib.hid (by
        have := hs.out
        rw [List.drop_of_length_le (by omega)] at this
        have h2 := ht.out
        rw [← this] at h2
        exact h2)
      obtain ⟨rfl, rfl⟩ := TT.out
      have TL := Lib.hid (show Tl v v 0 from .inl ⟨by unfold lenB; rw [decide_eq_true t1, decide_eq_true t0]; rfl, rfl, rfl⟩)
      clear hs
      go_wp2_with fail
      refine (told4_any ng a l c v v 0 _ HV.out (Nat.le_trans (Sm.le HV.out ST.out) (by decide)) TL.out).mono ?_
      rintro e w7 ⟨rfl, hb7⟩
      have HB7 := Lib.hid (bel_trans HB.out hb7)
      clear hb7
      go_wp2_with fail
      go_returns
      exact ⟨rfl, HB7.out⟩
end Go.Proofs.Ytbolifjkhoiphaa
