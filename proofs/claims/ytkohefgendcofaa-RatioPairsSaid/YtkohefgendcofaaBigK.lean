/- The reference's big numbers: Int. -/
import Derived.Test.YtkohefgendcofaaBigJ
import Derived.WalkKit
import Derived.WalkSpells
import Derived.WalkLawsBesides
import Derived.Handy
import Derived.Lib.Hide
import Derived.Deep.QuietTactic
import Derived.BigQuiet
import Derived.LoopTactic
import Derived.Deep.LoopGhost
import Derived.Deep.RegionHeld3
import Derived.Deep.RegionWith
import Derived.Outline
import Derived.Deep.DeepCutAuto
namespace Go.Proofs.Ytkohefgendcofaa
open Go.RowKit Go.Proofs.Big
set_option linter.unusedVariables false
set_option maxRecDepth 100000
set_option linter.unusedSimpArgs false
set_option maxRecDepth 100000 in
set_option maxHeartbeats 4000000 in
theorem bint_any (ng : Bool) (a : Option Addr) (la ca : Nat) (n : Int) (w : World) (h : BigV w ng a la ca n) (sa : la ≤ 1000) (f : Bool) (m : Int) (hf : Hid (f = decide (-9223372036854775808 ≤ n ∧ n < 9223372036854775808))) (hm : Hid (m = if -9223372036854775808 ≤ n ∧ n < 9223372036854775808 then n else 0)) :
    Calls Try.prog 34 #[.agg #[.bool ng, .slice a la ca]] w fun e w' => e = .returned (.tuple #[.int .i64 m, .bool f]) ∧ Below w.heap.size w w' := by
  have hD := Lib.hid (OneW.new h 29)
  obtain ⟨xs, rd, ok, cn, hv⟩ := h.rd
  have NG := Lib.hid h.hng
  have RD := Lib.hid rd
  have OK := Lib.hid ok
  have HV := Lib.hid hv
  clear h rd ok cn hv
  obtain ⟨x0, x1, _, _⟩ := hD.out.X
  have S1 := Lib.hid (sm_of 9223372036854775808 (by decide) (by decide))
  have S2 := Lib.hid (sm_of (-9223372036854775808) (by decide) (by decide))
  obtain ⟨r, hr⟩ : ∃ r, r = cmpI n (-9223372036854775808) := ⟨_, rfl⟩
  obtain ⟨q, hq⟩ : ∃ q, q = cmpI n 9223372036854775808 := ⟨_, rfl⟩
  have HR := Lib.hid hr
  have HQ := Lib.hid hq
  have hrr : (r < 0 ∧ n < -9223372036854775808) ∨ (0 ≤ r ∧ -9223372036854775808 ≤ n) := by
    rw [hr]; unfold cmpI; repeat' split
    all_goals omega
  have hqq : (q < 0 ∧ n < 9223372036854775808) ∨ (0 ≤ q ∧ 9223372036854775808 ≤ n) := by
    rw [hq]; unfold cmpI; repeat' split
    all_goals omega
  clear hr hq
  go_enter Try.func34, Try.ntmps34
  go_wp2_with fail
  refine (power63 _).mono ?_
  rintro e w5 ⟨n5, a5, l5, c5, rfl, hv5, hb5⟩
  have H5 := Lib.hid hv5
  have D5 := Lib.hid (hD.out.later hb5)
  clear hv5 hb5 x0 x1
  obtain ⟨x0, x1, _, _⟩ := D5.out.X
  go_wp2_with fail
  refine (minus_any n5 a5 l5 c5 9223372036854775808 _ H5.out (Nat.le_trans (Sm.le H5.out S1.out) (by decide))).mono ?_
  rintro e w6 ⟨n6, a6, l6, c6, rfl, hv6, hb6⟩
  have H6 := Lib.hid hv6
  have D6 := Lib.hid (D5.out.later hb6)
  clear hv6 hb6 x0 x1
  obtain ⟨x0, x1, _, _⟩ := D6.out.X
  go_wp2_with fail
  have D6' := Lib.hid (D6.out.later ((Below.refl _ _).alloc (Nat.le_refl _) (.cells #[.bool n6, .slice a6 l6 c6] 29)))
  have H6' := Lib.hid (H6.out.alloc (.cells #[.bool n6, .slice a6 l6 c6] 29))
  obtain ⟨z0, z1, _, _⟩ := BV.new w6 n6 a6 l6 c6 29
  clear x0 x1
  obtain ⟨x0, x1, _, _⟩ := D6'.out.X
  have QQ := Lib.hid hqq
  clear hqq
  rcases hrr with ⟨r0, nr⟩ | ⟨r0, nr⟩
  · go_region_with (first
    | (go_at_call 21; refine (bcmp_any ng n8 a a8 la ca l8 c8 n 9223372036854775808 q _ D8.out.Xn H8.out (by omega) (Nat.le_trans (Sm.le H8.out S1.out) (by decide)) HQ).mono ?_; rintro e w9 ⟨rfl, hb9⟩; have D9 := Lib.hid (D8.out.later hb9); obtain ⟨x0, x1, _, _⟩ := D9.out.X; clear hb9)
    | (go_at_call 66; refine (power63 _).mono ?_; rintro e w8 ⟨n8, a8, l8, c8, rfl, hv8, hb8⟩; have H8 := Lib.hid hv8; have D8 := Lib.hid (D7.out.later hb8); obtain ⟨x0, x1, _, _⟩ := D8.out.X; clear hv8 hb8)
    | (go_at_call 21; refine (bcmp_any ng n6 a a6 la ca l6 c6 n (-9223372036854775808) r _ (D6'.out.later (below_undrew (Below.refl _ _))).Xn (H6'.out.later (below_undrew (Below.refl _ _))) (by omega) (Nat.le_trans (Sm.le H6.out S2.out) (by decide)) HR).mono ?_; rintro e w7 ⟨rfl, hb7⟩; have D7 := Lib.hid (D6'.out.later (below_undrew hb7)); obtain ⟨x0, x1, _, _⟩ := D7.out.X; clear hb7))
    all_goals
      go_wp2_with fail
      go_ret2
      refine ⟨?_, D7.out.bel⟩
      rw [hm.out, hf.out, if_neg (by omega), decide_eq_false (by omega)]
      first | rfl | (simp [go_sem]; done) | go_simp
  · have r0' : ¬ r < 0 := by omega
    have r0n : decide (r < 0) = false := decide_eq_false r0'
    go_region_with (first
    | (go_at_call 21; refine (bcmp_any ng n8 a a8 la ca l8 c8 n 9223372036854775808 q _ D8.out.Xn H8.out (by omega) (Nat.le_trans (Sm.le H8.out S1.out) (by decide)) HQ).mono ?_; rintro e w9 ⟨rfl, hb9⟩; have D9 := Lib.hid (D8.out.later hb9); obtain ⟨x0, x1, _, _⟩ := D9.out.X; clear hb9)
    | (go_at_call 66; refine (power63 _).mono ?_; rintro e w8 ⟨n8, a8, l8, c8, rfl, hv8, hb8⟩; have H8 := Lib.hid hv8; have D8 := Lib.hid (D7.out.later hb8); obtain ⟨x0, x1, _, _⟩ := D8.out.X; clear hv8 hb8)
    | (go_at_call 21; refine (bcmp_any ng n6 a a6 la ca l6 c6 n (-9223372036854775808) r _ (D6'.out.later (below_undrew (Below.refl _ _))).Xn (H6'.out.later (below_undrew (Below.refl _ _))) (by omega) (Nat.le_trans (Sm.le H6.out S2.out) (by decide)) HR).mono ?_; rintro e w7 ⟨rfl, hb7⟩; have D7 := Lib.hid (D6'.out.later (below_undrew hb7)); obtain ⟨x0, x1, _, _⟩ := D7.out.X; clear hb7))
    all_goals
      rcases QQ.out with ⟨q0, nq⟩ | ⟨q0, nq⟩
      · have q0' : ¬ 0 ≤ q := by omega
        go_wp2_with fail
        go_loopw [5, 6] (fun s5 s6 wx => ∃ (k : Nat) (acc : Int), s5 = .int .i64 acc ∧ s6 = .int .i64 ((k : Int) - 1) ∧ k ≤ la ∧ Hid (acc = if ng then -val (xs.drop k) else val (xs.drop k)) ∧ Hid (OneW w wx ng a la ca n)) (fun _ s6 _ => (intOf s6 + 1).toNat)
        case atStart =>
          refine ⟨la, 0, rfl, rfl, by omega, Lib.hid ?_, D9⟩
          rw [List.drop_eq_nil_of_le (by have := RD.out.hlen; omega)]
          cases ng <;> simp [val]
        case round =>
          obtain ⟨k, acc, rfl, rfl, hk, hacc, hD⟩ := hrel
          have hng := NG.out
          have hv := HV.out
          cases k with
          | zero =>
            rw [show (((0 : Nat) : Int) - 1) = -1 from rfl]
            go_wp2_with fail
            go_ret2
            refine ⟨?_, hD.out.bel⟩
            have e := hacc.out
            rw [List.drop_zero, hv] at e
            have e2 : acc = n := by
              rw [e, hng]
              by_cases c : n < 0
              · rw [decide_eq_true c, if_pos rfl, if_pos c]; omega
              · rw [decide_eq_false c, if_neg (by decide), if_neg c]
            rw [hm.out, hf.out, if_pos (by omega), decide_eq_true (by omega), e2]
            try first | rfl | (simp [go_sem]; done) | go_simp
          | succ k =>
            rw [show (((k + 1 : Nat) : Int) - 1) = (k : Int) from by omega]
            obtain ⟨k0, k1, _, _⟩ := hD.out.X
            have hlen := RD.out.hlen
            obtain ⟨x, hxk⟩ : ∃ x, xs.getD k 0 = x := ⟨_, rfl⟩
            have x0 := getD_ok OK.out k
            rw [hxk] at x0
            obtain ⟨x0, x1⟩ := x0
            obtain ⟨b1, o1, rfl, c1⟩ := RD.out.addr (by omega)
            have cx := cell_later hD.out.bel (by rw [← hxk]; exact c1 k (by omega) : w.cell? ⟨b1, o1 + k, none⟩ = some (.int .u64 x))
            obtain ⟨V, hV⟩ : ∃ V, V = val (xs.drop (k + 1)) := ⟨_, rfl⟩
            have TE : val (xs.drop k) = V * 65536 + x := by rw [hV, val_drop xs k (by omega), hxk]
            have TL := val_drop_le xs OK.out k
            have V0 : 0 ≤ V := by rw [hV]; exact (val_bd (xs := xs.drop (k + 1)) (fun y hy => OK.out y (List.mem_of_mem_drop hy))).1
            rw [TE, hv] at TL
            have TEH := Lib.hid TE
            have e := hacc.out
            rw [← hV] at e
            have kla : (k : Int) < (la : Int) := by omega
            clear c1 hxk hV TE
            cases ng
            · have n0 : ¬ n < 0 := of_decide_eq_false hng.symm
              rw [if_neg n0] at TL
              rw [if_neg (by decide)] at e
              subst e
              clear hv hng
              go_wp2_with fail
              go_roundw
              case rel => exact ⟨k, _, rfl, by go_num, by omega, Lib.hid (by first | (rw [if_neg (by decide), TEH.out]; omega) | (rw [TEH.out]; omega)), hD⟩
              case measure => first | (simp [intOf]; done) | (simp [intOf]; omega)
            · have n0 : n < 0 := of_decide_eq_true hng.symm
              rw [if_pos n0] at TL
              rw [if_pos rfl] at e
              subst e
              clear hv hng
              go_wp2_with fail
              go_roundw
              case rel => exact ⟨k, _, rfl, by go_num, by omega, Lib.hid (by first | (rw [if_pos rfl, TEH.out]; omega) | (rw [TEH.out]; omega)), hD⟩
              case measure => first | (simp [intOf]; done) | (simp [intOf]; omega)
      · go_wp2_with fail
        go_ret2
        refine ⟨?_, D9.out.bel⟩
        rw [hm.out, hf.out, if_neg (by omega), decide_eq_false (by omega)]
        try first | rfl | (simp [go_sem]; done) | go_simp
set_option maxRecDepth 100000 in
set_option maxHeartbeats 4000000 in
theorem same_any (h l n r : Int) (h0 : -9223372036854775808 ≤ h) (h1 : h ≤ 9223372036854775807) (l0 : 0 ≤ l) (l1 : l < 18446744073709551616) (ng : Bool) (a : Option Addr) (la ca : Nat) (w : World) (hy : BigV w ng a la ca n) (sa : la ≤ 1000) :
    Calls Try.prog 19 #[.agg #[.int .i64 h, .int .u64 l], .agg #[.bool ng, .slice a la ca]] w fun e w' => e = .returned (.bool (decide (h * 18446744073709551616 + l = n))) ∧ Below w.heap.size w w' := by
  have hD := Lib.hid (OneW.new (hy.alloc (.cells #[.int .i64 h, .int .u64 l] 26)) 29)
  clear hy
  obtain ⟨y0, y1, _, _⟩ := hD.out.X
  simp only [World.size_alloc] at y0 y1
  obtain ⟨s, hs⟩ : ∃ s, s = cmpI (h * 18446744073709551616 + l) n := ⟨_, rfl⟩
  have HS := Lib.hid hs
  have hss : Hid ((s = 0) ↔ (h * 18446744073709551616 + l = n)) := Lib.hid (by rw [hs]; unfold cmpI; repeat' split
                                                                               all_goals omega)
  clear hs
  have SW := Lib.hid (sm_of (h * 18446744073709551616 + l) (by omega) (by omega))
  have x0 : ((w.alloc (.cells #[.int .i64 h, .int .u64 l] 26)).alloc (.cells #[.bool ng, .slice a la ca] 29)).cell? ⟨w.heap.size, 0, none⟩ = some (.int .i64 h) := cell_later ((Below.refl _ _).alloc (Nat.le_refl _) _) (by simp [go_sem])
  have x1 : ((w.alloc (.cells #[.int .i64 h, .int .u64 l] 26)).alloc (.cells #[.bool ng, .slice a la ca] 29)).cell? ⟨w.heap.size, 1, none⟩ = some (.int .u64 l) := cell_later ((Below.refl _ _).alloc (Nat.le_refl _) _) (by simp [go_sem])
  have X0 := Lib.hid x0
  have X1 := Lib.hid x1
  go_enter Try.func19, Try.ntmps19
  go_wp2_with fail
  go_region_with (first
    | (go_at_call 13; refine (ofwide_any h l h0 h1 l0 l1 _).mono ?_; rintro e w5 ⟨n5, a5, l5, c5, rfl, hv5, hb5⟩; have H5 := Lib.hid hv5; have D5 := Lib.hid (hD.out.later (below_undrew hb5)); obtain ⟨y0, y1, _, _⟩ := D5.out.X; simp only [World.size_alloc] at y0 y1; have x0 := cell_later (below_undrew hb5) X0.out; have x1 := cell_later (below_undrew hb5) X1.out; clear hv5 hb5)
    | (go_at_call 21; refine (bcmp_any n5 ng a5 a l5 c5 la ca (h * 18446744073709551616 + l) n s _ H5.out D5.out.Xn (Nat.le_trans (Sm.le H5.out SW.out) (by decide)) (by omega) HS).mono ?_; rintro e w7 ⟨rfl, hb7⟩; have D7 := Lib.hid (D5.out.later hb7); clear hb7))
  all_goals
    go_wp2_with fail
    go_returns
    refine ⟨?_, Below.trans ((Below.refl _ _).alloc (Nat.le_refl _) (.cells #[.int .i64 h, .int .u64 l] 26)) (D7.out.bel.mono (by simp))⟩
    rw [decide_eq_decide.2 hss.out.symm]
    first | rfl | (simp [go_sem]; done) | go_simp
end Go.Proofs.Ytkohefgendcofaa
