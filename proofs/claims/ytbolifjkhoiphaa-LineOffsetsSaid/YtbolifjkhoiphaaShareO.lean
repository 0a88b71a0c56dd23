/- The reference of law 5: Split, whole. -/
import Derived.Test.YtbolifjkhoiphaaShareK
import Derived.Test.YtbolifjkhoiphaaLen
import Derived.WalkKit
import Derived.WalkSpells
import Derived.WalkLawsBesides
import Derived.Handy
import Derived.Lib.Hide
import Derived.Deep.QuietTactic
import Derived.BigQuiet
import Derived.LoopTactic
import Derived.RegionTactic
import Derived.BigRegion
import Derived.Deep.RegionHeld3
import Derived.Deep.RegionWith
import Derived.Outline
import Derived.Deep.DeepCutAuto
namespace Go.Proofs.Ytbolifjkhoiphaa
open Go.RowKit Go.Proofs.Big Go.Proofs.Reg
set_option linter.unusedVariables false
set_option linter.unusedSimpArgs false
set_option maxRecDepth 100000
theorem own_base {w : World} {b0 b1 : Nat} {e : TypeId} {size : Nat} {v : Value} {n : Nat} {xs : List Value} (h : w.ownsRow b1 e size v n xs) (hb : b0 ≤ b1) : w.ownsRow b0 e size v n xs := by
  refine ⟨h.1, ?_⟩
  rcases h.2 with hn | ⟨g, cap, cur, rfl, hbg, rest⟩
  · exact .inl hn
  · exact .inr ⟨g, cap, cur, rfl, by omega, rest⟩
/-- the same, and whose the answer's cells are -/
def R5T (w : World) (len : Nat) (T : Int) (xs : List Int) (e : Ending) (w' : World) : Prop :=
  R5S w len T xs e w' ∧ ∀ a c, e = .returned (.tuple #[.slice a len c, .int .i64 0]) → w'.ownsRow w.heap.size 2 1 (.slice a len c) len ((parts5 T xs).map (Value.int .i64))
set_option maxHeartbeats 16000000 in
theorem r5split_own (a : Option Addr) (len cap : Nat) (xs : List Int) (T : Int) (w : World) (h : Ri w a len cap xs) (hlen : len ≤ 30) (hx : ∀ x ∈ xs, -9223372036854775808 ≤ x ∧ x ≤ 9223372036854775807) (t0 : -9223372036854775808 ≤ T) (t1 : T ≤ 9223372036854775807) :
    Calls Try.prog 52 #[.int .i64 T, .slice a len cap] w (R5T w len T xs) := by
  have hl := h.hlen
  have hm := h.hmax
  have H := Lib.hid h
  have HX := Lib.hid hx
  clear h hx
  have l1 : ¬ (1024 : Int) < (len : Int) := by omega
  go_enter Try.func52, Try.ntmps52
  go_wp2_with fail
  go_loop [6] (fun i => ∃ k : Nat, i = .int .i64 k ∧ k ≤ len ∧ Hid (∀ j, j < k → 0 ≤ xs.getD j 0)) (fun i => len - (intOf i).toNat)
  case atStart => exact ⟨0, rfl, Nat.zero_le _, Lib.hid fun j hj => absurd hj (by omega)⟩
  case round =>
    obtain ⟨k, rfl, hk, hs⟩ := hrel
    by_cases hlt : k < len
    · obtain ⟨p, rfl, hc⟩ := H.out.addr (by omega)
      obtain ⟨x, hxk⟩ : ∃ x, xs.getD k 0 = x := ⟨_, rfl⟩
      have d1 := hc k hlt
      rw [hxk] at d1
      have kl : (k : Int) < (len : Int) := by omega
      have HM := Lib.hid (getD_mem (by omega : k < xs.length))
      rw [hxk] at HM
      have HK := Lib.hid hxk
      clear hc hxk
      by_cases r : x < 0
      · have HB : Hid (negB xs = true) := Lib.hid (List.any_eq_true.2 ⟨x, HM.out, decide_eq_true r⟩)
        go_wp2_with fail
        go_returns
        exact ⟨⟨Below.refl _ _, .inl ⟨HB.out, rfl⟩⟩, fun a c e => by simp at e⟩
      · have HS : Hid (∀ j, j < k + 1 → 0 ≤ xs.getD j 0) := Lib.hid fun j hj => by
          by_cases c : j = k
          · subst c; rw [HK.out]; omega
          · exact hs.out j (by omega)
        clear hs
        go_wp2_with fail
        go_round
        case rel => exact ⟨k + 1, by go_num, by omega, HS⟩
        case measure => simp [intOf]; omega
    · have kl : ¬ (k : Int) < (len : Int) := by omega
      have HN : Hid (∀ x ∈ xs, 0 ≤ x) := Lib.hid fun x m => by
        obtain ⟨j, hj, e⟩ := List.mem_iff_getElem.1 m
        have := hs.out j (by omega)
        rw [List.getD_eq_getElem?_getD, List.getElem?_eq_getElem hj] at this
        simp only [Option.getD_some] at this
        rwa [e] at this
      have HB : Hid (negB xs = false) := Lib.hid (by
        unfold negB
        rw [List.any_eq_false]
        intro x m
        have := HN.out x m
        simpa using this)
      have HX2 : Hid (∀ x ∈ xs, 0 ≤ x ∧ x ≤ 9223372036854775807) := Lib.hid fun x m => ⟨HN.out x m, (HX.out x m).2⟩
      have SB := take_small HX2.out len
      rw [List.take_of_length_le (by omega)] at SB
      obtain ⟨S, hS⟩ : ∃ S, xs.sum = S := ⟨_, rfl⟩
      have HSS := Lib.hid hS
      rw [hS] at SB
      obtain ⟨S0, S1⟩ := SB
      have S2 : S ≤ 276701161105643274210 := by omega
      clear hs S1 hS
      go_wp2_with fail
      refine (r5sum_any a len cap len xs w H.out HX2.out (Nat.le_refl _) (by omega)).mono ?_
      rw [List.take_of_length_le (by omega), HSS.out]
      rintro e w1 ⟨ng1, a1, l1', c1, rfl, hv1, hb1⟩
      have BX := Lib.hid (show BN (w1.alloc (.cells #[.bool ng1, .slice a1 l1' c1] 112)) w1.heap.size ng1 a1 l1' c1 S from ⟨BV.new w1 ng1 a1 l1' c1 112, hv1.alloc _⟩)
      have KB := Lib.hid (bel_alloc hb1 (.cells #[.bool ng1, .slice a1 l1' c1] 112))
      have HG := Lib.hid hb1.size
      clear hv1 hb1
      obtain ⟨k0, k1, k2, k3⟩ := BX.out.B
      have STT := Lib.hid (sm_of T (by omega) (by omega))
      have SS := Lib.hid (sm_of S (by omega) (by omega))
      have SP := Lib.hid (sm_of (2 ^ 62) (by decide) (by decide))
      by_cases oT : okT T
      · have LB : Hid (lenB T = true) := Lib.hid (by unfold lenB; simp [oT.1, oT.2])
        have OT := Lib.hid oT
        clear oT
        obtain ⟨r, hr, hr2⟩ : ∃ r, r = cmpI S (2 ^ 62) ∧ (0 < r ↔ 4611686018427387904 < S) := ⟨_, rfl, by unfold cmpI; split <;> (try split) <;> omega⟩
        have HR := Lib.hid hr
        by_cases oS : S ≤ 4611686018427387904
        · have r0 : ¬ (0 : Int) < r := by omega
          clear hr hr2
          go_wp2_with fail
          go_cut [37] (fun s wx => s = .bool false ∧ Hid (Below w.heap.size w wx) ∧ Hid (BN wx w1.heap.size ng1 a1 l1' c1 S))
          case first =>
            go_region_with (first
              | (go_at_call 58; refine (bof_any T t0 t1 _).mono ?_; rintro e w5 ⟨ng5, a5, l5, c5, rfl, hv5, hb5⟩; have H5 := Lib.hid hv5; have B5 := Lib.hid (below_undrew hb5); obtain ⟨k0, k1, k2, k3⟩ := (BX.out.later (below_undrew hb5)).B; clear hv5 hb5)
              | (go_at_call 62; refine (len4_any ng5 a5 l5 c5 T _ H5.out (Nat.le_trans (Sm.le H5.out STT.out) (by decide))).mono ?_; rw [LB.out]; rintro e w6 ⟨rfl, hb6⟩; have B6 := Lib.hid (B5.out.trans (hb6.mono B5.out.size)); obtain ⟨k0, k1, k2, k3⟩ := (BX.out.later B6.out).B; clear hb6)
              | (go_at_call 74; refine (power_any 62 (by decide) _).mono ?_; rintro e w7 ⟨ng7, a7, l7, c7, rfl, hv7, hb7⟩; have H7 := Lib.hid hv7; have B7 := Lib.hid (B6.out.trans (hb7.mono B6.out.size)); obtain ⟨k0, k1, k2, k3⟩ := (BX.out.later B7.out).B; clear hv7 hb7)
              | (go_at_call 73; refine (bcmp_any ng1 ng7 a1 a7 l1' c1 l7 c7 S (2 ^ 62) r _ (BX.out.later B7.out).V H7.out (Nat.le_trans (Sm.le (BX.out.later B7.out).V SS.out) (by decide)) (Nat.le_trans (Sm.le H7.out SP.out) (by decide)) HR).mono ?_; rintro e w8 ⟨rfl, hb8⟩; have B8 := Lib.hid (B7.out.trans (hb8.mono B7.out.size)); obtain ⟨k0, k1, k2, k3⟩ := (BX.out.later B8.out).B; clear hb8))
            all_goals
              go_wp2_with fail
              go_meet
              exact ⟨by rw [decide_eq_false (by omega)], Lib.hid (bel_trans KB.out B8.out), Lib.hid (BX.out.later B8.out)⟩
          case rest =>
            obtain ⟨rfl, KB, BX⟩ := hcut
            go_wp2_with fail
            have PL : (parts5 T xs).length = len := by rw [parts_len]; exact hl
            have KBl := KB
            have BXl := BX
            go_loopw [8, 9] (fun s8 s9 wr => ∃ (k : Nat) (b : Option Addr) (c : Nat), s9 = .int .i64 k ∧ s8 = .slice b k c ∧ k ≤ len ∧ wr.ownsRow wc.heap.size 2 1 (.slice b k c) k (((parts5 T xs).take k).map (Value.int .i64)) ∧ Hid (Below wc.heap.size wc wr)) (fun _ s9 _ => len - (intOf s9).toNat)
            case atStart => exact ⟨0, none, 0, rfl, rfl, Nat.zero_le _, World.ownsRow_nil _ _ _ _, Lib.hid (Below.refl _ _)⟩
            case round =>
              obtain ⟨k, b, c, rfl, rfl, hk, hown, KR⟩ := hrel
              obtain ⟨j0, j1, j2, j3⟩ := (BXl.out.later KR.out).B
              by_cases hlt : k < len
              · have kl : (k : Int) < (len : Int) := by omega
                have TK : Hid ((parts5 T xs).take (k + 1) = (parts5 T xs).take k ++ [part5 T xs k]) := Lib.hid (by
                  rw [List.take_add_one, List.getElem?_eq_getElem (by omega)]
                  simp [parts5])
                by_cases z : S = 0
                · obtain rfl := (BigV.len_zero BXl.out.V).2 z
                  have P0 : part5 T xs k = 0 := by unfold part5; rw [HSS.out, if_pos z]
                  rw [P0] at TK
                  obtain ⟨v', w', r', o, gr⟩ := own_append (wr.alloc (.cells #[.int .i64 0] 2)) wc.heap.size (.slice b k c) k _ (hown.alloc _) (Nat.le_trans KR.out.size (by simp)) ⟨wr.heap.size, 0, none⟩ 1 1 [0] rfl (fun j hj => by obtain rfl : j = 0 := (by omega); simp [go_sem, Addr.add]) (by omega)
                  rw [← TK.out] at o
                  have KN := Lib.hid (below_grown (KR.out.alloc KR.out.size _) (hown.alloc _) gr)
                  obtain ⟨a9, c9, rfl, _⟩ := ri_of_owns o (by omega)
                  clear hown gr
                  go_wp2_with (at_builtin; refine wpList_plain rfl (fun _ hK => wpo_val (run_append2 rfl rfl r') (hK _ _ ?_)))
                  clear r'
                  go_wp2_with fail
                  go_roundw
                  case rel => exact ⟨k + 1, a9, c9, by go_num, rfl, by omega, o, KN⟩
                  case measure => simp [intOf]; omega
                · have SPos : 0 < S := by omega
                  have lz : ¬ l1' = 0 := fun h => z ((BigV.len_zero BXl.out.V).1 h)
                  have lzb : ((l1' : Int) == 0) = false := by simp; omega
                  obtain ⟨b1, hb1⟩ : ∃ q, bnd T xs (k + 1) = q := ⟨_, rfl⟩
                  obtain ⟨b0, hb0⟩ : ∃ q, bnd T xs k = q := ⟨_, rfl⟩
                  have sp' : 0 < xs.sum := by rw [HSS.out]; exact SPos
                  have R1 := bnd_range HN.out sp' OT.out.1 OT.out.2 (k + 1)
                  have R0 := bnd_range HN.out sp' OT.out.1 OT.out.2 k
                  rw [hb1] at R1
                  rw [hb0] at R0
                  have BD : Hid (-9223372036854775808 ≤ b1 - b0 ∧ b1 - b0 ≤ 9223372036854775807) := Lib.hid (by omega)
                  have PD : part5 T xs k = b1 - b0 := by unfold part5; rw [if_neg (by omega), hb1, hb0]
                  rw [PD] at TK
                  have FB : ∀ (j : Nat) (q : Int), bnd T xs j = q → Hid (∀ (wy : World) (ng : Bool) (a' : Option Addr) (l c : Nat), BigV wy ng a' l c (xs.take j).sum → BigV wy ng1 a1 l1' c1 S → Calls Try.prog 75 #[.int .i64 T, .agg #[.bool ng, .slice a' l c], .agg #[.bool ng1, .slice a1 l1' c1]] wy fun e w' => e = .returned (.int .i64 q) ∧ Below wy.heap.size wy w') := fun j q hq => Lib.hid fun wy ng a' l c hv hs => by
                    have t := sum_take_le HN.out j
                    rw [HSS.out] at t
                    rw [← hq]
                    unfold bnd
                    rw [HSS.out]
                    exact r5bound_any T _ S ng ng1 a' a1 l c l1' c1 wy hv hs OT.out.1 OT.out.2 t.1 t.2 SPos oS
                  have FB1 := FB (k + 1) b1 hb1
                  have FB0 := FB k b0 hb0
                  have OW := Lib.hid hown
                  obtain ⟨p, rfl, _⟩ := H.out.addr (by omega)
                  clear FB hb1 hb0 hown R1 R0 PD
                  go_wp2_with fail
                  refine wp_region_vals [some (.slice b k c), some (.int .i64 T), some (.slice (some p) len cap), some (.int .i64 k), some (.int .i64 (k + 1 : Nat)), none, some (.agg #[.bool ng1, .slice a1 l1' c1]), some (.int .i64 b1), some (.int .i64 T), some (.slice (some p) len cap), some (.int .i64 k), none, some (.agg #[.bool ng1, .slice a1 l1' c1]), some (.int .i64 b0), some (.int .i64 (b1 - b0)), none, none, none]
                    (SpB wc (.slice b k c) k ((parts5 T xs).take k) (b1 - b0) (xs.take (k + 1)).sum (xs.take k).sum) [some 51, some 52, some 53, some 54, some 55, some 56, some 57, some 58, some 59, some 60, some 61, some 62, some 63, some 64, some 65, some 66, some 67, some 8] (by kernel_rfl) (by kernel_rfl) (by kernel_rfl) (by kernel_rfl) (by kernel_rfl) (by kernel_rfl) (SpB.start KR.out.drew (owns_drew OW.out)) (fun i o ho => ?_) (fun Lz vz wz hL hB => ?_)
                  · match i, ho with
                    | 0, ho =>
                      obtain rfl := Option.some.inj ho
                      intro Az Lz vz wy Kz Ez hB kk
                      have z17 : Lz 17 = false := Ez.late 17 _ rfl (by kernel_rfl)
                      exact wpo_val (run_move ((Ez.keep1 8 17 z17 (by kernel_rfl)).trans rfl)) (kk _ _ rfl (hB.pure 0 (by decide) _))
                    | 1, ho =>
                      obtain rfl := Option.some.inj ho
                      intro Az Lz vz wy Kz Ez hB kk
                      exact wpo_val (run_move ((Ez.out 0 (by kernel_rfl)).trans rfl)) (kk _ _ rfl (hB.pure 1 (by decide) _))
                    | 2, ho =>
                      obtain rfl := Option.some.inj ho
                      intro Az Lz vz wy Kz Ez hB kk
                      exact wpo_val (run_move ((Ez.out 1 (by kernel_rfl)).trans rfl)) (kk _ _ rfl (hB.pure 2 (by decide) _))
                    | 3, ho =>
                      obtain rfl := Option.some.inj ho
                      intro Az Lz vz wy Kz Ez hB kk
                      exact wpo_val (run_move ((Ez.out 9 (by kernel_rfl)).trans rfl)) (kk _ _ rfl (hB.pure 3 (by decide) _))
                    | 4, ho =>
                      obtain rfl := Option.some.inj ho
                      intro Az Lz vz wy Kz Ez hB kk
                      exact wpo_val (run_bin (Ez.dep 3 54 (by kernel_rfl) rfl) rfl (by simp [go_sem]) (add_int k 1 (by omega) wy)) (kk _ _ rfl (hB.pure 4 (by decide) _))
                    | 5, ho =>
                      obtain rfl := Option.some.inj ho
                      intro Az Lz vz wy Kz Ez hB kk
                      have z14 := hB.n7 (Ez.late 7 _ rfl (by kernel_rfl))
                      have z16 := (hB.n14 z14).2
                      have e1 : Az.eval (.tmp 53) = .slice (some p) len cap := (Ez.dep 2 53 (by kernel_rfl) rfl)
                      have e2 : Az.eval (.tmp 55) = .int .i64 (k + 1 : Nat) := (Ez.dep 4 55 (by kernel_rfl) rfl)
                      refine wpo_call (run_callW (fun _ _ => by kernel_rfl)) (R := RetBig wy (xs.take (k + 1)).sum) ?_ ?_
                      · simp only [List.map_toArray, List.map_cons, List.map_nil, e1, e2]
                        exact r5sum_any (some p) len cap (k + 1) xs wy (ri_later H.out (bel_tr0 KBl.out hB.1)) HX2.out (by omega) (by omega)
                      · rintro e w' ⟨ng, a', l, c, rfl, hv, hb⟩
                        exact ⟨_, rfl, kk _ _ trivial ((hB.move z16 hb).set5 hv)⟩
                    | 6, ho =>
                      obtain rfl := Option.some.inj ho
                      intro Az Lz vz wy Kz Ez hB kk
                      have kbv := (BXl.out.later hB.1).B
                      have e0 : Az.eval (.tmp 7) = .pointer (some ⟨w1.heap.size, 0, none⟩) := (Ez.out 7 (by kernel_rfl)).trans rfl
                      exact wpo_val (run_load e0 (by simp [go_sem, kbv.c0, kbv.c1])) (kk _ _ rfl (hB.pure 6 (by decide) _))
                    | 7, ho =>
                      obtain rfl := Option.some.inj ho
                      intro Az Lz vz wy Kz Ez hB kk
                      have z14 : Lz 14 = false := Ez.late 14 _ rfl (by kernel_rfl)
                      have z16 := (hB.n14 z14).2
                      obtain ⟨ng, a', l, c, ev, hv⟩ := hB.2.2.1 (Ez.had 5 (by kernel_rfl)) Ez.not
                      have e1 : Az.eval (.tmp 52) = .int .i64 T := (Ez.dep 1 52 (by kernel_rfl) rfl)
                      have e2 := (Ez.dep 5 56 (by kernel_rfl) rfl : Az.eval (.tmp 56) = vz 5).trans ev
                      have e3 : Az.eval (.tmp 57) = .agg #[.bool ng1, .slice a1 l1' c1] := (Ez.dep 6 57 (by kernel_rfl) rfl)
                      refine wpo_call (run_callW (fun _ _ => by kernel_rfl)) (R := fun e w' => e = .returned (.int .i64 b1) ∧ Below wy.heap.size wy w') ?_ ?_
                      · simp only [List.map_toArray, List.map_cons, List.map_nil, e1, e2, e3]
                        exact (FB1).out wy ng a' l c hv ((BXl.out.later hB.1).V)
                      · rintro e w' ⟨rfl, hb⟩
                        exact ⟨_, rfl, kk _ _ rfl ((hB.move z16 hb).set7 _)⟩
                    | 8, ho =>
                      obtain rfl := Option.some.inj ho
                      intro Az Lz vz wy Kz Ez hB kk
                      exact wpo_val (run_move ((Ez.out 0 (by kernel_rfl)).trans rfl)) (kk _ _ rfl (hB.pure 8 (by decide) _))
                    | 9, ho =>
                      obtain rfl := Option.some.inj ho
                      intro Az Lz vz wy Kz Ez hB kk
                      exact wpo_val (run_move ((Ez.out 1 (by kernel_rfl)).trans rfl)) (kk _ _ rfl (hB.pure 9 (by decide) _))
                    | 10, ho =>
                      obtain rfl := Option.some.inj ho
                      intro Az Lz vz wy Kz Ez hB kk
                      exact wpo_val (run_move ((Ez.out 9 (by kernel_rfl)).trans rfl)) (kk _ _ rfl (hB.pure 10 (by decide) _))
                    | 11, ho =>
                      obtain rfl := Option.some.inj ho
                      intro Az Lz vz wy Kz Ez hB kk
                      have z14 := hB.n13 (Ez.late 13 _ rfl (by kernel_rfl))
                      have z16 := (hB.n14 z14).2
                      have e1 : Az.eval (.tmp 60) = .slice (some p) len cap := (Ez.dep 9 60 (by kernel_rfl) rfl)
                      have e2 : Az.eval (.tmp 61) = .int .i64 (k : Nat) := (Ez.dep 10 61 (by kernel_rfl) rfl)
                      refine wpo_call (run_callW (fun _ _ => by kernel_rfl)) (R := RetBig wy (xs.take (k)).sum) ?_ ?_
                      · simp only [List.map_toArray, List.map_cons, List.map_nil, e1, e2]
                        exact r5sum_any (some p) len cap (k) xs wy (ri_later H.out (bel_tr0 KBl.out hB.1)) HX2.out (by omega) (by omega)
                      · rintro e w' ⟨ng, a', l, c, rfl, hv, hb⟩
                        exact ⟨_, rfl, kk _ _ trivial ((hB.move z16 hb).set11 hv)⟩
                    | 12, ho =>
                      obtain rfl := Option.some.inj ho
                      intro Az Lz vz wy Kz Ez hB kk
                      have kbv := (BXl.out.later hB.1).B
                      have e0 : Az.eval (.tmp 7) = .pointer (some ⟨w1.heap.size, 0, none⟩) := (Ez.out 7 (by kernel_rfl)).trans rfl
                      exact wpo_val (run_load e0 (by simp [go_sem, kbv.c0, kbv.c1])) (kk _ _ rfl (hB.pure 12 (by decide) _))
                    | 13, ho =>
                      obtain rfl := Option.some.inj ho
                      intro Az Lz vz wy Kz Ez hB kk
                      have z14 : Lz 14 = false := Ez.late 14 _ rfl (by kernel_rfl)
                      have z16 := (hB.n14 z14).2
                      obtain ⟨ng, a', l, c, ev, hv⟩ := hB.2.2.2.1 (Ez.had 11 (by kernel_rfl)) Ez.not
                      have e1 : Az.eval (.tmp 59) = .int .i64 T := (Ez.dep 8 59 (by kernel_rfl) rfl)
                      have e2 := (Ez.dep 11 62 (by kernel_rfl) rfl : Az.eval (.tmp 62) = vz 11).trans ev
                      have e3 : Az.eval (.tmp 63) = .agg #[.bool ng1, .slice a1 l1' c1] := (Ez.dep 12 63 (by kernel_rfl) rfl)
                      refine wpo_call (run_callW (fun _ _ => by kernel_rfl)) (R := fun e w' => e = .returned (.int .i64 b0) ∧ Below wy.heap.size wy w') ?_ ?_
                      · simp only [List.map_toArray, List.map_cons, List.map_nil, e1, e2, e3]
                        exact (FB0).out wy ng a' l c hv ((BXl.out.later hB.1).V)
                      · rintro e w' ⟨rfl, hb⟩
                        exact ⟨_, rfl, kk _ _ rfl ((hB.move z16 hb).set13 _)⟩
                    | 14, ho =>
                      obtain rfl := Option.some.inj ho
                      intro Az Lz vz wy Kz Ez hB kk
                      exact wpo_val (run_bin (Ez.dep 7 58 (by kernel_rfl) rfl) (Ez.dep 13 64 (by kernel_rfl) rfl) (by simp [go_sem]) (sub_i64 b1 b0 BD.out wy)) (kk _ _ rfl (hB.set14 (Ez.had 7 (by kernel_rfl)) (Ez.had 13 (by kernel_rfl)) _))
                    | 15, ho =>
                      obtain rfl := Option.some.inj ho
                      intro Az Lz vz wy Kz Ez hB kk
                      have z16 : Lz 16 = false := Ez.late 16 _ rfl (by kernel_rfl)
                      exact wpo_val (run_bslice1 (Ez.dep 14 65 (by kernel_rfl) rfl) (bslice1_i64 _ wy)) (kk _ _ trivial (hB.set15 (Ez.had 14 (by kernel_rfl)) z16))
                    | 16, ho =>
                      obtain rfl := Option.some.inj ho
                      intro Az Lz vz wy Kz Ez hB kk
                      have z16 : Lz 16 = false := Ez.not
                      have z17 : Lz 17 = false := Ez.late 17 _ rfl (by kernel_rfl)
                      have h15 := Ez.had 15 (by kernel_rfl)
                      obtain ⟨g, hg, hc⟩ := hB.2.2.2.2.1 h15
                      have e2 := (Ez.dep 15 66 (by kernel_rfl) rfl : Az.eval (.tmp 66) = vz 15).trans hg
                      obtain ⟨v', w', r', o, gr⟩ := own_append wy wc.heap.size (.slice b k c) k ((parts5 T xs).take k) (hB.2.1 z16) hB.1.size ⟨g, 0, none⟩ 1 1 [b1 - b0] rfl (fun j hj => by obtain rfl : j = 0 := (by omega); simpa [Addr.add] using hc z16) (by omega)
                      exact wpo_val (run_append2 (Ez.dep 0 51 (by kernel_rfl) rfl) e2 r') (kk _ _ trivial (hB.set16 h15 z16 z17 o gr))
                    | 17, ho =>
                      obtain rfl := Option.some.inj ho
                      intro Az Lz vz wy Kz Ez hB kk
                      exact wpo_val (run_assign (Ez.dep 16 67 (by kernel_rfl) rfl)) (kk _ _ trivial hB.set17)
                    | m + 18, ho => simp at ho
                  · have o5 := hB.2.2.2.2.2.1 (hL 16 (by decide))
                    have e17 := hB.2.2.2.2.2.2.1 (hL 17 (by decide))
                    have KN := Lib.hid hB.1
                    rw [← TK.out] at o5
                    obtain ⟨a9, c9, e9, _⟩ := ri_of_owns o5 (by omega)
                    rw [e9] at e17 o5
                    clear hB hL e9
                    simp only [puts2, mix, Act.put, List.setIfInBounds_toArray, List.set_cons_zero, List.set_cons_succ, Nat.zero_add, Nat.reduceAdd, List.getElem?_cons_zero, List.getElem?_cons_succ, e17]
                    clear e17
                    go_wp2_with fail
                    go_roundw
                    case rel => exact ⟨k + 1, a9, c9, by go_num, rfl, by omega, o5, KN⟩
                    case measure => simp [intOf]; omega
              · have kl : ¬ (k : Int) < (len : Int) := by omega
                obtain rfl : k = len := by omega
                have RR := ri_of_owns2 hown (by omega)
                rw [List.take_of_length_le (by omega)] at RR hown
                have OWN := Lib.hid (own_base hown KBl.out.size)
                have FIN : Hid (R5S w k T xs (.returned (.tuple #[.slice b k c, .int .i64 0])) wr) := Lib.hid ⟨bel_tr0 KBl.out KR.out, .inr (.inr ⟨HB.out, OT.out, by unfold okS; rw [HSS.out]; exact oS, b, c, rfl, RR⟩)⟩
                clear RR hown
                go_wp2_with fail
                go_returns
                exact ⟨FIN.out, fun a c e => by simp at e; obtain ⟨rfl, rfl⟩ := e; exact OWN.out⟩
        · have r0 : (0 : Int) < r := by omega
          have NO : Hid (¬ (okT T ∧ okS xs)) := Lib.hid fun h => oS (by have := h.2; unfold okS at this; rw [HSS.out] at this; exact this)
          clear hr hr2 oS
          go_wp2_with fail
          go_region_with (first
            | (go_at_call 58; refine (bof_any T t0 t1 _).mono ?_; rintro e w5 ⟨ng5, a5, l5, c5, rfl, hv5, hb5⟩; have H5 := Lib.hid hv5; have B5 := Lib.hid (below_undrew hb5); obtain ⟨k0, k1, k2, k3⟩ := (BX.out.later (below_undrew hb5)).B; clear hv5 hb5)
            | (go_at_call 62; refine (len4_any ng5 a5 l5 c5 T _ H5.out (Nat.le_trans (Sm.le H5.out STT.out) (by decide))).mono ?_; rw [LB.out]; rintro e w6 ⟨rfl, hb6⟩; have B6 := Lib.hid (B5.out.trans (hb6.mono B5.out.size)); obtain ⟨k0, k1, k2, k3⟩ := (BX.out.later B6.out).B; clear hb6)
            | (go_at_call 74; refine (power_any 62 (by decide) _).mono ?_; rintro e w7 ⟨ng7, a7, l7, c7, rfl, hv7, hb7⟩; have H7 := Lib.hid hv7; have B7 := Lib.hid (B6.out.trans (hb7.mono B6.out.size)); obtain ⟨k0, k1, k2, k3⟩ := (BX.out.later B7.out).B; clear hv7 hb7)
            | (go_at_call 73; refine (bcmp_any ng1 ng7 a1 a7 l1' c1 l7 c7 S (2 ^ 62) r _ (BX.out.later B7.out).V H7.out (Nat.le_trans (Sm.le (BX.out.later B7.out).V SS.out) (by decide)) (Nat.le_trans (Sm.le H7.out SP.out) (by decide)) HR).mono ?_; rintro e w8 ⟨rfl, hb8⟩; have B8 := Lib.hid (B7.out.trans (hb8.mono B7.out.size)); obtain ⟨k0, k1, k2, k3⟩ := (BX.out.later B8.out).B; clear hb8))
          all_goals
            go_wp2_with fail
            go_returns
            exact ⟨⟨bel_trans KB.out B8.out, .inr (.inl ⟨HB.out, NO.out, rfl⟩)⟩, fun a c e => by simp at e⟩
      · have LB : Hid (lenB T = false) := Lib.hid (by
          unfold okT at oT
          unfold lenB
          by_cases h1 : T ≤ 17592186044416 <;> by_cases h2 : -17592186044416 ≤ T <;> simp [h1, h2]
          exact oT ⟨h2, h1⟩)
        have NO : Hid (¬ (okT T ∧ okS xs)) := Lib.hid fun h => oT h.1
        clear oT
        go_wp2_with fail
        go_region_with (first
          | (go_at_call 58; refine (bof_any T t0 t1 _).mono ?_; rintro e w5 ⟨ng5, a5, l5, c5, rfl, hv5, hb5⟩; have H5 := Lib.hid hv5; have B5 := Lib.hid (below_undrew hb5); obtain ⟨k0, k1, k2, k3⟩ := (BX.out.later (below_undrew hb5)).B; clear hv5 hb5)
          | (go_at_call 62; refine (len4_any ng5 a5 l5 c5 T _ H5.out (Nat.le_trans (Sm.le H5.out STT.out) (by decide))).mono ?_; rw [LB.out]; rintro e w6 ⟨rfl, hb6⟩; have B6 := Lib.hid (B5.out.trans (hb6.mono B5.out.size)); obtain ⟨k0, k1, k2, k3⟩ := (BX.out.later B6.out).B; clear hb6))
        all_goals
          go_wp2_with fail
          go_returns
          exact ⟨⟨bel_trans KB.out B6.out, .inr (.inl ⟨HB.out, NO.out, rfl⟩)⟩, fun a c e => by simp at e⟩
theorem r5split_any (a : Option Addr) (len cap : Nat) (xs : List Int) (T : Int) (w : World) (h : Ri w a len cap xs) (hlen : len ≤ 30) (hx : ∀ x ∈ xs, -9223372036854775808 ≤ x ∧ x ≤ 9223372036854775807) (t0 : -9223372036854775808 ≤ T) (t1 : T ≤ 9223372036854775807) :
    Calls Try.prog 52 #[.int .i64 T, .slice a len cap] w (R5S w len T xs) := (r5split_own a len cap xs T w h hlen hx t0 t1).mono fun _ _ h => h.1
end Go.Proofs.Ytbolifjkhoiphaa
