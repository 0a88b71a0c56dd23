/- The walk of RealGrid. -/
import Derived.Test.YtdccoebjcaemcaaRRRDoorSpk3c
import Derived.Test.YtdccoebjcaemcaaRRRDoorGrid3
import Derived.WalkKit
import Derived.WalkSpells
import Derived.WalkLawsBesides
import Derived.Handy
import Derived.Lib.Hide
import Derived.Outline
namespace Go.Proofs.YtdccoebjcaemcaaRRRDoor
open Go.RowKit Go.Proofs.Flo Go.Proofs.Reg
set_option linter.unusedVariables false
set_option linter.unusedSimpArgs false
set_option maxRecDepth 100000
set_option maxHeartbeats 1000000 in
theorem law_grid (x : Nat) (den lo hi : Int) (hx : x < 18446744073709551616) (kd : -9223372036854775808 ≤ den ∧ den ≤ 9223372036854775807) (kl : -9223372036854775808 ≤ lo ∧ lo ≤ 9223372036854775807) (kh : -9223372036854775808 ≤ hi ∧ hi ≤ 9223372036854775807) (w : World) (hD : Deb w) :
    Calls Tryd.prog 6 #[.int .u64 (x : Int), .int .i64 den, .agg #[.int .i64 lo, .int .i64 hi]] w fun e w' => e = .returned (.bool true) ∧ Below w.heap.size w w' := by
  have HS := Lib.hid (fun w h => speaks3_any w h)
  have G1 := Lib.hid (fun w h => kgrid_any x den lo hi hx kl.1 kh.2 w h)
  have G2 := Lib.hid (r3grid_any x den lo hi hx kl.1 kl.2 kh.1 kh.2)
  obtain ⟨n, hn⟩ : ∃ n, gridN x den lo hi = n := ⟨_, rfl⟩
  obtain ⟨f, hf⟩ : ∃ n, gridE x den lo hi = n := ⟨_, rfl⟩
  rw [hn, hf] at G1 G2
  have r1 : ∀ w : World, (callFunc 10 #[.int .u64 (x : Int)]).run Tryd.prog w = .ok (.value (.float .f64 x)) w := fun w => run_frombits x w
  have HD := Lib.hid hD
  clear hD hn hf
  go_enter Tryd.func6, Tryd.ntmps6
  go_wp2_with fail
  refine (HS.out _ (HD.out.later (bel_new w _))).mono ?_
  rintro e w1 ⟨rfl, hb⟩
  have K1 : Hid (Below w.heap.size w w1) := Lib.hid (bel_tr0 (bel_new w _) hb)
  have T1 := Lib.hid (((Tab.nil w).new [.int .i64 lo, .int .i64 hi] 47).later hb)
  have D1 := Lib.hid ((HD.out.later (bel_new w _)).later hb)
  clear hb
  have c0 := T1.out.cell 0 0 rfl rfl
  have c1 := T1.out.cell 0 1 rfl rfl
  go_wp2_with fail
  -- R3
  have KB := K1
  have KT := T1
  refine wp_region_vals [some (.int .u64 (x : Int)), some (.float .f64 x), some (.int .i64 den), some (.pointer (some ⟨w.heap.size, 0, none⟩)), some (.int .i64 lo), some (.pointer (some ⟨w.heap.size, 1, none⟩)), some (.int .i64 hi), some (.tuple #[.int .i64 n, .int .i64 f]), some (.tuple #[.int .i64 n, .int .i64 f]), some (.int .i64 n), some (.int .i64 f), some (.int .i64 n), some (.int .i64 f)] (fun Lz _ wy => Below w.heap.size w wy ∧ Tab wy [(w.heap.size, [.int .i64 lo, .int .i64 hi])])
    [some 14, some 15, some 16, some 17, some 18, some 19, some 20, some 21, some 13, some 22, some 23, some 7, some 8] (by kernel_rfl) (by kernel_rfl) (by kernel_rfl) (by kernel_rfl) (by kernel_rfl) (by kernel_rfl) ⟨KB.out.drew, KT.out.later ((Below.refl _ _).drew)⟩ (fun i o ho => ?_) (fun Lz vz wz hL hB => ?_)
  · match i, ho with
    | 0, ho =>
      obtain rfl := Option.some.inj ho
      intro Az Lz vz wy Kz Ez hB k
      have e0 : Az.eval (.tmp 0) = .int .u64 (x : Int) := Ez.out 0 (by kernel_rfl)
      exact wpo_val (v := .int .u64 (x : Int)) (run_move e0) (k _ _ rfl hB)
    | 1, ho =>
      obtain rfl := Option.some.inj ho
      intro Az Lz vz wy Kz Ez hB k
      have e14 : Az.eval (.tmp 14) = .int .u64 (x : Int) := Ez.dep 0 14 (by kernel_rfl) rfl
      exact wpo_val (v := .float .f64 x) (run_callX (by simp only [List.map_toArray, List.map_cons, List.map_nil, eval_const, e14]; exact r1 wy)) (k _ _ rfl hB)
    | 2, ho =>
      obtain rfl := Option.some.inj ho
      intro Az Lz vz wy Kz Ez hB k
      have e1 : Az.eval (.tmp 1) = .int .i64 den := Ez.out 1 (by kernel_rfl)
      exact wpo_val (v := .int .i64 den) (run_move e1) (k _ _ rfl hB)
    | 3, ho =>
      obtain rfl := Option.some.inj ho
      intro Az Lz vz wy Kz Ez hB k
      have e5 : Az.eval (.tmp 5) = .pointer (some ⟨w.heap.size, 0, none⟩) := Ez.out 5 (by kernel_rfl)
      exact wpo_val (v := .pointer (some ⟨w.heap.size, 0, none⟩)) (run_index e5 rfl (by simp [go_sem])) (k _ _ rfl hB)
    | 4, ho =>
      obtain rfl := Option.some.inj ho
      intro Az Lz vz wy Kz Ez hB k
      have e17 : Az.eval (.tmp 17) = .pointer (some ⟨w.heap.size, 0, none⟩) := Ez.dep 3 17 (by kernel_rfl) rfl
      have c0_0 := hB.2.cell 0 0 rfl rfl
      exact wpo_val (v := .int .i64 lo) (run_load e17 (by simp [go_sem, c0_0])) (k _ _ rfl hB)
    | 5, ho =>
      obtain rfl := Option.some.inj ho
      intro Az Lz vz wy Kz Ez hB k
      have e5 : Az.eval (.tmp 5) = .pointer (some ⟨w.heap.size, 0, none⟩) := Ez.out 5 (by kernel_rfl)
      exact wpo_val (v := .pointer (some ⟨w.heap.size, 1, none⟩)) (run_index e5 rfl (by simp [go_sem])) (k _ _ rfl hB)
    | 6, ho =>
      obtain rfl := Option.some.inj ho
      intro Az Lz vz wy Kz Ez hB k
      have e19 : Az.eval (.tmp 19) = .pointer (some ⟨w.heap.size, 1, none⟩) := Ez.dep 5 19 (by kernel_rfl) rfl
      have c0_1 := hB.2.cell 0 1 rfl rfl
      exact wpo_val (v := .int .i64 hi) (run_load e19 (by simp [go_sem, c0_1])) (k _ _ rfl hB)
    | 7, ho =>
      obtain rfl := Option.some.inj ho
      intro Az Lz vz wy Kz Ez hB k
      have e15 : Az.eval (.tmp 15) = .float .f64 x := Ez.dep 1 15 (by kernel_rfl) rfl
      have e16 : Az.eval (.tmp 16) = .int .i64 den := Ez.dep 2 16 (by kernel_rfl) rfl
      have e18 : Az.eval (.tmp 18) = .int .i64 lo := Ez.dep 4 18 (by kernel_rfl) rfl
      have e20 : Az.eval (.tmp 20) = .int .i64 hi := Ez.dep 6 20 (by kernel_rfl) rfl
      refine wpo_call (run_callW (fun _ _ => by kernel_rfl)) (R := fun ez w' => ez = .returned (.tuple #[.int .i64 n, .int .i64 f]) ∧ Below wy.heap.size wy w') ?_ ?_
      · simp only [List.map_toArray, List.map_cons, List.map_nil, eval_const, e15, e16, e18, e20]
        exact G1.out wy (HD.out.later hB.1)
      · rintro ez w' ⟨rfl, hb⟩
        exact ⟨_, rfl, k _ _ rfl ⟨bel_tr0 hB.1 hb, hB.2.later hb⟩⟩
    | 8, ho =>
      obtain rfl := Option.some.inj ho
      intro Az Lz vz wy Kz Ez hB k
      have e21 : Az.eval (.tmp 21) = .tuple #[.int .i64 n, .int .i64 f] := Ez.dep 7 21 (by kernel_rfl) rfl
      exact wpo_val (v := .tuple #[.int .i64 n, .int .i64 f]) (run_move e21) (k _ _ rfl hB)
    | 9, ho =>
      obtain rfl := Option.some.inj ho
      intro Az Lz vz wy Kz Ez hB k
      have e13 : Az.eval (.tmp 13) = .tuple #[.int .i64 n, .int .i64 f] := Ez.dep 8 13 (by kernel_rfl) rfl
      exact wpo_val (v := .int .i64 n) (run_ext e13 (by simp [go_sem])) (k _ _ rfl hB)
    | 10, ho =>
      obtain rfl := Option.some.inj ho
      intro Az Lz vz wy Kz Ez hB k
      have e13 : Az.eval (.tmp 13) = .tuple #[.int .i64 n, .int .i64 f] := Ez.dep 8 13 (by kernel_rfl) rfl
      exact wpo_val (v := .int .i64 f) (run_ext e13 (by simp [go_sem])) (k _ _ rfl hB)
    | 11, ho =>
      obtain rfl := Option.some.inj ho
      intro Az Lz vz wy Kz Ez hB k
      have e22 : Az.eval (.tmp 22) = .int .i64 n := Ez.dep 9 22 (by kernel_rfl) rfl
      exact wpo_val (v := .int .i64 n) (run_assign e22) (k _ _ rfl hB)
    | 12, ho =>
      obtain rfl := Option.some.inj ho
      intro Az Lz vz wy Kz Ez hB k
      have e23 : Az.eval (.tmp 23) = .int .i64 f := Ez.dep 10 23 (by kernel_rfl) rfl
      exact wpo_val (v := .int .i64 f) (run_assign e23) (k _ _ rfl hB)
    | n + 13, ho => simp at ho
  · obtain ⟨hk, hT⟩ := hB
    have KB := Lib.hid hk
    have KT := Lib.hid hT
    clear hk hT hL
    simp only [puts2, mix, Act.put, List.setIfInBounds_toArray, List.set_cons_zero, List.set_cons_succ, Nat.zero_add, Nat.reduceAdd, List.getElem?_cons_zero, List.getElem?_cons_succ]
    have c0 := KT.out.cell 0 0 rfl rfl
    have c1 := KT.out.cell 0 1 rfl rfl
    go_wp2_with fail
    refine (G2.out _).mono ?_
    rintro e w4 ⟨rfl, hb⟩
    have K4 := Lib.hid (bel_tr0 KB.out hb)
    clear hb
    go_wp2_with fail
    go_returns
    exact ⟨rfl, K4.out⟩
end Go.Proofs.YtdccoebjcaemcaaRRRDoor

