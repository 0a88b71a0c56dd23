/- What the laws of rect share, and the walk of RectRights. -/
import Derived.Test.YtlkpegfbnmecpaaRectD
import Derived.Test.YtlkpegfbnmecpaaRect6
import Derived.WalkKit
import Derived.ChangeKeysEq
import Derived.WalkSpells
import Derived.WalkLawsBesides
import Derived.Handy
import Derived.Lib.Hide
import Derived.Deep.QuietTactic
import Derived.BigQuiet
import Derived.LoopTactic
import Derived.Deep.RegionHeld3
import Derived.Deep.RegionWith
import Derived.Outline
import Derived.Deep.DeepCutAuto
namespace Go.Proofs.Ytlkpegfbnmecpaa
open Go.RowKit Go.Proofs.Reg
set_option linter.unusedVariables false
set_option linter.unusedSimpArgs false
set_option maxRecDepth 100000
theorem bel_al {w wx : World} (h : Below w.heap.size w wx) (o : Obj) : Below w.heap.size w (wx.alloc o) := h.alloc h.size o
/-- two arrays of four ints -/
theorem arr4_eql (a b c d e f g h : Int) (w : World) : (binOp BinOp.eql 42 (rv a b c d) (rv e f g h)).run Try.prog w = .ok (.bool (eq4 a b c d e f g h)) w := by
  obtain ⟨i, hi, hc⟩ : ∃ i, Try.prog.info? 3 = some i ∧ Try.prog.cellsOf 3 = 1 := by
    cases h : Try.prog.info? 3 with
    | none =>
      have : (Try.prog.info? 3).isSome = true := by kernel_rfl
      rw [h] at this
      cases this
    | some i => exact ⟨i, rfl, by kernel_rfl⟩
  unfold rv eq4
  rw [run_eql_struct, run_equalIn_array w 9999 _ _ (P := Try.prog) (t := 42) (e := 3) (n := 4) (by kernel_rfl) hi, hc]
  have hu : Try.prog.underlying 3 = some (.int .i64) := by kernel_rfl
  by_cases h1 : a = e
  · by_cases h2 : b = f
    · by_cases h3 : c = g
      · by_cases h4 : d = h <;> simp [Op.eqItems, List.range, List.range.loop, part, run_equalIn_int w _ _ _ _ _ _ hu, go_sem, h1, h2, h3, h4]
      · simp [Op.eqItems, List.range, List.range.loop, part, run_equalIn_int w _ _ _ _ _ _ hu, go_sem, h1, h2, h3]
    · simp [Op.eqItems, List.range, List.range.loop, part, run_equalIn_int w _ _ _ _ _ _ hu, go_sem, h1, h2]
  · simp [Op.eqItems, List.range, List.range.loop, part, run_equalIn_int w _ _ _ _ _ _ hu, go_sem, h1]
theorem eq4_self (a b c d : Int) : eq4 a b c d a b c d = true := by simp [eq4]
theorem nrm_lit : Nrm 0 0 4 4 0 0 4 4 ∧ Nrm 2 1 9 3 2 1 9 3 ∧ Nrm (max 0 2) (max 0 1) (min 4 9) (min 4 3) 2 1 4 3 ∧ Nrm (0 + nr 1) (0 + nr 0) (4 + nr 1) (4 + nr 0) 1 0 5 4 := by
  unfold Nrm lim nr; omega
set_option maxHeartbeats 1000000 in
theorem speaks6_any (w : World) : Calls Try.prog 16 #[] w fun e w' => e = .returned (.bool true) ∧ Below w.heap.size w w' := by
  go_enter Try.func16, Try.ntmps16
  go_wp2_with fail
  refine (xnew_any 0 0 4 4 0 0 4 4 (by decide) (by decide) (by decide) (by decide) nrm_lit.1 _).mono ?_
  rintro e w1 ⟨rfl, hb⟩
  have KB : Hid (Below w.heap.size w (w1.alloc (.cells #[.int .i64 0, .int .i64 0, .int .i64 4, .int .i64 4] 40))) := Lib.hid (bel_al hb _)
  have KT : Hid (Tab (w1.alloc (.cells #[.int .i64 0, .int .i64 0, .int .i64 4, .int .i64 4] 40)) [(w1.heap.size, [.int .i64 0, .int .i64 0, .int .i64 4, .int .i64 4])]) := Lib.hid ((Tab.nil w1).new' [.int .i64 0, .int .i64 0, .int .i64 4, .int .i64 4] 40 rfl)
  clear hb
  unfold rv
  go_wp2_with fail
  refine wp_region_vals [some (.agg #[.int .i64 0, .int .i64 0, .int .i64 4, .int .i64 4]), some (.agg #[.int .i64 2, .int .i64 1, .int .i64 9, .int .i64 3]), some (.agg #[.int .i64 2, .int .i64 1, .int .i64 4, .int .i64 3]), some (.agg #[.int .i64 2, .int .i64 1, .int .i64 4, .int .i64 3]), some (.bool true), some (.bool true), some (.agg #[.int .i64 0, .int .i64 0, .int .i64 4, .int .i64 4]), some (.int .i64 16), some (.bool true), some (.bool true), some (.bool true), some (.agg #[.int .i64 0, .int .i64 0, .int .i64 4, .int .i64 4]), some (.bool true), some (.bool true), some (.bool true), some (.agg #[.int .i64 0, .int .i64 0, .int .i64 4, .int .i64 4]), some (.bool false), some (.bool true), some (.bool true), some (.bool true), some (.agg #[.int .i64 0, .int .i64 0, .int .i64 4, .int .i64 4]), some (.agg #[.int .i64 1, .int .i64 0, .int .i64 5, .int .i64 4]), some (.agg #[.int .i64 1, .int .i64 0, .int .i64 5, .int .i64 4]), some (.bool true), some (.bool true), some (.bool true)] (fun Lz _ wy => Below w.heap.size w wy ∧ Tab wy [(w1.heap.size, [.int .i64 0, .int .i64 0, .int .i64 4, .int .i64 4])])
    [some 3, some 4, some 5, some 6, some 7, some 8, some 9, some 10, some 11, some 12, some 13, some 14, some 15, some 16, some 17, some 18, some 19, some 20, some 21, some 22, some 23, some 24, some 25, some 26, some 27, some 0] (by kernel_rfl) (by kernel_rfl) (by kernel_rfl) (by kernel_rfl) (by kernel_rfl) (by kernel_rfl) ⟨KB.out.drew, KT.out.later ((Below.refl _ _).drew)⟩ (fun i o ho => ?_) (fun Lz vz wz hL hB => ?_)
  · match i, ho with
    | 0, ho =>
      obtain rfl := Option.some.inj ho
      intro Az Lz vz wy Kz Ez hB k
      have e1 : Az.eval (.tmp 1) = .pointer (some ⟨w1.heap.size, 0, none⟩) := Ez.out 1 (by kernel_rfl)
      have c0_0 := hB.2.cell 0 0 rfl rfl
      have c0_1 := hB.2.cell 0 1 rfl rfl
      have c0_2 := hB.2.cell 0 2 rfl rfl
      have c0_3 := hB.2.cell 0 3 rfl rfl
      exact wpo_val (v := .agg #[.int .i64 0, .int .i64 0, .int .i64 4, .int .i64 4]) (run_load e1 (by simp [go_sem, c0_0, c0_1, c0_2, c0_3])) (k _ _ rfl hB)
    | 1, ho =>
      obtain rfl := Option.some.inj ho
      intro Az Lz vz wy Kz Ez hB k
      refine wpo_call (run_callW (fun _ _ => by kernel_rfl)) (R := fun e w' => e = .returned (.agg #[.int .i64 2, .int .i64 1, .int .i64 9, .int .i64 3]) ∧ Below wy.heap.size wy w') ?_ ?_
      · simp only [List.map_toArray, List.map_cons, List.map_nil, eval_const]
        exact xnew_any 2 1 9 3 2 1 9 3 (by decide) (by decide) (by decide) (by decide) nrm_lit.2.1 wy
      · rintro e w' ⟨rfl, hb⟩
        exact ⟨_, rfl, k _ _ rfl ⟨bel_tr0 hB.1 hb, hB.2.later hb⟩⟩
    | 2, ho =>
      obtain rfl := Option.some.inj ho
      intro Az Lz vz wy Kz Ez hB k
      have e3 : Az.eval (.tmp 3) = .agg #[.int .i64 0, .int .i64 0, .int .i64 4, .int .i64 4] := Ez.dep 0 3 (by kernel_rfl) rfl
      have e4 : Az.eval (.tmp 4) = .agg #[.int .i64 2, .int .i64 1, .int .i64 9, .int .i64 3] := Ez.dep 1 4 (by kernel_rfl) rfl
      refine wpo_call (run_callW (fun _ _ => by kernel_rfl)) (R := fun e w' => e = .returned (.agg #[.int .i64 2, .int .i64 1, .int .i64 4, .int .i64 3]) ∧ Below wy.heap.size wy w') ?_ ?_
      · simp only [List.map_toArray, List.map_cons, List.map_nil, eval_const, e3, e4]
        exact xand_any 0 0 4 4 0 0 4 4 2 1 9 3 2 1 9 3 (by decide) (by decide) (by decide) (by decide) nrm_lit.1 (by decide) (by decide) (by decide) (by decide) nrm_lit.2.1 2 1 4 3 nrm_lit.2.2.1 wy
      · rintro e w' ⟨rfl, hb⟩
        exact ⟨_, rfl, k _ _ rfl ⟨bel_tr0 hB.1 hb, hB.2.later hb⟩⟩
    | 3, ho =>
      obtain rfl := Option.some.inj ho
      intro Az Lz vz wy Kz Ez hB k
      exact wpo_val (v := .agg #[.int .i64 2, .int .i64 1, .int .i64 4, .int .i64 3]) (run_build (l' := #[(0, .int .i64 2), (1, .int .i64 1), (2, .int .i64 4), (3, .int .i64 3)]) (by simp only [List.map_toArray, List.map_cons, List.map_nil, eval_const]) (by simp [go_sem])) (k _ _ rfl hB)
    | 4, ho =>
      obtain rfl := Option.some.inj ho
      intro Az Lz vz wy Kz Ez hB k
      have e5 : Az.eval (.tmp 5) = .agg #[.int .i64 2, .int .i64 1, .int .i64 4, .int .i64 3] := Ez.dep 2 5 (by kernel_rfl) rfl
      have e6 : Az.eval (.tmp 6) = .agg #[.int .i64 2, .int .i64 1, .int .i64 4, .int .i64 3] := Ez.dep 3 6 (by kernel_rfl) rfl
      exact wpo_val (v := .bool true) (run_bin e5 e6 (by simp [go_sem]) (by exact rect_eql 2 1 4 3 2 1 4 3 wy)) (k _ _ rfl hB)
    | 5, ho =>
      obtain rfl := Option.some.inj ho
      intro Az Lz vz wy Kz Ez hB k
      have e7 : Az.eval (.tmp 7) = .bool true := Ez.dep 4 7 (by kernel_rfl) rfl
      exact wpo_val (v := .bool true) (run_move e7) (k _ _ rfl hB)
    | 6, ho =>
      obtain rfl := Option.some.inj ho
      intro Az Lz vz wy Kz Ez hB k
      have e1 : Az.eval (.tmp 1) = .pointer (some ⟨w1.heap.size, 0, none⟩) := Ez.out 1 (by kernel_rfl)
      have c0_0 := hB.2.cell 0 0 rfl rfl
      have c0_1 := hB.2.cell 0 1 rfl rfl
      have c0_2 := hB.2.cell 0 2 rfl rfl
      have c0_3 := hB.2.cell 0 3 rfl rfl
      exact wpo_val (v := .agg #[.int .i64 0, .int .i64 0, .int .i64 4, .int .i64 4]) (run_load e1 (by simp [go_sem, c0_0, c0_1, c0_2, c0_3])) (k _ _ rfl hB)
    | 7, ho =>
      obtain rfl := Option.some.inj ho
      intro Az Lz vz wy Kz Ez hB k
      have e9 : Az.eval (.tmp 9) = .agg #[.int .i64 0, .int .i64 0, .int .i64 4, .int .i64 4] := Ez.dep 6 9 (by kernel_rfl) rfl
      refine wpo_call (run_callW (fun _ _ => by kernel_rfl)) (R := fun e w' => e = .returned (.int .i64 16) ∧ Below wy.heap.size wy w') ?_ ?_
      · simp only [List.map_toArray, List.map_cons, List.map_nil, eval_const, e9]
        exact xarea_any 0 0 4 4 0 0 4 4 (by decide) (by decide) (by decide) (by decide) nrm_lit.1 wy
      · rintro e w' ⟨rfl, hb⟩
        exact ⟨_, rfl, k _ _ rfl ⟨bel_tr0 hB.1 hb, hB.2.later hb⟩⟩
    | 8, ho =>
      obtain rfl := Option.some.inj ho
      intro Az Lz vz wy Kz Ez hB k
      have e10 : Az.eval (.tmp 10) = .int .i64 16 := Ez.dep 7 10 (by kernel_rfl) rfl
      exact wpo_val (v := .bool true) (run_bin e10 rfl (by simp [go_sem]) (by simp [go_sem])) (k _ _ rfl hB)
    | 9, ho =>
      obtain rfl := Option.some.inj ho
      intro Az Lz vz wy Kz Ez hB k
      have e8 : Az.eval (.tmp 8) = .bool true := Ez.dep 5 8 (by kernel_rfl) rfl
      have e11 : Az.eval (.tmp 11) = .bool true := Ez.dep 8 11 (by kernel_rfl) rfl
      exact wpo_val (v := .bool true) (run_pickT e8 e11) (k _ _ rfl hB)
    | 10, ho =>
      obtain rfl := Option.some.inj ho
      intro Az Lz vz wy Kz Ez hB k
      have e12 : Az.eval (.tmp 12) = .bool true := Ez.dep 9 12 (by kernel_rfl) rfl
      exact wpo_val (v := .bool true) (run_move e12) (k _ _ rfl hB)
    | 11, ho =>
      obtain rfl := Option.some.inj ho
      intro Az Lz vz wy Kz Ez hB k
      have e1 : Az.eval (.tmp 1) = .pointer (some ⟨w1.heap.size, 0, none⟩) := Ez.out 1 (by kernel_rfl)
      have c0_0 := hB.2.cell 0 0 rfl rfl
      have c0_1 := hB.2.cell 0 1 rfl rfl
      have c0_2 := hB.2.cell 0 2 rfl rfl
      have c0_3 := hB.2.cell 0 3 rfl rfl
      exact wpo_val (v := .agg #[.int .i64 0, .int .i64 0, .int .i64 4, .int .i64 4]) (run_load e1 (by simp [go_sem, c0_0, c0_1, c0_2, c0_3])) (k _ _ rfl hB)
    | 12, ho =>
      obtain rfl := Option.some.inj ho
      intro Az Lz vz wy Kz Ez hB k
      have e14 : Az.eval (.tmp 14) = .agg #[.int .i64 0, .int .i64 0, .int .i64 4, .int .i64 4] := Ez.dep 11 14 (by kernel_rfl) rfl
      refine wpo_call (run_callW (fun _ _ => by kernel_rfl)) (R := fun e w' => e = .returned (.bool true) ∧ Below wy.heap.size wy w') ?_ ?_
      · simp only [List.map_toArray, List.map_cons, List.map_nil, eval_const, e14]
        exact xhas_any 0 0 4 4 0 0 4 4 3 3 (by decide) (by decide) (by decide) (by decide) nrm_lit.1 wy
      · rintro e w' ⟨rfl, hb⟩
        exact ⟨_, rfl, k _ _ rfl ⟨bel_tr0 hB.1 hb, hB.2.later hb⟩⟩
    | 13, ho =>
      obtain rfl := Option.some.inj ho
      intro Az Lz vz wy Kz Ez hB k
      have e13 : Az.eval (.tmp 13) = .bool true := Ez.dep 10 13 (by kernel_rfl) rfl
      have e15 : Az.eval (.tmp 15) = .bool true := Ez.dep 12 15 (by kernel_rfl) rfl
      exact wpo_val (v := .bool true) (run_pickT e13 e15) (k _ _ rfl hB)
    | 14, ho =>
      obtain rfl := Option.some.inj ho
      intro Az Lz vz wy Kz Ez hB k
      have e16 : Az.eval (.tmp 16) = .bool true := Ez.dep 13 16 (by kernel_rfl) rfl
      exact wpo_val (v := .bool true) (run_move e16) (k _ _ rfl hB)
    | 15, ho =>
      obtain rfl := Option.some.inj ho
      intro Az Lz vz wy Kz Ez hB k
      have e1 : Az.eval (.tmp 1) = .pointer (some ⟨w1.heap.size, 0, none⟩) := Ez.out 1 (by kernel_rfl)
      have c0_0 := hB.2.cell 0 0 rfl rfl
      have c0_1 := hB.2.cell 0 1 rfl rfl
      have c0_2 := hB.2.cell 0 2 rfl rfl
      have c0_3 := hB.2.cell 0 3 rfl rfl
      exact wpo_val (v := .agg #[.int .i64 0, .int .i64 0, .int .i64 4, .int .i64 4]) (run_load e1 (by simp [go_sem, c0_0, c0_1, c0_2, c0_3])) (k _ _ rfl hB)
    | 16, ho =>
      obtain rfl := Option.some.inj ho
      intro Az Lz vz wy Kz Ez hB k
      have e18 : Az.eval (.tmp 18) = .agg #[.int .i64 0, .int .i64 0, .int .i64 4, .int .i64 4] := Ez.dep 15 18 (by kernel_rfl) rfl
      refine wpo_call (run_callW (fun _ _ => by kernel_rfl)) (R := fun e w' => e = .returned (.bool false) ∧ Below wy.heap.size wy w') ?_ ?_
      · simp only [List.map_toArray, List.map_cons, List.map_nil, eval_const, e18]
        exact xhas_any 0 0 4 4 0 0 4 4 4 3 (by decide) (by decide) (by decide) (by decide) nrm_lit.1 wy
      · rintro e w' ⟨rfl, hb⟩
        exact ⟨_, rfl, k _ _ rfl ⟨bel_tr0 hB.1 hb, hB.2.later hb⟩⟩
    | 17, ho =>
      obtain rfl := Option.some.inj ho
      intro Az Lz vz wy Kz Ez hB k
      have e19 : Az.eval (.tmp 19) = .bool false := Ez.dep 16 19 (by kernel_rfl) rfl
      exact wpo_val (v := .bool true) (run_un e19 (by simp [go_sem])) (k _ _ rfl hB)
    | 18, ho =>
      obtain rfl := Option.some.inj ho
      intro Az Lz vz wy Kz Ez hB k
      have e17 : Az.eval (.tmp 17) = .bool true := Ez.dep 14 17 (by kernel_rfl) rfl
      have e20 : Az.eval (.tmp 20) = .bool true := Ez.dep 17 20 (by kernel_rfl) rfl
      exact wpo_val (v := .bool true) (run_pickT e17 e20) (k _ _ rfl hB)
    | 19, ho =>
      obtain rfl := Option.some.inj ho
      intro Az Lz vz wy Kz Ez hB k
      have e21 : Az.eval (.tmp 21) = .bool true := Ez.dep 18 21 (by kernel_rfl) rfl
      exact wpo_val (v := .bool true) (run_move e21) (k _ _ rfl hB)
    | 20, ho =>
      obtain rfl := Option.some.inj ho
      intro Az Lz vz wy Kz Ez hB k
      have e1 : Az.eval (.tmp 1) = .pointer (some ⟨w1.heap.size, 0, none⟩) := Ez.out 1 (by kernel_rfl)
      have c0_0 := hB.2.cell 0 0 rfl rfl
      have c0_1 := hB.2.cell 0 1 rfl rfl
      have c0_2 := hB.2.cell 0 2 rfl rfl
      have c0_3 := hB.2.cell 0 3 rfl rfl
      exact wpo_val (v := .agg #[.int .i64 0, .int .i64 0, .int .i64 4, .int .i64 4]) (run_load e1 (by simp [go_sem, c0_0, c0_1, c0_2, c0_3])) (k _ _ rfl hB)
    | 21, ho =>
      obtain rfl := Option.some.inj ho
      intro Az Lz vz wy Kz Ez hB k
      have e23 : Az.eval (.tmp 23) = .agg #[.int .i64 0, .int .i64 0, .int .i64 4, .int .i64 4] := Ez.dep 20 23 (by kernel_rfl) rfl
      refine wpo_call (run_callW (fun _ _ => by kernel_rfl)) (R := fun e w' => e = .returned (.agg #[.int .i64 1, .int .i64 0, .int .i64 5, .int .i64 4]) ∧ Below wy.heap.size wy w') ?_ ?_
      · simp only [List.map_toArray, List.map_cons, List.map_nil, eval_const, e23]
        exact xmove_any 0 0 4 4 0 0 4 4 1 0 (by decide) (by decide) (by decide) (by decide) nrm_lit.1 (by decide) (by decide) 1 0 5 4 nrm_lit.2.2.2 wy
      · rintro e w' ⟨rfl, hb⟩
        exact ⟨_, rfl, k _ _ rfl ⟨bel_tr0 hB.1 hb, hB.2.later hb⟩⟩
    | 22, ho =>
      obtain rfl := Option.some.inj ho
      intro Az Lz vz wy Kz Ez hB k
      exact wpo_val (v := .agg #[.int .i64 1, .int .i64 0, .int .i64 5, .int .i64 4]) (run_build (l' := #[(0, .int .i64 1), (1, .int .i64 0), (2, .int .i64 5), (3, .int .i64 4)]) (by simp only [List.map_toArray, List.map_cons, List.map_nil, eval_const]) (by simp [go_sem])) (k _ _ rfl hB)
    | 23, ho =>
      obtain rfl := Option.some.inj ho
      intro Az Lz vz wy Kz Ez hB k
      have e24 : Az.eval (.tmp 24) = .agg #[.int .i64 1, .int .i64 0, .int .i64 5, .int .i64 4] := Ez.dep 21 24 (by kernel_rfl) rfl
      have e25 : Az.eval (.tmp 25) = .agg #[.int .i64 1, .int .i64 0, .int .i64 5, .int .i64 4] := Ez.dep 22 25 (by kernel_rfl) rfl
      exact wpo_val (v := .bool true) (run_bin e24 e25 (by simp [go_sem]) (by exact rect_eql 1 0 5 4 1 0 5 4 wy)) (k _ _ rfl hB)
    | 24, ho =>
      obtain rfl := Option.some.inj ho
      intro Az Lz vz wy Kz Ez hB k
      have e22 : Az.eval (.tmp 22) = .bool true := Ez.dep 19 22 (by kernel_rfl) rfl
      have e26 : Az.eval (.tmp 26) = .bool true := Ez.dep 23 26 (by kernel_rfl) rfl
      exact wpo_val (v := .bool true) (run_pickT e22 e26) (k _ _ rfl hB)
    | 25, ho =>
      obtain rfl := Option.some.inj ho
      intro Az Lz vz wy Kz Ez hB k
      have e27 : Az.eval (.tmp 27) = .bool true := Ez.dep 24 27 (by kernel_rfl) rfl
      exact wpo_val (v := .bool true) (run_assign e27) (k _ _ rfl hB)
    | n + 26, ho => simp at ho
  · obtain ⟨hk, hT⟩ := hB
    have KB := Lib.hid hk
    have KT := Lib.hid hT
    clear hk hT hL
    simp only [puts2, mix, Act.put, List.setIfInBounds_toArray, List.set_cons_zero, List.set_cons_succ, Nat.zero_add, Nat.reduceAdd, List.getElem?_cons_zero, List.getElem?_cons_succ]
    go_wp2_with fail
    go_returns
    exact ⟨rfl, KB.out⟩
end Go.Proofs.Ytlkpegfbnmecpaa
