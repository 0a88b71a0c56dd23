/- The walk of RectRights. -/
import Derived.Test.YtlkpegfbnmecpaaLawRect0
import Derived.WalkKit
import Derived.WalkSpells
import Derived.WalkLawsBesides
import Derived.Handy
import Derived.Lib.Hide
import Derived.Deep.QuietTactic
import Derived.BigQuiet
import Derived.LoopTactic
import Derived.Deep.RegionHeld3
import Derived.Deep.RegionWith
import Derived.Outline
import Derived.Deep.DeepCutAuto
namespace Go.Proofs.Ytlkpegfbnmecpaa
open Go.RowKit Go.Proofs.Reg
set_option linter.unusedVariables false
set_option linter.unusedSimpArgs false
set_option maxRecDepth 100000
set_option maxHeartbeats 2000000 in
theorem law_rights (a b c d x y : Int) (a0 : I64 a) (b0 : I64 b) (c0 : I64 c) (d0 : I64 d) (x0 : I64 x) (y0 : I64 y) (w : World) :
    Calls Try.prog 7 #[rv a b c d, .int .i64 x, .int .i64 y] w fun e w' => e = .returned (.bool true) ∧ Below w.heap.size w w' := by
  obtain ⟨A, B, C, D, h⟩ := nrm_ex a b c d
  have N0 := Lib.hid (made6_any a b c d)
  have NR := Lib.hid (r6right_any a b c d A B C D a0 b0 c0 d0 h)
  have N1 := Lib.hid (xright_any a b c d A B C D a0 b0 c0 d0 h)
  have N2 := Lib.hid (plain6_any A B C D)
  have N3 := Lib.hid (xnew_any a b c d A B C D a0 b0 c0 d0 h)
  have N4 := Lib.hid (xempty_any a b c d A B C D a0 b0 c0 d0 h)
  have N5 := Lib.hid (xw_any a b c d A B C D a0 b0 c0 d0 h)
  have N6 := Lib.hid (xh_any a b c d A B C D a0 b0 c0 d0 h)
  have N7 := Lib.hid (xarea_any a b c d A B C D a0 b0 c0 d0 h)
  have N8 := Lib.hid (xhas_any a b c d A B C D x y a0 b0 c0 d0 h)
  have N9 := Lib.hid (r6has_any a b c d A B C D x y a0 b0 c0 d0 h)
  have QS : Hid (∀ w : World, (binOp BinOp.eql 42 (.agg #[.int .i64 A, .int .i64 B, .int .i64 C, .int .i64 D]) (.agg #[.int .i64 A, .int .i64 B, .int .i64 C, .int .i64 D])).run Try.prog w = .ok (.bool true) w) := Lib.hid (fun w => by
    have := arr4_eql A B C D A B C D w
    rw [eq4_self] at this
    exact this)
  have QZ : Hid (∀ w : World, (binOp BinOp.eql 42 (.agg #[.int .i64 A, .int .i64 B, .int .i64 C, .int .i64 D]) (.agg #[.int .i64 0, .int .i64 0, .int .i64 0, .int .i64 0])).run Try.prog w = .ok (.bool (emB A B C D)) w) := Lib.hid (fun w => arr4_eql A B C D 0 0 0 0 w)
  obtain ⟨em, hem⟩ : ∃ f, emB A B C D = f := ⟨_, rfl⟩
  obtain ⟨hs, hhs⟩ : ∃ f, hasB A B C D x y = f := ⟨_, rfl⟩
  rw [hem] at N4 QZ
  rw [hhs] at N8 N9
  have bd : 0 ≤ C - A ∧ C - A ≤ 2147483648 ∧ 0 ≤ D - B ∧ D - B ≤ 2147483648 := by have := h.rgt; unfold Rgt at this; omega
  obtain ⟨p, hp⟩ : ∃ p, C - A = p := ⟨_, rfl⟩
  obtain ⟨q, hq⟩ : ∃ p, D - B = p := ⟨_, rfl⟩
  rw [hp, hq] at N7
  rw [hp] at N5 bd
  rw [hq] at N6 bd
  obtain ⟨p0, p1, q0, q1⟩ := bd
  have wp1 : IntKind.i64.wrap p = p := by rw [IntKind.wrap_i64]; omega
  have wq1 : IntKind.i64.wrap q = q := by rw [IntKind.wrap_i64]; omega
  have m0 : 0 ≤ p * q := Int.mul_nonneg p0 q0
  have m1 : p * q ≤ 4611686018427387904 := Int.le_trans (Int.mul_le_mul_of_nonneg_right p1 q0) (by omega)
  have wpq : IntKind.i64.wrap (p * q) = p * q := by rw [IntKind.wrap_i64]; omega
  clear h hem hhs
  unfold rv at N0 NR N1 N2 N3 N4 N5 N6 N7 N8 N9 ⊢
  go_enter Try.func7, Try.ntmps7
  go_wp2_with fail
  refine (speaks6_any _).mono ?_
  rintro e w1 ⟨rfl, hb⟩
  have KT := Lib.hid (((Tab.nil w).new [.int .i64 a, .int .i64 b, .int .i64 c, .int .i64 d] 38).later hb)
  have KB : Hid (Below w.heap.size w w1) := Lib.hid (bel_tr0 (by go_grown) hb)
  clear hb
  have l0 := KT.out.cell 0 0 rfl rfl
  have l1 := KT.out.cell 0 1 rfl rfl
  have l2 := KT.out.cell 0 2 rfl rfl
  have l3 := KT.out.cell 0 3 rfl rfl
  go_wp2_with fail
  refine (N0.out _).mono ?_
  rintro e w2 ⟨rfl, hb⟩
  have KB := Lib.hid (bel_tr0 KB.out hb)
  have KT := Lib.hid (KT.out.later hb)
  clear hb
  have KB := Lib.hid (bel_al KB.out (.cells #[.int .i64 a, .int .i64 b, .int .i64 c, .int .i64 d] 40))
  have KT := Lib.hid (KT.out.new [.int .i64 a, .int .i64 b, .int .i64 c, .int .i64 d] 40)
  have l0 := KT.out.cell 1 0 rfl rfl
  have l1 := KT.out.cell 1 1 rfl rfl
  have l2 := KT.out.cell 1 2 rfl rfl
  have l3 := KT.out.cell 1 3 rfl rfl
  go_wp2_with fail
  refine (NR.out _).mono ?_
  rintro e w3 ⟨rfl, hb⟩
  have KB := Lib.hid (bel_tr0 KB.out hb)
  have KT := Lib.hid (KT.out.later hb)
  clear hb
  have KB : Hid (Below w.heap.size w (w3.alloc (.cells #[.int .i64 A, .int .i64 B, .int .i64 C, .int .i64 D] 42))) := Lib.hid (bel_al KB.out _)
  have KT : Hid (Tab (w3.alloc (.cells #[.int .i64 A, .int .i64 B, .int .i64 C, .int .i64 D] 42)) [(w3.heap.size, [.int .i64 A, .int .i64 B, .int .i64 C, .int .i64 D]), (w2.heap.size, [.int .i64 a, .int .i64 b, .int .i64 c, .int .i64 d]), (w.heap.size, [.int .i64 a, .int .i64 b, .int .i64 c, .int .i64 d])]) := Lib.hid (KT.out.new [.int .i64 A, .int .i64 B, .int .i64 C, .int .i64 D] 42)
  go_wp2_with fail
  refine wp_region_vals [some (.pointer (some ⟨w3.heap.size, 2, none⟩)), some (.int .i64 C), some (.pointer (some ⟨w3.heap.size, 0, none⟩)), some (.int .i64 A), some (.int .i64 p), some (.pointer (some ⟨w3.heap.size, 3, none⟩)), some (.int .i64 D), some (.pointer (some ⟨w3.heap.size, 1, none⟩)), some (.int .i64 B), some (.int .i64 q), some (.int .i64 p), some (.int .i64 q)] (fun Lz _ wy => Below w.heap.size w wy ∧ Tab wy [(w3.heap.size, [.int .i64 A, .int .i64 B, .int .i64 C, .int .i64 D]), (w2.heap.size, [.int .i64 a, .int .i64 b, .int .i64 c, .int .i64 d]), (w.heap.size, [.int .i64 a, .int .i64 b, .int .i64 c, .int .i64 d])])
    [some 17, some 18, some 19, some 20, some 21, some 22, some 23, some 24, some 25, some 26, some 9, some 10] (by kernel_rfl) (by kernel_rfl) (by kernel_rfl) (by kernel_rfl) (by kernel_rfl) (by kernel_rfl) ⟨KB.out.drew, KT.out.later ((Below.refl _ _).drew)⟩ (fun i o ho => ?_) (fun Lz vz wz hL hB => ?_)
  · match i, ho with
    | 0, ho =>
      obtain rfl := Option.some.inj ho
      intro Az Lz vz wy Kz Ez hB k
      have e8 : Az.eval (.tmp 8) = .pointer (some ⟨w3.heap.size, 0, none⟩) := Ez.out 8 (by kernel_rfl)
      exact wpo_val (v := .pointer (some ⟨w3.heap.size, 2, none⟩)) (run_index e8 rfl (by simp [go_sem])) (k _ _ rfl hB)
    | 1, ho =>
      obtain rfl := Option.some.inj ho
      intro Az Lz vz wy Kz Ez hB k
      have e17 : Az.eval (.tmp 17) = .pointer (some ⟨w3.heap.size, 2, none⟩) := Ez.dep 0 17 (by kernel_rfl) rfl
      have c0_2 := hB.2.cell 0 2 rfl rfl
      exact wpo_val (v := .int .i64 C) (run_load e17 (by simp [go_sem, c0_2])) (k _ _ rfl hB)
    | 2, ho =>
      obtain rfl := Option.some.inj ho
      intro Az Lz vz wy Kz Ez hB k
      have e8 : Az.eval (.tmp 8) = .pointer (some ⟨w3.heap.size, 0, none⟩) := Ez.out 8 (by kernel_rfl)
      exact wpo_val (v := .pointer (some ⟨w3.heap.size, 0, none⟩)) (run_index e8 rfl (by simp [go_sem])) (k _ _ rfl hB)
    | 3, ho =>
      obtain rfl := Option.some.inj ho
      intro Az Lz vz wy Kz Ez hB k
      have e19 : Az.eval (.tmp 19) = .pointer (some ⟨w3.heap.size, 0, none⟩) := Ez.dep 2 19 (by kernel_rfl) rfl
      have c0_0 := hB.2.cell 0 0 rfl rfl
      exact wpo_val (v := .int .i64 A) (run_load e19 (by simp [go_sem, c0_0])) (k _ _ rfl hB)
    | 4, ho =>
      obtain rfl := Option.some.inj ho
      intro Az Lz vz wy Kz Ez hB k
      have e18 : Az.eval (.tmp 18) = .int .i64 C := Ez.dep 1 18 (by kernel_rfl) rfl
      have e20 : Az.eval (.tmp 20) = .int .i64 A := Ez.dep 3 20 (by kernel_rfl) rfl
      exact wpo_val (v := .int .i64 p) (run_bin e18 e20 (by simp [go_sem]) (by simp [go_sem, wp1, hp])) (k _ _ rfl hB)
    | 5, ho =>
      obtain rfl := Option.some.inj ho
      intro Az Lz vz wy Kz Ez hB k
      have e8 : Az.eval (.tmp 8) = .pointer (some ⟨w3.heap.size, 0, none⟩) := Ez.out 8 (by kernel_rfl)
      exact wpo_val (v := .pointer (some ⟨w3.heap.size, 3, none⟩)) (run_index e8 rfl (by simp [go_sem])) (k _ _ rfl hB)
    | 6, ho =>
      obtain rfl := Option.some.inj ho
      intro Az Lz vz wy Kz Ez hB k
      have e22 : Az.eval (.tmp 22) = .pointer (some ⟨w3.heap.size, 3, none⟩) := Ez.dep 5 22 (by kernel_rfl) rfl
      have c0_3 := hB.2.cell 0 3 rfl rfl
      exact wpo_val (v := .int .i64 D) (run_load e22 (by simp [go_sem, c0_3])) (k _ _ rfl hB)
    | 7, ho =>
      obtain rfl := Option.some.inj ho
      intro Az Lz vz wy Kz Ez hB k
      have e8 : Az.eval (.tmp 8) = .pointer (some ⟨w3.heap.size, 0, none⟩) := Ez.out 8 (by kernel_rfl)
      exact wpo_val (v := .pointer (some ⟨w3.heap.size, 1, none⟩)) (run_index e8 rfl (by simp [go_sem])) (k _ _ rfl hB)
    | 8, ho =>
      obtain rfl := Option.some.inj ho
      intro Az Lz vz wy Kz Ez hB k
      have e24 : Az.eval (.tmp 24) = .pointer (some ⟨w3.heap.size, 1, none⟩) := Ez.dep 7 24 (by kernel_rfl) rfl
      have c0_1 := hB.2.cell 0 1 rfl rfl
      exact wpo_val (v := .int .i64 B) (run_load e24 (by simp [go_sem, c0_1])) (k _ _ rfl hB)
    | 9, ho =>
      obtain rfl := Option.some.inj ho
      intro Az Lz vz wy Kz Ez hB k
      have e23 : Az.eval (.tmp 23) = .int .i64 D := Ez.dep 6 23 (by kernel_rfl) rfl
      have e25 : Az.eval (.tmp 25) = .int .i64 B := Ez.dep 8 25 (by kernel_rfl) rfl
      exact wpo_val (v := .int .i64 q) (run_bin e23 e25 (by simp [go_sem]) (by simp [go_sem, wq1, hq])) (k _ _ rfl hB)
    | 10, ho =>
      obtain rfl := Option.some.inj ho
      intro Az Lz vz wy Kz Ez hB k
      have e21 : Az.eval (.tmp 21) = .int .i64 p := Ez.dep 4 21 (by kernel_rfl) rfl
      exact wpo_val (v := .int .i64 p) (run_assign e21) (k _ _ rfl hB)
    | 11, ho =>
      obtain rfl := Option.some.inj ho
      intro Az Lz vz wy Kz Ez hB k
      have e26 : Az.eval (.tmp 26) = .int .i64 q := Ez.dep 9 26 (by kernel_rfl) rfl
      exact wpo_val (v := .int .i64 q) (run_assign e26) (k _ _ rfl hB)
    | n + 12, ho => simp at ho
  · obtain ⟨hk, hT⟩ := hB
    have KB := Lib.hid hk
    have KT := Lib.hid hT
    clear hk hT hL
    simp only [puts2, mix, Act.put, List.setIfInBounds_toArray, List.set_cons_zero, List.set_cons_succ, Nat.zero_add, Nat.reduceAdd, List.getElem?_cons_zero, List.getElem?_cons_succ]
    go_wp2_with fail
    refine wp_region_vals [some (.agg #[.int .i64 a, .int .i64 b, .int .i64 c, .int .i64 d]), some (.agg #[.int .i64 A, .int .i64 B, .int .i64 C, .int .i64 D]), some (.agg #[.int .i64 A, .int .i64 B, .int .i64 C, .int .i64 D]), some (.agg #[.int .i64 A, .int .i64 B, .int .i64 C, .int .i64 D]), some (.bool true), some (.bool true), some (.pointer (some ⟨w.heap.size, 0, none⟩)), some (.int .i64 a), some (.pointer (some ⟨w.heap.size, 1, none⟩)), some (.int .i64 b), some (.pointer (some ⟨w.heap.size, 2, none⟩)), some (.int .i64 c), some (.pointer (some ⟨w.heap.size, 3, none⟩)), some (.int .i64 d), some (.agg #[.int .i64 A, .int .i64 B, .int .i64 C, .int .i64 D]), some (.agg #[.int .i64 A, .int .i64 B, .int .i64 C, .int .i64 D]), some (.agg #[.int .i64 A, .int .i64 B, .int .i64 C, .int .i64 D]), some (.bool true), some (.bool true), some (.bool true), some (.agg #[.int .i64 a, .int .i64 b, .int .i64 c, .int .i64 d]), some (.bool em), some (.agg #[.int .i64 A, .int .i64 B, .int .i64 C, .int .i64 D]), some (.agg #[.int .i64 0, .int .i64 0, .int .i64 0, .int .i64 0]), some (.bool em), some (.bool true), some (.bool true), some (.bool true), some (.agg #[.int .i64 a, .int .i64 b, .int .i64 c, .int .i64 d]), some (.int .i64 p), some (.int .i64 p), some (.bool true), some (.bool true), some (.bool true), some (.agg #[.int .i64 a, .int .i64 b, .int .i64 c, .int .i64 d]), some (.int .i64 q), some (.int .i64 q), some (.bool true), some (.bool true), some (.bool true), some (.agg #[.int .i64 a, .int .i64 b, .int .i64 c, .int .i64 d]), some (.int .i64 (p * q)), some (.int .i64 p), some (.int .i64 q), some (.int .i64 (p * q)), some (.bool true), some (.bool true), some (.bool true), some (.agg #[.int .i64 a, .int .i64 b, .int .i64 c, .int .i64 d]), some (.int .i64 x), some (.int .i64 y), some (.bool hs), some (.agg #[.int .i64 a, .int .i64 b, .int .i64 c, .int .i64 d]), some (.int .i64 x), some (.int .i64 y), some (.bool hs), some (.bool true), some (.bool true), some (.bool true)] (fun Lz _ wy => Below w.heap.size w wy ∧ Tab wy [(w3.heap.size, [.int .i64 A, .int .i64 B, .int .i64 C, .int .i64 D]), (w2.heap.size, [.int .i64 a, .int .i64 b, .int .i64 c, .int .i64 d]), (w.heap.size, [.int .i64 a, .int .i64 b, .int .i64 c, .int .i64 d])])
      [some 27, some 28, some 29, some 30, some 31, some 32, some 33, some 34, some 35, some 36, some 37, some 38, some 39, some 40, some 41, some 42, some 43, some 44, some 45, some 46, some 47, some 48, some 49, some 50, some 51, some 52, some 53, some 54, some 55, some 56, some 57, some 58, some 59, some 60, some 61, some 62, some 63, some 64, some 65, some 66, some 67, some 68, some 69, some 70, some 71, some 72, some 73, some 74, some 75, some 76, some 77, some 78, some 79, some 80, some 81, some 82, some 83, some 84, some 6] (by kernel_rfl) (by kernel_rfl) (by kernel_rfl) (by kernel_rfl) (by kernel_rfl) (by kernel_rfl) ⟨KB.out.drew, KT.out.later ((Below.refl _ _).drew)⟩ (fun i o ho => ?_) (fun Lz vz wz hL hB => ?_)
    · match i, ho with
      | 0, ho =>
        obtain rfl := Option.some.inj ho
        intro Az Lz vz wy Kz Ez hB k
        have e7 : Az.eval (.tmp 7) = .pointer (some ⟨w2.heap.size, 0, none⟩) := Ez.out 7 (by kernel_rfl)
        have c1_0 := hB.2.cell 1 0 rfl rfl
        have c1_1 := hB.2.cell 1 1 rfl rfl
        have c1_2 := hB.2.cell 1 2 rfl rfl
        have c1_3 := hB.2.cell 1 3 rfl rfl
        exact wpo_val (v := .agg #[.int .i64 a, .int .i64 b, .int .i64 c, .int .i64 d]) (run_load e7 (by simp [go_sem, c1_0, c1_1, c1_2, c1_3])) (k _ _ rfl hB)
      | 1, ho =>
        obtain rfl := Option.some.inj ho
        intro Az Lz vz wy Kz Ez hB k
        have e27 : Az.eval (.tmp 27) = .agg #[.int .i64 a, .int .i64 b, .int .i64 c, .int .i64 d] := Ez.dep 0 27 (by kernel_rfl) rfl
        refine wpo_call (run_callW (fun _ _ => by kernel_rfl)) (R := fun e w' => e = .returned (.agg #[.int .i64 A, .int .i64 B, .int .i64 C, .int .i64 D]) ∧ Below wy.heap.size wy w') ?_ ?_
        · simp only [List.map_toArray, List.map_cons, List.map_nil, eval_const, e27]
          exact N1.out wy
        · rintro e w' ⟨rfl, hb⟩
          exact ⟨_, rfl, k _ _ rfl ⟨bel_tr0 hB.1 hb, hB.2.later hb⟩⟩
      | 2, ho =>
        obtain rfl := Option.some.inj ho
        intro Az Lz vz wy Kz Ez hB k
        have e28 : Az.eval (.tmp 28) = .agg #[.int .i64 A, .int .i64 B, .int .i64 C, .int .i64 D] := Ez.dep 1 28 (by kernel_rfl) rfl
        refine wpo_call (run_callW (fun _ _ => by kernel_rfl)) (R := fun e w' => e = .returned (.agg #[.int .i64 A, .int .i64 B, .int .i64 C, .int .i64 D]) ∧ Below wy.heap.size wy w') ?_ ?_
        · simp only [List.map_toArray, List.map_cons, List.map_nil, eval_const, e28]
          exact N2.out wy
        · rintro e w' ⟨rfl, hb⟩
          exact ⟨_, rfl, k _ _ rfl ⟨bel_tr0 hB.1 hb, hB.2.later hb⟩⟩
      | 3, ho =>
        obtain rfl := Option.some.inj ho
        intro Az Lz vz wy Kz Ez hB k
        have e8 : Az.eval (.tmp 8) = .pointer (some ⟨w3.heap.size, 0, none⟩) := Ez.out 8 (by kernel_rfl)
        have c0_0 := hB.2.cell 0 0 rfl rfl
        have c0_1 := hB.2.cell 0 1 rfl rfl
        have c0_2 := hB.2.cell 0 2 rfl rfl
        have c0_3 := hB.2.cell 0 3 rfl rfl
        exact wpo_val (v := .agg #[.int .i64 A, .int .i64 B, .int .i64 C, .int .i64 D]) (run_load e8 (by simp [go_sem, c0_0, c0_1, c0_2, c0_3])) (k _ _ rfl hB)
      | 4, ho =>
        obtain rfl := Option.some.inj ho
        intro Az Lz vz wy Kz Ez hB k
        have e29 : Az.eval (.tmp 29) = .agg #[.int .i64 A, .int .i64 B, .int .i64 C, .int .i64 D] := Ez.dep 2 29 (by kernel_rfl) rfl
        have e30 : Az.eval (.tmp 30) = .agg #[.int .i64 A, .int .i64 B, .int .i64 C, .int .i64 D] := Ez.dep 3 30 (by kernel_rfl) rfl
        exact wpo_val (v := .bool true) (run_bin e29 e30 (by simp [go_sem]) (by exact QS.out wy)) (k _ _ rfl hB)
      | 5, ho =>
        obtain rfl := Option.some.inj ho
        intro Az Lz vz wy Kz Ez hB k
        have e31 : Az.eval (.tmp 31) = .bool true := Ez.dep 4 31 (by kernel_rfl) rfl
        exact wpo_val (v := .bool true) (run_move e31) (k _ _ rfl hB)
      | 6, ho =>
        obtain rfl := Option.some.inj ho
        intro Az Lz vz wy Kz Ez hB k
        have e3 : Az.eval (.tmp 3) = .pointer (some ⟨w.heap.size, 0, none⟩) := Ez.out 3 (by kernel_rfl)
        exact wpo_val (v := .pointer (some ⟨w.heap.size, 0, none⟩)) (run_index e3 rfl (by simp [go_sem])) (k _ _ rfl hB)
      | 7, ho =>
        obtain rfl := Option.some.inj ho
        intro Az Lz vz wy Kz Ez hB k
        have e33 : Az.eval (.tmp 33) = .pointer (some ⟨w.heap.size, 0, none⟩) := Ez.dep 6 33 (by kernel_rfl) rfl
        have c2_0 := hB.2.cell 2 0 rfl rfl
        exact wpo_val (v := .int .i64 a) (run_load e33 (by simp [go_sem, c2_0])) (k _ _ rfl hB)
      | 8, ho =>
        obtain rfl := Option.some.inj ho
        intro Az Lz vz wy Kz Ez hB k
        have e3 : Az.eval (.tmp 3) = .pointer (some ⟨w.heap.size, 0, none⟩) := Ez.out 3 (by kernel_rfl)
        exact wpo_val (v := .pointer (some ⟨w.heap.size, 1, none⟩)) (run_index e3 rfl (by simp [go_sem])) (k _ _ rfl hB)
      | 9, ho =>
        obtain rfl := Option.some.inj ho
        intro Az Lz vz wy Kz Ez hB k
        have e35 : Az.eval (.tmp 35) = .pointer (some ⟨w.heap.size, 1, none⟩) := Ez.dep 8 35 (by kernel_rfl) rfl
        have c2_1 := hB.2.cell 2 1 rfl rfl
        exact wpo_val (v := .int .i64 b) (run_load e35 (by simp [go_sem, c2_1])) (k _ _ rfl hB)
      | 10, ho =>
        obtain rfl := Option.some.inj ho
        intro Az Lz vz wy Kz Ez hB k
        have e3 : Az.eval (.tmp 3) = .pointer (some ⟨w.heap.size, 0, none⟩) := Ez.out 3 (by kernel_rfl)
        exact wpo_val (v := .pointer (some ⟨w.heap.size, 2, none⟩)) (run_index e3 rfl (by simp [go_sem])) (k _ _ rfl hB)
      | 11, ho =>
        obtain rfl := Option.some.inj ho
        intro Az Lz vz wy Kz Ez hB k
        have e37 : Az.eval (.tmp 37) = .pointer (some ⟨w.heap.size, 2, none⟩) := Ez.dep 10 37 (by kernel_rfl) rfl
        have c2_2 := hB.2.cell 2 2 rfl rfl
        exact wpo_val (v := .int .i64 c) (run_load e37 (by simp [go_sem, c2_2])) (k _ _ rfl hB)
      | 12, ho =>
        obtain rfl := Option.some.inj ho
        intro Az Lz vz wy Kz Ez hB k
        have e3 : Az.eval (.tmp 3) = .pointer (some ⟨w.heap.size, 0, none⟩) := Ez.out 3 (by kernel_rfl)
        exact wpo_val (v := .pointer (some ⟨w.heap.size, 3, none⟩)) (run_index e3 rfl (by simp [go_sem])) (k _ _ rfl hB)
      | 13, ho =>
        obtain rfl := Option.some.inj ho
        intro Az Lz vz wy Kz Ez hB k
        have e39 : Az.eval (.tmp 39) = .pointer (some ⟨w.heap.size, 3, none⟩) := Ez.dep 12 39 (by kernel_rfl) rfl
        have c2_3 := hB.2.cell 2 3 rfl rfl
        exact wpo_val (v := .int .i64 d) (run_load e39 (by simp [go_sem, c2_3])) (k _ _ rfl hB)
      | 14, ho =>
        obtain rfl := Option.some.inj ho
        intro Az Lz vz wy Kz Ez hB k
        have e34 : Az.eval (.tmp 34) = .int .i64 a := Ez.dep 7 34 (by kernel_rfl) rfl
        have e36 : Az.eval (.tmp 36) = .int .i64 b := Ez.dep 9 36 (by kernel_rfl) rfl
        have e38 : Az.eval (.tmp 38) = .int .i64 c := Ez.dep 11 38 (by kernel_rfl) rfl
        have e40 : Az.eval (.tmp 40) = .int .i64 d := Ez.dep 13 40 (by kernel_rfl) rfl
        refine wpo_call (run_callW (fun _ _ => by kernel_rfl)) (R := fun e w' => e = .returned (.agg #[.int .i64 A, .int .i64 B, .int .i64 C, .int .i64 D]) ∧ Below wy.heap.size wy w') ?_ ?_
        · simp only [List.map_toArray, List.map_cons, List.map_nil, eval_const, e34, e36, e38, e40]
          exact N3.out wy
        · rintro e w' ⟨rfl, hb⟩
          exact ⟨_, rfl, k _ _ rfl ⟨bel_tr0 hB.1 hb, hB.2.later hb⟩⟩
      | 15, ho =>
        obtain rfl := Option.some.inj ho
        intro Az Lz vz wy Kz Ez hB k
        have e41 : Az.eval (.tmp 41) = .agg #[.int .i64 A, .int .i64 B, .int .i64 C, .int .i64 D] := Ez.dep 14 41 (by kernel_rfl) rfl
        refine wpo_call (run_callW (fun _ _ => by kernel_rfl)) (R := fun e w' => e = .returned (.agg #[.int .i64 A, .int .i64 B, .int .i64 C, .int .i64 D]) ∧ Below wy.heap.size wy w') ?_ ?_
        · simp only [List.map_toArray, List.map_cons, List.map_nil, eval_const, e41]
          exact N2.out wy
        · rintro e w' ⟨rfl, hb⟩
          exact ⟨_, rfl, k _ _ rfl ⟨bel_tr0 hB.1 hb, hB.2.later hb⟩⟩
      | 16, ho =>
        obtain rfl := Option.some.inj ho
        intro Az Lz vz wy Kz Ez hB k
        have e8 : Az.eval (.tmp 8) = .pointer (some ⟨w3.heap.size, 0, none⟩) := Ez.out 8 (by kernel_rfl)
        have c0_0 := hB.2.cell 0 0 rfl rfl
        have c0_1 := hB.2.cell 0 1 rfl rfl
        have c0_2 := hB.2.cell 0 2 rfl rfl
        have c0_3 := hB.2.cell 0 3 rfl rfl
        exact wpo_val (v := .agg #[.int .i64 A, .int .i64 B, .int .i64 C, .int .i64 D]) (run_load e8 (by simp [go_sem, c0_0, c0_1, c0_2, c0_3])) (k _ _ rfl hB)
      | 17, ho =>
        obtain rfl := Option.some.inj ho
        intro Az Lz vz wy Kz Ez hB k
        have e42 : Az.eval (.tmp 42) = .agg #[.int .i64 A, .int .i64 B, .int .i64 C, .int .i64 D] := Ez.dep 15 42 (by kernel_rfl) rfl
        have e43 : Az.eval (.tmp 43) = .agg #[.int .i64 A, .int .i64 B, .int .i64 C, .int .i64 D] := Ez.dep 16 43 (by kernel_rfl) rfl
        exact wpo_val (v := .bool true) (run_bin e42 e43 (by simp [go_sem]) (by exact QS.out wy)) (k _ _ rfl hB)
      | 18, ho =>
        obtain rfl := Option.some.inj ho
        intro Az Lz vz wy Kz Ez hB k
        have e32 : Az.eval (.tmp 32) = .bool true := Ez.dep 5 32 (by kernel_rfl) rfl
        have e44 : Az.eval (.tmp 44) = .bool true := Ez.dep 17 44 (by kernel_rfl) rfl
        exact wpo_val (v := .bool true) (run_pickT e32 e44) (k _ _ rfl hB)
      | 19, ho =>
        obtain rfl := Option.some.inj ho
        intro Az Lz vz wy Kz Ez hB k
        have e45 : Az.eval (.tmp 45) = .bool true := Ez.dep 18 45 (by kernel_rfl) rfl
        exact wpo_val (v := .bool true) (run_move e45) (k _ _ rfl hB)
      | 20, ho =>
        obtain rfl := Option.some.inj ho
        intro Az Lz vz wy Kz Ez hB k
        have e7 : Az.eval (.tmp 7) = .pointer (some ⟨w2.heap.size, 0, none⟩) := Ez.out 7 (by kernel_rfl)
        have c1_0 := hB.2.cell 1 0 rfl rfl
        have c1_1 := hB.2.cell 1 1 rfl rfl
        have c1_2 := hB.2.cell 1 2 rfl rfl
        have c1_3 := hB.2.cell 1 3 rfl rfl
        exact wpo_val (v := .agg #[.int .i64 a, .int .i64 b, .int .i64 c, .int .i64 d]) (run_load e7 (by simp [go_sem, c1_0, c1_1, c1_2, c1_3])) (k _ _ rfl hB)
      | 21, ho =>
        obtain rfl := Option.some.inj ho
        intro Az Lz vz wy Kz Ez hB k
        have e47 : Az.eval (.tmp 47) = .agg #[.int .i64 a, .int .i64 b, .int .i64 c, .int .i64 d] := Ez.dep 20 47 (by kernel_rfl) rfl
        refine wpo_call (run_callW (fun _ _ => by kernel_rfl)) (R := fun e w' => e = .returned (.bool em) ∧ Below wy.heap.size wy w') ?_ ?_
        · simp only [List.map_toArray, List.map_cons, List.map_nil, eval_const, e47]
          exact N4.out wy
        · rintro e w' ⟨rfl, hb⟩
          exact ⟨_, rfl, k _ _ rfl ⟨bel_tr0 hB.1 hb, hB.2.later hb⟩⟩
      | 22, ho =>
        obtain rfl := Option.some.inj ho
        intro Az Lz vz wy Kz Ez hB k
        have e8 : Az.eval (.tmp 8) = .pointer (some ⟨w3.heap.size, 0, none⟩) := Ez.out 8 (by kernel_rfl)
        have c0_0 := hB.2.cell 0 0 rfl rfl
        have c0_1 := hB.2.cell 0 1 rfl rfl
        have c0_2 := hB.2.cell 0 2 rfl rfl
        have c0_3 := hB.2.cell 0 3 rfl rfl
        exact wpo_val (v := .agg #[.int .i64 A, .int .i64 B, .int .i64 C, .int .i64 D]) (run_load e8 (by simp [go_sem, c0_0, c0_1, c0_2, c0_3])) (k _ _ rfl hB)
      | 23, ho =>
        obtain rfl := Option.some.inj ho
        intro Az Lz vz wy Kz Ez hB k
        exact wpo_val (v := .agg #[.int .i64 0, .int .i64 0, .int .i64 0, .int .i64 0]) (run_build (l' := #[]) (by simp only [List.map_toArray, List.map_cons, List.map_nil, eval_const]) (by simp [go_sem])) (k _ _ rfl hB)
      | 24, ho =>
        obtain rfl := Option.some.inj ho
        intro Az Lz vz wy Kz Ez hB k
        have e49 : Az.eval (.tmp 49) = .agg #[.int .i64 A, .int .i64 B, .int .i64 C, .int .i64 D] := Ez.dep 22 49 (by kernel_rfl) rfl
        have e50 : Az.eval (.tmp 50) = .agg #[.int .i64 0, .int .i64 0, .int .i64 0, .int .i64 0] := Ez.dep 23 50 (by kernel_rfl) rfl
        exact wpo_val (v := .bool em) (run_bin e49 e50 (by simp [go_sem]) (by exact QZ.out wy)) (k _ _ rfl hB)
      | 25, ho =>
        obtain rfl := Option.some.inj ho
        intro Az Lz vz wy Kz Ez hB k
        have e48 : Az.eval (.tmp 48) = .bool em := Ez.dep 21 48 (by kernel_rfl) rfl
        have e51 : Az.eval (.tmp 51) = .bool em := Ez.dep 24 51 (by kernel_rfl) rfl
        exact wpo_val (v := .bool true) (run_bin e48 e51 (by simp [go_sem]) (by simp [go_sem])) (k _ _ rfl hB)
      | 26, ho =>
        obtain rfl := Option.some.inj ho
        intro Az Lz vz wy Kz Ez hB k
        have e46 : Az.eval (.tmp 46) = .bool true := Ez.dep 19 46 (by kernel_rfl) rfl
        have e52 : Az.eval (.tmp 52) = .bool true := Ez.dep 25 52 (by kernel_rfl) rfl
        exact wpo_val (v := .bool true) (run_pickT e46 e52) (k _ _ rfl hB)
      | 27, ho =>
        obtain rfl := Option.some.inj ho
        intro Az Lz vz wy Kz Ez hB k
        have e53 : Az.eval (.tmp 53) = .bool true := Ez.dep 26 53 (by kernel_rfl) rfl
        exact wpo_val (v := .bool true) (run_move e53) (k _ _ rfl hB)
      | 28, ho =>
        obtain rfl := Option.some.inj ho
        intro Az Lz vz wy Kz Ez hB k
        have e7 : Az.eval (.tmp 7) = .pointer (some ⟨w2.heap.size, 0, none⟩) := Ez.out 7 (by kernel_rfl)
        have c1_0 := hB.2.cell 1 0 rfl rfl
        have c1_1 := hB.2.cell 1 1 rfl rfl
        have c1_2 := hB.2.cell 1 2 rfl rfl
        have c1_3 := hB.2.cell 1 3 rfl rfl
        exact wpo_val (v := .agg #[.int .i64 a, .int .i64 b, .int .i64 c, .int .i64 d]) (run_load e7 (by simp [go_sem, c1_0, c1_1, c1_2, c1_3])) (k _ _ rfl hB)
      | 29, ho =>
        obtain rfl := Option.some.inj ho
        intro Az Lz vz wy Kz Ez hB k
        have e55 : Az.eval (.tmp 55) = .agg #[.int .i64 a, .int .i64 b, .int .i64 c, .int .i64 d] := Ez.dep 28 55 (by kernel_rfl) rfl
        refine wpo_call (run_callW (fun _ _ => by kernel_rfl)) (R := fun e w' => e = .returned (.int .i64 p) ∧ Below wy.heap.size wy w') ?_ ?_
        · simp only [List.map_toArray, List.map_cons, List.map_nil, eval_const, e55]
          exact N5.out wy
        · rintro e w' ⟨rfl, hb⟩
          exact ⟨_, rfl, k _ _ rfl ⟨bel_tr0 hB.1 hb, hB.2.later hb⟩⟩
      | 30, ho =>
        obtain rfl := Option.some.inj ho
        intro Az Lz vz wy Kz Ez hB k
        have e9 : Az.eval (.tmp 9) = .int .i64 p := Ez.out 9 (by kernel_rfl)
        exact wpo_val (v := .int .i64 p) (run_move e9) (k _ _ rfl hB)
      | 31, ho =>
        obtain rfl := Option.some.inj ho
        intro Az Lz vz wy Kz Ez hB k
        have e56 : Az.eval (.tmp 56) = .int .i64 p := Ez.dep 29 56 (by kernel_rfl) rfl
        have e57 : Az.eval (.tmp 57) = .int .i64 p := Ez.dep 30 57 (by kernel_rfl) rfl
        exact wpo_val (v := .bool true) (run_bin e56 e57 (by simp [go_sem]) (by simp [go_sem])) (k _ _ rfl hB)
      | 32, ho =>
        obtain rfl := Option.some.inj ho
        intro Az Lz vz wy Kz Ez hB k
        have e54 : Az.eval (.tmp 54) = .bool true := Ez.dep 27 54 (by kernel_rfl) rfl
        have e58 : Az.eval (.tmp 58) = .bool true := Ez.dep 31 58 (by kernel_rfl) rfl
        exact wpo_val (v := .bool true) (run_pickT e54 e58) (k _ _ rfl hB)
      | 33, ho =>
        obtain rfl := Option.some.inj ho
        intro Az Lz vz wy Kz Ez hB k
        have e59 : Az.eval (.tmp 59) = .bool true := Ez.dep 32 59 (by kernel_rfl) rfl
        exact wpo_val (v := .bool true) (run_move e59) (k _ _ rfl hB)
      | 34, ho =>
        obtain rfl := Option.some.inj ho
        intro Az Lz vz wy Kz Ez hB k
        have e7 : Az.eval (.tmp 7) = .pointer (some ⟨w2.heap.size, 0, none⟩) := Ez.out 7 (by kernel_rfl)
        have c1_0 := hB.2.cell 1 0 rfl rfl
        have c1_1 := hB.2.cell 1 1 rfl rfl
        have c1_2 := hB.2.cell 1 2 rfl rfl
        have c1_3 := hB.2.cell 1 3 rfl rfl
        exact wpo_val (v := .agg #[.int .i64 a, .int .i64 b, .int .i64 c, .int .i64 d]) (run_load e7 (by simp [go_sem, c1_0, c1_1, c1_2, c1_3])) (k _ _ rfl hB)
      | 35, ho =>
        obtain rfl := Option.some.inj ho
        intro Az Lz vz wy Kz Ez hB k
        have e61 : Az.eval (.tmp 61) = .agg #[.int .i64 a, .int .i64 b, .int .i64 c, .int .i64 d] := Ez.dep 34 61 (by kernel_rfl) rfl
        refine wpo_call (run_callW (fun _ _ => by kernel_rfl)) (R := fun e w' => e = .returned (.int .i64 q) ∧ Below wy.heap.size wy w') ?_ ?_
        · simp only [List.map_toArray, List.map_cons, List.map_nil, eval_const, e61]
          exact N6.out wy
        · rintro e w' ⟨rfl, hb⟩
          exact ⟨_, rfl, k _ _ rfl ⟨bel_tr0 hB.1 hb, hB.2.later hb⟩⟩
      | 36, ho =>
        obtain rfl := Option.some.inj ho
        intro Az Lz vz wy Kz Ez hB k
        have e10 : Az.eval (.tmp 10) = .int .i64 q := Ez.out 10 (by kernel_rfl)
        exact wpo_val (v := .int .i64 q) (run_move e10) (k _ _ rfl hB)
      | 37, ho =>
        obtain rfl := Option.some.inj ho
        intro Az Lz vz wy Kz Ez hB k
        have e62 : Az.eval (.tmp 62) = .int .i64 q := Ez.dep 35 62 (by kernel_rfl) rfl
        have e63 : Az.eval (.tmp 63) = .int .i64 q := Ez.dep 36 63 (by kernel_rfl) rfl
        exact wpo_val (v := .bool true) (run_bin e62 e63 (by simp [go_sem]) (by simp [go_sem])) (k _ _ rfl hB)
      | 38, ho =>
        obtain rfl := Option.some.inj ho
        intro Az Lz vz wy Kz Ez hB k
        have e60 : Az.eval (.tmp 60) = .bool true := Ez.dep 33 60 (by kernel_rfl) rfl
        have e64 : Az.eval (.tmp 64) = .bool true := Ez.dep 37 64 (by kernel_rfl) rfl
        exact wpo_val (v := .bool true) (run_pickT e60 e64) (k _ _ rfl hB)
      | 39, ho =>
        obtain rfl := Option.some.inj ho
        intro Az Lz vz wy Kz Ez hB k
        have e65 : Az.eval (.tmp 65) = .bool true := Ez.dep 38 65 (by kernel_rfl) rfl
        exact wpo_val (v := .bool true) (run_move e65) (k _ _ rfl hB)
      | 40, ho =>
        obtain rfl := Option.some.inj ho
        intro Az Lz vz wy Kz Ez hB k
        have e7 : Az.eval (.tmp 7) = .pointer (some ⟨w2.heap.size, 0, none⟩) := Ez.out 7 (by kernel_rfl)
        have c1_0 := hB.2.cell 1 0 rfl rfl
        have c1_1 := hB.2.cell 1 1 rfl rfl
        have c1_2 := hB.2.cell 1 2 rfl rfl
        have c1_3 := hB.2.cell 1 3 rfl rfl
        exact wpo_val (v := .agg #[.int .i64 a, .int .i64 b, .int .i64 c, .int .i64 d]) (run_load e7 (by simp [go_sem, c1_0, c1_1, c1_2, c1_3])) (k _ _ rfl hB)
      | 41, ho =>
        obtain rfl := Option.some.inj ho
        intro Az Lz vz wy Kz Ez hB k
        have e67 : Az.eval (.tmp 67) = .agg #[.int .i64 a, .int .i64 b, .int .i64 c, .int .i64 d] := Ez.dep 40 67 (by kernel_rfl) rfl
        refine wpo_call (run_callW (fun _ _ => by kernel_rfl)) (R := fun e w' => e = .returned (.int .i64 (p * q)) ∧ Below wy.heap.size wy w') ?_ ?_
        · simp only [List.map_toArray, List.map_cons, List.map_nil, eval_const, e67]
          exact N7.out wy
        · rintro e w' ⟨rfl, hb⟩
          exact ⟨_, rfl, k _ _ rfl ⟨bel_tr0 hB.1 hb, hB.2.later hb⟩⟩
      | 42, ho =>
        obtain rfl := Option.some.inj ho
        intro Az Lz vz wy Kz Ez hB k
        have e9 : Az.eval (.tmp 9) = .int .i64 p := Ez.out 9 (by kernel_rfl)
        exact wpo_val (v := .int .i64 p) (run_move e9) (k _ _ rfl hB)
      | 43, ho =>
        obtain rfl := Option.some.inj ho
        intro Az Lz vz wy Kz Ez hB k
        have e10 : Az.eval (.tmp 10) = .int .i64 q := Ez.out 10 (by kernel_rfl)
        exact wpo_val (v := .int .i64 q) (run_move e10) (k _ _ rfl hB)
      | 44, ho =>
        obtain rfl := Option.some.inj ho
        intro Az Lz vz wy Kz Ez hB k
        have e69 : Az.eval (.tmp 69) = .int .i64 p := Ez.dep 42 69 (by kernel_rfl) rfl
        have e70 : Az.eval (.tmp 70) = .int .i64 q := Ez.dep 43 70 (by kernel_rfl) rfl
        exact wpo_val (v := .int .i64 (p * q)) (run_bin e69 e70 (by simp [go_sem]) (by simp [go_sem, wpq])) (k _ _ rfl hB)
      | 45, ho =>
        obtain rfl := Option.some.inj ho
        intro Az Lz vz wy Kz Ez hB k
        have e68 : Az.eval (.tmp 68) = .int .i64 (p * q) := Ez.dep 41 68 (by kernel_rfl) rfl
        have e71 : Az.eval (.tmp 71) = .int .i64 (p * q) := Ez.dep 44 71 (by kernel_rfl) rfl
        exact wpo_val (v := .bool true) (run_bin e68 e71 (by simp [go_sem]) (by simp [go_sem])) (k _ _ rfl hB)
      | 46, ho =>
        obtain rfl := Option.some.inj ho
        intro Az Lz vz wy Kz Ez hB k
        have e66 : Az.eval (.tmp 66) = .bool true := Ez.dep 39 66 (by kernel_rfl) rfl
        have e72 : Az.eval (.tmp 72) = .bool true := Ez.dep 45 72 (by kernel_rfl) rfl
        exact wpo_val (v := .bool true) (run_pickT e66 e72) (k _ _ rfl hB)
      | 47, ho =>
        obtain rfl := Option.some.inj ho
        intro Az Lz vz wy Kz Ez hB k
        have e73 : Az.eval (.tmp 73) = .bool true := Ez.dep 46 73 (by kernel_rfl) rfl
        exact wpo_val (v := .bool true) (run_move e73) (k _ _ rfl hB)
      | 48, ho =>
        obtain rfl := Option.some.inj ho
        intro Az Lz vz wy Kz Ez hB k
        have e7 : Az.eval (.tmp 7) = .pointer (some ⟨w2.heap.size, 0, none⟩) := Ez.out 7 (by kernel_rfl)
        have c1_0 := hB.2.cell 1 0 rfl rfl
        have c1_1 := hB.2.cell 1 1 rfl rfl
        have c1_2 := hB.2.cell 1 2 rfl rfl
        have c1_3 := hB.2.cell 1 3 rfl rfl
        exact wpo_val (v := .agg #[.int .i64 a, .int .i64 b, .int .i64 c, .int .i64 d]) (run_load e7 (by simp [go_sem, c1_0, c1_1, c1_2, c1_3])) (k _ _ rfl hB)
      | 49, ho =>
        obtain rfl := Option.some.inj ho
        intro Az Lz vz wy Kz Ez hB k
        have e1 : Az.eval (.tmp 1) = .int .i64 x := Ez.out 1 (by kernel_rfl)
        exact wpo_val (v := .int .i64 x) (run_move e1) (k _ _ rfl hB)
      | 50, ho =>
        obtain rfl := Option.some.inj ho
        intro Az Lz vz wy Kz Ez hB k
        have e2 : Az.eval (.tmp 2) = .int .i64 y := Ez.out 2 (by kernel_rfl)
        exact wpo_val (v := .int .i64 y) (run_move e2) (k _ _ rfl hB)
      | 51, ho =>
        obtain rfl := Option.some.inj ho
        intro Az Lz vz wy Kz Ez hB k
        have e75 : Az.eval (.tmp 75) = .agg #[.int .i64 a, .int .i64 b, .int .i64 c, .int .i64 d] := Ez.dep 48 75 (by kernel_rfl) rfl
        have e76 : Az.eval (.tmp 76) = .int .i64 x := Ez.dep 49 76 (by kernel_rfl) rfl
        have e77 : Az.eval (.tmp 77) = .int .i64 y := Ez.dep 50 77 (by kernel_rfl) rfl
        refine wpo_call (run_callW (fun _ _ => by kernel_rfl)) (R := fun e w' => e = .returned (.bool hs) ∧ Below wy.heap.size wy w') ?_ ?_
        · simp only [List.map_toArray, List.map_cons, List.map_nil, eval_const, e75, e76, e77]
          exact N8.out wy
        · rintro e w' ⟨rfl, hb⟩
          exact ⟨_, rfl, k _ _ rfl ⟨bel_tr0 hB.1 hb, hB.2.later hb⟩⟩
      | 52, ho =>
        obtain rfl := Option.some.inj ho
        intro Az Lz vz wy Kz Ez hB k
        have e3 : Az.eval (.tmp 3) = .pointer (some ⟨w.heap.size, 0, none⟩) := Ez.out 3 (by kernel_rfl)
        have c2_0 := hB.2.cell 2 0 rfl rfl
        have c2_1 := hB.2.cell 2 1 rfl rfl
        have c2_2 := hB.2.cell 2 2 rfl rfl
        have c2_3 := hB.2.cell 2 3 rfl rfl
        exact wpo_val (v := .agg #[.int .i64 a, .int .i64 b, .int .i64 c, .int .i64 d]) (run_load e3 (by simp [go_sem, c2_0, c2_1, c2_2, c2_3])) (k _ _ rfl hB)
      | 53, ho =>
        obtain rfl := Option.some.inj ho
        intro Az Lz vz wy Kz Ez hB k
        have e1 : Az.eval (.tmp 1) = .int .i64 x := Ez.out 1 (by kernel_rfl)
        exact wpo_val (v := .int .i64 x) (run_move e1) (k _ _ rfl hB)
      | 54, ho =>
        obtain rfl := Option.some.inj ho
        intro Az Lz vz wy Kz Ez hB k
        have e2 : Az.eval (.tmp 2) = .int .i64 y := Ez.out 2 (by kernel_rfl)
        exact wpo_val (v := .int .i64 y) (run_move e2) (k _ _ rfl hB)
      | 55, ho =>
        obtain rfl := Option.some.inj ho
        intro Az Lz vz wy Kz Ez hB k
        have e79 : Az.eval (.tmp 79) = .agg #[.int .i64 a, .int .i64 b, .int .i64 c, .int .i64 d] := Ez.dep 52 79 (by kernel_rfl) rfl
        have e80 : Az.eval (.tmp 80) = .int .i64 x := Ez.dep 53 80 (by kernel_rfl) rfl
        have e81 : Az.eval (.tmp 81) = .int .i64 y := Ez.dep 54 81 (by kernel_rfl) rfl
        refine wpo_call (run_callW (fun _ _ => by kernel_rfl)) (R := fun e w' => e = .returned (.bool hs) ∧ Below wy.heap.size wy w') ?_ ?_
        · simp only [List.map_toArray, List.map_cons, List.map_nil, eval_const, e79, e80, e81]
          exact N9.out wy
        · rintro e w' ⟨rfl, hb⟩
          exact ⟨_, rfl, k _ _ rfl ⟨bel_tr0 hB.1 hb, hB.2.later hb⟩⟩
      | 56, ho =>
        obtain rfl := Option.some.inj ho
        intro Az Lz vz wy Kz Ez hB k
        have e78 : Az.eval (.tmp 78) = .bool hs := Ez.dep 51 78 (by kernel_rfl) rfl
        have e82 : Az.eval (.tmp 82) = .bool hs := Ez.dep 55 82 (by kernel_rfl) rfl
        exact wpo_val (v := .bool true) (run_bin e78 e82 (by simp [go_sem]) (by simp [go_sem])) (k _ _ rfl hB)
      | 57, ho =>
        obtain rfl := Option.some.inj ho
        intro Az Lz vz wy Kz Ez hB k
        have e74 : Az.eval (.tmp 74) = .bool true := Ez.dep 47 74 (by kernel_rfl) rfl
        have e83 : Az.eval (.tmp 83) = .bool true := Ez.dep 56 83 (by kernel_rfl) rfl
        exact wpo_val (v := .bool true) (run_pickT e74 e83) (k _ _ rfl hB)
      | 58, ho =>
        obtain rfl := Option.some.inj ho
        intro Az Lz vz wy Kz Ez hB k
        have e84 : Az.eval (.tmp 84) = .bool true := Ez.dep 57 84 (by kernel_rfl) rfl
        exact wpo_val (v := .bool true) (run_assign e84) (k _ _ rfl hB)
      | n + 59, ho => simp at ho
    · obtain ⟨hk, hT⟩ := hB
      have KB := Lib.hid hk
      have KT := Lib.hid hT
      clear hk hT hL
      simp only [puts2, mix, Act.put, List.setIfInBounds_toArray, List.set_cons_zero, List.set_cons_succ, Nat.zero_add, Nat.reduceAdd, List.getElem?_cons_zero, List.getElem?_cons_succ]
      go_wp2_with fail
      go_returns
      exact ⟨rfl, KB.out⟩

end Go.Proofs.Ytlkpegfbnmecpaa
