/- Package rect: widths, heights, pixels. -/
import Derived.Test.YtjemnjboopabpaaRect
import Derived.WalkKit
import Derived.WalkSpells
import Derived.WalkLawsBesides
import Derived.Handy
import Derived.Lib.Hide
import Derived.Deep.QuietTactic
import Derived.BigQuiet
import Derived.LoopTactic
import Derived.Deep.RegionHeld3
import Derived.Deep.RegionWith
import Derived.Outline
import Derived.Deep.DeepCutAuto
namespace Go.Proofs.Ytjemnjboopabpaa
open Go.RowKit Go.Proofs.Reg
set_option linter.unusedVariables false
set_option linter.unusedSimpArgs false
set_option maxRecDepth 100000
theorem xw_any (a b c d A B C D : Int) (a0 : I64 a) (b0 : I64 b) (c0 : I64 c) (d0 : I64 d) (h : Nrm a b c d A B C D) (w : World) :
    Calls Try.prog 88 #[rv a b c d] w fun e w' => e = .returned (.int .i64 (C - A)) ∧ Below w.heap.size w w' := by
  have N := Lib.hid (xright_any a b c d A B C D a0 b0 c0 d0 h)
  obtain ⟨⟨A0, A1⟩, ⟨B0, B1⟩, ⟨C0, C1⟩, D0, D1⟩ := h.rgt.i64
  have e0 : -9223372036854775808 ≤ C - A ∧ C - A ≤ 9223372036854775807 := by have := h.rgt; unfold Rgt at this; omega
  obtain ⟨e1, e2⟩ := e0
  clear h
  unfold rv at N ⊢
  go_enter Try.func88, Try.ntmps88
  go_wp2_with fail
  refine (N.out _).mono ?_
  rintro e w1 ⟨rfl, hb⟩
  have K : Hid (Below w.heap.size w w1) := Lib.hid (bel_tr0 (by go_grown) hb)
  have R := (B4.new w a b c d 40).later hb
  obtain ⟨k0, k1, k2, k3, f0, f1, f2, f3⟩ := R
  have hz := hb.size
  simp only [World.size_alloc] at hz
  clear hb
  go_wp2_with fail
  go_returns
  exact ⟨rfl, (by have hk := K.out; repeat' (first | exact hk | (with_reducible refine Below.drew ?_) | (with_reducible refine Below.alloc ?_ ?_ _) | (with_reducible refine Below.setCell ?_ ?_ _) | (with_reducible refine below_drewN ?_ _) | go_size))⟩
theorem xh_any (a b c d A B C D : Int) (a0 : I64 a) (b0 : I64 b) (c0 : I64 c) (d0 : I64 d) (h : Nrm a b c d A B C D) (w : World) :
    Calls Try.prog 89 #[rv a b c d] w fun e w' => e = .returned (.int .i64 (D - B)) ∧ Below w.heap.size w w' := by
  have N := Lib.hid (xright_any a b c d A B C D a0 b0 c0 d0 h)
  obtain ⟨⟨A0, A1⟩, ⟨B0, B1⟩, ⟨C0, C1⟩, D0, D1⟩ := h.rgt.i64
  have e0 : -9223372036854775808 ≤ D - B ∧ D - B ≤ 9223372036854775807 := by have := h.rgt; unfold Rgt at this; omega
  obtain ⟨e1, e2⟩ := e0
  clear h
  unfold rv at N ⊢
  go_enter Try.func89, Try.ntmps89
  go_wp2_with fail
  refine (N.out _).mono ?_
  rintro e w1 ⟨rfl, hb⟩
  have K : Hid (Below w.heap.size w w1) := Lib.hid (bel_tr0 (by go_grown) hb)
  have R := (B4.new w a b c d 40).later hb
  obtain ⟨k0, k1, k2, k3, f0, f1, f2, f3⟩ := R
  have hz := hb.size
  simp only [World.size_alloc] at hz
  clear hb
  go_wp2_with fail
  go_returns
  exact ⟨rfl, (by have hk := K.out; repeat' (first | exact hk | (with_reducible refine Below.drew ?_) | (with_reducible refine Below.alloc ?_ ?_ _) | (with_reducible refine Below.setCell ?_ ?_ _) | (with_reducible refine below_drewN ?_ _) | go_size))⟩
theorem xarea_any (a b c d A B C D : Int) (a0 : I64 a) (b0 : I64 b) (c0 : I64 c) (d0 : I64 d) (h : Nrm a b c d A B C D) (w : World) :
    Calls Try.prog 70 #[rv a b c d] w fun e w' => e = .returned (.int .i64 ((C - A) * (D - B))) ∧ Below w.heap.size w w' := by
  have N1 := Lib.hid (xw_any a b c d A B C D a0 b0 c0 d0 h)
  have N2 := Lib.hid (xh_any a b c d A B C D a0 b0 c0 d0 h)
  have e0 : 0 ≤ C - A ∧ C - A ≤ 2147483648 ∧ 0 ≤ D - B ∧ D - B ≤ 2147483648 := by have := h.rgt; unfold Rgt at this; omega
  obtain ⟨p, hp⟩ : ∃ p, C - A = p := ⟨_, rfl⟩
  obtain ⟨q, hq⟩ : ∃ p, D - B = p := ⟨_, rfl⟩
  rw [hp] at N1 e0 ⊢
  rw [hq] at N2 e0 ⊢
  obtain ⟨p0, p1, q0, q1⟩ := e0
  have m0 : 0 ≤ p * q := Int.mul_nonneg p0 q0
  have m1 : p * q ≤ 4611686018427387904 := Int.le_trans (Int.mul_le_mul_of_nonneg_right p1 q0) (by omega)
  have wr : IntKind.i64.wrap (p * q) = p * q := by rw [IntKind.wrap_i64]; omega
  clear h hp hq
  unfold rv at N1 N2 ⊢
  go_enter Try.func70, Try.ntmps70
  go_wp2_with fail
  have KB := Lib.hid (bel_new w (.cells #[.int .i64 a, .int .i64 b, .int .i64 c, .int .i64 d] 40))
  have KT := Lib.hid ((Tab.nil w).new [.int .i64 a, .int .i64 b, .int .i64 c, .int .i64 d] 40)
  refine wp_region_vals [some (.agg #[.int .i64 a, .int .i64 b, .int .i64 c, .int .i64 d]), some (.int .i64 p), some (.agg #[.int .i64 a, .int .i64 b, .int .i64 c, .int .i64 d]), some (.int .i64 q), some (.int .i64 (p * q)), some (.int .i64 (p * q))] (fun Lz _ wy => Below w.heap.size w wy ∧ Tab wy [(w.heap.size, [.int .i64 a, .int .i64 b, .int .i64 c, .int .i64 d])])
    [some 3, some 4, some 5, some 6, some 7, some 2] (by kernel_rfl) (by kernel_rfl) (by kernel_rfl) (by kernel_rfl) (by kernel_rfl) (by kernel_rfl) ⟨KB.out.drew, KT.out.later ((Below.refl _ _).drew)⟩ (fun i o ho => ?_) (fun Lz vz wz hL hB => ?_)
  · match i, ho with
    | 0, ho =>
      obtain rfl := Option.some.inj ho
      intro Az Lz vz wy Kz Ez hB k
      have e1 : Az.eval (.tmp 1) = .pointer (some ⟨w.heap.size, 0, none⟩) := Ez.out 1 (by kernel_rfl)
      have c0_0 := hB.2.cell 0 0 rfl rfl
      have c0_1 := hB.2.cell 0 1 rfl rfl
      have c0_2 := hB.2.cell 0 2 rfl rfl
      have c0_3 := hB.2.cell 0 3 rfl rfl
      exact wpo_val (v := .agg #[.int .i64 a, .int .i64 b, .int .i64 c, .int .i64 d]) (run_load e1 (by simp [go_sem, c0_0, c0_1, c0_2, c0_3])) (k _ _ rfl hB)
    | 1, ho =>
      obtain rfl := Option.some.inj ho
      intro Az Lz vz wy Kz Ez hB k
      have e3 : Az.eval (.tmp 3) = .agg #[.int .i64 a, .int .i64 b, .int .i64 c, .int .i64 d] := Ez.dep 0 3 (by kernel_rfl) rfl
      refine wpo_call (run_callW (fun _ _ => by kernel_rfl)) (R := fun e w' => e = .returned (.int .i64 p) ∧ Below wy.heap.size wy w') ?_ ?_
      · simp only [List.map_toArray, List.map_cons, List.map_nil, eval_const, e3]
        exact N1.out wy
      · rintro e w' ⟨rfl, hb⟩
        exact ⟨_, rfl, k _ _ rfl ⟨bel_tr0 hB.1 hb, hB.2.later hb⟩⟩
    | 2, ho =>
      obtain rfl := Option.some.inj ho
      intro Az Lz vz wy Kz Ez hB k
      have e1 : Az.eval (.tmp 1) = .pointer (some ⟨w.heap.size, 0, none⟩) := Ez.out 1 (by kernel_rfl)
      have c0_0 := hB.2.cell 0 0 rfl rfl
      have c0_1 := hB.2.cell 0 1 rfl rfl
      have c0_2 := hB.2.cell 0 2 rfl rfl
      have c0_3 := hB.2.cell 0 3 rfl rfl
      exact wpo_val (v := .agg #[.int .i64 a, .int .i64 b, .int .i64 c, .int .i64 d]) (run_load e1 (by simp [go_sem, c0_0, c0_1, c0_2, c0_3])) (k _ _ rfl hB)
    | 3, ho =>
      obtain rfl := Option.some.inj ho
      intro Az Lz vz wy Kz Ez hB k
      have e5 : Az.eval (.tmp 5) = .agg #[.int .i64 a, .int .i64 b, .int .i64 c, .int .i64 d] := Ez.dep 2 5 (by kernel_rfl) rfl
      refine wpo_call (run_callW (fun _ _ => by kernel_rfl)) (R := fun e w' => e = .returned (.int .i64 q) ∧ Below wy.heap.size wy w') ?_ ?_
      · simp only [List.map_toArray, List.map_cons, List.map_nil, eval_const, e5]
        exact N2.out wy
      · rintro e w' ⟨rfl, hb⟩
        exact ⟨_, rfl, k _ _ rfl ⟨bel_tr0 hB.1 hb, hB.2.later hb⟩⟩
    | 4, ho =>
      obtain rfl := Option.some.inj ho
      intro Az Lz vz wy Kz Ez hB k
      have e4 : Az.eval (.tmp 4) = .int .i64 p := Ez.dep 1 4 (by kernel_rfl) rfl
      have e6 : Az.eval (.tmp 6) = .int .i64 q := Ez.dep 3 6 (by kernel_rfl) rfl
      exact wpo_val (v := .int .i64 (p * q)) (run_bin e4 e6 (by simp [go_sem]) (by simp [go_sem, wr])) (k _ _ rfl hB)
    | 5, ho =>
      obtain rfl := Option.some.inj ho
      intro Az Lz vz wy Kz Ez hB k
      have e7 : Az.eval (.tmp 7) = .int .i64 (p * q) := Ez.dep 4 7 (by kernel_rfl) rfl
      exact wpo_val (v := .int .i64 (p * q)) (run_assign e7) (k _ _ rfl hB)
    | n + 6, ho => simp at ho
  · obtain ⟨hk, hT⟩ := hB
    have KB := Lib.hid hk
    have KT := Lib.hid hT
    clear hk hT hL
    simp only [puts2, mix, Act.put, List.setIfInBounds_toArray, List.set_cons_zero, List.set_cons_succ, Nat.zero_add, Nat.reduceAdd, List.getElem?_cons_zero, List.getElem?_cons_succ]
    go_wp2_with fail
    go_returns
    exact ⟨rfl, KB.out⟩
/-- does it have a pixel? -/
def hasB (A B C D x y : Int) : Bool := decide (A ≤ x) && decide (x < C) && decide (B ≤ y) && decide (y < D)
end Go.Proofs.Ytjemnjboopabpaa
