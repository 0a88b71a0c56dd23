/- Package rect: Inset. -/
import Derived.Test.YtlkpegfbnmecpaaRectC
import Derived.WalkKit
import Derived.WalkSpells
import Derived.WalkLawsBesides
import Derived.Handy
import Derived.Lib.Hide
import Derived.Deep.QuietTactic
import Derived.BigQuiet
import Derived.LoopTactic
import Derived.Deep.RegionHeld3
import Derived.Deep.RegionWith
import Derived.Outline
import Derived.Deep.DeepCutAuto
namespace Go.Proofs.Ytlkpegfbnmecpaa
open Go.RowKit Go.Proofs.Reg
set_option linter.unusedVariables false
set_option linter.unusedSimpArgs false
set_option maxRecDepth 100000
/-- inset by so much -/
def InsR (A B C D x y z t P Q R S : Int) : Prop := (emB A B C D = true ∧ P = A ∧ Q = B ∧ R = C ∧ S = D) ∨ (emB A B C D = false ∧ Nrm (A + nr t) (B + nr x) (C - nr y) (D - nr z) P Q R S)
theorem ins_ex (A B C D x y z t : Int) : ∃ P Q R S, InsR A B C D x y z t P Q R S := by
  cases h : emB A B C D
  · obtain ⟨P, Q, R, S, k⟩ := nrm_ex (A + nr t) (B + nr x) (C - nr y) (D - nr z)
    exact ⟨P, Q, R, S, .inr ⟨h, k⟩⟩
  · exact ⟨A, B, C, D, .inl ⟨h, rfl, rfl, rfl, rfl⟩⟩
set_option maxHeartbeats 1000000 in
theorem xinset_any (a b c d A B C D x y z t : Int) (a0 : I64 a) (b0 : I64 b) (c0 : I64 c) (d0 : I64 d) (h0' : Nrm a b c d A B C D) (x0 : I64 x) (y0 : I64 y) (z0 : I64 z) (t0 : I64 t) (P Q R S : Int) (n : InsR A B C D x y z t P Q R S) (w : World) :
    Calls Try.prog 30 #[rv a b c d, .int .i64 x, .int .i64 y, .int .i64 z, .int .i64 t] w fun en w' => en = .returned (rv P Q R S) ∧ Below w.heap.size w w' := by
  have N1 := Lib.hid (xright_any a b c d A B C D a0 b0 c0 d0 h0')
  obtain ⟨iA, iB, iC, iD⟩ := h0'.rgt.i64
  have M1 := Lib.hid (xempty_any A B C D A B C D iA iB iC iD h0'.rgt.nrm)
  have LT := Lib.hid (xnear_any x x0)
  have LR := Lib.hid (xnear_any y y0)
  have LB := Lib.hid (xnear_any z z0)
  have LL := Lib.hid (xnear_any t t0)
  have rg := h0'.rgt
  have bd : -1073741824 ≤ A ∧ A ≤ 1073741824 ∧ -1073741824 ≤ B ∧ B ≤ 1073741824 ∧ -1073741824 ≤ C ∧ C ≤ 1073741824 ∧ -1073741824 ≤ D ∧ D ≤ 1073741824 := by unfold Rgt at rg; omega
  obtain ⟨A0, A1, B0, B1, C0, C1, D0, D1⟩ := bd
  have bx := nr_bd x
  have by' := nr_bd y
  have bz := nr_bd z
  have bt := nr_bd t
  have HD : Hid ([w.heap.size + 1, w.heap.size].Nodup) := Lib.hid (by simp)
  obtain ⟨p, hp⟩ : ∃ p, nr x = p := ⟨_, rfl⟩
  obtain ⟨r, hr⟩ : ∃ p, nr y = p := ⟨_, rfl⟩
  obtain ⟨q, hq⟩ : ∃ p, nr z = p := ⟨_, rfl⟩
  obtain ⟨l, hl⟩ : ∃ p, nr t = p := ⟨_, rfl⟩
  unfold InsR at n
  rw [hp, hr, hq, hl] at n
  rw [hp] at LT bx
  rw [hr] at LR by'
  rw [hq] at LB bz
  rw [hl] at LL bt
  obtain ⟨p0, p1⟩ := bx
  obtain ⟨r0, r1⟩ := by'
  obtain ⟨q0, q1⟩ := bz
  obtain ⟨l0, l1⟩ := bt
  clear h0' rg hp hr hq hl x0 y0 z0 t0
  rcases n with ⟨x1, s1, s2, s3, s4⟩ | ⟨x1, n⟩
  · rw [x1] at M1
    rw [s1, s2, s3, s4]
    clear s1 s2 s3 s4
    unfold rv at N1 M1 ⊢
    go_enter Try.func30, Try.ntmps30
    go_wp2_with fail
    have KB : Hid (Below w.heap.size w ((w.alloc (.cells #[.int .i64 a, .int .i64 b, .int .i64 c, .int .i64 d] 40)).alloc (.cells #[.int .i64 0, .int .i64 0, .int .i64 0, .int .i64 0] 40))) := Lib.hid (by go_grown)
    have KT : Hid (Tab ((w.alloc (.cells #[.int .i64 a, .int .i64 b, .int .i64 c, .int .i64 d] 40)).alloc (.cells #[.int .i64 0, .int .i64 0, .int .i64 0, .int .i64 0] 40)) [(w.heap.size + 1, [.int .i64 0, .int .i64 0, .int .i64 0, .int .i64 0]), (w.heap.size, [.int .i64 a, .int .i64 b, .int .i64 c, .int .i64 d])]) := Lib.hid (((Tab.nil w).new' [.int .i64 a, .int .i64 b, .int .i64 c, .int .i64 d] 40 rfl).new' [.int .i64 0, .int .i64 0, .int .i64 0, .int .i64 0] 40 (by simp))
    refine (N1.out _).mono ?_
    rintro e w1 ⟨rfl, hb⟩
    have KB := Lib.hid (bel_tr0 KB.out hb)
    have KT := Lib.hid (KT.out.later hb)
    clear hb
    have z0 := KT.out.cell 0 0 rfl rfl
    have zf0 := KT.out.froz 0 0 rfl rfl
    have z1 := KT.out.cell 0 1 rfl rfl
    have zf1 := KT.out.froz 0 1 rfl rfl
    have z2 := KT.out.cell 0 2 rfl rfl
    have zf2 := KT.out.froz 0 2 rfl rfl
    have z3 := KT.out.cell 0 3 rfl rfl
    have zf3 := KT.out.froz 0 3 rfl rfl
    have x0 := KT.out.cell 1 0 rfl rfl
    have xf0 := KT.out.froz 1 0 rfl rfl
    have x1 := KT.out.cell 1 1 rfl rfl
    have xf1 := KT.out.froz 1 1 rfl rfl
    have x2 := KT.out.cell 1 2 rfl rfl
    have xf2 := KT.out.froz 1 2 rfl rfl
    have x3 := KT.out.cell 1 3 rfl rfl
    have xf3 := KT.out.froz 1 3 rfl rfl
    have lz := KT.out.lt 0 rfl
    have lx := KT.out.lt 1 rfl
    go_wp2_with fail
    refine (M1.out _).mono ?_
    rintro e w2 ⟨rfl, hb⟩
    have KT := Lib.hid (((((KT.out.set1 1 0 (.int .i64 A) rfl HD.out).set1 1 1 (.int .i64 B) rfl HD.out).set1 1 2 (.int .i64 C) rfl HD.out).set1 1 3 (.int .i64 D) rfl HD.out).later hb)
    have KB : Hid (Below w.heap.size w w2) := Lib.hid (bel_tr0 (by have hk := KB.out; repeat' (first | exact hk | (with_reducible refine Below.setCell ?_ ?_ _) | go_size)) hb)
    clear hb
    have z0 := KT.out.cell 0 0 rfl rfl
    have zf0 := KT.out.froz 0 0 rfl rfl
    have z1 := KT.out.cell 0 1 rfl rfl
    have zf1 := KT.out.froz 0 1 rfl rfl
    have z2 := KT.out.cell 0 2 rfl rfl
    have zf2 := KT.out.froz 0 2 rfl rfl
    have z3 := KT.out.cell 0 3 rfl rfl
    have zf3 := KT.out.froz 0 3 rfl rfl
    have x0 := KT.out.cell 1 0 rfl rfl
    have xf0 := KT.out.froz 1 0 rfl rfl
    have x1 := KT.out.cell 1 1 rfl rfl
    have xf1 := KT.out.froz 1 1 rfl rfl
    have x2 := KT.out.cell 1 2 rfl rfl
    have xf2 := KT.out.froz 1 2 rfl rfl
    have x3 := KT.out.cell 1 3 rfl rfl
    have xf3 := KT.out.froz 1 3 rfl rfl
    have lz := KT.out.lt 0 rfl
    have lx := KT.out.lt 1 rfl
    go_wp2_with fail
    refine bodyPost_ret (v := .agg #[.int .i64 A, .int .i64 B, .int .i64 C, .int .i64 D]) (by simp [results, Try.results30, go_sem, z0, z1, z2, z3]) rfl ?_
    exact ⟨rfl, (by have hk := KB.out; repeat' (first | exact hk | (with_reducible refine Below.drew ?_) | (with_reducible refine Below.alloc ?_ ?_ _) | (with_reducible refine Below.setCell ?_ ?_ _) | (with_reducible refine below_drewN ?_ _) | go_size))⟩
  · rw [x1] at M1
    have N3 := Lib.hid (xnew_any (A + l) (B + p) (C - r) (D - q) P Q R S ⟨by omega, by omega⟩ ⟨by omega, by omega⟩ ⟨by omega, by omega⟩ ⟨by omega, by omega⟩ n)
    have wr1 : IntKind.i64.wrap (A + l) = A + l := by rw [IntKind.wrap_i64]; omega
    have wr2 : IntKind.i64.wrap (B + p) = B + p := by rw [IntKind.wrap_i64]; omega
    have wr3 : IntKind.i64.wrap (C - r) = C - r := by rw [IntKind.wrap_i64]; omega
    have wr4 : IntKind.i64.wrap (D - q) = D - q := by rw [IntKind.wrap_i64]; omega
    clear n
    unfold rv at N1 M1 N3 ⊢
    go_enter Try.func30, Try.ntmps30
    go_wp2_with fail
    have KB : Hid (Below w.heap.size w ((w.alloc (.cells #[.int .i64 a, .int .i64 b, .int .i64 c, .int .i64 d] 40)).alloc (.cells #[.int .i64 0, .int .i64 0, .int .i64 0, .int .i64 0] 40))) := Lib.hid (by go_grown)
    have KT : Hid (Tab ((w.alloc (.cells #[.int .i64 a, .int .i64 b, .int .i64 c, .int .i64 d] 40)).alloc (.cells #[.int .i64 0, .int .i64 0, .int .i64 0, .int .i64 0] 40)) [(w.heap.size + 1, [.int .i64 0, .int .i64 0, .int .i64 0, .int .i64 0]), (w.heap.size, [.int .i64 a, .int .i64 b, .int .i64 c, .int .i64 d])]) := Lib.hid (((Tab.nil w).new' [.int .i64 a, .int .i64 b, .int .i64 c, .int .i64 d] 40 rfl).new' [.int .i64 0, .int .i64 0, .int .i64 0, .int .i64 0] 40 (by simp))
    refine (N1.out _).mono ?_
    rintro e w1 ⟨rfl, hb⟩
    have KB := Lib.hid (bel_tr0 KB.out hb)
    have KT := Lib.hid (KT.out.later hb)
    clear hb
    have z0 := KT.out.cell 0 0 rfl rfl
    have zf0 := KT.out.froz 0 0 rfl rfl
    have z1 := KT.out.cell 0 1 rfl rfl
    have zf1 := KT.out.froz 0 1 rfl rfl
    have z2 := KT.out.cell 0 2 rfl rfl
    have zf2 := KT.out.froz 0 2 rfl rfl
    have z3 := KT.out.cell 0 3 rfl rfl
    have zf3 := KT.out.froz 0 3 rfl rfl
    have x0 := KT.out.cell 1 0 rfl rfl
    have xf0 := KT.out.froz 1 0 rfl rfl
    have x1 := KT.out.cell 1 1 rfl rfl
    have xf1 := KT.out.froz 1 1 rfl rfl
    have x2 := KT.out.cell 1 2 rfl rfl
    have xf2 := KT.out.froz 1 2 rfl rfl
    have x3 := KT.out.cell 1 3 rfl rfl
    have xf3 := KT.out.froz 1 3 rfl rfl
    have lz := KT.out.lt 0 rfl
    have lx := KT.out.lt 1 rfl
    go_wp2_with fail
    refine (M1.out _).mono ?_
    rintro e w2 ⟨rfl, hb⟩
    have KT := Lib.hid (((((KT.out.set1 1 0 (.int .i64 A) rfl HD.out).set1 1 1 (.int .i64 B) rfl HD.out).set1 1 2 (.int .i64 C) rfl HD.out).set1 1 3 (.int .i64 D) rfl HD.out).later hb)
    have KB : Hid (Below w.heap.size w w2) := Lib.hid (bel_tr0 (by have hk := KB.out; repeat' (first | exact hk | (with_reducible refine Below.setCell ?_ ?_ _) | go_size)) hb)
    clear hb
    go_wp2_with fail
    refine wp_region_vals [some (.pointer (some ⟨w.heap.size, 0, none⟩)), some (.int .i64 A), some (.int .i64 t), some (.int .i64 l), some (.int .i64 (A + l)), some (.pointer (some ⟨w.heap.size, 1, none⟩)), some (.int .i64 B), some (.int .i64 x), some (.int .i64 p), some (.int .i64 (B + p)), some (.pointer (some ⟨w.heap.size, 2, none⟩)), some (.int .i64 C), some (.int .i64 y), some (.int .i64 r), some (.int .i64 (C - r)), some (.pointer (some ⟨w.heap.size, 3, none⟩)), some (.int .i64 D), some (.int .i64 z), some (.int .i64 q), some (.int .i64 (D - q)), some (.agg #[.int .i64 P, .int .i64 Q, .int .i64 R, .int .i64 S]), none] (fun Lz _ wy => Below w.heap.size w wy ∧ Tab wy [(w.heap.size + 1, if Lz 21 = true then [.int .i64 P, .int .i64 Q, .int .i64 R, .int .i64 S] else [.int .i64 0, .int .i64 0, .int .i64 0, .int .i64 0]), (w.heap.size, [.int .i64 A, .int .i64 B, .int .i64 C, .int .i64 D])])
      [some 16, some 17, some 18, some 19, some 20, some 21, some 22, some 23, some 24, some 25, some 26, some 27, some 28, some 29, some 30, some 31, some 32, some 33, some 34, some 35, some 36, none] (by kernel_rfl) (by kernel_rfl) (by kernel_rfl) (by kernel_rfl) (by kernel_rfl) (by kernel_rfl) ⟨KB.out.drew, KT.out.later ((Below.refl _ _).drew)⟩ (fun i o ho => ?_) (fun Lz vz wz hL hB => ?_)
    · match i, ho with
      | 0, ho =>
        obtain rfl := Option.some.inj ho
        intro Az Lz vz wy Kz Ez hB k
        have e5 : Az.eval (.tmp 5) = .pointer (some ⟨w.heap.size, 0, none⟩) := Ez.out 5 (by kernel_rfl)
        exact wpo_val (v := .pointer (some ⟨w.heap.size, 0, none⟩)) (run_field e5 (by simp [go_sem])) (k _ _ rfl hB)
      | 1, ho =>
        obtain rfl := Option.some.inj ho
        intro Az Lz vz wy Kz Ez hB k
        have e16 : Az.eval (.tmp 16) = .pointer (some ⟨w.heap.size, 0, none⟩) := Ez.dep 0 16 (by kernel_rfl) rfl
        have c1_0 := hB.2.cell 1 0 rfl rfl
        exact wpo_val (v := .int .i64 A) (run_load e16 (by simp [go_sem, c1_0])) (k _ _ rfl hB)
      | 2, ho =>
        obtain rfl := Option.some.inj ho
        intro Az Lz vz wy Kz Ez hB k
        have e4 : Az.eval (.tmp 4) = .int .i64 t := Ez.out 4 (by kernel_rfl)
        exact wpo_val (v := .int .i64 t) (run_move e4) (k _ _ rfl hB)
      | 3, ho =>
        obtain rfl := Option.some.inj ho
        intro Az Lz vz wy Kz Ez hB k
        have e18 : Az.eval (.tmp 18) = .int .i64 t := Ez.dep 2 18 (by kernel_rfl) rfl
        refine wpo_call (run_callW (fun _ _ => by kernel_rfl)) (R := fun e w' => e = .returned (.int .i64 l) ∧ Below wy.heap.size wy w') ?_ ?_
        · simp only [List.map_toArray, List.map_cons, List.map_nil, eval_const, e18]
          exact LL.out wy
        · rintro e w' ⟨rfl, hb⟩
          exact ⟨_, rfl, k _ _ rfl ⟨bel_tr0 hB.1 hb, hB.2.later hb⟩⟩
      | 4, ho =>
        obtain rfl := Option.some.inj ho
        intro Az Lz vz wy Kz Ez hB k
        have e17 : Az.eval (.tmp 17) = .int .i64 A := Ez.dep 1 17 (by kernel_rfl) rfl
        have e19 : Az.eval (.tmp 19) = .int .i64 l := Ez.dep 3 19 (by kernel_rfl) rfl
        exact wpo_val (v := .int .i64 (A + l)) (run_bin e17 e19 (by simp [go_sem]) (by simp [go_sem, wr1])) (k _ _ rfl hB)
      | 5, ho =>
        obtain rfl := Option.some.inj ho
        intro Az Lz vz wy Kz Ez hB k
        have e5 : Az.eval (.tmp 5) = .pointer (some ⟨w.heap.size, 0, none⟩) := Ez.out 5 (by kernel_rfl)
        exact wpo_val (v := .pointer (some ⟨w.heap.size, 1, none⟩)) (run_field e5 (by simp [go_sem])) (k _ _ rfl hB)
      | 6, ho =>
        obtain rfl := Option.some.inj ho
        intro Az Lz vz wy Kz Ez hB k
        have e21 : Az.eval (.tmp 21) = .pointer (some ⟨w.heap.size, 1, none⟩) := Ez.dep 5 21 (by kernel_rfl) rfl
        have c1_1 := hB.2.cell 1 1 rfl rfl
        exact wpo_val (v := .int .i64 B) (run_load e21 (by simp [go_sem, c1_1])) (k _ _ rfl hB)
      | 7, ho =>
        obtain rfl := Option.some.inj ho
        intro Az Lz vz wy Kz Ez hB k
        have e1 : Az.eval (.tmp 1) = .int .i64 x := Ez.out 1 (by kernel_rfl)
        exact wpo_val (v := .int .i64 x) (run_move e1) (k _ _ rfl hB)
      | 8, ho =>
        obtain rfl := Option.some.inj ho
        intro Az Lz vz wy Kz Ez hB k
        have e23 : Az.eval (.tmp 23) = .int .i64 x := Ez.dep 7 23 (by kernel_rfl) rfl
        refine wpo_call (run_callW (fun _ _ => by kernel_rfl)) (R := fun e w' => e = .returned (.int .i64 p) ∧ Below wy.heap.size wy w') ?_ ?_
        · simp only [List.map_toArray, List.map_cons, List.map_nil, eval_const, e23]
          exact LT.out wy
        · rintro e w' ⟨rfl, hb⟩
          exact ⟨_, rfl, k _ _ rfl ⟨bel_tr0 hB.1 hb, hB.2.later hb⟩⟩
      | 9, ho =>
        obtain rfl := Option.some.inj ho
        intro Az Lz vz wy Kz Ez hB k
        have e22 : Az.eval (.tmp 22) = .int .i64 B := Ez.dep 6 22 (by kernel_rfl) rfl
        have e24 : Az.eval (.tmp 24) = .int .i64 p := Ez.dep 8 24 (by kernel_rfl) rfl
        exact wpo_val (v := .int .i64 (B + p)) (run_bin e22 e24 (by simp [go_sem]) (by simp [go_sem, wr2])) (k _ _ rfl hB)
      | 10, ho =>
        obtain rfl := Option.some.inj ho
        intro Az Lz vz wy Kz Ez hB k
        have e5 : Az.eval (.tmp 5) = .pointer (some ⟨w.heap.size, 0, none⟩) := Ez.out 5 (by kernel_rfl)
        exact wpo_val (v := .pointer (some ⟨w.heap.size, 2, none⟩)) (run_field e5 (by simp [go_sem])) (k _ _ rfl hB)
      | 11, ho =>
        obtain rfl := Option.some.inj ho
        intro Az Lz vz wy Kz Ez hB k
        have e26 : Az.eval (.tmp 26) = .pointer (some ⟨w.heap.size, 2, none⟩) := Ez.dep 10 26 (by kernel_rfl) rfl
        have c1_2 := hB.2.cell 1 2 rfl rfl
        exact wpo_val (v := .int .i64 C) (run_load e26 (by simp [go_sem, c1_2])) (k _ _ rfl hB)
      | 12, ho =>
        obtain rfl := Option.some.inj ho
        intro Az Lz vz wy Kz Ez hB k
        have e2 : Az.eval (.tmp 2) = .int .i64 y := Ez.out 2 (by kernel_rfl)
        exact wpo_val (v := .int .i64 y) (run_move e2) (k _ _ rfl hB)
      | 13, ho =>
        obtain rfl := Option.some.inj ho
        intro Az Lz vz wy Kz Ez hB k
        have e28 : Az.eval (.tmp 28) = .int .i64 y := Ez.dep 12 28 (by kernel_rfl) rfl
        refine wpo_call (run_callW (fun _ _ => by kernel_rfl)) (R := fun e w' => e = .returned (.int .i64 r) ∧ Below wy.heap.size wy w') ?_ ?_
        · simp only [List.map_toArray, List.map_cons, List.map_nil, eval_const, e28]
          exact LR.out wy
        · rintro e w' ⟨rfl, hb⟩
          exact ⟨_, rfl, k _ _ rfl ⟨bel_tr0 hB.1 hb, hB.2.later hb⟩⟩
      | 14, ho =>
        obtain rfl := Option.some.inj ho
        intro Az Lz vz wy Kz Ez hB k
        have e27 : Az.eval (.tmp 27) = .int .i64 C := Ez.dep 11 27 (by kernel_rfl) rfl
        have e29 : Az.eval (.tmp 29) = .int .i64 r := Ez.dep 13 29 (by kernel_rfl) rfl
        exact wpo_val (v := .int .i64 (C - r)) (run_bin e27 e29 (by simp [go_sem]) (by simp [go_sem, wr3])) (k _ _ rfl hB)
      | 15, ho =>
        obtain rfl := Option.some.inj ho
        intro Az Lz vz wy Kz Ez hB k
        have e5 : Az.eval (.tmp 5) = .pointer (some ⟨w.heap.size, 0, none⟩) := Ez.out 5 (by kernel_rfl)
        exact wpo_val (v := .pointer (some ⟨w.heap.size, 3, none⟩)) (run_field e5 (by simp [go_sem])) (k _ _ rfl hB)
      | 16, ho =>
        obtain rfl := Option.some.inj ho
        intro Az Lz vz wy Kz Ez hB k
        have e31 : Az.eval (.tmp 31) = .pointer (some ⟨w.heap.size, 3, none⟩) := Ez.dep 15 31 (by kernel_rfl) rfl
        have c1_3 := hB.2.cell 1 3 rfl rfl
        exact wpo_val (v := .int .i64 D) (run_load e31 (by simp [go_sem, c1_3])) (k _ _ rfl hB)
      | 17, ho =>
        obtain rfl := Option.some.inj ho
        intro Az Lz vz wy Kz Ez hB k
        have e3 : Az.eval (.tmp 3) = .int .i64 z := Ez.out 3 (by kernel_rfl)
        exact wpo_val (v := .int .i64 z) (run_move e3) (k _ _ rfl hB)
      | 18, ho =>
        obtain rfl := Option.some.inj ho
        intro Az Lz vz wy Kz Ez hB k
        have e33 : Az.eval (.tmp 33) = .int .i64 z := Ez.dep 17 33 (by kernel_rfl) rfl
        refine wpo_call (run_callW (fun _ _ => by kernel_rfl)) (R := fun e w' => e = .returned (.int .i64 q) ∧ Below wy.heap.size wy w') ?_ ?_
        · simp only [List.map_toArray, List.map_cons, List.map_nil, eval_const, e33]
          exact LB.out wy
        · rintro e w' ⟨rfl, hb⟩
          exact ⟨_, rfl, k _ _ rfl ⟨bel_tr0 hB.1 hb, hB.2.later hb⟩⟩
      | 19, ho =>
        obtain rfl := Option.some.inj ho
        intro Az Lz vz wy Kz Ez hB k
        have e32 : Az.eval (.tmp 32) = .int .i64 D := Ez.dep 16 32 (by kernel_rfl) rfl
        have e34 : Az.eval (.tmp 34) = .int .i64 q := Ez.dep 18 34 (by kernel_rfl) rfl
        exact wpo_val (v := .int .i64 (D - q)) (run_bin e32 e34 (by simp [go_sem]) (by simp [go_sem, wr4])) (k _ _ rfl hB)
      | 20, ho =>
        obtain rfl := Option.some.inj ho
        intro Az Lz vz wy Kz Ez hB k
        have e20 : Az.eval (.tmp 20) = .int .i64 (A + l) := Ez.dep 4 20 (by kernel_rfl) rfl
        have e25 : Az.eval (.tmp 25) = .int .i64 (B + p) := Ez.dep 9 25 (by kernel_rfl) rfl
        have e30 : Az.eval (.tmp 30) = .int .i64 (C - r) := Ez.dep 14 30 (by kernel_rfl) rfl
        have e35 : Az.eval (.tmp 35) = .int .i64 (D - q) := Ez.dep 19 35 (by kernel_rfl) rfl
        refine wpo_call (run_callW (fun _ _ => by kernel_rfl)) (R := fun e w' => e = .returned (.agg #[.int .i64 P, .int .i64 Q, .int .i64 R, .int .i64 S]) ∧ Below wy.heap.size wy w') ?_ ?_
        · simp only [List.map_toArray, List.map_cons, List.map_nil, eval_const, e20, e25, e30, e35]
          exact N3.out wy
        · rintro e w' ⟨rfl, hb⟩
          exact ⟨_, rfl, k _ _ rfl ⟨bel_tr0 hB.1 hb, hB.2.later hb⟩⟩
      | 21, ho =>
        obtain rfl := Option.some.inj ho
        intro Az Lz vz wy Kz Ez hB k
        have e10 : Az.eval (.tmp 10) = .pointer (some ⟨w.heap.size + 1, 0, none⟩) := Ez.out 10 (by kernel_rfl)
        have e36 : Az.eval (.tmp 36) = .agg #[.int .i64 P, .int .i64 Q, .int .i64 R, .int .i64 S] := Ez.dep 20 36 (by kernel_rfl) rfl
        have z21 : Lz 21 = false := Ez.not
        have hT := hB.2
        simp only [z21, Bool.false_eq_true, if_false] at hT
        have c0_0 := hT.cell 0 0 rfl rfl
        have f0_0 := hT.froz 0 0 rfl rfl
        have c0_1 := hT.cell 0 1 rfl rfl
        have f0_1 := hT.froz 0 1 rfl rfl
        have c0_2 := hT.cell 0 2 rfl rfl
        have f0_2 := hT.froz 0 2 rfl rfl
        have c0_3 := hT.cell 0 3 rfl rfl
        have f0_3 := hT.froz 0 3 rfl rfl
        refine wpo_skip (w' := ((((wy.setCell ⟨w.heap.size + 1, 0, none⟩ (.int .i64 P)).setCell ⟨w.heap.size + 1, 1, none⟩ (.int .i64 Q)).setCell ⟨w.heap.size + 1, 2, none⟩ (.int .i64 R)).setCell ⟨w.heap.size + 1, 3, none⟩ (.int .i64 S))) (run_store e10 e36 (by simp [go_sem, c0_0, f0_0, c0_1, f0_1, c0_2, f0_2, c0_3, f0_3])) (k _ _ trivial ⟨?_, ?_⟩)
        · have hk := hB.1
          repeat' (first | exact hk | (with_reducible refine Below.setCell ?_ ?_ _) | (simp; done) | (simp; omega) | omega | go_size)
        · have hU := hB.2
          simp only [z21, Bool.false_eq_true, if_false] at hU
          exact ((((hU.set1 0 0 (.int .i64 P) rfl HD.out).set1 0 1 (.int .i64 Q) rfl HD.out).set1 0 2 (.int .i64 R) rfl HD.out).set1 0 3 (.int .i64 S) rfl HD.out)
      | n + 22, ho => simp at ho
    · have l21 : Lz 21 = true := hL 21 (by decide)
      obtain ⟨hk, hT⟩ := hB
      simp only [l21, if_true] at hT
      have KB := Lib.hid hk
      have KT := Lib.hid hT
      clear hk hT hL
      simp only [puts2, mix, Act.put, List.setIfInBounds_toArray, List.set_cons_zero, List.set_cons_succ, Nat.zero_add, Nat.reduceAdd, List.getElem?_cons_zero, List.getElem?_cons_succ]
      have z0 := KT.out.cell 0 0 rfl rfl
      have zf0 := KT.out.froz 0 0 rfl rfl
      have z1 := KT.out.cell 0 1 rfl rfl
      have zf1 := KT.out.froz 0 1 rfl rfl
      have z2 := KT.out.cell 0 2 rfl rfl
      have zf2 := KT.out.froz 0 2 rfl rfl
      have z3 := KT.out.cell 0 3 rfl rfl
      have zf3 := KT.out.froz 0 3 rfl rfl
      have x0 := KT.out.cell 1 0 rfl rfl
      have xf0 := KT.out.froz 1 0 rfl rfl
      have x1 := KT.out.cell 1 1 rfl rfl
      have xf1 := KT.out.froz 1 1 rfl rfl
      have x2 := KT.out.cell 1 2 rfl rfl
      have xf2 := KT.out.froz 1 2 rfl rfl
      have x3 := KT.out.cell 1 3 rfl rfl
      have xf3 := KT.out.froz 1 3 rfl rfl
      have lz := KT.out.lt 0 rfl
      have lx := KT.out.lt 1 rfl
      go_wp2_with fail
      refine bodyPost_ret (v := .agg #[.int .i64 P, .int .i64 Q, .int .i64 R, .int .i64 S]) (by simp [results, Try.results30, go_sem, z0, z1, z2, z3]) rfl ?_
      exact ⟨rfl, (by have hk := KB.out; repeat' (first | exact hk | (with_reducible refine Below.drew ?_) | (with_reducible refine Below.alloc ?_ ?_ _) | (with_reducible refine Below.setCell ?_ ?_ _) | (with_reducible refine below_drewN ?_ _) | go_size))⟩
end Go.Proofs.Ytlkpegfbnmecpaa
