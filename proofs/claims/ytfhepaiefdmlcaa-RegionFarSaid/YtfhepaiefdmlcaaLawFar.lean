/- The walk of RegionFar. Made by gen/lawfar.py. -/
import Derived.Test.YtfhepaiefdmlcaaFar4
import Derived.WalkKit
import Derived.WalkSpells
import Derived.WalkLawsBesides
import Derived.Handy
import Derived.Lib.Hide
import Derived.Deep.QuietTactic
import Derived.BigQuiet
import Derived.LoopTactic
import Derived.Deep.RegionHeld3
import Derived.Deep.RegionWith
import Derived.Outline
import Derived.Deep.DeepCutAuto
namespace Go.Proofs.Ytfhepaiefdmlcaa
open Go.RowKit Go.Proofs.Reg Go.Proofs.Big Go.Proofs.Bands
set_option linter.unusedVariables false
set_option linter.unusedSimpArgs false
set_option maxRecDepth 100000
theorem wsub (t s : Int) (h0 : 0 ≤ t - s) (h1 : t - s ≤ 4611686018427387904) : ((t + 9223372036854775808) % 18446744073709551616 - 9223372036854775808 - s + 9223372036854775808) % 18446744073709551616 - 9223372036854775808 = t - s := by
  have e := Int.emod_add_mul_ediv (t + 9223372036854775808) 18446744073709551616
  generalize (t + 9223372036854775808) / 18446744073709551616 = q at e
  have : (t + 9223372036854775808) % 18446744073709551616 - 9223372036854775808 - s + 9223372036854775808 = (t - s + 9223372036854775808) + 18446744073709551616 * (-q) := by
    generalize (t + 9223372036854775808) % 18446744073709551616 = r at *
    rw [Int.mul_neg]
    omega
  rw [this, Int.add_mul_emod_self_left, Int.emod_eq_of_lt (by omega) (by omega)]
  omega
theorem rect_neqs (a b c d : Int) (w : World) : (binOp BinOp.neq 40 (rv a b c d) (rv a b c d)).run Try.prog w = .ok (.bool false) w := by
  unfold rv
  simp [go_sem]
theorem isE_congr {f : FuncId} {args : Array Value} {P Q : Int → Int → Bool} {w : World} (h : Calls Try.prog f args w (IsE P w)) (e : ∀ x y, P x y = Q x y) : Calls Try.prog f args w (IsE Q w) := h.mono fun _ _ ⟨v, a, b, c⟩ => ⟨v, a, b.congr e, c⟩
theorem area_none : areaP (fun _ _ => false) = 0 := by
  have := area_bands [] trivial (fun d m => by simp at m)
  exact this
theorem bslice_rect (A B C D : Int) (w : World) : (Instr.buildSlice 62 1 #[(0, .agg #[.int .i64 A, .int .i64 B, .int .i64 C, .int .i64 D])]).run Try.prog w = .ok (.slice (some ⟨w.heap.size, 0, none⟩) 1 1) (w.alloc (.cells #[.int .i64 A, .int .i64 B, .int .i64 C, .int .i64 D] 40)) := by
  simp [go_sem]
theorem hasB_in (A B C D x y : Int) : hasB A B C D x y = inQ (A, B, C, D) x y := by
  unfold hasB inQ
  dsimp only
  rw [← Bool.decide_and, ← Bool.decide_and, ← Bool.decide_and]
  exact decide_eq_decide.2 (by omega)
set_option maxHeartbeats 16000000 in
theorem law_far (l0 l1 l2 l3 m0 m1 m2 m3 d0 d1 : Int) (i0 : I64 l0) (i1 : I64 l1) (i2 : I64 l2) (i3 : I64 l3) (j0 : I64 m0) (j1 : I64 m1) (j2 : I64 m2) (j3 : I64 m3) (k0 : I64 d0) (k1 : I64 d1) (w : World) :
    Calls Try.prog 4 #[.agg #[.int .i64 l0, .int .i64 l1, .int .i64 l2, .int .i64 l3], .agg #[.int .i64 m0, .int .i64 m1, .int .i64 m2, .int .i64 m3], .agg #[.int .i64 d0, .int .i64 d1]] w fun e w' => e = .returned (.bool true) ∧ Below w.heap.size w w' := by
  obtain ⟨A, B, C, D, n1⟩ := nrm_ex l0 l1 l2 l3
  obtain ⟨E, F, G, H, n2⟩ := nrm_ex m0 m1 m2 m3
  have rA := n1.rgt
  have rE := n2.rgt
  obtain ⟨P, Q, R, S, nP⟩ := nrm_ex (max A E) (max B F) (min C G) (min D H)
  obtain ⟨X, Y, Z, T, hX⟩ := hul_ex A B C D E F G H
  obtain ⟨J, K, M, O, nM⟩ := nrm_ex (A + nr d0) (B + nr d1) (C + nr d0) (D + nr d1)
  have rP := nP.rgt
  have rM := nM.rgt
  obtain ⟨iA, iB, iC, iD⟩ := rA.i64
  obtain ⟨iE, iF, iG, iH⟩ := rE.i64
  obtain ⟨iP, iQ, iR, iS⟩ := rP.i64
  have kp : Ok4 (A, B, C, D) := ok4_rgt rA
  have kq : Ok4 (E, F, G, H) := ok4_rgt rE
  have kP : Ok4 (P, Q, R, S) := ok4_rgt rP
  have kM : Ok4 (J, K, M, O) := ok4_rgt rM
  have KP := Lib.hid kp
  have KQ := Lib.hid kq
  have M1 := Lib.hid (xnew_any l0 l1 l2 l3 A B C D i0 i1 i2 i3 n1)
  have M2 := Lib.hid (xnew_any m0 m1 m2 m3 E F G H j0 j1 j2 j3 n2)
  have NA := Lib.hid (xand_any A B C D A B C D E F G H E F G H iA iB iC iD rA.nrm iE iF iG iH rE.nrm P Q R S nP)
  have NH := Lib.hid (xhull_any A B C D A B C D E F G H E F G H iA iB iC iD rA.nrm iE iF iG iH rE.nrm X Y Z T hX)
  have NM := Lib.hid (xmove_any A B C D A B C D d0 d1 iA iB iC iD rA.nrm k0 k1 J K M O nM)
  have AA := Lib.hid (xarea_any A B C D A B C D iA iB iC iD rA.nrm)
  have AE := Lib.hid (xarea_any E F G H E F G H iE iF iG iH rE.nrm)
  have AP := Lib.hid (xarea_any P Q R S P Q R S iP iQ iR iS rP.nrm)
  have XH := Lib.hid (xhas_any A B C D A B C D l0 l1 iA iB iC iD rA.nrm)
  have ANS : Hid (∀ x y, andB (inQ (A, B, C, D) x y) (inQ (E, F, G, H) x y) = inQ (P, Q, R, S) x y) := Lib.hid (fun x y => and_set kp kq nP x y)
  have MVS : Hid (∀ x y, (inG x y && inQ (A, B, C, D) (x - nr d0) (y - nr d1)) = inQ (J, K, M, O) x y) := Lib.hid (fun x y => move_set kp nM x y)
  have ORH : Hid (Hl (fun x y => orB (inQ (A, B, C, D) x y) (inQ (E, F, G, H) x y)) (X, Y, Z, T)) := Lib.hid (or_hull kp kq hX)
  have HPP := Lib.hid (hl_ok kP)
  have HMM := Lib.hid (hl_ok kM)
  have HAA := Lib.hid (hl_ok kp)
  have SA := size_ok kp
  have SE := size_ok kq
  have SP := size_ok kP
  have SO : areaP (fun x y => orB (inQ (A, B, C, D) x y) (inQ (E, F, G, H) x y)) = areaP (inQ (A, B, C, D)) + areaP (inQ (E, F, G, H)) - areaP (inQ (P, Q, R, S)) := by
    rw [← areaP_congr ANS.out]
    exact area_or _ _
  have bo := area_le (fun x y => orB (inQ (A, B, C, D) x y) (inQ (E, F, G, H) x y))
  dsimp only at SA SE SP
  rw [← SA] at AA
  rw [← SE] at AE
  rw [← SP] at AP
  obtain ⟨sa, hsa⟩ : ∃ s, areaP (inQ (A, B, C, D)) = s := ⟨_, rfl⟩
  obtain ⟨se, hse⟩ : ∃ s, areaP (inQ (E, F, G, H)) = s := ⟨_, rfl⟩
  obtain ⟨sp, hsp⟩ : ∃ s, areaP (inQ (P, Q, R, S)) = s := ⟨_, rfl⟩
  obtain ⟨so, hso⟩ : ∃ s, areaP (fun x y => orB (inQ (A, B, C, D) x y) (inQ (E, F, G, H) x y)) = s := ⟨_, rfl⟩
  rw [hso, hsa, hse, hsp] at SO
  rw [hso] at bo
  rw [hsa] at AA
  rw [hse] at AE
  rw [hsp] at AP
  obtain ⟨hb, hhb⟩ : ∃ h, inQ (A, B, C, D) l0 l1 = h := ⟨_, rfl⟩
  rw [hasB_in, hhb] at XH
  have HSA := Lib.hid hsa
  have HSO := Lib.hid hso
  have HHB := Lib.hid hhb
  obtain ⟨z1, hz⟩ : ∃ z, wrap64 (sa + se) = z := ⟨_, rfl⟩
  have hz2 : wrap64 (z1 - sp) = so := by
    rw [← hz, SO]
    rw [SO] at bo
    unfold wrap64
    exact wsub (sa + se) sp bo.1 bo.2
  have hz' : IntKind.i64.wrap (sa + se) = z1 := by rw [IntKind.wrap_i64, ← hz]; simp only [wrap64]
  have hz2' : IntKind.i64.wrap (z1 - sp) = so := by rw [IntKind.wrap_i64, ← hz2]; simp only [wrap64]
  have QA : Hid (∀ w : World, (binOp BinOp.neq 40 (.agg #[.int .i64 A, .int .i64 B, .int .i64 C, .int .i64 D]) (.agg #[.int .i64 A, .int .i64 B, .int .i64 C, .int .i64 D])).run Try.prog w = .ok (.bool false) w) := Lib.hid (rect_neqs A B C D)
  have QP : Hid (∀ w : World, (binOp BinOp.neq 40 (.agg #[.int .i64 P, .int .i64 Q, .int .i64 R, .int .i64 S]) (.agg #[.int .i64 P, .int .i64 Q, .int .i64 R, .int .i64 S])).run Try.prog w = .ok (.bool false) w) := Lib.hid (rect_neqs P Q R S)
  have QX : Hid (∀ w : World, (binOp BinOp.neq 40 (.agg #[.int .i64 X, .int .i64 Y, .int .i64 Z, .int .i64 T]) (.agg #[.int .i64 X, .int .i64 Y, .int .i64 Z, .int .i64 T])).run Try.prog w = .ok (.bool false) w) := Lib.hid (rect_neqs X Y Z T)
  have QM : Hid (∀ w : World, (binOp BinOp.neq 40 (.agg #[.int .i64 J, .int .i64 K, .int .i64 M, .int .i64 O]) (.agg #[.int .i64 J, .int .i64 K, .int .i64 M, .int .i64 O])).run Try.prog w = .ok (.bool false) w) := Lib.hid (rect_neqs J K M O)
  have K0 := Lib.hid k0
  have K1 := Lib.hid k1
  have R0 : -9223372036854775808 ≤ l0 ∧ l0 ≤ 9223372036854775807 := i0
  clear n1 n2 nP hX nM rA rE rP rM kp kq kP kM SA SE SP hsa hse hsp hso hhb SO bo R0
  unfold rv at M1 M2 NA NH NM AA AE AP XH
  go_enter Try.func4, Try.ntmps4
  go_wp2_with fail
  refine (speaks7_any _).mono ?_
  rintro en w1 ⟨rfl, hb1⟩
  have KT := Lib.hid (((((Tab.nil w).new' [.int .i64 l0, .int .i64 l1, .int .i64 l2, .int .i64 l3] 30 rfl).new' [.int .i64 m0, .int .i64 m1, .int .i64 m2, .int .i64 m3] 30 (by simp : w.heap.size + 1 = _)).new' [.int .i64 d0, .int .i64 d1] 48 (by simp : w.heap.size + 1 + 1 = _)).later hb1)
  have KB : Hid (Below w.heap.size w w1) := Lib.hid (bel_tr0 (by go_grown) hb1)
  clear hb1
  go_wp2_with fail
  have HN : Hid (w.heap.size ≤ w1.heap.size) := Lib.hid KB.out.size
  have HT : Hid (∀ (kz bz : Nat) (uz : List Value), [(w.heap.size + 1 + 1, [.int .i64 d0, .int .i64 d1]), (w.heap.size + 1, [.int .i64 m0, .int .i64 m1, .int .i64 m2, .int .i64 m3]), (w.heap.size, [.int .i64 l0, .int .i64 l1, .int .i64 l2, .int .i64 l3])][kz]? = some (bz, uz) → bz < w1.heap.size) := Lib.hid (KT.out.lts rfl)
  have FD : ([18, 19, 20, 21].Nodup) := by decide
  refine wp_region_vals [some (.pointer (some ⟨w.heap.size, 0, none⟩)), some (.int .i64 l0), some (.pointer (some ⟨w.heap.size, 1, none⟩)), some (.int .i64 l1), some (.pointer (some ⟨w.heap.size, 2, none⟩)), some (.int .i64 l2), some (.pointer (some ⟨w.heap.size, 3, none⟩)), some (.int .i64 l3), some (.agg #[.int .i64 A, .int .i64 B, .int .i64 C, .int .i64 D]), some (.pointer (some ⟨w.heap.size + 1, 0, none⟩)), some (.int .i64 m0), some (.pointer (some ⟨w.heap.size + 1, 1, none⟩)), some (.int .i64 m1), some (.pointer (some ⟨w.heap.size + 1, 2, none⟩)), some (.int .i64 m2), some (.pointer (some ⟨w.heap.size + 1, 3, none⟩)), some (.int .i64 m3), some (.agg #[.int .i64 E, .int .i64 F, .int .i64 G, .int .i64 H]), none, none, none, none] (fun Lz vz wy => Below w.heap.size w wy ∧ Tab wy [(w.heap.size + 1 + 1, [.int .i64 d0, .int .i64 d1]), (w.heap.size + 1, [.int .i64 m0, .int .i64 m1, .int .i64 m2, .int .i64 m3]), (w.heap.size, [.int .i64 l0, .int .i64 l1, .int .i64 l2, .int .i64 l3])] ∧ w1.heap.size ≤ wy.heap.size ∧ Fresh (w1.heap.size) [(18, 20, [.int .i64 0, .int .i64 0, .int .i64 0, .int .i64 0], [.int .i64 A, .int .i64 B, .int .i64 C, .int .i64 D]), (19, 21, [.int .i64 0, .int .i64 0, .int .i64 0, .int .i64 0], [.int .i64 E, .int .i64 F, .int .i64 G, .int .i64 H])] Lz vz wy)
    [some 13, some 14, some 15, some 16, some 17, some 18, some 19, some 20, some 21, some 22, some 23, some 24, some 25, some 26, some 27, some 28, some 29, some 30, some 7, some 8, none, none] (by kernel_rfl) (by kernel_rfl) (by kernel_rfl) (by kernel_rfl) (by kernel_rfl) (by kernel_rfl) ⟨KB.out.drew, KT.out.later ((Below.refl _ _).drew), Nat.le_refl _, Fresh.start _ _ _ _⟩ (fun i o ho => ?_) (fun Lz vz wz hL hB => ?_)
  · match i, ho with
    | 0, ho =>
      obtain rfl := Option.some.inj ho
      intro Az Lz vz wy Kz Ez hB k
      have e3 : Az.eval (.tmp 3) = .pointer (some ⟨w.heap.size, 0, none⟩) := Ez.out 3 (by kernel_rfl)
      exact wpo_val (v := .pointer (some ⟨w.heap.size, 0, none⟩)) (run_index e3 rfl (by simp [go_sem])) (k _ _ rfl ⟨hB.1, hB.2.1, hB.2.2.1, hB.2.2.2.other 0 _ (fresh_ne rfl)⟩)
    | 1, ho =>
      obtain rfl := Option.some.inj ho
      intro Az Lz vz wy Kz Ez hB k
      have e13 : Az.eval (.tmp 13) = .pointer (some ⟨w.heap.size, 0, none⟩) := Ez.dep 0 13 (by kernel_rfl) rfl
      have c2_0 := hB.2.1.cell 2 0 rfl rfl
      exact wpo_val (v := .int .i64 l0) (run_load e13 (by simp [go_sem, c2_0])) (k _ _ rfl ⟨hB.1, hB.2.1, hB.2.2.1, hB.2.2.2.other 1 _ (fresh_ne rfl)⟩)
    | 2, ho =>
      obtain rfl := Option.some.inj ho
      intro Az Lz vz wy Kz Ez hB k
      have e3 : Az.eval (.tmp 3) = .pointer (some ⟨w.heap.size, 0, none⟩) := Ez.out 3 (by kernel_rfl)
      exact wpo_val (v := .pointer (some ⟨w.heap.size, 1, none⟩)) (run_index e3 rfl (by simp [go_sem])) (k _ _ rfl ⟨hB.1, hB.2.1, hB.2.2.1, hB.2.2.2.other 2 _ (fresh_ne rfl)⟩)
    | 3, ho =>
      obtain rfl := Option.some.inj ho
      intro Az Lz vz wy Kz Ez hB k
      have e15 : Az.eval (.tmp 15) = .pointer (some ⟨w.heap.size, 1, none⟩) := Ez.dep 2 15 (by kernel_rfl) rfl
      have c2_1 := hB.2.1.cell 2 1 rfl rfl
      exact wpo_val (v := .int .i64 l1) (run_load e15 (by simp [go_sem, c2_1])) (k _ _ rfl ⟨hB.1, hB.2.1, hB.2.2.1, hB.2.2.2.other 3 _ (fresh_ne rfl)⟩)
    | 4, ho =>
      obtain rfl := Option.some.inj ho
      intro Az Lz vz wy Kz Ez hB k
      have e3 : Az.eval (.tmp 3) = .pointer (some ⟨w.heap.size, 0, none⟩) := Ez.out 3 (by kernel_rfl)
      exact wpo_val (v := .pointer (some ⟨w.heap.size, 2, none⟩)) (run_index e3 rfl (by simp [go_sem])) (k _ _ rfl ⟨hB.1, hB.2.1, hB.2.2.1, hB.2.2.2.other 4 _ (fresh_ne rfl)⟩)
    | 5, ho =>
      obtain rfl := Option.some.inj ho
      intro Az Lz vz wy Kz Ez hB k
      have e17 : Az.eval (.tmp 17) = .pointer (some ⟨w.heap.size, 2, none⟩) := Ez.dep 4 17 (by kernel_rfl) rfl
      have c2_2 := hB.2.1.cell 2 2 rfl rfl
      exact wpo_val (v := .int .i64 l2) (run_load e17 (by simp [go_sem, c2_2])) (k _ _ rfl ⟨hB.1, hB.2.1, hB.2.2.1, hB.2.2.2.other 5 _ (fresh_ne rfl)⟩)
    | 6, ho =>
      obtain rfl := Option.some.inj ho
      intro Az Lz vz wy Kz Ez hB k
      have e3 : Az.eval (.tmp 3) = .pointer (some ⟨w.heap.size, 0, none⟩) := Ez.out 3 (by kernel_rfl)
      exact wpo_val (v := .pointer (some ⟨w.heap.size, 3, none⟩)) (run_index e3 rfl (by simp [go_sem])) (k _ _ rfl ⟨hB.1, hB.2.1, hB.2.2.1, hB.2.2.2.other 6 _ (fresh_ne rfl)⟩)
    | 7, ho =>
      obtain rfl := Option.some.inj ho
      intro Az Lz vz wy Kz Ez hB k
      have e19 : Az.eval (.tmp 19) = .pointer (some ⟨w.heap.size, 3, none⟩) := Ez.dep 6 19 (by kernel_rfl) rfl
      have c2_3 := hB.2.1.cell 2 3 rfl rfl
      exact wpo_val (v := .int .i64 l3) (run_load e19 (by simp [go_sem, c2_3])) (k _ _ rfl ⟨hB.1, hB.2.1, hB.2.2.1, hB.2.2.2.other 7 _ (fresh_ne rfl)⟩)
    | 8, ho =>
      obtain rfl := Option.some.inj ho
      intro Az Lz vz wy Kz Ez hB k
      have e14 : Az.eval (.tmp 14) = .int .i64 l0 := Ez.dep 1 14 (by kernel_rfl) rfl
      have e16 : Az.eval (.tmp 16) = .int .i64 l1 := Ez.dep 3 16 (by kernel_rfl) rfl
      have e18 : Az.eval (.tmp 18) = .int .i64 l2 := Ez.dep 5 18 (by kernel_rfl) rfl
      have e20 : Az.eval (.tmp 20) = .int .i64 l3 := Ez.dep 7 20 (by kernel_rfl) rfl
      refine wpo_call (run_callW (fun _ _ => by kernel_rfl)) (R := fun ez w' => ez = .returned (.agg #[.int .i64 A, .int .i64 B, .int .i64 C, .int .i64 D]) ∧ Below wy.heap.size wy w') ?_ ?_
      · simp only [List.map_toArray, List.map_cons, List.map_nil, eval_const, e14, e16, e18, e20]
        exact M1.out wy
      · rintro ez w' ⟨rfl, hb⟩
        exact ⟨_, rfl, k _ _ rfl ⟨bel_tr0 hB.1 hb, hB.2.1.later hb, Nat.le_trans hB.2.2.1 hb.size, (hB.2.2.2.later hb).other 8 _ (fresh_ne rfl)⟩⟩
    | 9, ho =>
      obtain rfl := Option.some.inj ho
      intro Az Lz vz wy Kz Ez hB k
      have e4 : Az.eval (.tmp 4) = .pointer (some ⟨w.heap.size + 1, 0, none⟩) := Ez.out 4 (by kernel_rfl)
      exact wpo_val (v := .pointer (some ⟨w.heap.size + 1, 0, none⟩)) (run_index e4 rfl (by simp [go_sem])) (k _ _ rfl ⟨hB.1, hB.2.1, hB.2.2.1, hB.2.2.2.other 9 _ (fresh_ne rfl)⟩)
    | 10, ho =>
      obtain rfl := Option.some.inj ho
      intro Az Lz vz wy Kz Ez hB k
      have e22 : Az.eval (.tmp 22) = .pointer (some ⟨w.heap.size + 1, 0, none⟩) := Ez.dep 9 22 (by kernel_rfl) rfl
      have c1_0 := hB.2.1.cell 1 0 rfl rfl
      exact wpo_val (v := .int .i64 m0) (run_load e22 (by simp [go_sem, c1_0])) (k _ _ rfl ⟨hB.1, hB.2.1, hB.2.2.1, hB.2.2.2.other 10 _ (fresh_ne rfl)⟩)
    | 11, ho =>
      obtain rfl := Option.some.inj ho
      intro Az Lz vz wy Kz Ez hB k
      have e4 : Az.eval (.tmp 4) = .pointer (some ⟨w.heap.size + 1, 0, none⟩) := Ez.out 4 (by kernel_rfl)
      exact wpo_val (v := .pointer (some ⟨w.heap.size + 1, 1, none⟩)) (run_index e4 rfl (by simp [go_sem])) (k _ _ rfl ⟨hB.1, hB.2.1, hB.2.2.1, hB.2.2.2.other 11 _ (fresh_ne rfl)⟩)
    | 12, ho =>
      obtain rfl := Option.some.inj ho
      intro Az Lz vz wy Kz Ez hB k
      have e24 : Az.eval (.tmp 24) = .pointer (some ⟨w.heap.size + 1, 1, none⟩) := Ez.dep 11 24 (by kernel_rfl) rfl
      have c1_1 := hB.2.1.cell 1 1 rfl rfl
      exact wpo_val (v := .int .i64 m1) (run_load e24 (by simp [go_sem, c1_1])) (k _ _ rfl ⟨hB.1, hB.2.1, hB.2.2.1, hB.2.2.2.other 12 _ (fresh_ne rfl)⟩)
    | 13, ho =>
      obtain rfl := Option.some.inj ho
      intro Az Lz vz wy Kz Ez hB k
      have e4 : Az.eval (.tmp 4) = .pointer (some ⟨w.heap.size + 1, 0, none⟩) := Ez.out 4 (by kernel_rfl)
      exact wpo_val (v := .pointer (some ⟨w.heap.size + 1, 2, none⟩)) (run_index e4 rfl (by simp [go_sem])) (k _ _ rfl ⟨hB.1, hB.2.1, hB.2.2.1, hB.2.2.2.other 13 _ (fresh_ne rfl)⟩)
    | 14, ho =>
      obtain rfl := Option.some.inj ho
      intro Az Lz vz wy Kz Ez hB k
      have e26 : Az.eval (.tmp 26) = .pointer (some ⟨w.heap.size + 1, 2, none⟩) := Ez.dep 13 26 (by kernel_rfl) rfl
      have c1_2 := hB.2.1.cell 1 2 rfl rfl
      exact wpo_val (v := .int .i64 m2) (run_load e26 (by simp [go_sem, c1_2])) (k _ _ rfl ⟨hB.1, hB.2.1, hB.2.2.1, hB.2.2.2.other 14 _ (fresh_ne rfl)⟩)
    | 15, ho =>
      obtain rfl := Option.some.inj ho
      intro Az Lz vz wy Kz Ez hB k
      have e4 : Az.eval (.tmp 4) = .pointer (some ⟨w.heap.size + 1, 0, none⟩) := Ez.out 4 (by kernel_rfl)
      exact wpo_val (v := .pointer (some ⟨w.heap.size + 1, 3, none⟩)) (run_index e4 rfl (by simp [go_sem])) (k _ _ rfl ⟨hB.1, hB.2.1, hB.2.2.1, hB.2.2.2.other 15 _ (fresh_ne rfl)⟩)
    | 16, ho =>
      obtain rfl := Option.some.inj ho
      intro Az Lz vz wy Kz Ez hB k
      have e28 : Az.eval (.tmp 28) = .pointer (some ⟨w.heap.size + 1, 3, none⟩) := Ez.dep 15 28 (by kernel_rfl) rfl
      have c1_3 := hB.2.1.cell 1 3 rfl rfl
      exact wpo_val (v := .int .i64 m3) (run_load e28 (by simp [go_sem, c1_3])) (k _ _ rfl ⟨hB.1, hB.2.1, hB.2.2.1, hB.2.2.2.other 16 _ (fresh_ne rfl)⟩)
    | 17, ho =>
      obtain rfl := Option.some.inj ho
      intro Az Lz vz wy Kz Ez hB k
      have e23 : Az.eval (.tmp 23) = .int .i64 m0 := Ez.dep 10 23 (by kernel_rfl) rfl
      have e25 : Az.eval (.tmp 25) = .int .i64 m1 := Ez.dep 12 25 (by kernel_rfl) rfl
      have e27 : Az.eval (.tmp 27) = .int .i64 m2 := Ez.dep 14 27 (by kernel_rfl) rfl
      have e29 : Az.eval (.tmp 29) = .int .i64 m3 := Ez.dep 16 29 (by kernel_rfl) rfl
      refine wpo_call (run_callW (fun _ _ => by kernel_rfl)) (R := fun ez w' => ez = .returned (.agg #[.int .i64 E, .int .i64 F, .int .i64 G, .int .i64 H]) ∧ Below wy.heap.size wy w') ?_ ?_
      · simp only [List.map_toArray, List.map_cons, List.map_nil, eval_const, e23, e25, e27, e29]
        exact M2.out wy
      · rintro ez w' ⟨rfl, hb⟩
        exact ⟨_, rfl, k _ _ rfl ⟨bel_tr0 hB.1 hb, hB.2.1.later hb, Nat.le_trans hB.2.2.1 hb.size, (hB.2.2.2.later hb).other 17 _ (fresh_ne rfl)⟩⟩
    | 18, ho =>
      obtain rfl := Option.some.inj ho
      intro Az Lz vz wy Kz Ez hB k
      have zs : Lz 20 = false := Ez.late 20 _ rfl (by kernel_rfl)
      exact wpo_val (run_alloc (by simp [go_sem])) (k _ _ trivial ⟨bel_al hB.1 _, hB.2.1.alloc _, by rw [World.size_alloc]; exact Nat.le_succ_of_le hB.2.2.1, hB.2.2.2.make FD 0 rfl zs hB.2.2.1 40⟩)
    | 19, ho =>
      obtain rfl := Option.some.inj ho
      intro Az Lz vz wy Kz Ez hB k
      have zs : Lz 21 = false := Ez.late 21 _ rfl (by kernel_rfl)
      exact wpo_val (run_alloc (by simp [go_sem])) (k _ _ trivial ⟨bel_al hB.1 _, hB.2.1.alloc _, by rw [World.size_alloc]; exact Nat.le_succ_of_le hB.2.2.1, hB.2.2.2.make FD 1 rfl zs hB.2.2.1 40⟩)
    | 20, ho =>
      obtain rfl := Option.some.inj ho
      intro Az Lz vz wy Kz Ez hB k
      have e21 : Az.eval (.tmp 21) = .agg #[.int .i64 A, .int .i64 B, .int .i64 C, .int .i64 D] := Ez.dep 8 21 (by kernel_rfl) rfl
      obtain ⟨q, hq, hn, hql, hc⟩ := hB.2.2.2.box 0 _ _ _ _ rfl (Ez.had 18 (by kernel_rfl))
      have zs : Lz 20 = false := Ez.not
      rw [zs] at hc
      have e7 : Az.eval (.tmp 7) = .pointer (some ⟨q, 0, none⟩) := (Ez.dep 18 7 (by kernel_rfl) rfl).trans hq
      obtain ⟨c0, f0⟩ := hc 0 _ rfl
      obtain ⟨c1, f1⟩ := hc 1 _ rfl
      obtain ⟨c2, f2⟩ := hc 2 _ rfl
      obtain ⟨c3, f3⟩ := hc 3 _ rfl
      exact wpo_skip (w' := sets wy q 0 [.int .i64 A, .int .i64 B, .int .i64 C, .int .i64 D]) (run_store e7 e21 (by simp [go_sem, sets, c0, f0, c1, f1, c2, f2, c3, f3])) (k _ _ trivial ⟨sets_below (Nat.le_trans HN.out hn) _ _ _ hB.1, hB.2.1.far HT.out hn _, by rw [sets_size]; exact hB.2.2.1, hB.2.2.2.fill FD 0 _ rfl zs (Ez.had 18 (by kernel_rfl)) hq rfl⟩)
    | 21, ho =>
      obtain rfl := Option.some.inj ho
      intro Az Lz vz wy Kz Ez hB k
      have e30 : Az.eval (.tmp 30) = .agg #[.int .i64 E, .int .i64 F, .int .i64 G, .int .i64 H] := Ez.dep 17 30 (by kernel_rfl) rfl
      obtain ⟨q, hq, hn, hql, hc⟩ := hB.2.2.2.box 1 _ _ _ _ rfl (Ez.had 19 (by kernel_rfl))
      have zs : Lz 21 = false := Ez.not
      rw [zs] at hc
      have e8 : Az.eval (.tmp 8) = .pointer (some ⟨q, 0, none⟩) := (Ez.dep 19 8 (by kernel_rfl) rfl).trans hq
      obtain ⟨c0, f0⟩ := hc 0 _ rfl
      obtain ⟨c1, f1⟩ := hc 1 _ rfl
      obtain ⟨c2, f2⟩ := hc 2 _ rfl
      obtain ⟨c3, f3⟩ := hc 3 _ rfl
      exact wpo_skip (w' := sets wy q 0 [.int .i64 E, .int .i64 F, .int .i64 G, .int .i64 H]) (run_store e8 e30 (by simp [go_sem, sets, c0, f0, c1, f1, c2, f2, c3, f3])) (k _ _ trivial ⟨sets_below (Nat.le_trans HN.out hn) _ _ _ hB.1, hB.2.1.far HT.out hn _, by rw [sets_size]; exact hB.2.2.1, hB.2.2.2.fill FD 1 _ rfl zs (Ez.had 19 (by kernel_rfl)) hq rfl⟩)
    | n + 22, ho => simp at ho
  · obtain ⟨hk, hT, hNz, hF⟩ := hB
    have KB := Lib.hid hk
    have KT := Lib.hid hT
    obtain ⟨q18, hq18, hn18, _, hc18⟩ := hF.box 0 _ _ _ _ rfl (hL 18 (by decide))
    rw [hL 20 (by decide)] at hc18
    obtain ⟨q19, hq19, hn19, _, hc19⟩ := hF.box 1 _ _ _ _ rfl (hL 19 (by decide))
    rw [hL 21 (by decide)] at hc19
    have hne19_18 : q19 ≠ q18 := fun e => hF.ne 1 0 _ _ _ _ _ _ _ _ rfl rfl (by decide) (hL 19 (by decide)) (hL 18 (by decide)) (by rw [hq19, hq18, e])
    have KT := Lib.hid (((KT.out.cons hc18).cons hc19))
    clear hF hc18 hc19
    clear hk hT hL
    simp only [puts2, mix, Act.put, List.setIfInBounds_toArray, List.set_cons_zero, List.set_cons_succ, Nat.zero_add, Nat.reduceAdd, List.getElem?_cons_zero, List.getElem?_cons_succ, hq18, hq19]
    clear hq18 hq19

    go_wp2_with fail
    have HT4 : Hid (∀ (kz bz : Nat) (uz : List Value), [(q19, [.int .i64 E, .int .i64 F, .int .i64 G, .int .i64 H]), (q18, [.int .i64 A, .int .i64 B, .int .i64 C, .int .i64 D]), (w.heap.size + 1 + 1, [.int .i64 d0, .int .i64 d1]), (w.heap.size + 1, [.int .i64 m0, .int .i64 m1, .int .i64 m2, .int .i64 m3]), (w.heap.size, [.int .i64 l0, .int .i64 l1, .int .i64 l2, .int .i64 l3])][kz]? = some (bz, uz) → bz < wz.heap.size) := Lib.hid (KT.out.lts rfl)
    have HB0 : Hid (F4 wz [(q19, [.int .i64 E, .int .i64 F, .int .i64 G, .int .i64 H]), (q18, [.int .i64 A, .int .i64 B, .int .i64 C, .int .i64 D]), (w.heap.size + 1 + 1, [.int .i64 d0, .int .i64 d1]), (w.heap.size + 1, [.int .i64 m0, .int .i64 m1, .int .i64 m2, .int .i64 m3]), (w.heap.size, [.int .i64 l0, .int .i64 l1, .int .i64 l2, .int .i64 l3])] (A, B, C, D) (E, F, G, H) (fun _ => false) (fun _ => undef) wz.drew) := Lib.hid (F4.start (Below.refl _ _) KT.out)
    refine wp_region_vals [some (.agg #[.int .i64 A, .int .i64 B, .int .i64 C, .int .i64 D]), none, none, some (.agg #[.int .i64 E, .int .i64 F, .int .i64 G, .int .i64 H]), none, none, none, none, none, none] (F4 wz [(q19, [.int .i64 E, .int .i64 F, .int .i64 G, .int .i64 H]), (q18, [.int .i64 A, .int .i64 B, .int .i64 C, .int .i64 D]), (w.heap.size + 1 + 1, [.int .i64 d0, .int .i64 d1]), (w.heap.size + 1, [.int .i64 m0, .int .i64 m1, .int .i64 m2, .int .i64 m3]), (w.heap.size, [.int .i64 l0, .int .i64 l1, .int .i64 l2, .int .i64 l3])] (A, B, C, D) (E, F, G, H))
      [some 31, some 32, some 33, some 34, some 35, some 36, some 9, some 10, none, none] (by kernel_rfl) (by kernel_rfl) (by kernel_rfl) (by kernel_rfl) (by kernel_rfl) (by kernel_rfl) HB0.out (fun i o ho => ?_) (fun Lz vz wr4 hL hB => ?_)
    · match i, ho with
      | 0, ho =>
        obtain rfl := Option.some.inj ho
        intro Az Lz vz wy Kz Ez hB k
        have e7 : Az.eval (.tmp 7) = .pointer (some ⟨q18, 0, none⟩) := Ez.out 7 (by kernel_rfl)
        have c0 := hB.tabs.cell 1 0 rfl rfl
        have c1 := hB.tabs.cell 1 1 rfl rfl
        have c2 := hB.tabs.cell 1 2 rfl rfl
        have c3 := hB.tabs.cell 1 3 rfl rfl
        exact wpo_val (v := .agg #[.int .i64 A, .int .i64 B, .int .i64 C, .int .i64 D]) (run_load e7 (by simp [go_sem, c0, c1, c2, c3])) (k _ _ rfl (hB.add 0 _ (by decide) (fun z => absurd z (by decide)) (fun z => absurd z (by decide)) trivial (fun z => absurd z (by decide)) (fun z => absurd z (by decide))))
      | 1, ho =>
        obtain rfl := Option.some.inj ho
        intro Az Lz vz wy Kz Ez hB k
        have e31 : Az.eval (.tmp 31) = .agg #[.int .i64 A, .int .i64 B, .int .i64 C, .int .i64 D] := Ez.dep 0 31 (by kernel_rfl) rfl
        exact wpo_val (run_bslice1 e31 (bslice_rect A B C D wy)) (k _ _ trivial ((hB.later (bel_new wy _)).add 1 _ (by decide) (fun z => absurd z (by decide)) (fun z => absurd z (by decide)) (by have := rs_one wy (A, B, C, D); simpa [G4, upd] using this) (fun z => absurd z (by decide)) (fun z => absurd z (by decide))))
      | 2, ho =>
        obtain rfl := Option.some.inj ho
        intro Az Lz vz wy Kz Ez hB k
        have e32 : Az.eval (.tmp 32) = vz 1 := Ez.dep 1 32 (by kernel_rfl) rfl
        have hs : RS wy (vz 1) [(A, B, C, D)] := hB.all 1 (Ez.had 1 (by kernel_rfl))
        refine wpo_call (run_callW (fun _ _ => by kernel_rfl)) (R := IsE (anyQ [(A, B, C, D)]) wy) ?_ ?_
        · simp only [List.map_toArray, List.map_cons, List.map_nil, eval_const, e32]
          exact isr_of hs (fun r m => by rw [List.mem_singleton] at m; subst m; exact KP.out) (by simp)
        · rintro ez w' ⟨v, rfl, hr, hb⟩
          exact ⟨_, rfl, k _ _ trivial ((hB.later hb).add 2 v (by decide) (fun _ => Ez.late 8 _ rfl (by kernel_rfl)) (fun z => absurd z (by decide)) (by simpa [G4, upd] using hr) (fun z => absurd z (by decide)) (fun z => absurd z (by decide)))⟩
      | 3, ho =>
        obtain rfl := Option.some.inj ho
        intro Az Lz vz wy Kz Ez hB k
        have e8 : Az.eval (.tmp 8) = .pointer (some ⟨q19, 0, none⟩) := Ez.out 8 (by kernel_rfl)
        have c0 := hB.tabs.cell 0 0 rfl rfl
        have c1 := hB.tabs.cell 0 1 rfl rfl
        have c2 := hB.tabs.cell 0 2 rfl rfl
        have c3 := hB.tabs.cell 0 3 rfl rfl
        exact wpo_val (v := .agg #[.int .i64 E, .int .i64 F, .int .i64 G, .int .i64 H]) (run_load e8 (by simp [go_sem, c0, c1, c2, c3])) (k _ _ rfl (hB.add 3 _ (by decide) (fun z => absurd z (by decide)) (fun z => absurd z (by decide)) trivial (fun z => absurd z (by decide)) (fun z => absurd z (by decide))))
      | 4, ho =>
        obtain rfl := Option.some.inj ho
        intro Az Lz vz wy Kz Ez hB k
        have e34 : Az.eval (.tmp 34) = .agg #[.int .i64 E, .int .i64 F, .int .i64 G, .int .i64 H] := Ez.dep 3 34 (by kernel_rfl) rfl
        exact wpo_val (run_bslice1 e34 (bslice_rect E F G H wy)) (k _ _ trivial ((hB.later (bel_new wy _)).add 4 _ (by decide) (fun z => absurd z (by decide)) (fun z => absurd z (by decide)) (by have := rs_one wy (E, F, G, H); simpa [G4, upd] using this) (fun z => absurd z (by decide)) (fun z => absurd z (by decide))))
      | 5, ho =>
        obtain rfl := Option.some.inj ho
        intro Az Lz vz wy Kz Ez hB k
        have e35 : Az.eval (.tmp 35) = vz 4 := Ez.dep 4 35 (by kernel_rfl) rfl
        have hs : RS wy (vz 4) [(E, F, G, H)] := hB.all 4 (Ez.had 4 (by kernel_rfl))
        refine wpo_call (run_callW (fun _ _ => by kernel_rfl)) (R := IsE (anyQ [(E, F, G, H)]) wy) ?_ ?_
        · simp only [List.map_toArray, List.map_cons, List.map_nil, eval_const, e35]
          exact isr_of hs (fun r m => by rw [List.mem_singleton] at m; subst m; exact KQ.out) (by simp)
        · rintro ez w' ⟨v, rfl, hr, hb⟩
          exact ⟨_, rfl, k _ _ trivial ((hB.later hb).add 5 v (by decide) (fun z => absurd z (by decide)) (fun _ => Ez.late 9 _ rfl (by kernel_rfl)) (by simpa [G4, upd] using hr) (fun z => absurd z (by decide)) (fun z => absurd z (by decide)))⟩
      | 6, ho =>
        obtain rfl := Option.some.inj ho
        intro Az Lz vz wy Kz Ez hB k
        have hn : ∀ v, v = .pointer (some ⟨wy.heap.size, 0, none⟩) → Lz 7 = true → vz 7 ≠ v := fun v hv hl e => by
          have g : BxR wz.heap.size (vz 7) (vz 5) (Lz 9) wy := hB.all 7 hl
          obtain ⟨b, u, e1, _, e2, _⟩ := g
          rw [e1, hv] at e
          have := (Array.getElem?_eq_some_iff.1 e2).1
          injection e with e
          injection e with e
          injection e with e
          omega
        have zs : Lz 8 = false := Ez.late 8 _ rfl (by kernel_rfl)
        exact wpo_val (run_alloc (by simp [go_sem])) (k _ _ trivial ((hB.later (bel_new wy (.cells #[.slice none 0 0] 26))).add 6 (.pointer (some ⟨wy.heap.size, 0, none⟩)) (by decide) (fun z => absurd z (by decide)) (fun z => absurd z (by decide)) (show BxR _ (upd vz 6 _ 6) (upd vz 6 _ 2) (addL Lz 6 8) _ from ⟨wy.heap.size, .slice none 0 0, by simp [upd], hB.below.size, heap_alloc_new _ _, fun _ => rfl, fun z => by simp [addL, zs] at z⟩) (fun _ h e => hn _ rfl h e.symm) (fun z => absurd z (by decide))))
      | 7, ho =>
        obtain rfl := Option.some.inj ho
        intro Az Lz vz wy Kz Ez hB k
        have hn : ∀ v, v = .pointer (some ⟨wy.heap.size, 0, none⟩) → Lz 6 = true → vz 6 ≠ v := fun v hv hl e => by
          have g : BxR wz.heap.size (vz 6) (vz 2) (Lz 8) wy := hB.all 6 hl
          obtain ⟨b, u, e1, _, e2, _⟩ := g
          rw [e1, hv] at e
          have := (Array.getElem?_eq_some_iff.1 e2).1
          injection e with e
          injection e with e
          injection e with e
          omega
        have zs : Lz 9 = false := Ez.late 9 _ rfl (by kernel_rfl)
        exact wpo_val (run_alloc (by simp [go_sem])) (k _ _ trivial ((hB.later (bel_new wy (.cells #[.slice none 0 0] 26))).add 7 (.pointer (some ⟨wy.heap.size, 0, none⟩)) (by decide) (fun z => absurd z (by decide)) (fun z => absurd z (by decide)) (show BxR _ (upd vz 7 _ 7) (upd vz 7 _ 5) (addL Lz 7 9) _ from ⟨wy.heap.size, .slice none 0 0, by simp [upd], hB.below.size, heap_alloc_new _ _, fun _ => rfl, fun z => by simp [addL, zs] at z⟩) (fun z => absurd z (by decide)) (fun _ h => hn _ rfl h)))
      | 8, ho =>
        obtain rfl := Option.some.inj ho
        intro Az Lz vz wy Kz Ez hB k
        have e9 : Az.eval (.tmp 9) = vz 6 := Ez.dep 6 9 (by kernel_rfl) rfl
        have e33 : Az.eval (.tmp 33) = vz 2 := Ez.dep 2 33 (by kernel_rfl) rfl
        obtain ⟨b, a, n, c, h6, h2, hc, hf, hF⟩ := hB.s8 HT4.out Ez.not (Ez.had 6 (by kernel_rfl)) (Ez.had 2 (by kernel_rfl)) undef
        exact wpo_skip (w' := wy.setCell ⟨b, 0, none⟩ (.slice a n c)) (run_store (e9.trans h6) (e33.trans h2) (by simp [go_sem, hc, hf])) (k _ _ trivial hF)
      | 9, ho =>
        obtain rfl := Option.some.inj ho
        intro Az Lz vz wy Kz Ez hB k
        have e10 : Az.eval (.tmp 10) = vz 7 := Ez.dep 7 10 (by kernel_rfl) rfl
        have e36 : Az.eval (.tmp 36) = vz 5 := Ez.dep 5 36 (by kernel_rfl) rfl
        obtain ⟨b, a, n, c, h6, h2, hc, hf, hF⟩ := hB.s9 HT4.out Ez.not (Ez.had 7 (by kernel_rfl)) (Ez.had 5 (by kernel_rfl)) undef
        exact wpo_skip (w' := wy.setCell ⟨b, 0, none⟩ (.slice a n c)) (run_store (e10.trans h6) (e36.trans h2) (by simp [go_sem, hc, hf])) (k _ _ trivial hF)
      | n + 10, ho => simp at ho
    · obtain ⟨b1, b2, a1, n1, c1, a2, n2, c2, e6, e7, hT, ha, hb'⟩ := hB.fin (fun j hj => hL j (by simpa using hj))
      have KB4 := Lib.hid (bel_tr0 KB.out hB.below)
      have KT := Lib.hid hT
      have GA : Hid (IsR wr4 (.agg #[.slice a1 n1 c1]) (inQ (A, B, C, D))) := Lib.hid (ha.congr fun x y => by simp [anyQ])
      have GB : Hid (IsR wr4 (.agg #[.slice a2 n2 c2]) (inQ (E, F, G, H))) := Lib.hid (hb'.congr fun x y => by simp [anyQ])
      clear hT ha hb' hL hB HB0 HT4
      simp only [puts2, mix, Act.put, List.setIfInBounds_toArray, List.set_cons_zero, List.set_cons_succ, Nat.zero_add, Nat.reduceAdd, List.getElem?_cons_zero, List.getElem?_cons_succ, e6, e7]
      clear e6 e7
      have KB := Lib.hid (Below.refl wr4.heap.size wr4)
      have IA : Hid (∀ wy, Below wr4.heap.size wr4 wy → IsR wy (.agg #[.slice a1 n1 c1]) (inQ (A, B, C, D))) := Lib.hid (fun wy h => GA.out.later h)
      have IB : Hid (∀ wy, Below wr4.heap.size wr4 wy → IsR wy (.agg #[.slice a2 n2 c2]) (inQ (E, F, G, H))) := Lib.hid (fun wy h => GB.out.later h)
      have HuA : Hid (∀ wy, Below wr4.heap.size wr4 wy → Calls Try.prog 21 #[.agg #[.slice a1 n1 c1]] wy fun e w' => e = .returned (.agg #[.int .i64 A, .int .i64 B, .int .i64 C, .int .i64 D]) ∧ Below wy.heap.size wy w') := Lib.hid (fun wy h => isr_hull (IA.out wy h) (edge_rect _) (by simp) HAA.out)
      have ArA : Hid (∀ wy, Below wr4.heap.size wr4 wy → Calls Try.prog 22 #[.agg #[.slice a1 n1 c1]] wy fun e w' => e = .returned (.int .i64 sa) ∧ Below wy.heap.size wy w') := Lib.hid (fun wy h => by
        have := isr_area (IA.out wy h) (edge_rect _) (by simp)
        rwa [HSA.out] at this)
      have HuP : Hid (∀ wy v, IsR wy v (inQ (P, Q, R, S)) → Calls Try.prog 21 #[v] wy fun e w' => e = .returned (.agg #[.int .i64 P, .int .i64 Q, .int .i64 R, .int .i64 S]) ∧ Below wy.heap.size wy w') := Lib.hid (fun wy v h => isr_hull h (edge_rect _) (by simp) HPP.out)
      have HuM : Hid (∀ wy v, IsR wy v (inQ (J, K, M, O)) → Calls Try.prog 21 #[v] wy fun e w' => e = .returned (.agg #[.int .i64 J, .int .i64 K, .int .i64 M, .int .i64 O]) ∧ Below wy.heap.size wy w') := Lib.hid (fun wy v h => isr_hull h (edge_rect _) (by simp) HMM.out)
      have HuO : Hid (∀ wy v, IsR wy v (fun x y => orB (inQ (A, B, C, D) x y) (inQ (E, F, G, H) x y)) → Calls Try.prog 21 #[v] wy fun e w' => e = .returned (.agg #[.int .i64 X, .int .i64 Y, .int .i64 Z, .int .i64 T]) ∧ Below wy.heap.size wy w') := Lib.hid (fun wy v h => isr_hull h (edge_two orB (edge_rect _) (edge_rect _)) (by simp) ORH.out)
      have ArO : Hid (∀ wy v, IsR wy v (fun x y => orB (inQ (A, B, C, D) x y) (inQ (E, F, G, H) x y)) → Calls Try.prog 22 #[v] wy fun e w' => e = .returned (.int .i64 so) ∧ Below wy.heap.size wy w') := Lib.hid (fun wy v h => by
        have := isr_area h (edge_two orB (edge_rect _) (edge_rect _)) (by simp)
        rwa [HSO.out] at this)
      have ArN : Hid (∀ wy v, IsR wy v (fun _ _ => false) → Calls Try.prog 22 #[v] wy fun e w' => e = .returned (.int .i64 0) ∧ Below wy.heap.size wy w') := Lib.hid (fun wy v h => by
        have := isr_area h edge_none (by simp)
        rwa [area_none] at this)
      have HaA : Hid (∀ wy, Below wr4.heap.size wr4 wy → Calls Try.prog 19 #[.agg #[.slice a1 n1 c1], .int .i64 l0, .int .i64 l1] wy fun e w' => e = .returned (.bool hb) ∧ Below wy.heap.size wy w') := Lib.hid (fun wy h => by
        have := isr_has (IA.out wy h) l0 l1
        rwa [HHB.out] at this)
      go_wp2_with fail
      refine wp_region_vals [some (.agg #[.slice a1 n1 c1]), some (.agg #[.int .i64 A, .int .i64 B, .int .i64 C, .int .i64 D]), some (.agg #[.int .i64 A, .int .i64 B, .int .i64 C, .int .i64 D]), some (.bool false), some (.bool false), some (.agg #[.slice a1 n1 c1]), some (.int .i64 sa), some (.agg #[.int .i64 A, .int .i64 B, .int .i64 C, .int .i64 D]), some (.int .i64 sa), some (.bool false), some (.bool false), some (.bool false), some (.agg #[.slice a1 n1 c1]), some (.agg #[.slice a2 n2 c2]), none, some (.agg #[.int .i64 P, .int .i64 Q, .int .i64 R, .int .i64 S]), some (.agg #[.int .i64 A, .int .i64 B, .int .i64 C, .int .i64 D]), some (.agg #[.int .i64 E, .int .i64 F, .int .i64 G, .int .i64 H]), some (.agg #[.int .i64 P, .int .i64 Q, .int .i64 R, .int .i64 S]), some (.bool false), some (.bool false), some (.bool false), some (.agg #[.slice a1 n1 c1]), some (.agg #[.slice a2 n2 c2]), none, some (.agg #[.int .i64 X, .int .i64 Y, .int .i64 Z, .int .i64 T]), some (.agg #[.int .i64 A, .int .i64 B, .int .i64 C, .int .i64 D]), some (.agg #[.int .i64 E, .int .i64 F, .int .i64 G, .int .i64 H]), some (.agg #[.int .i64 X, .int .i64 Y, .int .i64 Z, .int .i64 T]), some (.bool false), some (.bool false), some (.bool false), some (.agg #[.slice a1 n1 c1]), some (.pointer (some ⟨w.heap.size + 1 + 1, 0, none⟩)), some (.int .i64 d0), some (.pointer (some ⟨w.heap.size + 1 + 1, 1, none⟩)), some (.int .i64 d1), none, some (.agg #[.int .i64 J, .int .i64 K, .int .i64 M, .int .i64 O]), some (.agg #[.int .i64 A, .int .i64 B, .int .i64 C, .int .i64 D]), some (.pointer (some ⟨w.heap.size + 1 + 1, 0, none⟩)), some (.int .i64 d0), some (.pointer (some ⟨w.heap.size + 1 + 1, 1, none⟩)), some (.int .i64 d1), some (.agg #[.int .i64 J, .int .i64 K, .int .i64 M, .int .i64 O]), some (.bool false), some (.bool false)] (fun Lz vz wy => Below wr4.heap.size wr4 wy ∧ Tab wy [(b2, [.slice a2 n2 c2]), (b1, [.slice a1 n1 c1]), (q19, [.int .i64 E, .int .i64 F, .int .i64 G, .int .i64 H]), (q18, [.int .i64 A, .int .i64 B, .int .i64 C, .int .i64 D]), (w.heap.size + 1 + 1, [.int .i64 d0, .int .i64 d1]), (w.heap.size + 1, [.int .i64 m0, .int .i64 m1, .int .i64 m2, .int .i64 m3]), (w.heap.size, [.int .i64 l0, .int .i64 l1, .int .i64 l2, .int .i64 l3])] ∧ Rgs [14, 24, 37] (fun i => if i = 14 then inQ (P, Q, R, S) else if i = 24 then fun x y => orB (inQ (A, B, C, D) x y) (inQ (E, F, G, H) x y) else if i = 37 then inQ (J, K, M, O) else fun _ _ => false) Lz vz wy)
        [some 37, some 38, some 39, some 40, some 41, some 42, some 43, some 44, some 45, some 46, some 47, some 48, some 49, some 50, some 51, some 52, some 53, some 54, some 55, some 56, some 57, some 58, some 59, some 60, some 61, some 62, some 63, some 64, some 65, some 66, some 67, some 68, some 69, some 70, some 71, some 72, some 73, some 74, some 75, some 76, some 77, some 78, some 79, some 80, some 81, some 82, some 83] (by kernel_rfl) (by kernel_rfl) (by kernel_rfl) (by kernel_rfl) (by kernel_rfl) (by kernel_rfl) ⟨KB.out.drew, KT.out.later ((Below.refl _ _).drew), Rgs.start _ _ _ _⟩ (fun i o ho => ?_) (fun Lz vz wz hL hB => ?_)
      · match i, ho with
        | 0, ho =>
          obtain rfl := Option.some.inj ho
          intro Az Lz vz wy Kz Ez hB k
          have e9 : Az.eval (.tmp 9) = .pointer (some ⟨b1, 0, none⟩) := Ez.out 9 (by kernel_rfl)
          have c1_0 := hB.2.1.cell 1 0 rfl rfl
          exact wpo_val (v := .agg #[.slice a1 n1 c1]) (run_load e9 (by simp [go_sem, c1_0])) (k _ _ rfl ⟨hB.1, hB.2.1, hB.2.2.other 0 _ (by decide)⟩)
        | 1, ho =>
          obtain rfl := Option.some.inj ho
          intro Az Lz vz wy Kz Ez hB k
          have e37 : Az.eval (.tmp 37) = .agg #[.slice a1 n1 c1] := Ez.dep 0 37 (by kernel_rfl) rfl
          refine wpo_call (run_callW (fun _ _ => by kernel_rfl)) (R := fun ez w' => ez = .returned (.agg #[.int .i64 A, .int .i64 B, .int .i64 C, .int .i64 D]) ∧ Below wy.heap.size wy w') ?_ ?_
          · simp only [List.map_toArray, List.map_cons, List.map_nil, eval_const, e37]
            exact HuA.out wy hB.1
          · rintro ez w' ⟨rfl, hb⟩
            exact ⟨_, rfl, k _ _ rfl ⟨bel_tr0 hB.1 hb, hB.2.1.later hb, (hB.2.2.later hb).other 1 _ (by decide)⟩⟩
        | 2, ho =>
          obtain rfl := Option.some.inj ho
          intro Az Lz vz wy Kz Ez hB k
          have e7 : Az.eval (.tmp 7) = .pointer (some ⟨q18, 0, none⟩) := Ez.out 7 (by kernel_rfl)
          have c3_0 := hB.2.1.cell 3 0 rfl rfl
          have c3_1 := hB.2.1.cell 3 1 rfl rfl
          have c3_2 := hB.2.1.cell 3 2 rfl rfl
          have c3_3 := hB.2.1.cell 3 3 rfl rfl
          exact wpo_val (v := .agg #[.int .i64 A, .int .i64 B, .int .i64 C, .int .i64 D]) (run_load e7 (by simp [go_sem, c3_0, c3_1, c3_2, c3_3])) (k _ _ rfl ⟨hB.1, hB.2.1, hB.2.2.other 2 _ (by decide)⟩)
        | 3, ho =>
          obtain rfl := Option.some.inj ho
          intro Az Lz vz wy Kz Ez hB k
          have e38 : Az.eval (.tmp 38) = .agg #[.int .i64 A, .int .i64 B, .int .i64 C, .int .i64 D] := Ez.dep 1 38 (by kernel_rfl) rfl
          have e39 : Az.eval (.tmp 39) = .agg #[.int .i64 A, .int .i64 B, .int .i64 C, .int .i64 D] := Ez.dep 2 39 (by kernel_rfl) rfl
          exact wpo_val (v := .bool false) (run_bin e38 e39 (by simp [go_sem]) (by exact QA.out wy)) (k _ _ rfl ⟨hB.1, hB.2.1, hB.2.2.other 3 _ (by decide)⟩)
        | 4, ho =>
          obtain rfl := Option.some.inj ho
          intro Az Lz vz wy Kz Ez hB k
          have e40 : Az.eval (.tmp 40) = .bool false := Ez.dep 3 40 (by kernel_rfl) rfl
          exact wpo_val (v := .bool false) (run_move e40) (k _ _ rfl ⟨hB.1, hB.2.1, hB.2.2.other 4 _ (by decide)⟩)
        | 5, ho =>
          obtain rfl := Option.some.inj ho
          intro Az Lz vz wy Kz Ez hB k
          have e9 : Az.eval (.tmp 9) = .pointer (some ⟨b1, 0, none⟩) := Ez.out 9 (by kernel_rfl)
          have c1_0 := hB.2.1.cell 1 0 rfl rfl
          exact wpo_val (v := .agg #[.slice a1 n1 c1]) (run_load e9 (by simp [go_sem, c1_0])) (k _ _ rfl ⟨hB.1, hB.2.1, hB.2.2.other 5 _ (by decide)⟩)
        | 6, ho =>
          obtain rfl := Option.some.inj ho
          intro Az Lz vz wy Kz Ez hB k
          have e42 : Az.eval (.tmp 42) = .agg #[.slice a1 n1 c1] := Ez.dep 5 42 (by kernel_rfl) rfl
          refine wpo_call (run_callW (fun _ _ => by kernel_rfl)) (R := fun ez w' => ez = .returned (.int .i64 sa) ∧ Below wy.heap.size wy w') ?_ ?_
          · simp only [List.map_toArray, List.map_cons, List.map_nil, eval_const, e42]
            exact ArA.out wy hB.1
          · rintro ez w' ⟨rfl, hb⟩
            exact ⟨_, rfl, k _ _ rfl ⟨bel_tr0 hB.1 hb, hB.2.1.later hb, (hB.2.2.later hb).other 6 _ (by decide)⟩⟩
        | 7, ho =>
          obtain rfl := Option.some.inj ho
          intro Az Lz vz wy Kz Ez hB k
          have e7 : Az.eval (.tmp 7) = .pointer (some ⟨q18, 0, none⟩) := Ez.out 7 (by kernel_rfl)
          have c3_0 := hB.2.1.cell 3 0 rfl rfl
          have c3_1 := hB.2.1.cell 3 1 rfl rfl
          have c3_2 := hB.2.1.cell 3 2 rfl rfl
          have c3_3 := hB.2.1.cell 3 3 rfl rfl
          exact wpo_val (v := .agg #[.int .i64 A, .int .i64 B, .int .i64 C, .int .i64 D]) (run_load e7 (by simp [go_sem, c3_0, c3_1, c3_2, c3_3])) (k _ _ rfl ⟨hB.1, hB.2.1, hB.2.2.other 7 _ (by decide)⟩)
        | 8, ho =>
          obtain rfl := Option.some.inj ho
          intro Az Lz vz wy Kz Ez hB k
          have e44 : Az.eval (.tmp 44) = .agg #[.int .i64 A, .int .i64 B, .int .i64 C, .int .i64 D] := Ez.dep 7 44 (by kernel_rfl) rfl
          refine wpo_call (run_callW (fun _ _ => by kernel_rfl)) (R := fun ez w' => ez = .returned (.int .i64 sa) ∧ Below wy.heap.size wy w') ?_ ?_
          · simp only [List.map_toArray, List.map_cons, List.map_nil, eval_const, e44]
            exact AA.out wy
          · rintro ez w' ⟨rfl, hb⟩
            exact ⟨_, rfl, k _ _ rfl ⟨bel_tr0 hB.1 hb, hB.2.1.later hb, (hB.2.2.later hb).other 8 _ (by decide)⟩⟩
        | 9, ho =>
          obtain rfl := Option.some.inj ho
          intro Az Lz vz wy Kz Ez hB k
          have e43 : Az.eval (.tmp 43) = .int .i64 sa := Ez.dep 6 43 (by kernel_rfl) rfl
          have e45 : Az.eval (.tmp 45) = .int .i64 sa := Ez.dep 8 45 (by kernel_rfl) rfl
          exact wpo_val (v := .bool false) (run_bin e43 e45 (by simp [go_sem]) (by simp [go_sem])) (k _ _ rfl ⟨hB.1, hB.2.1, hB.2.2.other 9 _ (by decide)⟩)
        | 10, ho =>
          obtain rfl := Option.some.inj ho
          intro Az Lz vz wy Kz Ez hB k
          have e41 : Az.eval (.tmp 41) = .bool false := Ez.dep 4 41 (by kernel_rfl) rfl
          have e46 : Az.eval (.tmp 46) = .bool false := Ez.dep 9 46 (by kernel_rfl) rfl
          exact wpo_val (v := .bool false) (run_pickF e41 e46) (k _ _ rfl ⟨hB.1, hB.2.1, hB.2.2.other 10 _ (by decide)⟩)
        | 11, ho =>
          obtain rfl := Option.some.inj ho
          intro Az Lz vz wy Kz Ez hB k
          have e47 : Az.eval (.tmp 47) = .bool false := Ez.dep 10 47 (by kernel_rfl) rfl
          exact wpo_val (v := .bool false) (run_move e47) (k _ _ rfl ⟨hB.1, hB.2.1, hB.2.2.other 11 _ (by decide)⟩)
        | 12, ho =>
          obtain rfl := Option.some.inj ho
          intro Az Lz vz wy Kz Ez hB k
          have e9 : Az.eval (.tmp 9) = .pointer (some ⟨b1, 0, none⟩) := Ez.out 9 (by kernel_rfl)
          have c1_0 := hB.2.1.cell 1 0 rfl rfl
          exact wpo_val (v := .agg #[.slice a1 n1 c1]) (run_load e9 (by simp [go_sem, c1_0])) (k _ _ rfl ⟨hB.1, hB.2.1, hB.2.2.other 12 _ (by decide)⟩)
        | 13, ho =>
          obtain rfl := Option.some.inj ho
          intro Az Lz vz wy Kz Ez hB k
          have e10 : Az.eval (.tmp 10) = .pointer (some ⟨b2, 0, none⟩) := Ez.out 10 (by kernel_rfl)
          have c0_0 := hB.2.1.cell 0 0 rfl rfl
          exact wpo_val (v := .agg #[.slice a2 n2 c2]) (run_load e10 (by simp [go_sem, c0_0])) (k _ _ rfl ⟨hB.1, hB.2.1, hB.2.2.other 13 _ (by decide)⟩)
        | 14, ho =>
          obtain rfl := Option.some.inj ho
          intro Az Lz vz wy Kz Ez hB k
          have e49 : Az.eval (.tmp 49) = .agg #[.slice a1 n1 c1] := Ez.dep 12 49 (by kernel_rfl) rfl
          have e50 : Az.eval (.tmp 50) = .agg #[.slice a2 n2 c2] := Ez.dep 13 50 (by kernel_rfl) rfl
          refine wpo_call (run_callW (fun _ _ => by kernel_rfl)) (R := IsE (inQ (P, Q, R, S)) wy) ?_ ?_
          · simp only [List.map_toArray, List.map_cons, List.map_nil, eval_const, e49, e50]
            exact isE_congr (isr_and (IA.out wy hB.1) (IB.out wy hB.1)) ANS.out
          · rintro ez w' ⟨vr, rfl, hr, hb⟩
            exact ⟨_, rfl, k _ _ trivial ⟨bel_tr0 hB.1 hb, hB.2.1.later hb, (hB.2.2.later hb).add 14 _ hr⟩⟩
        | 15, ho =>
          obtain rfl := Option.some.inj ho
          intro Az Lz vz wy Kz Ez hB k
          have e51 : Az.eval (.tmp 51) = vz 14 := Ez.dep 14 51 (by kernel_rfl) rfl
          refine wpo_call (run_callW (fun _ _ => by kernel_rfl)) (R := fun ez w' => ez = .returned (.agg #[.int .i64 P, .int .i64 Q, .int .i64 R, .int .i64 S]) ∧ Below wy.heap.size wy w') ?_ ?_
          · simp only [List.map_toArray, List.map_cons, List.map_nil, eval_const, e51]
            exact HuP.out wy _ (hB.2.2 14 (by decide) (Ez.had 14 (by kernel_rfl)))
          · rintro ez w' ⟨rfl, hb⟩
            exact ⟨_, rfl, k _ _ rfl ⟨bel_tr0 hB.1 hb, hB.2.1.later hb, (hB.2.2.later hb).other 15 _ (by decide)⟩⟩
        | 16, ho =>
          obtain rfl := Option.some.inj ho
          intro Az Lz vz wy Kz Ez hB k
          have e7 : Az.eval (.tmp 7) = .pointer (some ⟨q18, 0, none⟩) := Ez.out 7 (by kernel_rfl)
          have c3_0 := hB.2.1.cell 3 0 rfl rfl
          have c3_1 := hB.2.1.cell 3 1 rfl rfl
          have c3_2 := hB.2.1.cell 3 2 rfl rfl
          have c3_3 := hB.2.1.cell 3 3 rfl rfl
          exact wpo_val (v := .agg #[.int .i64 A, .int .i64 B, .int .i64 C, .int .i64 D]) (run_load e7 (by simp [go_sem, c3_0, c3_1, c3_2, c3_3])) (k _ _ rfl ⟨hB.1, hB.2.1, hB.2.2.other 16 _ (by decide)⟩)
        | 17, ho =>
          obtain rfl := Option.some.inj ho
          intro Az Lz vz wy Kz Ez hB k
          have e8 : Az.eval (.tmp 8) = .pointer (some ⟨q19, 0, none⟩) := Ez.out 8 (by kernel_rfl)
          have c2_0 := hB.2.1.cell 2 0 rfl rfl
          have c2_1 := hB.2.1.cell 2 1 rfl rfl
          have c2_2 := hB.2.1.cell 2 2 rfl rfl
          have c2_3 := hB.2.1.cell 2 3 rfl rfl
          exact wpo_val (v := .agg #[.int .i64 E, .int .i64 F, .int .i64 G, .int .i64 H]) (run_load e8 (by simp [go_sem, c2_0, c2_1, c2_2, c2_3])) (k _ _ rfl ⟨hB.1, hB.2.1, hB.2.2.other 17 _ (by decide)⟩)
        | 18, ho =>
          obtain rfl := Option.some.inj ho
          intro Az Lz vz wy Kz Ez hB k
          have e53 : Az.eval (.tmp 53) = .agg #[.int .i64 A, .int .i64 B, .int .i64 C, .int .i64 D] := Ez.dep 16 53 (by kernel_rfl) rfl
          have e54 : Az.eval (.tmp 54) = .agg #[.int .i64 E, .int .i64 F, .int .i64 G, .int .i64 H] := Ez.dep 17 54 (by kernel_rfl) rfl
          refine wpo_call (run_callW (fun _ _ => by kernel_rfl)) (R := fun ez w' => ez = .returned (.agg #[.int .i64 P, .int .i64 Q, .int .i64 R, .int .i64 S]) ∧ Below wy.heap.size wy w') ?_ ?_
          · simp only [List.map_toArray, List.map_cons, List.map_nil, eval_const, e53, e54]
            exact NA.out wy
          · rintro ez w' ⟨rfl, hb⟩
            exact ⟨_, rfl, k _ _ rfl ⟨bel_tr0 hB.1 hb, hB.2.1.later hb, (hB.2.2.later hb).other 18 _ (by decide)⟩⟩
        | 19, ho =>
          obtain rfl := Option.some.inj ho
          intro Az Lz vz wy Kz Ez hB k
          have e52 : Az.eval (.tmp 52) = .agg #[.int .i64 P, .int .i64 Q, .int .i64 R, .int .i64 S] := Ez.dep 15 52 (by kernel_rfl) rfl
          have e55 : Az.eval (.tmp 55) = .agg #[.int .i64 P, .int .i64 Q, .int .i64 R, .int .i64 S] := Ez.dep 18 55 (by kernel_rfl) rfl
          exact wpo_val (v := .bool false) (run_bin e52 e55 (by simp [go_sem]) (by exact QP.out wy)) (k _ _ rfl ⟨hB.1, hB.2.1, hB.2.2.other 19 _ (by decide)⟩)
        | 20, ho =>
          obtain rfl := Option.some.inj ho
          intro Az Lz vz wy Kz Ez hB k
          have e48 : Az.eval (.tmp 48) = .bool false := Ez.dep 11 48 (by kernel_rfl) rfl
          have e56 : Az.eval (.tmp 56) = .bool false := Ez.dep 19 56 (by kernel_rfl) rfl
          exact wpo_val (v := .bool false) (run_pickF e48 e56) (k _ _ rfl ⟨hB.1, hB.2.1, hB.2.2.other 20 _ (by decide)⟩)
        | 21, ho =>
          obtain rfl := Option.some.inj ho
          intro Az Lz vz wy Kz Ez hB k
          have e57 : Az.eval (.tmp 57) = .bool false := Ez.dep 20 57 (by kernel_rfl) rfl
          exact wpo_val (v := .bool false) (run_move e57) (k _ _ rfl ⟨hB.1, hB.2.1, hB.2.2.other 21 _ (by decide)⟩)
        | 22, ho =>
          obtain rfl := Option.some.inj ho
          intro Az Lz vz wy Kz Ez hB k
          have e9 : Az.eval (.tmp 9) = .pointer (some ⟨b1, 0, none⟩) := Ez.out 9 (by kernel_rfl)
          have c1_0 := hB.2.1.cell 1 0 rfl rfl
          exact wpo_val (v := .agg #[.slice a1 n1 c1]) (run_load e9 (by simp [go_sem, c1_0])) (k _ _ rfl ⟨hB.1, hB.2.1, hB.2.2.other 22 _ (by decide)⟩)
        | 23, ho =>
          obtain rfl := Option.some.inj ho
          intro Az Lz vz wy Kz Ez hB k
          have e10 : Az.eval (.tmp 10) = .pointer (some ⟨b2, 0, none⟩) := Ez.out 10 (by kernel_rfl)
          have c0_0 := hB.2.1.cell 0 0 rfl rfl
          exact wpo_val (v := .agg #[.slice a2 n2 c2]) (run_load e10 (by simp [go_sem, c0_0])) (k _ _ rfl ⟨hB.1, hB.2.1, hB.2.2.other 23 _ (by decide)⟩)
        | 24, ho =>
          obtain rfl := Option.some.inj ho
          intro Az Lz vz wy Kz Ez hB k
          have e59 : Az.eval (.tmp 59) = .agg #[.slice a1 n1 c1] := Ez.dep 22 59 (by kernel_rfl) rfl
          have e60 : Az.eval (.tmp 60) = .agg #[.slice a2 n2 c2] := Ez.dep 23 60 (by kernel_rfl) rfl
          refine wpo_call (run_callW (fun _ _ => by kernel_rfl)) (R := IsE (fun x y => orB (inQ (A, B, C, D) x y) (inQ (E, F, G, H) x y)) wy) ?_ ?_
          · simp only [List.map_toArray, List.map_cons, List.map_nil, eval_const, e59, e60]
            exact isr_or (IA.out wy hB.1) (IB.out wy hB.1)
          · rintro ez w' ⟨vr, rfl, hr, hb⟩
            exact ⟨_, rfl, k _ _ trivial ⟨bel_tr0 hB.1 hb, hB.2.1.later hb, (hB.2.2.later hb).add 24 _ hr⟩⟩
        | 25, ho =>
          obtain rfl := Option.some.inj ho
          intro Az Lz vz wy Kz Ez hB k
          have e61 : Az.eval (.tmp 61) = vz 24 := Ez.dep 24 61 (by kernel_rfl) rfl
          refine wpo_call (run_callW (fun _ _ => by kernel_rfl)) (R := fun ez w' => ez = .returned (.agg #[.int .i64 X, .int .i64 Y, .int .i64 Z, .int .i64 T]) ∧ Below wy.heap.size wy w') ?_ ?_
          · simp only [List.map_toArray, List.map_cons, List.map_nil, eval_const, e61]
            exact HuO.out wy _ (hB.2.2 24 (by decide) (Ez.had 24 (by kernel_rfl)))
          · rintro ez w' ⟨rfl, hb⟩
            exact ⟨_, rfl, k _ _ rfl ⟨bel_tr0 hB.1 hb, hB.2.1.later hb, (hB.2.2.later hb).other 25 _ (by decide)⟩⟩
        | 26, ho =>
          obtain rfl := Option.some.inj ho
          intro Az Lz vz wy Kz Ez hB k
          have e7 : Az.eval (.tmp 7) = .pointer (some ⟨q18, 0, none⟩) := Ez.out 7 (by kernel_rfl)
          have c3_0 := hB.2.1.cell 3 0 rfl rfl
          have c3_1 := hB.2.1.cell 3 1 rfl rfl
          have c3_2 := hB.2.1.cell 3 2 rfl rfl
          have c3_3 := hB.2.1.cell 3 3 rfl rfl
          exact wpo_val (v := .agg #[.int .i64 A, .int .i64 B, .int .i64 C, .int .i64 D]) (run_load e7 (by simp [go_sem, c3_0, c3_1, c3_2, c3_3])) (k _ _ rfl ⟨hB.1, hB.2.1, hB.2.2.other 26 _ (by decide)⟩)
        | 27, ho =>
          obtain rfl := Option.some.inj ho
          intro Az Lz vz wy Kz Ez hB k
          have e8 : Az.eval (.tmp 8) = .pointer (some ⟨q19, 0, none⟩) := Ez.out 8 (by kernel_rfl)
          have c2_0 := hB.2.1.cell 2 0 rfl rfl
          have c2_1 := hB.2.1.cell 2 1 rfl rfl
          have c2_2 := hB.2.1.cell 2 2 rfl rfl
          have c2_3 := hB.2.1.cell 2 3 rfl rfl
          exact wpo_val (v := .agg #[.int .i64 E, .int .i64 F, .int .i64 G, .int .i64 H]) (run_load e8 (by simp [go_sem, c2_0, c2_1, c2_2, c2_3])) (k _ _ rfl ⟨hB.1, hB.2.1, hB.2.2.other 27 _ (by decide)⟩)
        | 28, ho =>
          obtain rfl := Option.some.inj ho
          intro Az Lz vz wy Kz Ez hB k
          have e63 : Az.eval (.tmp 63) = .agg #[.int .i64 A, .int .i64 B, .int .i64 C, .int .i64 D] := Ez.dep 26 63 (by kernel_rfl) rfl
          have e64 : Az.eval (.tmp 64) = .agg #[.int .i64 E, .int .i64 F, .int .i64 G, .int .i64 H] := Ez.dep 27 64 (by kernel_rfl) rfl
          refine wpo_call (run_callW (fun _ _ => by kernel_rfl)) (R := fun ez w' => ez = .returned (.agg #[.int .i64 X, .int .i64 Y, .int .i64 Z, .int .i64 T]) ∧ Below wy.heap.size wy w') ?_ ?_
          · simp only [List.map_toArray, List.map_cons, List.map_nil, eval_const, e63, e64]
            exact NH.out wy
          · rintro ez w' ⟨rfl, hb⟩
            exact ⟨_, rfl, k _ _ rfl ⟨bel_tr0 hB.1 hb, hB.2.1.later hb, (hB.2.2.later hb).other 28 _ (by decide)⟩⟩
        | 29, ho =>
          obtain rfl := Option.some.inj ho
          intro Az Lz vz wy Kz Ez hB k
          have e62 : Az.eval (.tmp 62) = .agg #[.int .i64 X, .int .i64 Y, .int .i64 Z, .int .i64 T] := Ez.dep 25 62 (by kernel_rfl) rfl
          have e65 : Az.eval (.tmp 65) = .agg #[.int .i64 X, .int .i64 Y, .int .i64 Z, .int .i64 T] := Ez.dep 28 65 (by kernel_rfl) rfl
          exact wpo_val (v := .bool false) (run_bin e62 e65 (by simp [go_sem]) (by exact QX.out wy)) (k _ _ rfl ⟨hB.1, hB.2.1, hB.2.2.other 29 _ (by decide)⟩)
        | 30, ho =>
          obtain rfl := Option.some.inj ho
          intro Az Lz vz wy Kz Ez hB k
          have e58 : Az.eval (.tmp 58) = .bool false := Ez.dep 21 58 (by kernel_rfl) rfl
          have e66 : Az.eval (.tmp 66) = .bool false := Ez.dep 29 66 (by kernel_rfl) rfl
          exact wpo_val (v := .bool false) (run_pickF e58 e66) (k _ _ rfl ⟨hB.1, hB.2.1, hB.2.2.other 30 _ (by decide)⟩)
        | 31, ho =>
          obtain rfl := Option.some.inj ho
          intro Az Lz vz wy Kz Ez hB k
          have e67 : Az.eval (.tmp 67) = .bool false := Ez.dep 30 67 (by kernel_rfl) rfl
          exact wpo_val (v := .bool false) (run_move e67) (k _ _ rfl ⟨hB.1, hB.2.1, hB.2.2.other 31 _ (by decide)⟩)
        | 32, ho =>
          obtain rfl := Option.some.inj ho
          intro Az Lz vz wy Kz Ez hB k
          have e9 : Az.eval (.tmp 9) = .pointer (some ⟨b1, 0, none⟩) := Ez.out 9 (by kernel_rfl)
          have c1_0 := hB.2.1.cell 1 0 rfl rfl
          exact wpo_val (v := .agg #[.slice a1 n1 c1]) (run_load e9 (by simp [go_sem, c1_0])) (k _ _ rfl ⟨hB.1, hB.2.1, hB.2.2.other 32 _ (by decide)⟩)
        | 33, ho =>
          obtain rfl := Option.some.inj ho
          intro Az Lz vz wy Kz Ez hB k
          have e5 : Az.eval (.tmp 5) = .pointer (some ⟨w.heap.size + 1 + 1, 0, none⟩) := Ez.out 5 (by kernel_rfl)
          exact wpo_val (v := .pointer (some ⟨w.heap.size + 1 + 1, 0, none⟩)) (run_index e5 rfl (by simp [go_sem])) (k _ _ rfl ⟨hB.1, hB.2.1, hB.2.2.other 33 _ (by decide)⟩)
        | 34, ho =>
          obtain rfl := Option.some.inj ho
          intro Az Lz vz wy Kz Ez hB k
          have e70 : Az.eval (.tmp 70) = .pointer (some ⟨w.heap.size + 1 + 1, 0, none⟩) := Ez.dep 33 70 (by kernel_rfl) rfl
          have c4_0 := hB.2.1.cell 4 0 rfl rfl
          exact wpo_val (v := .int .i64 d0) (run_load e70 (by simp [go_sem, c4_0])) (k _ _ rfl ⟨hB.1, hB.2.1, hB.2.2.other 34 _ (by decide)⟩)
        | 35, ho =>
          obtain rfl := Option.some.inj ho
          intro Az Lz vz wy Kz Ez hB k
          have e5 : Az.eval (.tmp 5) = .pointer (some ⟨w.heap.size + 1 + 1, 0, none⟩) := Ez.out 5 (by kernel_rfl)
          exact wpo_val (v := .pointer (some ⟨w.heap.size + 1 + 1, 1, none⟩)) (run_index e5 rfl (by simp [go_sem])) (k _ _ rfl ⟨hB.1, hB.2.1, hB.2.2.other 35 _ (by decide)⟩)
        | 36, ho =>
          obtain rfl := Option.some.inj ho
          intro Az Lz vz wy Kz Ez hB k
          have e72 : Az.eval (.tmp 72) = .pointer (some ⟨w.heap.size + 1 + 1, 1, none⟩) := Ez.dep 35 72 (by kernel_rfl) rfl
          have c4_1 := hB.2.1.cell 4 1 rfl rfl
          exact wpo_val (v := .int .i64 d1) (run_load e72 (by simp [go_sem, c4_1])) (k _ _ rfl ⟨hB.1, hB.2.1, hB.2.2.other 36 _ (by decide)⟩)
        | 37, ho =>
          obtain rfl := Option.some.inj ho
          intro Az Lz vz wy Kz Ez hB k
          have e69 : Az.eval (.tmp 69) = .agg #[.slice a1 n1 c1] := Ez.dep 32 69 (by kernel_rfl) rfl
          have e71 : Az.eval (.tmp 71) = .int .i64 d0 := Ez.dep 34 71 (by kernel_rfl) rfl
          have e73 : Az.eval (.tmp 73) = .int .i64 d1 := Ez.dep 36 73 (by kernel_rfl) rfl
          refine wpo_call (run_callW (fun _ _ => by kernel_rfl)) (R := IsE (inQ (J, K, M, O)) wy) ?_ ?_
          · simp only [List.map_toArray, List.map_cons, List.map_nil, eval_const, e69, e71, e73]
            exact isE_congr (isr_move (IA.out wy hB.1) (edge_rect _) (by simp) K0.out K1.out) MVS.out
          · rintro ez w' ⟨vr, rfl, hr, hb⟩
            exact ⟨_, rfl, k _ _ trivial ⟨bel_tr0 hB.1 hb, hB.2.1.later hb, (hB.2.2.later hb).add 37 _ hr⟩⟩
        | 38, ho =>
          obtain rfl := Option.some.inj ho
          intro Az Lz vz wy Kz Ez hB k
          have e74 : Az.eval (.tmp 74) = vz 37 := Ez.dep 37 74 (by kernel_rfl) rfl
          refine wpo_call (run_callW (fun _ _ => by kernel_rfl)) (R := fun ez w' => ez = .returned (.agg #[.int .i64 J, .int .i64 K, .int .i64 M, .int .i64 O]) ∧ Below wy.heap.size wy w') ?_ ?_
          · simp only [List.map_toArray, List.map_cons, List.map_nil, eval_const, e74]
            exact HuM.out wy _ (hB.2.2 37 (by decide) (Ez.had 37 (by kernel_rfl)))
          · rintro ez w' ⟨rfl, hb⟩
            exact ⟨_, rfl, k _ _ rfl ⟨bel_tr0 hB.1 hb, hB.2.1.later hb, (hB.2.2.later hb).other 38 _ (by decide)⟩⟩
        | 39, ho =>
          obtain rfl := Option.some.inj ho
          intro Az Lz vz wy Kz Ez hB k
          have e7 : Az.eval (.tmp 7) = .pointer (some ⟨q18, 0, none⟩) := Ez.out 7 (by kernel_rfl)
          have c3_0 := hB.2.1.cell 3 0 rfl rfl
          have c3_1 := hB.2.1.cell 3 1 rfl rfl
          have c3_2 := hB.2.1.cell 3 2 rfl rfl
          have c3_3 := hB.2.1.cell 3 3 rfl rfl
          exact wpo_val (v := .agg #[.int .i64 A, .int .i64 B, .int .i64 C, .int .i64 D]) (run_load e7 (by simp [go_sem, c3_0, c3_1, c3_2, c3_3])) (k _ _ rfl ⟨hB.1, hB.2.1, hB.2.2.other 39 _ (by decide)⟩)
        | 40, ho =>
          obtain rfl := Option.some.inj ho
          intro Az Lz vz wy Kz Ez hB k
          have e5 : Az.eval (.tmp 5) = .pointer (some ⟨w.heap.size + 1 + 1, 0, none⟩) := Ez.out 5 (by kernel_rfl)
          exact wpo_val (v := .pointer (some ⟨w.heap.size + 1 + 1, 0, none⟩)) (run_index e5 rfl (by simp [go_sem])) (k _ _ rfl ⟨hB.1, hB.2.1, hB.2.2.other 40 _ (by decide)⟩)
        | 41, ho =>
          obtain rfl := Option.some.inj ho
          intro Az Lz vz wy Kz Ez hB k
          have e77 : Az.eval (.tmp 77) = .pointer (some ⟨w.heap.size + 1 + 1, 0, none⟩) := Ez.dep 40 77 (by kernel_rfl) rfl
          have c4_0 := hB.2.1.cell 4 0 rfl rfl
          exact wpo_val (v := .int .i64 d0) (run_load e77 (by simp [go_sem, c4_0])) (k _ _ rfl ⟨hB.1, hB.2.1, hB.2.2.other 41 _ (by decide)⟩)
        | 42, ho =>
          obtain rfl := Option.some.inj ho
          intro Az Lz vz wy Kz Ez hB k
          have e5 : Az.eval (.tmp 5) = .pointer (some ⟨w.heap.size + 1 + 1, 0, none⟩) := Ez.out 5 (by kernel_rfl)
          exact wpo_val (v := .pointer (some ⟨w.heap.size + 1 + 1, 1, none⟩)) (run_index e5 rfl (by simp [go_sem])) (k _ _ rfl ⟨hB.1, hB.2.1, hB.2.2.other 42 _ (by decide)⟩)
        | 43, ho =>
          obtain rfl := Option.some.inj ho
          intro Az Lz vz wy Kz Ez hB k
          have e79 : Az.eval (.tmp 79) = .pointer (some ⟨w.heap.size + 1 + 1, 1, none⟩) := Ez.dep 42 79 (by kernel_rfl) rfl
          have c4_1 := hB.2.1.cell 4 1 rfl rfl
          exact wpo_val (v := .int .i64 d1) (run_load e79 (by simp [go_sem, c4_1])) (k _ _ rfl ⟨hB.1, hB.2.1, hB.2.2.other 43 _ (by decide)⟩)
        | 44, ho =>
          obtain rfl := Option.some.inj ho
          intro Az Lz vz wy Kz Ez hB k
          have e76 : Az.eval (.tmp 76) = .agg #[.int .i64 A, .int .i64 B, .int .i64 C, .int .i64 D] := Ez.dep 39 76 (by kernel_rfl) rfl
          have e78 : Az.eval (.tmp 78) = .int .i64 d0 := Ez.dep 41 78 (by kernel_rfl) rfl
          have e80 : Az.eval (.tmp 80) = .int .i64 d1 := Ez.dep 43 80 (by kernel_rfl) rfl
          refine wpo_call (run_callW (fun _ _ => by kernel_rfl)) (R := fun ez w' => ez = .returned (.agg #[.int .i64 J, .int .i64 K, .int .i64 M, .int .i64 O]) ∧ Below wy.heap.size wy w') ?_ ?_
          · simp only [List.map_toArray, List.map_cons, List.map_nil, eval_const, e76, e78, e80]
            exact NM.out wy
          · rintro ez w' ⟨rfl, hb⟩
            exact ⟨_, rfl, k _ _ rfl ⟨bel_tr0 hB.1 hb, hB.2.1.later hb, (hB.2.2.later hb).other 44 _ (by decide)⟩⟩
        | 45, ho =>
          obtain rfl := Option.some.inj ho
          intro Az Lz vz wy Kz Ez hB k
          have e75 : Az.eval (.tmp 75) = .agg #[.int .i64 J, .int .i64 K, .int .i64 M, .int .i64 O] := Ez.dep 38 75 (by kernel_rfl) rfl
          have e81 : Az.eval (.tmp 81) = .agg #[.int .i64 J, .int .i64 K, .int .i64 M, .int .i64 O] := Ez.dep 44 81 (by kernel_rfl) rfl
          exact wpo_val (v := .bool false) (run_bin e75 e81 (by simp [go_sem]) (by exact QM.out wy)) (k _ _ rfl ⟨hB.1, hB.2.1, hB.2.2.other 45 _ (by decide)⟩)
        | 46, ho =>
          obtain rfl := Option.some.inj ho
          intro Az Lz vz wy Kz Ez hB k
          have e68 : Az.eval (.tmp 68) = .bool false := Ez.dep 31 68 (by kernel_rfl) rfl
          have e82 : Az.eval (.tmp 82) = .bool false := Ez.dep 45 82 (by kernel_rfl) rfl
          exact wpo_val (v := .bool false) (run_pickF e68 e82) (k _ _ rfl ⟨hB.1, hB.2.1, hB.2.2.other 46 _ (by decide)⟩)
        | n + 47, ho => simp at ho
      · obtain ⟨hk, hT, hR⟩ := hB
        have KB := Lib.hid hk
        have KT := Lib.hid hT
        clear hk hT hL
        simp only [puts2, mix, Act.put, List.setIfInBounds_toArray, List.set_cons_zero, List.set_cons_succ, Nat.zero_add, Nat.reduceAdd, List.getElem?_cons_zero, List.getElem?_cons_succ]
        go_wp2_with fail
        refine wp_region_vals [some (.agg #[.slice a1 n1 c1]), some (.agg #[.slice a2 n2 c2]), none, some (.int .i64 so), some (.agg #[.int .i64 A, .int .i64 B, .int .i64 C, .int .i64 D]), some (.int .i64 sa), some (.agg #[.int .i64 E, .int .i64 F, .int .i64 G, .int .i64 H]), some (.int .i64 se), some (.int .i64 z1), some (.agg #[.int .i64 A, .int .i64 B, .int .i64 C, .int .i64 D]), some (.agg #[.int .i64 E, .int .i64 F, .int .i64 G, .int .i64 H]), some (.agg #[.int .i64 P, .int .i64 Q, .int .i64 R, .int .i64 S]), some (.int .i64 sp), some (.int .i64 so), some (.bool true), some (.bool true), some (.agg #[.slice a1 n1 c1]), some (.pointer (some ⟨w.heap.size, 0, none⟩)), some (.int .i64 l0), some (.pointer (some ⟨w.heap.size, 1, none⟩)), some (.int .i64 l1), some (.bool hb), some (.agg #[.int .i64 A, .int .i64 B, .int .i64 C, .int .i64 D]), some (.pointer (some ⟨w.heap.size, 0, none⟩)), some (.int .i64 l0), some (.pointer (some ⟨w.heap.size, 1, none⟩)), some (.int .i64 l1), some (.bool hb), some (.bool true), some (.bool true), some (.bool true), some (.agg #[.slice a1 n1 c1]), some (.agg #[.slice a1 n1 c1]), none, some (.int .i64 0), some (.bool true), some (.bool true), some (.bool true)] (fun Lz vz wy => Below wr4.heap.size wr4 wy ∧ Tab wy [(b2, [.slice a2 n2 c2]), (b1, [.slice a1 n1 c1]), (q19, [.int .i64 E, .int .i64 F, .int .i64 G, .int .i64 H]), (q18, [.int .i64 A, .int .i64 B, .int .i64 C, .int .i64 D]), (w.heap.size + 1 + 1, [.int .i64 d0, .int .i64 d1]), (w.heap.size + 1, [.int .i64 m0, .int .i64 m1, .int .i64 m2, .int .i64 m3]), (w.heap.size, [.int .i64 l0, .int .i64 l1, .int .i64 l2, .int .i64 l3])] ∧ Rgs [2, 33] (fun i => if i = 2 then fun x y => orB (inQ (A, B, C, D) x y) (inQ (E, F, G, H) x y) else if i = 33 then fun _ _ => false else fun _ _ => false) Lz vz wy)
          [some 84, some 85, some 86, some 87, some 88, some 89, some 90, some 91, some 92, some 93, some 94, some 95, some 96, some 97, some 98, some 99, some 100, some 101, some 102, some 103, some 104, some 105, some 106, some 107, some 108, some 109, some 110, some 111, some 112, some 113, some 114, some 115, some 116, some 117, some 118, some 119, some 120, some 6] (by kernel_rfl) (by kernel_rfl) (by kernel_rfl) (by kernel_rfl) (by kernel_rfl) (by kernel_rfl) ⟨KB.out.drew, KT.out.later ((Below.refl _ _).drew), Rgs.start _ _ _ _⟩ (fun i o ho => ?_) (fun Lz vz wz hL hB => ?_)
        · match i, ho with
          | 0, ho =>
            obtain rfl := Option.some.inj ho
            intro Az Lz vz wy Kz Ez hB k
            have e9 : Az.eval (.tmp 9) = .pointer (some ⟨b1, 0, none⟩) := Ez.out 9 (by kernel_rfl)
            have c1_0 := hB.2.1.cell 1 0 rfl rfl
            exact wpo_val (v := .agg #[.slice a1 n1 c1]) (run_load e9 (by simp [go_sem, c1_0])) (k _ _ rfl ⟨hB.1, hB.2.1, hB.2.2.other 0 _ (by decide)⟩)
          | 1, ho =>
            obtain rfl := Option.some.inj ho
            intro Az Lz vz wy Kz Ez hB k
            have e10 : Az.eval (.tmp 10) = .pointer (some ⟨b2, 0, none⟩) := Ez.out 10 (by kernel_rfl)
            have c0_0 := hB.2.1.cell 0 0 rfl rfl
            exact wpo_val (v := .agg #[.slice a2 n2 c2]) (run_load e10 (by simp [go_sem, c0_0])) (k _ _ rfl ⟨hB.1, hB.2.1, hB.2.2.other 1 _ (by decide)⟩)
          | 2, ho =>
            obtain rfl := Option.some.inj ho
            intro Az Lz vz wy Kz Ez hB k
            have e84 : Az.eval (.tmp 84) = .agg #[.slice a1 n1 c1] := Ez.dep 0 84 (by kernel_rfl) rfl
            have e85 : Az.eval (.tmp 85) = .agg #[.slice a2 n2 c2] := Ez.dep 1 85 (by kernel_rfl) rfl
            refine wpo_call (run_callW (fun _ _ => by kernel_rfl)) (R := IsE (fun x y => orB (inQ (A, B, C, D) x y) (inQ (E, F, G, H) x y)) wy) ?_ ?_
            · simp only [List.map_toArray, List.map_cons, List.map_nil, eval_const, e84, e85]
              exact isr_or (IA.out wy hB.1) (IB.out wy hB.1)
            · rintro ez w' ⟨vr, rfl, hr, hb⟩
              exact ⟨_, rfl, k _ _ trivial ⟨bel_tr0 hB.1 hb, hB.2.1.later hb, (hB.2.2.later hb).add 2 _ hr⟩⟩
          | 3, ho =>
            obtain rfl := Option.some.inj ho
            intro Az Lz vz wy Kz Ez hB k
            have e86 : Az.eval (.tmp 86) = vz 2 := Ez.dep 2 86 (by kernel_rfl) rfl
            refine wpo_call (run_callW (fun _ _ => by kernel_rfl)) (R := fun ez w' => ez = .returned (.int .i64 so) ∧ Below wy.heap.size wy w') ?_ ?_
            · simp only [List.map_toArray, List.map_cons, List.map_nil, eval_const, e86]
              exact ArO.out wy _ (hB.2.2 2 (by decide) (Ez.had 2 (by kernel_rfl)))
            · rintro ez w' ⟨rfl, hb⟩
              exact ⟨_, rfl, k _ _ rfl ⟨bel_tr0 hB.1 hb, hB.2.1.later hb, (hB.2.2.later hb).other 3 _ (by decide)⟩⟩
          | 4, ho =>
            obtain rfl := Option.some.inj ho
            intro Az Lz vz wy Kz Ez hB k
            have e7 : Az.eval (.tmp 7) = .pointer (some ⟨q18, 0, none⟩) := Ez.out 7 (by kernel_rfl)
            have c3_0 := hB.2.1.cell 3 0 rfl rfl
            have c3_1 := hB.2.1.cell 3 1 rfl rfl
            have c3_2 := hB.2.1.cell 3 2 rfl rfl
            have c3_3 := hB.2.1.cell 3 3 rfl rfl
            exact wpo_val (v := .agg #[.int .i64 A, .int .i64 B, .int .i64 C, .int .i64 D]) (run_load e7 (by simp [go_sem, c3_0, c3_1, c3_2, c3_3])) (k _ _ rfl ⟨hB.1, hB.2.1, hB.2.2.other 4 _ (by decide)⟩)
          | 5, ho =>
            obtain rfl := Option.some.inj ho
            intro Az Lz vz wy Kz Ez hB k
            have e88 : Az.eval (.tmp 88) = .agg #[.int .i64 A, .int .i64 B, .int .i64 C, .int .i64 D] := Ez.dep 4 88 (by kernel_rfl) rfl
            refine wpo_call (run_callW (fun _ _ => by kernel_rfl)) (R := fun ez w' => ez = .returned (.int .i64 sa) ∧ Below wy.heap.size wy w') ?_ ?_
            · simp only [List.map_toArray, List.map_cons, List.map_nil, eval_const, e88]
              exact AA.out wy
            · rintro ez w' ⟨rfl, hb⟩
              exact ⟨_, rfl, k _ _ rfl ⟨bel_tr0 hB.1 hb, hB.2.1.later hb, (hB.2.2.later hb).other 5 _ (by decide)⟩⟩
          | 6, ho =>
            obtain rfl := Option.some.inj ho
            intro Az Lz vz wy Kz Ez hB k
            have e8 : Az.eval (.tmp 8) = .pointer (some ⟨q19, 0, none⟩) := Ez.out 8 (by kernel_rfl)
            have c2_0 := hB.2.1.cell 2 0 rfl rfl
            have c2_1 := hB.2.1.cell 2 1 rfl rfl
            have c2_2 := hB.2.1.cell 2 2 rfl rfl
            have c2_3 := hB.2.1.cell 2 3 rfl rfl
            exact wpo_val (v := .agg #[.int .i64 E, .int .i64 F, .int .i64 G, .int .i64 H]) (run_load e8 (by simp [go_sem, c2_0, c2_1, c2_2, c2_3])) (k _ _ rfl ⟨hB.1, hB.2.1, hB.2.2.other 6 _ (by decide)⟩)
          | 7, ho =>
            obtain rfl := Option.some.inj ho
            intro Az Lz vz wy Kz Ez hB k
            have e90 : Az.eval (.tmp 90) = .agg #[.int .i64 E, .int .i64 F, .int .i64 G, .int .i64 H] := Ez.dep 6 90 (by kernel_rfl) rfl
            refine wpo_call (run_callW (fun _ _ => by kernel_rfl)) (R := fun ez w' => ez = .returned (.int .i64 se) ∧ Below wy.heap.size wy w') ?_ ?_
            · simp only [List.map_toArray, List.map_cons, List.map_nil, eval_const, e90]
              exact AE.out wy
            · rintro ez w' ⟨rfl, hb⟩
              exact ⟨_, rfl, k _ _ rfl ⟨bel_tr0 hB.1 hb, hB.2.1.later hb, (hB.2.2.later hb).other 7 _ (by decide)⟩⟩
          | 8, ho =>
            obtain rfl := Option.some.inj ho
            intro Az Lz vz wy Kz Ez hB k
            have e89 : Az.eval (.tmp 89) = .int .i64 sa := Ez.dep 5 89 (by kernel_rfl) rfl
            have e91 : Az.eval (.tmp 91) = .int .i64 se := Ez.dep 7 91 (by kernel_rfl) rfl
            exact wpo_val (v := .int .i64 z1) (run_bin e89 e91 (by simp [go_sem]) (by simp [go_sem, hz, hz'])) (k _ _ rfl ⟨hB.1, hB.2.1, hB.2.2.other 8 _ (by decide)⟩)
          | 9, ho =>
            obtain rfl := Option.some.inj ho
            intro Az Lz vz wy Kz Ez hB k
            have e7 : Az.eval (.tmp 7) = .pointer (some ⟨q18, 0, none⟩) := Ez.out 7 (by kernel_rfl)
            have c3_0 := hB.2.1.cell 3 0 rfl rfl
            have c3_1 := hB.2.1.cell 3 1 rfl rfl
            have c3_2 := hB.2.1.cell 3 2 rfl rfl
            have c3_3 := hB.2.1.cell 3 3 rfl rfl
            exact wpo_val (v := .agg #[.int .i64 A, .int .i64 B, .int .i64 C, .int .i64 D]) (run_load e7 (by simp [go_sem, c3_0, c3_1, c3_2, c3_3])) (k _ _ rfl ⟨hB.1, hB.2.1, hB.2.2.other 9 _ (by decide)⟩)
          | 10, ho =>
            obtain rfl := Option.some.inj ho
            intro Az Lz vz wy Kz Ez hB k
            have e8 : Az.eval (.tmp 8) = .pointer (some ⟨q19, 0, none⟩) := Ez.out 8 (by kernel_rfl)
            have c2_0 := hB.2.1.cell 2 0 rfl rfl
            have c2_1 := hB.2.1.cell 2 1 rfl rfl
            have c2_2 := hB.2.1.cell 2 2 rfl rfl
            have c2_3 := hB.2.1.cell 2 3 rfl rfl
            exact wpo_val (v := .agg #[.int .i64 E, .int .i64 F, .int .i64 G, .int .i64 H]) (run_load e8 (by simp [go_sem, c2_0, c2_1, c2_2, c2_3])) (k _ _ rfl ⟨hB.1, hB.2.1, hB.2.2.other 10 _ (by decide)⟩)
          | 11, ho =>
            obtain rfl := Option.some.inj ho
            intro Az Lz vz wy Kz Ez hB k
            have e93 : Az.eval (.tmp 93) = .agg #[.int .i64 A, .int .i64 B, .int .i64 C, .int .i64 D] := Ez.dep 9 93 (by kernel_rfl) rfl
            have e94 : Az.eval (.tmp 94) = .agg #[.int .i64 E, .int .i64 F, .int .i64 G, .int .i64 H] := Ez.dep 10 94 (by kernel_rfl) rfl
            refine wpo_call (run_callW (fun _ _ => by kernel_rfl)) (R := fun ez w' => ez = .returned (.agg #[.int .i64 P, .int .i64 Q, .int .i64 R, .int .i64 S]) ∧ Below wy.heap.size wy w') ?_ ?_
            · simp only [List.map_toArray, List.map_cons, List.map_nil, eval_const, e93, e94]
              exact NA.out wy
            · rintro ez w' ⟨rfl, hb⟩
              exact ⟨_, rfl, k _ _ rfl ⟨bel_tr0 hB.1 hb, hB.2.1.later hb, (hB.2.2.later hb).other 11 _ (by decide)⟩⟩
          | 12, ho =>
            obtain rfl := Option.some.inj ho
            intro Az Lz vz wy Kz Ez hB k
            have e95 : Az.eval (.tmp 95) = .agg #[.int .i64 P, .int .i64 Q, .int .i64 R, .int .i64 S] := Ez.dep 11 95 (by kernel_rfl) rfl
            refine wpo_call (run_callW (fun _ _ => by kernel_rfl)) (R := fun ez w' => ez = .returned (.int .i64 sp) ∧ Below wy.heap.size wy w') ?_ ?_
            · simp only [List.map_toArray, List.map_cons, List.map_nil, eval_const, e95]
              exact AP.out wy
            · rintro ez w' ⟨rfl, hb⟩
              exact ⟨_, rfl, k _ _ rfl ⟨bel_tr0 hB.1 hb, hB.2.1.later hb, (hB.2.2.later hb).other 12 _ (by decide)⟩⟩
          | 13, ho =>
            obtain rfl := Option.some.inj ho
            intro Az Lz vz wy Kz Ez hB k
            have e92 : Az.eval (.tmp 92) = .int .i64 z1 := Ez.dep 8 92 (by kernel_rfl) rfl
            have e96 : Az.eval (.tmp 96) = .int .i64 sp := Ez.dep 12 96 (by kernel_rfl) rfl
            exact wpo_val (v := .int .i64 so) (run_bin e92 e96 (by simp [go_sem]) (by simp [go_sem, hz2, hz2'])) (k _ _ rfl ⟨hB.1, hB.2.1, hB.2.2.other 13 _ (by decide)⟩)
          | 14, ho =>
            obtain rfl := Option.some.inj ho
            intro Az Lz vz wy Kz Ez hB k
            have e87 : Az.eval (.tmp 87) = .int .i64 so := Ez.dep 3 87 (by kernel_rfl) rfl
            have e97 : Az.eval (.tmp 97) = .int .i64 so := Ez.dep 13 97 (by kernel_rfl) rfl
            exact wpo_val (v := .bool true) (run_bin e87 e97 (by simp [go_sem]) (by simp [go_sem])) (k _ _ rfl ⟨hB.1, hB.2.1, hB.2.2.other 14 _ (by decide)⟩)
          | 15, ho =>
            obtain rfl := Option.some.inj ho
            intro Az Lz vz wy Kz Ez hB k
            have e98 : Az.eval (.tmp 98) = .bool true := Ez.dep 14 98 (by kernel_rfl) rfl
            exact wpo_val (v := .bool true) (run_move e98) (k _ _ rfl ⟨hB.1, hB.2.1, hB.2.2.other 15 _ (by decide)⟩)
          | 16, ho =>
            obtain rfl := Option.some.inj ho
            intro Az Lz vz wy Kz Ez hB k
            have e9 : Az.eval (.tmp 9) = .pointer (some ⟨b1, 0, none⟩) := Ez.out 9 (by kernel_rfl)
            have c1_0 := hB.2.1.cell 1 0 rfl rfl
            exact wpo_val (v := .agg #[.slice a1 n1 c1]) (run_load e9 (by simp [go_sem, c1_0])) (k _ _ rfl ⟨hB.1, hB.2.1, hB.2.2.other 16 _ (by decide)⟩)
          | 17, ho =>
            obtain rfl := Option.some.inj ho
            intro Az Lz vz wy Kz Ez hB k
            have e3 : Az.eval (.tmp 3) = .pointer (some ⟨w.heap.size, 0, none⟩) := Ez.out 3 (by kernel_rfl)
            exact wpo_val (v := .pointer (some ⟨w.heap.size, 0, none⟩)) (run_index e3 rfl (by simp [go_sem])) (k _ _ rfl ⟨hB.1, hB.2.1, hB.2.2.other 17 _ (by decide)⟩)
          | 18, ho =>
            obtain rfl := Option.some.inj ho
            intro Az Lz vz wy Kz Ez hB k
            have e101 : Az.eval (.tmp 101) = .pointer (some ⟨w.heap.size, 0, none⟩) := Ez.dep 17 101 (by kernel_rfl) rfl
            have c6_0 := hB.2.1.cell 6 0 rfl rfl
            exact wpo_val (v := .int .i64 l0) (run_load e101 (by simp [go_sem, c6_0])) (k _ _ rfl ⟨hB.1, hB.2.1, hB.2.2.other 18 _ (by decide)⟩)
          | 19, ho =>
            obtain rfl := Option.some.inj ho
            intro Az Lz vz wy Kz Ez hB k
            have e3 : Az.eval (.tmp 3) = .pointer (some ⟨w.heap.size, 0, none⟩) := Ez.out 3 (by kernel_rfl)
            exact wpo_val (v := .pointer (some ⟨w.heap.size, 1, none⟩)) (run_index e3 rfl (by simp [go_sem])) (k _ _ rfl ⟨hB.1, hB.2.1, hB.2.2.other 19 _ (by decide)⟩)
          | 20, ho =>
            obtain rfl := Option.some.inj ho
            intro Az Lz vz wy Kz Ez hB k
            have e103 : Az.eval (.tmp 103) = .pointer (some ⟨w.heap.size, 1, none⟩) := Ez.dep 19 103 (by kernel_rfl) rfl
            have c6_1 := hB.2.1.cell 6 1 rfl rfl
            exact wpo_val (v := .int .i64 l1) (run_load e103 (by simp [go_sem, c6_1])) (k _ _ rfl ⟨hB.1, hB.2.1, hB.2.2.other 20 _ (by decide)⟩)
          | 21, ho =>
            obtain rfl := Option.some.inj ho
            intro Az Lz vz wy Kz Ez hB k
            have e100 : Az.eval (.tmp 100) = .agg #[.slice a1 n1 c1] := Ez.dep 16 100 (by kernel_rfl) rfl
            have e102 : Az.eval (.tmp 102) = .int .i64 l0 := Ez.dep 18 102 (by kernel_rfl) rfl
            have e104 : Az.eval (.tmp 104) = .int .i64 l1 := Ez.dep 20 104 (by kernel_rfl) rfl
            refine wpo_call (run_callW (fun _ _ => by kernel_rfl)) (R := fun ez w' => ez = .returned (.bool hb) ∧ Below wy.heap.size wy w') ?_ ?_
            · simp only [List.map_toArray, List.map_cons, List.map_nil, eval_const, e100, e102, e104]
              exact HaA.out wy hB.1
            · rintro ez w' ⟨rfl, hb⟩
              exact ⟨_, rfl, k _ _ rfl ⟨bel_tr0 hB.1 hb, hB.2.1.later hb, (hB.2.2.later hb).other 21 _ (by decide)⟩⟩
          | 22, ho =>
            obtain rfl := Option.some.inj ho
            intro Az Lz vz wy Kz Ez hB k
            have e7 : Az.eval (.tmp 7) = .pointer (some ⟨q18, 0, none⟩) := Ez.out 7 (by kernel_rfl)
            have c3_0 := hB.2.1.cell 3 0 rfl rfl
            have c3_1 := hB.2.1.cell 3 1 rfl rfl
            have c3_2 := hB.2.1.cell 3 2 rfl rfl
            have c3_3 := hB.2.1.cell 3 3 rfl rfl
            exact wpo_val (v := .agg #[.int .i64 A, .int .i64 B, .int .i64 C, .int .i64 D]) (run_load e7 (by simp [go_sem, c3_0, c3_1, c3_2, c3_3])) (k _ _ rfl ⟨hB.1, hB.2.1, hB.2.2.other 22 _ (by decide)⟩)
          | 23, ho =>
            obtain rfl := Option.some.inj ho
            intro Az Lz vz wy Kz Ez hB k
            have e3 : Az.eval (.tmp 3) = .pointer (some ⟨w.heap.size, 0, none⟩) := Ez.out 3 (by kernel_rfl)
            exact wpo_val (v := .pointer (some ⟨w.heap.size, 0, none⟩)) (run_index e3 rfl (by simp [go_sem])) (k _ _ rfl ⟨hB.1, hB.2.1, hB.2.2.other 23 _ (by decide)⟩)
          | 24, ho =>
            obtain rfl := Option.some.inj ho
            intro Az Lz vz wy Kz Ez hB k
            have e107 : Az.eval (.tmp 107) = .pointer (some ⟨w.heap.size, 0, none⟩) := Ez.dep 23 107 (by kernel_rfl) rfl
            have c6_0 := hB.2.1.cell 6 0 rfl rfl
            exact wpo_val (v := .int .i64 l0) (run_load e107 (by simp [go_sem, c6_0])) (k _ _ rfl ⟨hB.1, hB.2.1, hB.2.2.other 24 _ (by decide)⟩)
          | 25, ho =>
            obtain rfl := Option.some.inj ho
            intro Az Lz vz wy Kz Ez hB k
            have e3 : Az.eval (.tmp 3) = .pointer (some ⟨w.heap.size, 0, none⟩) := Ez.out 3 (by kernel_rfl)
            exact wpo_val (v := .pointer (some ⟨w.heap.size, 1, none⟩)) (run_index e3 rfl (by simp [go_sem])) (k _ _ rfl ⟨hB.1, hB.2.1, hB.2.2.other 25 _ (by decide)⟩)
          | 26, ho =>
            obtain rfl := Option.some.inj ho
            intro Az Lz vz wy Kz Ez hB k
            have e109 : Az.eval (.tmp 109) = .pointer (some ⟨w.heap.size, 1, none⟩) := Ez.dep 25 109 (by kernel_rfl) rfl
            have c6_1 := hB.2.1.cell 6 1 rfl rfl
            exact wpo_val (v := .int .i64 l1) (run_load e109 (by simp [go_sem, c6_1])) (k _ _ rfl ⟨hB.1, hB.2.1, hB.2.2.other 26 _ (by decide)⟩)
          | 27, ho =>
            obtain rfl := Option.some.inj ho
            intro Az Lz vz wy Kz Ez hB k
            have e106 : Az.eval (.tmp 106) = .agg #[.int .i64 A, .int .i64 B, .int .i64 C, .int .i64 D] := Ez.dep 22 106 (by kernel_rfl) rfl
            have e108 : Az.eval (.tmp 108) = .int .i64 l0 := Ez.dep 24 108 (by kernel_rfl) rfl
            have e110 : Az.eval (.tmp 110) = .int .i64 l1 := Ez.dep 26 110 (by kernel_rfl) rfl
            refine wpo_call (run_callW (fun _ _ => by kernel_rfl)) (R := fun ez w' => ez = .returned (.bool hb) ∧ Below wy.heap.size wy w') ?_ ?_
            · simp only [List.map_toArray, List.map_cons, List.map_nil, eval_const, e106, e108, e110]
              exact XH.out wy
            · rintro ez w' ⟨rfl, hb⟩
              exact ⟨_, rfl, k _ _ rfl ⟨bel_tr0 hB.1 hb, hB.2.1.later hb, (hB.2.2.later hb).other 27 _ (by decide)⟩⟩
          | 28, ho =>
            obtain rfl := Option.some.inj ho
            intro Az Lz vz wy Kz Ez hB k
            have e105 : Az.eval (.tmp 105) = .bool hb := Ez.dep 21 105 (by kernel_rfl) rfl
            have e111 : Az.eval (.tmp 111) = .bool hb := Ez.dep 27 111 (by kernel_rfl) rfl
            exact wpo_val (v := .bool true) (run_bin e105 e111 (by simp [go_sem]) (by simp [go_sem])) (k _ _ rfl ⟨hB.1, hB.2.1, hB.2.2.other 28 _ (by decide)⟩)
          | 29, ho =>
            obtain rfl := Option.some.inj ho
            intro Az Lz vz wy Kz Ez hB k
            have e99 : Az.eval (.tmp 99) = .bool true := Ez.dep 15 99 (by kernel_rfl) rfl
            have e112 : Az.eval (.tmp 112) = .bool true := Ez.dep 28 112 (by kernel_rfl) rfl
            exact wpo_val (v := .bool true) (run_pickT e99 e112) (k _ _ rfl ⟨hB.1, hB.2.1, hB.2.2.other 29 _ (by decide)⟩)
          | 30, ho =>
            obtain rfl := Option.some.inj ho
            intro Az Lz vz wy Kz Ez hB k
            have e113 : Az.eval (.tmp 113) = .bool true := Ez.dep 29 113 (by kernel_rfl) rfl
            exact wpo_val (v := .bool true) (run_move e113) (k _ _ rfl ⟨hB.1, hB.2.1, hB.2.2.other 30 _ (by decide)⟩)
          | 31, ho =>
            obtain rfl := Option.some.inj ho
            intro Az Lz vz wy Kz Ez hB k
            have e9 : Az.eval (.tmp 9) = .pointer (some ⟨b1, 0, none⟩) := Ez.out 9 (by kernel_rfl)
            have c1_0 := hB.2.1.cell 1 0 rfl rfl
            exact wpo_val (v := .agg #[.slice a1 n1 c1]) (run_load e9 (by simp [go_sem, c1_0])) (k _ _ rfl ⟨hB.1, hB.2.1, hB.2.2.other 31 _ (by decide)⟩)
          | 32, ho =>
            obtain rfl := Option.some.inj ho
            intro Az Lz vz wy Kz Ez hB k
            have e9 : Az.eval (.tmp 9) = .pointer (some ⟨b1, 0, none⟩) := Ez.out 9 (by kernel_rfl)
            have c1_0 := hB.2.1.cell 1 0 rfl rfl
            exact wpo_val (v := .agg #[.slice a1 n1 c1]) (run_load e9 (by simp [go_sem, c1_0])) (k _ _ rfl ⟨hB.1, hB.2.1, hB.2.2.other 32 _ (by decide)⟩)
          | 33, ho =>
            obtain rfl := Option.some.inj ho
            intro Az Lz vz wy Kz Ez hB k
            have e115 : Az.eval (.tmp 115) = .agg #[.slice a1 n1 c1] := Ez.dep 31 115 (by kernel_rfl) rfl
            have e116 : Az.eval (.tmp 116) = .agg #[.slice a1 n1 c1] := Ez.dep 32 116 (by kernel_rfl) rfl
            refine wpo_call (run_callW (fun _ _ => by kernel_rfl)) (R := IsE (fun _ _ => false) wy) ?_ ?_
            · simp only [List.map_toArray, List.map_cons, List.map_nil, eval_const, e115, e116]
              exact isE_congr (isr_minus (IA.out wy hB.1) (IA.out wy hB.1)) (fun x y => by cases inQ (A, B, C, D) x y <;> rfl)
            · rintro ez w' ⟨vr, rfl, hr, hb⟩
              exact ⟨_, rfl, k _ _ trivial ⟨bel_tr0 hB.1 hb, hB.2.1.later hb, (hB.2.2.later hb).add 33 _ hr⟩⟩
          | 34, ho =>
            obtain rfl := Option.some.inj ho
            intro Az Lz vz wy Kz Ez hB k
            have e117 : Az.eval (.tmp 117) = vz 33 := Ez.dep 33 117 (by kernel_rfl) rfl
            refine wpo_call (run_callW (fun _ _ => by kernel_rfl)) (R := fun ez w' => ez = .returned (.int .i64 0) ∧ Below wy.heap.size wy w') ?_ ?_
            · simp only [List.map_toArray, List.map_cons, List.map_nil, eval_const, e117]
              exact ArN.out wy _ (hB.2.2 33 (by decide) (Ez.had 33 (by kernel_rfl)))
            · rintro ez w' ⟨rfl, hb⟩
              exact ⟨_, rfl, k _ _ rfl ⟨bel_tr0 hB.1 hb, hB.2.1.later hb, (hB.2.2.later hb).other 34 _ (by decide)⟩⟩
          | 35, ho =>
            obtain rfl := Option.some.inj ho
            intro Az Lz vz wy Kz Ez hB k
            have e118 : Az.eval (.tmp 118) = .int .i64 0 := Ez.dep 34 118 (by kernel_rfl) rfl
            exact wpo_val (v := .bool true) (run_bin e118 rfl (by simp [go_sem]) (by simp [go_sem])) (k _ _ rfl ⟨hB.1, hB.2.1, hB.2.2.other 35 _ (by decide)⟩)
          | 36, ho =>
            obtain rfl := Option.some.inj ho
            intro Az Lz vz wy Kz Ez hB k
            have e114 : Az.eval (.tmp 114) = .bool true := Ez.dep 30 114 (by kernel_rfl) rfl
            have e119 : Az.eval (.tmp 119) = .bool true := Ez.dep 35 119 (by kernel_rfl) rfl
            exact wpo_val (v := .bool true) (run_pickT e114 e119) (k _ _ rfl ⟨hB.1, hB.2.1, hB.2.2.other 36 _ (by decide)⟩)
          | 37, ho =>
            obtain rfl := Option.some.inj ho
            intro Az Lz vz wy Kz Ez hB k
            have e120 : Az.eval (.tmp 120) = .bool true := Ez.dep 36 120 (by kernel_rfl) rfl
            exact wpo_val (v := .bool true) (run_assign e120) (k _ _ rfl ⟨hB.1, hB.2.1, hB.2.2.other 37 _ (by decide)⟩)
          | n + 38, ho => simp at ho
        · obtain ⟨hk, hT, hR⟩ := hB
          have KB := Lib.hid hk
          have KT := Lib.hid hT
          clear hk hT hL
          simp only [puts2, mix, Act.put, List.setIfInBounds_toArray, List.set_cons_zero, List.set_cons_succ, Nat.zero_add, Nat.reduceAdd, List.getElem?_cons_zero, List.getElem?_cons_succ]
          go_wp2_with fail
          go_returns
          exact ⟨rfl, bel_tr0 KB4.out KB.out⟩
end Go.Proofs.Ytfhepaiefdmlcaa

