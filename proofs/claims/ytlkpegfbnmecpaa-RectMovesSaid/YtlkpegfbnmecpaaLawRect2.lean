/- The walk of RectMoves. -/
import Derived.Test.YtlkpegfbnmecpaaLawRect0
import Derived.WalkKit
import Derived.WalkSpells
import Derived.WalkLawsBesides
import Derived.Handy
import Derived.Lib.Hide
import Derived.Deep.QuietTactic
import Derived.BigQuiet
import Derived.LoopTactic
import Derived.Deep.RegionHeld3
import Derived.Deep.RegionWith
import Derived.Outline
import Derived.Deep.DeepCutAuto
namespace Go.Proofs.Ytlkpegfbnmecpaa
open Go.RowKit Go.Proofs.Reg
set_option linter.unusedVariables false
set_option linter.unusedSimpArgs false
set_option maxRecDepth 100000
theorem lim_lim (n : Int) : lim (lim n) = lim n := by unfold lim; omega
theorem lim_neg (n m : Int) : -lim (-n + m) = lim (n - m) := by unfold lim; omega
theorem nrm_lim {a b c d A B C D : Int} (h : Nrm a b c d A B C D) : Nrm (lim a) (lim b) (lim c) (lim d) A B C D := by
  unfold Nrm at h ⊢
  rw [lim_lim, lim_lim, lim_lim, lim_lim]
  exact h
theorem arr4_neq (a b c d e f g h : Int) (w : World) : (binOp BinOp.neq 42 (rv a b c d) (rv e f g h)).run Try.prog w = .ok (.bool (!eq4 a b c d e f g h)) w := by
  have k := arr4_eql a b c d e f g h w
  unfold rv at k ⊢
  rw [run_eql_struct] at k
  have e1 : (binOp BinOp.neq 42 (.agg #[.int .i64 a, .int .i64 b, .int .i64 c, .int .i64 d]) (.agg #[.int .i64 e, .int .i64 f, .int .i64 g, .int .i64 h])).run Try.prog w = ((Op.equalIn 10000 42 (.agg #[.int .i64 a, .int .i64 b, .int .i64 c, .int .i64 d]) (.agg #[.int .i64 e, .int .i64 f, .int .i64 g, .int .i64 h])).run Try.prog w).andThen fun b w' => .ok (.bool (!b)) w' := by
    first | rfl | (simp [binOp, go_sem, Op.equal]; done) | (simp [binOp, go_sem]; rfl)
  rw [e1]
  revert k
  generalize (Op.equalIn 10000 42 (.agg #[.int .i64 a, .int .i64 b, .int .i64 c, .int .i64 d]) (.agg #[.int .i64 e, .int .i64 f, .int .i64 g, .int .i64 h])).run Try.prog w = r
  intro k
  cases r with
  | ok b w' =>
    simp only [Result.andThen] at k ⊢
    injection k with k1 k2
    injection k1 with k1
    rw [k1, k2]
  | halt x w' => simp [Result.andThen] at k
set_option maxHeartbeats 4000000 in
theorem law_moves (a b c d d0 d1 d2 d3 : Int) (ia : I64 a) (ib : I64 b) (ic : I64 c) (id : I64 d) (i0 : I64 d0) (i1 : I64 d1) (i2 : I64 d2) (i3 : I64 d3) (w : World) :
    Calls Try.prog 8 #[rv a b c d, rv d0 d1 d2 d3] w fun e w' => e = .returned (.bool true) ∧ Below w.heap.size w w' := by
  obtain ⟨A, B, C, D, h⟩ := nrm_ex a b c d
  have rg := h.rgt
  have bd : -1073741824 ≤ A ∧ A ≤ 1073741824 ∧ -1073741824 ≤ B ∧ B ≤ 1073741824 ∧ -1073741824 ≤ C ∧ C ≤ 1073741824 ∧ -1073741824 ≤ D ∧ D ≤ 1073741824 := by unfold Rgt at rg; omega
  obtain ⟨A0, A1, B0, B1, C0, C1, D0, D1⟩ := bd
  obtain ⟨P, Q, R, S, hm⟩ := nrm_ex (A + nr d0) (B + nr d1) (C + nr d0) (D + nr d1)
  obtain ⟨P1, Q1, R1, S1, hi⟩ := ins_ex A B C D d0 d1 d2 d3
  have N0 := Lib.hid (made6_any a b c d)
  have NR := Lib.hid (r6right_any a b c d A B C D ia ib ic id h)
  have NM := Lib.hid (xmove_any a b c d A B C D d0 d1 ia ib ic id h i0 i1 P Q R S hm)
  have NI := Lib.hid (xinset_any a b c d A B C D d0 d1 d2 d3 ia ib ic id h i0 i1 i2 i3 P1 Q1 R1 S1 hi)
  have NP := Lib.hid (plain6_any P Q R S)
  have NP1 := Lib.hid (plain6_any P1 Q1 R1 S1)
  have QM : Hid (∀ w : World, (binOp BinOp.eql 42 (.agg #[.int .i64 P, .int .i64 Q, .int .i64 R, .int .i64 S]) (.agg #[.int .i64 P, .int .i64 Q, .int .i64 R, .int .i64 S])).run Try.prog w = .ok (.bool true) w) := Lib.hid (fun w => by
    have := arr4_eql P Q R S P Q R S w
    rw [eq4_self] at this
    exact this)
  have QI : Hid (∀ w : World, (binOp BinOp.eql 42 (.agg #[.int .i64 P1, .int .i64 Q1, .int .i64 R1, .int .i64 S1]) (.agg #[.int .i64 P1, .int .i64 Q1, .int .i64 R1, .int .i64 S1])).run Try.prog w = .ok (.bool true) w) := Lib.hid (fun w => by
    have := arr4_eql P1 Q1 R1 S1 P1 Q1 R1 S1 w
    rw [eq4_self] at this
    exact this)
  have QN : ∀ w : World, (binOp BinOp.neq 42 (.agg #[.int .i64 A, .int .i64 B, .int .i64 C, .int .i64 D]) (.agg #[.int .i64 0, .int .i64 0, .int .i64 0, .int .i64 0])).run Try.prog w = .ok (.bool (!emB A B C D)) w := fun w => arr4_neq A B C D 0 0 0 0 w
  rcases hi with ⟨em, s1, s2, s3, s4⟩ | ⟨em, hn⟩
  · have z : A = 0 ∧ B = 0 ∧ C = 0 ∧ D = 0 := by unfold emB at em; simpa [and_assoc] using em
    have zm : P = 0 ∧ Q = 0 ∧ R = 0 ∧ S = 0 := by
      rw [z.1, z.2.1, z.2.2.1, z.2.2.2] at hm
      unfold Nrm at hm
      omega
    rw [em] at QN
    obtain ⟨z1, z2, z3, z4⟩ := zm
    obtain ⟨y1, y2, y3, y4⟩ := z
    rw [y1] at s1
    rw [y2] at s2
    rw [y3] at s3
    rw [y4] at s4
    subst z1 z2 z3 z4 s1 s2 s3 s4
    clear h rg hm em y1 y2 y3 y4
    have QN' : ∀ w : World, (binOp BinOp.neq 42 (.agg #[.int .i64 A, .int .i64 B, .int .i64 C, .int .i64 D]) (.agg #[.int .i64 0, .int .i64 0, .int .i64 0, .int .i64 0])).run Try.prog w = .ok (.bool false) w := QN
    clear QN
    unfold rv at N0 NR NM NI NP NP1 ⊢
    go_enter Try.func8, Try.ntmps8
    go_wp2_with fail
    refine (speaks6_any _).mono ?_
    rintro e w1 ⟨rfl, hb⟩
    have KT := Lib.hid ((((Tab.nil w).new' [.int .i64 a, .int .i64 b, .int .i64 c, .int .i64 d] 38 rfl).new' [.int .i64 d0, .int .i64 d1, .int .i64 d2, .int .i64 d3] 38 (by simp : w.heap.size + 1 = _)).later hb)
    have KB : Hid (Below w.heap.size w w1) := Lib.hid (bel_tr0 (by go_grown) hb)
    clear hb
    have l0 := KT.out.cell 1 0 rfl rfl
    have l1 := KT.out.cell 1 1 rfl rfl
    have l2 := KT.out.cell 1 2 rfl rfl
    have l3 := KT.out.cell 1 3 rfl rfl
    go_wp2_with fail
    refine (NR.out _).mono ?_
    rintro e w2 ⟨rfl, hb⟩
    have KB := Lib.hid (bel_tr0 KB.out hb)
    have KT := Lib.hid (KT.out.later hb)
    clear hb
    have lt1 : w.heap.size + 1 < w2.heap.size := KT.out.lt 0 rfl
    have HD : Hid ([w2.heap.size + 1 + 1, w2.heap.size + 1, w2.heap.size, w.heap.size + 1, w.heap.size].Nodup) := Lib.hid (by simp; omega)
    have KB : Hid (Below w.heap.size w (((w2.alloc (.cells #[.int .i64 A, .int .i64 B, .int .i64 C, .int .i64 D] 42)).alloc (.cells #[.int .i64 0, .int .i64 0, .int .i64 0, .int .i64 0] 42)).alloc (.cells #[.int .i64 0, .int .i64 0, .int .i64 0, .int .i64 0] 42))) := Lib.hid (bel_al (bel_al (bel_al KB.out _) _) _)
    have KT : Hid (Tab (((w2.alloc (.cells #[.int .i64 A, .int .i64 B, .int .i64 C, .int .i64 D] 42)).alloc (.cells #[.int .i64 0, .int .i64 0, .int .i64 0, .int .i64 0] 42)).alloc (.cells #[.int .i64 0, .int .i64 0, .int .i64 0, .int .i64 0] 42)) [(w2.heap.size + 1 + 1, [.int .i64 0, .int .i64 0, .int .i64 0, .int .i64 0]), (w2.heap.size + 1, [.int .i64 0, .int .i64 0, .int .i64 0, .int .i64 0]), (w2.heap.size, [.int .i64 A, .int .i64 B, .int .i64 C, .int .i64 D]), (w.heap.size + 1, [.int .i64 d0, .int .i64 d1, .int .i64 d2, .int .i64 d3]), (w.heap.size, [.int .i64 a, .int .i64 b, .int .i64 c, .int .i64 d])]) := Lib.hid (((KT.out.new' [.int .i64 A, .int .i64 B, .int .i64 C, .int .i64 D] 42 rfl).new' [.int .i64 0, .int .i64 0, .int .i64 0, .int .i64 0] 42 (by simp)).new' [.int .i64 0, .int .i64 0, .int .i64 0, .int .i64 0] 42 (by simp))
    have x0 := KT.out.cell 2 0 rfl rfl
    have x1 := KT.out.cell 2 1 rfl rfl
    have x2 := KT.out.cell 2 2 rfl rfl
    have x3 := KT.out.cell 2 3 rfl rfl
    go_wp2_with fail
    refine wp_region_vals [some (.agg #[.int .i64 a, .int .i64 b, .int .i64 c, .int .i64 d]), some (.agg #[.int .i64 a, .int .i64 b, .int .i64 c, .int .i64 d]), some (.pointer (some ⟨w.heap.size + 1, 0, none⟩)), some (.int .i64 d0), some (.pointer (some ⟨w.heap.size + 1, 1, none⟩)), some (.int .i64 d1), some (.agg #[.int .i64 0, .int .i64 0, .int .i64 0, .int .i64 0]), some (.agg #[.int .i64 0, .int .i64 0, .int .i64 0, .int .i64 0]), some (.agg #[.int .i64 0, .int .i64 0, .int .i64 0, .int .i64 0]), some (.bool true), some (.bool true), some (.agg #[.int .i64 a, .int .i64 b, .int .i64 c, .int .i64 d]), some (.agg #[.int .i64 a, .int .i64 b, .int .i64 c, .int .i64 d]), some (.pointer (some ⟨w.heap.size + 1, 0, none⟩)), some (.int .i64 d0), some (.pointer (some ⟨w.heap.size + 1, 1, none⟩)), some (.int .i64 d1), some (.pointer (some ⟨w.heap.size + 1, 2, none⟩)), some (.int .i64 d2), some (.pointer (some ⟨w.heap.size + 1, 3, none⟩)), some (.int .i64 d3), some (.agg #[.int .i64 0, .int .i64 0, .int .i64 0, .int .i64 0]), some (.agg #[.int .i64 0, .int .i64 0, .int .i64 0, .int .i64 0]), some (.agg #[.int .i64 0, .int .i64 0, .int .i64 0, .int .i64 0]), some (.bool true), some (.bool true), some (.bool true)] (fun Lz _ wy => Below w.heap.size w wy ∧ Tab wy [(w2.heap.size + 1 + 1, [.int .i64 0, .int .i64 0, .int .i64 0, .int .i64 0]), (w2.heap.size + 1, [.int .i64 0, .int .i64 0, .int .i64 0, .int .i64 0]), (w2.heap.size, [.int .i64 A, .int .i64 B, .int .i64 C, .int .i64 D]), (w.heap.size + 1, [.int .i64 d0, .int .i64 d1, .int .i64 d2, .int .i64 d3]), (w.heap.size, [.int .i64 a, .int .i64 b, .int .i64 c, .int .i64 d])])
      [some 67, some 68, some 69, some 70, some 71, some 72, some 73, some 74, some 75, some 76, some 77, some 78, some 79, some 80, some 81, some 82, some 83, some 84, some 85, some 86, some 87, some 88, some 89, some 90, some 91, some 92, some 4] (by kernel_rfl) (by kernel_rfl) (by kernel_rfl) (by kernel_rfl) (by kernel_rfl) (by kernel_rfl) ⟨KB.out.drew, KT.out.later ((Below.refl _ _).drew)⟩ (fun i o ho => ?_) (fun Lz vz wz hL hB => ?_)
    · match i, ho with
      | 0, ho =>
        obtain rfl := Option.some.inj ho
        intro Az Lz vz wy Kz Ez hB k
        have e2 : Az.eval (.tmp 2) = .pointer (some ⟨w.heap.size, 0, none⟩) := Ez.out 2 (by kernel_rfl)
        have c4_0 := hB.2.cell 4 0 rfl rfl
        have c4_1 := hB.2.cell 4 1 rfl rfl
        have c4_2 := hB.2.cell 4 2 rfl rfl
        have c4_3 := hB.2.cell 4 3 rfl rfl
        exact wpo_val (v := .agg #[.int .i64 a, .int .i64 b, .int .i64 c, .int .i64 d]) (run_load e2 (by simp [go_sem, c4_0, c4_1, c4_2, c4_3])) (k _ _ rfl hB)
      | 1, ho =>
        obtain rfl := Option.some.inj ho
        intro Az Lz vz wy Kz Ez hB k
        have e67 : Az.eval (.tmp 67) = .agg #[.int .i64 a, .int .i64 b, .int .i64 c, .int .i64 d] := Ez.dep 0 67 (by kernel_rfl) rfl
        refine wpo_call (run_callW (fun _ _ => by kernel_rfl)) (R := fun e w' => e = .returned (.agg #[.int .i64 a, .int .i64 b, .int .i64 c, .int .i64 d]) ∧ Below wy.heap.size wy w') ?_ ?_
        · simp only [List.map_toArray, List.map_cons, List.map_nil, eval_const, e67]
          exact N0.out wy
        · rintro e w' ⟨rfl, hb⟩
          exact ⟨_, rfl, k _ _ rfl ⟨bel_tr0 hB.1 hb, hB.2.later hb⟩⟩
      | 2, ho =>
        obtain rfl := Option.some.inj ho
        intro Az Lz vz wy Kz Ez hB k
        have e3 : Az.eval (.tmp 3) = .pointer (some ⟨w.heap.size + 1, 0, none⟩) := Ez.out 3 (by kernel_rfl)
        exact wpo_val (v := .pointer (some ⟨w.heap.size + 1, 0, none⟩)) (run_index e3 rfl (by simp [go_sem])) (k _ _ rfl hB)
      | 3, ho =>
        obtain rfl := Option.some.inj ho
        intro Az Lz vz wy Kz Ez hB k
        have e69 : Az.eval (.tmp 69) = .pointer (some ⟨w.heap.size + 1, 0, none⟩) := Ez.dep 2 69 (by kernel_rfl) rfl
        have c3_0 := hB.2.cell 3 0 rfl rfl
        exact wpo_val (v := .int .i64 d0) (run_load e69 (by simp [go_sem, c3_0])) (k _ _ rfl hB)
      | 4, ho =>
        obtain rfl := Option.some.inj ho
        intro Az Lz vz wy Kz Ez hB k
        have e3 : Az.eval (.tmp 3) = .pointer (some ⟨w.heap.size + 1, 0, none⟩) := Ez.out 3 (by kernel_rfl)
        exact wpo_val (v := .pointer (some ⟨w.heap.size + 1, 1, none⟩)) (run_index e3 rfl (by simp [go_sem])) (k _ _ rfl hB)
      | 5, ho =>
        obtain rfl := Option.some.inj ho
        intro Az Lz vz wy Kz Ez hB k
        have e71 : Az.eval (.tmp 71) = .pointer (some ⟨w.heap.size + 1, 1, none⟩) := Ez.dep 4 71 (by kernel_rfl) rfl
        have c3_1 := hB.2.cell 3 1 rfl rfl
        exact wpo_val (v := .int .i64 d1) (run_load e71 (by simp [go_sem, c3_1])) (k _ _ rfl hB)
      | 6, ho =>
        obtain rfl := Option.some.inj ho
        intro Az Lz vz wy Kz Ez hB k
        have e68 : Az.eval (.tmp 68) = .agg #[.int .i64 a, .int .i64 b, .int .i64 c, .int .i64 d] := Ez.dep 1 68 (by kernel_rfl) rfl
        have e70 : Az.eval (.tmp 70) = .int .i64 d0 := Ez.dep 3 70 (by kernel_rfl) rfl
        have e72 : Az.eval (.tmp 72) = .int .i64 d1 := Ez.dep 5 72 (by kernel_rfl) rfl
        refine wpo_call (run_callW (fun _ _ => by kernel_rfl)) (R := fun e w' => e = .returned (.agg #[.int .i64 0, .int .i64 0, .int .i64 0, .int .i64 0]) ∧ Below wy.heap.size wy w') ?_ ?_
        · simp only [List.map_toArray, List.map_cons, List.map_nil, eval_const, e68, e70, e72]
          exact NM.out wy
        · rintro e w' ⟨rfl, hb⟩
          exact ⟨_, rfl, k _ _ rfl ⟨bel_tr0 hB.1 hb, hB.2.later hb⟩⟩
      | 7, ho =>
        obtain rfl := Option.some.inj ho
        intro Az Lz vz wy Kz Ez hB k
        have e73 : Az.eval (.tmp 73) = .agg #[.int .i64 0, .int .i64 0, .int .i64 0, .int .i64 0] := Ez.dep 6 73 (by kernel_rfl) rfl
        refine wpo_call (run_callW (fun _ _ => by kernel_rfl)) (R := fun e w' => e = .returned (.agg #[.int .i64 0, .int .i64 0, .int .i64 0, .int .i64 0]) ∧ Below wy.heap.size wy w') ?_ ?_
        · simp only [List.map_toArray, List.map_cons, List.map_nil, eval_const, e73]
          exact NP.out wy
        · rintro e w' ⟨rfl, hb⟩
          exact ⟨_, rfl, k _ _ rfl ⟨bel_tr0 hB.1 hb, hB.2.later hb⟩⟩
      | 8, ho =>
        obtain rfl := Option.some.inj ho
        intro Az Lz vz wy Kz Ez hB k
        have e6 : Az.eval (.tmp 6) = .pointer (some ⟨w2.heap.size + 1, 0, none⟩) := Ez.out 6 (by kernel_rfl)
        have c1_0 := hB.2.cell 1 0 rfl rfl
        have c1_1 := hB.2.cell 1 1 rfl rfl
        have c1_2 := hB.2.cell 1 2 rfl rfl
        have c1_3 := hB.2.cell 1 3 rfl rfl
        exact wpo_val (v := .agg #[.int .i64 0, .int .i64 0, .int .i64 0, .int .i64 0]) (run_load e6 (by simp [go_sem, c1_0, c1_1, c1_2, c1_3])) (k _ _ rfl hB)
      | 9, ho =>
        obtain rfl := Option.some.inj ho
        intro Az Lz vz wy Kz Ez hB k
        have e74 : Az.eval (.tmp 74) = .agg #[.int .i64 0, .int .i64 0, .int .i64 0, .int .i64 0] := Ez.dep 7 74 (by kernel_rfl) rfl
        have e75 : Az.eval (.tmp 75) = .agg #[.int .i64 0, .int .i64 0, .int .i64 0, .int .i64 0] := Ez.dep 8 75 (by kernel_rfl) rfl
        exact wpo_val (v := .bool true) (run_bin e74 e75 (by simp [go_sem]) (by exact QM.out wy)) (k _ _ rfl hB)
      | 10, ho =>
        obtain rfl := Option.some.inj ho
        intro Az Lz vz wy Kz Ez hB k
        have e76 : Az.eval (.tmp 76) = .bool true := Ez.dep 9 76 (by kernel_rfl) rfl
        exact wpo_val (v := .bool true) (run_move e76) (k _ _ rfl hB)
      | 11, ho =>
        obtain rfl := Option.some.inj ho
        intro Az Lz vz wy Kz Ez hB k
        have e2 : Az.eval (.tmp 2) = .pointer (some ⟨w.heap.size, 0, none⟩) := Ez.out 2 (by kernel_rfl)
        have c4_0 := hB.2.cell 4 0 rfl rfl
        have c4_1 := hB.2.cell 4 1 rfl rfl
        have c4_2 := hB.2.cell 4 2 rfl rfl
        have c4_3 := hB.2.cell 4 3 rfl rfl
        exact wpo_val (v := .agg #[.int .i64 a, .int .i64 b, .int .i64 c, .int .i64 d]) (run_load e2 (by simp [go_sem, c4_0, c4_1, c4_2, c4_3])) (k _ _ rfl hB)
      | 12, ho =>
        obtain rfl := Option.some.inj ho
        intro Az Lz vz wy Kz Ez hB k
        have e78 : Az.eval (.tmp 78) = .agg #[.int .i64 a, .int .i64 b, .int .i64 c, .int .i64 d] := Ez.dep 11 78 (by kernel_rfl) rfl
        refine wpo_call (run_callW (fun _ _ => by kernel_rfl)) (R := fun e w' => e = .returned (.agg #[.int .i64 a, .int .i64 b, .int .i64 c, .int .i64 d]) ∧ Below wy.heap.size wy w') ?_ ?_
        · simp only [List.map_toArray, List.map_cons, List.map_nil, eval_const, e78]
          exact N0.out wy
        · rintro e w' ⟨rfl, hb⟩
          exact ⟨_, rfl, k _ _ rfl ⟨bel_tr0 hB.1 hb, hB.2.later hb⟩⟩
      | 13, ho =>
        obtain rfl := Option.some.inj ho
        intro Az Lz vz wy Kz Ez hB k
        have e3 : Az.eval (.tmp 3) = .pointer (some ⟨w.heap.size + 1, 0, none⟩) := Ez.out 3 (by kernel_rfl)
        exact wpo_val (v := .pointer (some ⟨w.heap.size + 1, 0, none⟩)) (run_index e3 rfl (by simp [go_sem])) (k _ _ rfl hB)
      | 14, ho =>
        obtain rfl := Option.some.inj ho
        intro Az Lz vz wy Kz Ez hB k
        have e80 : Az.eval (.tmp 80) = .pointer (some ⟨w.heap.size + 1, 0, none⟩) := Ez.dep 13 80 (by kernel_rfl) rfl
        have c3_0 := hB.2.cell 3 0 rfl rfl
        exact wpo_val (v := .int .i64 d0) (run_load e80 (by simp [go_sem, c3_0])) (k _ _ rfl hB)
      | 15, ho =>
        obtain rfl := Option.some.inj ho
        intro Az Lz vz wy Kz Ez hB k
        have e3 : Az.eval (.tmp 3) = .pointer (some ⟨w.heap.size + 1, 0, none⟩) := Ez.out 3 (by kernel_rfl)
        exact wpo_val (v := .pointer (some ⟨w.heap.size + 1, 1, none⟩)) (run_index e3 rfl (by simp [go_sem])) (k _ _ rfl hB)
      | 16, ho =>
        obtain rfl := Option.some.inj ho
        intro Az Lz vz wy Kz Ez hB k
        have e82 : Az.eval (.tmp 82) = .pointer (some ⟨w.heap.size + 1, 1, none⟩) := Ez.dep 15 82 (by kernel_rfl) rfl
        have c3_1 := hB.2.cell 3 1 rfl rfl
        exact wpo_val (v := .int .i64 d1) (run_load e82 (by simp [go_sem, c3_1])) (k _ _ rfl hB)
      | 17, ho =>
        obtain rfl := Option.some.inj ho
        intro Az Lz vz wy Kz Ez hB k
        have e3 : Az.eval (.tmp 3) = .pointer (some ⟨w.heap.size + 1, 0, none⟩) := Ez.out 3 (by kernel_rfl)
        exact wpo_val (v := .pointer (some ⟨w.heap.size + 1, 2, none⟩)) (run_index e3 rfl (by simp [go_sem])) (k _ _ rfl hB)
      | 18, ho =>
        obtain rfl := Option.some.inj ho
        intro Az Lz vz wy Kz Ez hB k
        have e84 : Az.eval (.tmp 84) = .pointer (some ⟨w.heap.size + 1, 2, none⟩) := Ez.dep 17 84 (by kernel_rfl) rfl
        have c3_2 := hB.2.cell 3 2 rfl rfl
        exact wpo_val (v := .int .i64 d2) (run_load e84 (by simp [go_sem, c3_2])) (k _ _ rfl hB)
      | 19, ho =>
        obtain rfl := Option.some.inj ho
        intro Az Lz vz wy Kz Ez hB k
        have e3 : Az.eval (.tmp 3) = .pointer (some ⟨w.heap.size + 1, 0, none⟩) := Ez.out 3 (by kernel_rfl)
        exact wpo_val (v := .pointer (some ⟨w.heap.size + 1, 3, none⟩)) (run_index e3 rfl (by simp [go_sem])) (k _ _ rfl hB)
      | 20, ho =>
        obtain rfl := Option.some.inj ho
        intro Az Lz vz wy Kz Ez hB k
        have e86 : Az.eval (.tmp 86) = .pointer (some ⟨w.heap.size + 1, 3, none⟩) := Ez.dep 19 86 (by kernel_rfl) rfl
        have c3_3 := hB.2.cell 3 3 rfl rfl
        exact wpo_val (v := .int .i64 d3) (run_load e86 (by simp [go_sem, c3_3])) (k _ _ rfl hB)
      | 21, ho =>
        obtain rfl := Option.some.inj ho
        intro Az Lz vz wy Kz Ez hB k
        have e79 : Az.eval (.tmp 79) = .agg #[.int .i64 a, .int .i64 b, .int .i64 c, .int .i64 d] := Ez.dep 12 79 (by kernel_rfl) rfl
        have e81 : Az.eval (.tmp 81) = .int .i64 d0 := Ez.dep 14 81 (by kernel_rfl) rfl
        have e83 : Az.eval (.tmp 83) = .int .i64 d1 := Ez.dep 16 83 (by kernel_rfl) rfl
        have e85 : Az.eval (.tmp 85) = .int .i64 d2 := Ez.dep 18 85 (by kernel_rfl) rfl
        have e87 : Az.eval (.tmp 87) = .int .i64 d3 := Ez.dep 20 87 (by kernel_rfl) rfl
        refine wpo_call (run_callW (fun _ _ => by kernel_rfl)) (R := fun e w' => e = .returned (.agg #[.int .i64 0, .int .i64 0, .int .i64 0, .int .i64 0]) ∧ Below wy.heap.size wy w') ?_ ?_
        · simp only [List.map_toArray, List.map_cons, List.map_nil, eval_const, e79, e81, e83, e85, e87]
          exact NI.out wy
        · rintro e w' ⟨rfl, hb⟩
          exact ⟨_, rfl, k _ _ rfl ⟨bel_tr0 hB.1 hb, hB.2.later hb⟩⟩
      | 22, ho =>
        obtain rfl := Option.some.inj ho
        intro Az Lz vz wy Kz Ez hB k
        have e88 : Az.eval (.tmp 88) = .agg #[.int .i64 0, .int .i64 0, .int .i64 0, .int .i64 0] := Ez.dep 21 88 (by kernel_rfl) rfl
        refine wpo_call (run_callW (fun _ _ => by kernel_rfl)) (R := fun e w' => e = .returned (.agg #[.int .i64 0, .int .i64 0, .int .i64 0, .int .i64 0]) ∧ Below wy.heap.size wy w') ?_ ?_
        · simp only [List.map_toArray, List.map_cons, List.map_nil, eval_const, e88]
          exact NP1.out wy
        · rintro e w' ⟨rfl, hb⟩
          exact ⟨_, rfl, k _ _ rfl ⟨bel_tr0 hB.1 hb, hB.2.later hb⟩⟩
      | 23, ho =>
        obtain rfl := Option.some.inj ho
        intro Az Lz vz wy Kz Ez hB k
        have e7 : Az.eval (.tmp 7) = .pointer (some ⟨w2.heap.size + 1 + 1, 0, none⟩) := Ez.out 7 (by kernel_rfl)
        have c0_0 := hB.2.cell 0 0 rfl rfl
        have c0_1 := hB.2.cell 0 1 rfl rfl
        have c0_2 := hB.2.cell 0 2 rfl rfl
        have c0_3 := hB.2.cell 0 3 rfl rfl
        exact wpo_val (v := .agg #[.int .i64 0, .int .i64 0, .int .i64 0, .int .i64 0]) (run_load e7 (by simp [go_sem, c0_0, c0_1, c0_2, c0_3])) (k _ _ rfl hB)
      | 24, ho =>
        obtain rfl := Option.some.inj ho
        intro Az Lz vz wy Kz Ez hB k
        have e89 : Az.eval (.tmp 89) = .agg #[.int .i64 0, .int .i64 0, .int .i64 0, .int .i64 0] := Ez.dep 22 89 (by kernel_rfl) rfl
        have e90 : Az.eval (.tmp 90) = .agg #[.int .i64 0, .int .i64 0, .int .i64 0, .int .i64 0] := Ez.dep 23 90 (by kernel_rfl) rfl
        exact wpo_val (v := .bool true) (run_bin e89 e90 (by simp [go_sem]) (by exact QI.out wy)) (k _ _ rfl hB)
      | 25, ho =>
        obtain rfl := Option.some.inj ho
        intro Az Lz vz wy Kz Ez hB k
        have e77 : Az.eval (.tmp 77) = .bool true := Ez.dep 10 77 (by kernel_rfl) rfl
        have e91 : Az.eval (.tmp 91) = .bool true := Ez.dep 24 91 (by kernel_rfl) rfl
        exact wpo_val (v := .bool true) (run_pickT e77 e91) (k _ _ rfl hB)
      | 26, ho =>
        obtain rfl := Option.some.inj ho
        intro Az Lz vz wy Kz Ez hB k
        have e92 : Az.eval (.tmp 92) = .bool true := Ez.dep 25 92 (by kernel_rfl) rfl
        exact wpo_val (v := .bool true) (run_assign e92) (k _ _ rfl hB)
      | n + 27, ho => simp at ho
    · obtain ⟨hk, hT⟩ := hB
      have KB := Lib.hid hk
      have KT := Lib.hid hT
      clear hk hT hL
      simp only [puts2, mix, Act.put, List.setIfInBounds_toArray, List.set_cons_zero, List.set_cons_succ, Nat.zero_add, Nat.reduceAdd, List.getElem?_cons_zero, List.getElem?_cons_succ]
      go_wp2_with fail
      go_returns
      exact ⟨rfl, KB.out⟩
  · rw [em] at QN
    have QN' : ∀ w : World, (binOp BinOp.neq 42 (.agg #[.int .i64 A, .int .i64 B, .int .i64 C, .int .i64 D]) (.agg #[.int .i64 0, .int .i64 0, .int .i64 0, .int .i64 0])).run Try.prog w = .ok (.bool true) w := QN
    clear QN
    have L1 := Lib.hid (r6plus_any A d0 A0 A1 i0)
    have L2 := Lib.hid (r6plus_any B d1 B0 B1 i1)
    have L3 := Lib.hid (r6plus_any C d0 C0 C1 i0)
    have L4 := Lib.hid (r6plus_any D d1 D0 D1 i1)
    have L5 := Lib.hid (r6plus_any (-C) d1 (by omega) (by omega) i1)
    have L6 := Lib.hid (r6plus_any (-D) d2 (by omega) (by omega) i2)
    have L7 := Lib.hid (r6plus_any A d3 A0 A1 i3)
    have L8 := Lib.hid (r6plus_any B d0 B0 B1 i0)
    have lb := lim_bd
    have nm := nrm_lim hm
    have ni := nrm_lim hn
    rw [← lim_neg C, ← lim_neg D] at ni
    have b1 := lb (A + nr d0)
    have b2 := lb (B + nr d1)
    have b3 := lb (C + nr d0)
    have b4 := lb (D + nr d1)
    have b5 := lb (-C + nr d1)
    have b6 := lb (-D + nr d2)
    have b7 := lb (A + nr d3)
    have b8 := lb (B + nr d0)
    obtain ⟨v1, e1⟩ : ∃ v, lim (A + nr d0) = v := ⟨_, rfl⟩
    obtain ⟨v2, e2⟩ : ∃ v, lim (B + nr d1) = v := ⟨_, rfl⟩
    obtain ⟨v3, e3⟩ : ∃ v, lim (C + nr d0) = v := ⟨_, rfl⟩
    obtain ⟨v4, e4⟩ : ∃ v, lim (D + nr d1) = v := ⟨_, rfl⟩
    obtain ⟨g1, e5⟩ : ∃ v, lim (-C + nr d1) = v := ⟨_, rfl⟩
    obtain ⟨g2, e6⟩ : ∃ v, lim (-D + nr d2) = v := ⟨_, rfl⟩
    obtain ⟨v5, e7⟩ : ∃ v, lim (A + nr d3) = v := ⟨_, rfl⟩
    obtain ⟨v6, e8⟩ : ∃ v, lim (B + nr d0) = v := ⟨_, rfl⟩
    rw [e1] at L1 b1
    rw [e2] at L2 b2
    rw [e3] at L3 b3
    rw [e4] at L4 b4
    rw [e5] at L5 b5
    rw [e6] at L6 b6
    rw [e7] at L7 b7
    rw [e8] at L8 b8
    rw [e1, e2, e3, e4] at nm
    rw [e5, e6, e7, e8] at ni
    have NMR := Lib.hid (r6right_any v1 v2 v3 v4 P Q R S ⟨by omega, by omega⟩ ⟨by omega, by omega⟩ ⟨by omega, by omega⟩ ⟨by omega, by omega⟩ nm)
    have NIR := Lib.hid (r6right_any v5 v6 (-g1) (-g2) P1 Q1 R1 S1 ⟨by omega, by omega⟩ ⟨by omega, by omega⟩ ⟨by omega, by omega⟩ ⟨by omega, by omega⟩ ni)
    have wC : IntKind.i64.wrap (-C) = -C := by rw [IntKind.wrap_i64]; omega
    have wD : IntKind.i64.wrap (-D) = -D := by rw [IntKind.wrap_i64]; omega
    have wg1 : IntKind.i64.wrap (-g1) = -g1 := by rw [IntKind.wrap_i64]; omega
    have wg2 : IntKind.i64.wrap (-g2) = -g2 := by rw [IntKind.wrap_i64]; omega
    clear h rg hm hn em nm ni lb b1 b2 b3 b4 b5 b6 b7 b8 e1 e2 e3 e4 e5 e6 e7 e8
    unfold rv at NMR NIR
    unfold rv at N0 NR NM NI NP NP1 ⊢
    go_enter Try.func8, Try.ntmps8
    go_wp2_with fail
    refine (speaks6_any _).mono ?_
    rintro e w1 ⟨rfl, hb⟩
    have KT := Lib.hid ((((Tab.nil w).new' [.int .i64 a, .int .i64 b, .int .i64 c, .int .i64 d] 38 rfl).new' [.int .i64 d0, .int .i64 d1, .int .i64 d2, .int .i64 d3] 38 (by simp : w.heap.size + 1 = _)).later hb)
    have KB : Hid (Below w.heap.size w w1) := Lib.hid (bel_tr0 (by go_grown) hb)
    clear hb
    have l0 := KT.out.cell 1 0 rfl rfl
    have l1 := KT.out.cell 1 1 rfl rfl
    have l2 := KT.out.cell 1 2 rfl rfl
    have l3 := KT.out.cell 1 3 rfl rfl
    go_wp2_with fail
    refine (NR.out _).mono ?_
    rintro e w2 ⟨rfl, hb⟩
    have KB := Lib.hid (bel_tr0 KB.out hb)
    have KT := Lib.hid (KT.out.later hb)
    clear hb
    have lt1 : w.heap.size + 1 < w2.heap.size := KT.out.lt 0 rfl
    have HD : Hid ([w2.heap.size + 1 + 1, w2.heap.size + 1, w2.heap.size, w.heap.size + 1, w.heap.size].Nodup) := Lib.hid (by simp; omega)
    have KB : Hid (Below w.heap.size w (((w2.alloc (.cells #[.int .i64 A, .int .i64 B, .int .i64 C, .int .i64 D] 42)).alloc (.cells #[.int .i64 0, .int .i64 0, .int .i64 0, .int .i64 0] 42)).alloc (.cells #[.int .i64 0, .int .i64 0, .int .i64 0, .int .i64 0] 42))) := Lib.hid (bel_al (bel_al (bel_al KB.out _) _) _)
    have KT : Hid (Tab (((w2.alloc (.cells #[.int .i64 A, .int .i64 B, .int .i64 C, .int .i64 D] 42)).alloc (.cells #[.int .i64 0, .int .i64 0, .int .i64 0, .int .i64 0] 42)).alloc (.cells #[.int .i64 0, .int .i64 0, .int .i64 0, .int .i64 0] 42)) [(w2.heap.size + 1 + 1, [.int .i64 0, .int .i64 0, .int .i64 0, .int .i64 0]), (w2.heap.size + 1, [.int .i64 0, .int .i64 0, .int .i64 0, .int .i64 0]), (w2.heap.size, [.int .i64 A, .int .i64 B, .int .i64 C, .int .i64 D]), (w.heap.size + 1, [.int .i64 d0, .int .i64 d1, .int .i64 d2, .int .i64 d3]), (w.heap.size, [.int .i64 a, .int .i64 b, .int .i64 c, .int .i64 d])]) := Lib.hid (((KT.out.new' [.int .i64 A, .int .i64 B, .int .i64 C, .int .i64 D] 42 rfl).new' [.int .i64 0, .int .i64 0, .int .i64 0, .int .i64 0] 42 (by simp)).new' [.int .i64 0, .int .i64 0, .int .i64 0, .int .i64 0] 42 (by simp))
    have x0 := KT.out.cell 2 0 rfl rfl
    have x1 := KT.out.cell 2 1 rfl rfl
    have x2 := KT.out.cell 2 2 rfl rfl
    have x3 := KT.out.cell 2 3 rfl rfl
    go_wp2_with fail
    refine wp_region_vals [some (.pointer (some ⟨w2.heap.size, 0, none⟩)), some (.int .i64 A), some (.pointer (some ⟨w.heap.size + 1, 0, none⟩)), some (.int .i64 d0), some (.int .i64 v1), some (.pointer (some ⟨w2.heap.size, 1, none⟩)), some (.int .i64 B), some (.pointer (some ⟨w.heap.size + 1, 1, none⟩)), some (.int .i64 d1), some (.int .i64 v2), some (.pointer (some ⟨w2.heap.size, 2, none⟩)), some (.int .i64 C), some (.pointer (some ⟨w.heap.size + 1, 0, none⟩)), some (.int .i64 d0), some (.int .i64 v3), some (.pointer (some ⟨w2.heap.size, 3, none⟩)), some (.int .i64 D), some (.pointer (some ⟨w.heap.size + 1, 1, none⟩)), some (.int .i64 d1), some (.int .i64 v4), some (.agg #[.int .i64 v1, .int .i64 v2, .int .i64 v3, .int .i64 v4]), some (.agg #[.int .i64 P, .int .i64 Q, .int .i64 R, .int .i64 S]), none] (fun Lz _ wy => Below w.heap.size w wy ∧ Tab wy [(w2.heap.size + 1 + 1, [.int .i64 0, .int .i64 0, .int .i64 0, .int .i64 0]), (w2.heap.size + 1, if Lz 22 = true then [.int .i64 P, .int .i64 Q, .int .i64 R, .int .i64 S] else [.int .i64 0, .int .i64 0, .int .i64 0, .int .i64 0]), (w2.heap.size, [.int .i64 A, .int .i64 B, .int .i64 C, .int .i64 D]), (w.heap.size + 1, [.int .i64 d0, .int .i64 d1, .int .i64 d2, .int .i64 d3]), (w.heap.size, [.int .i64 a, .int .i64 b, .int .i64 c, .int .i64 d])])
      [some 17, some 18, some 19, some 20, some 21, some 22, some 23, some 24, some 25, some 26, some 27, some 28, some 29, some 30, some 31, some 32, some 33, some 34, some 35, some 36, some 37, some 38, none] (by kernel_rfl) (by kernel_rfl) (by kernel_rfl) (by kernel_rfl) (by kernel_rfl) (by kernel_rfl) ⟨KB.out.drew, KT.out.later ((Below.refl _ _).drew)⟩ (fun i o ho => ?_) (fun Lz vz wz hL hB => ?_)
    · match i, ho with
      | 0, ho =>
        obtain rfl := Option.some.inj ho
        intro Az Lz vz wy Kz Ez hB k
        have e5 : Az.eval (.tmp 5) = .pointer (some ⟨w2.heap.size, 0, none⟩) := Ez.out 5 (by kernel_rfl)
        exact wpo_val (v := .pointer (some ⟨w2.heap.size, 0, none⟩)) (run_index e5 rfl (by simp [go_sem])) (k _ _ rfl hB)
      | 1, ho =>
        obtain rfl := Option.some.inj ho
        intro Az Lz vz wy Kz Ez hB k
        have e17 : Az.eval (.tmp 17) = .pointer (some ⟨w2.heap.size, 0, none⟩) := Ez.dep 0 17 (by kernel_rfl) rfl
        have c2_0 := hB.2.cell 2 0 rfl rfl
        exact wpo_val (v := .int .i64 A) (run_load e17 (by simp [go_sem, c2_0])) (k _ _ rfl hB)
      | 2, ho =>
        obtain rfl := Option.some.inj ho
        intro Az Lz vz wy Kz Ez hB k
        have e3 : Az.eval (.tmp 3) = .pointer (some ⟨w.heap.size + 1, 0, none⟩) := Ez.out 3 (by kernel_rfl)
        exact wpo_val (v := .pointer (some ⟨w.heap.size + 1, 0, none⟩)) (run_index e3 rfl (by simp [go_sem])) (k _ _ rfl hB)
      | 3, ho =>
        obtain rfl := Option.some.inj ho
        intro Az Lz vz wy Kz Ez hB k
        have e19 : Az.eval (.tmp 19) = .pointer (some ⟨w.heap.size + 1, 0, none⟩) := Ez.dep 2 19 (by kernel_rfl) rfl
        have c3_0 := hB.2.cell 3 0 rfl rfl
        exact wpo_val (v := .int .i64 d0) (run_load e19 (by simp [go_sem, c3_0])) (k _ _ rfl hB)
      | 4, ho =>
        obtain rfl := Option.some.inj ho
        intro Az Lz vz wy Kz Ez hB k
        have e18 : Az.eval (.tmp 18) = .int .i64 A := Ez.dep 1 18 (by kernel_rfl) rfl
        have e20 : Az.eval (.tmp 20) = .int .i64 d0 := Ez.dep 3 20 (by kernel_rfl) rfl
        refine wpo_call (run_callW (fun _ _ => by kernel_rfl)) (R := fun e w' => e = .returned (.int .i64 v1) ∧ Below wy.heap.size wy w') ?_ ?_
        · simp only [List.map_toArray, List.map_cons, List.map_nil, eval_const, e18, e20]
          exact L1.out wy
        · rintro e w' ⟨rfl, hb⟩
          exact ⟨_, rfl, k _ _ rfl ⟨bel_tr0 hB.1 hb, hB.2.later hb⟩⟩
      | 5, ho =>
        obtain rfl := Option.some.inj ho
        intro Az Lz vz wy Kz Ez hB k
        have e5 : Az.eval (.tmp 5) = .pointer (some ⟨w2.heap.size, 0, none⟩) := Ez.out 5 (by kernel_rfl)
        exact wpo_val (v := .pointer (some ⟨w2.heap.size, 1, none⟩)) (run_index e5 rfl (by simp [go_sem])) (k _ _ rfl hB)
      | 6, ho =>
        obtain rfl := Option.some.inj ho
        intro Az Lz vz wy Kz Ez hB k
        have e22 : Az.eval (.tmp 22) = .pointer (some ⟨w2.heap.size, 1, none⟩) := Ez.dep 5 22 (by kernel_rfl) rfl
        have c2_1 := hB.2.cell 2 1 rfl rfl
        exact wpo_val (v := .int .i64 B) (run_load e22 (by simp [go_sem, c2_1])) (k _ _ rfl hB)
      | 7, ho =>
        obtain rfl := Option.some.inj ho
        intro Az Lz vz wy Kz Ez hB k
        have e3 : Az.eval (.tmp 3) = .pointer (some ⟨w.heap.size + 1, 0, none⟩) := Ez.out 3 (by kernel_rfl)
        exact wpo_val (v := .pointer (some ⟨w.heap.size + 1, 1, none⟩)) (run_index e3 rfl (by simp [go_sem])) (k _ _ rfl hB)
      | 8, ho =>
        obtain rfl := Option.some.inj ho
        intro Az Lz vz wy Kz Ez hB k
        have e24 : Az.eval (.tmp 24) = .pointer (some ⟨w.heap.size + 1, 1, none⟩) := Ez.dep 7 24 (by kernel_rfl) rfl
        have c3_1 := hB.2.cell 3 1 rfl rfl
        exact wpo_val (v := .int .i64 d1) (run_load e24 (by simp [go_sem, c3_1])) (k _ _ rfl hB)
      | 9, ho =>
        obtain rfl := Option.some.inj ho
        intro Az Lz vz wy Kz Ez hB k
        have e23 : Az.eval (.tmp 23) = .int .i64 B := Ez.dep 6 23 (by kernel_rfl) rfl
        have e25 : Az.eval (.tmp 25) = .int .i64 d1 := Ez.dep 8 25 (by kernel_rfl) rfl
        refine wpo_call (run_callW (fun _ _ => by kernel_rfl)) (R := fun e w' => e = .returned (.int .i64 v2) ∧ Below wy.heap.size wy w') ?_ ?_
        · simp only [List.map_toArray, List.map_cons, List.map_nil, eval_const, e23, e25]
          exact L2.out wy
        · rintro e w' ⟨rfl, hb⟩
          exact ⟨_, rfl, k _ _ rfl ⟨bel_tr0 hB.1 hb, hB.2.later hb⟩⟩
      | 10, ho =>
        obtain rfl := Option.some.inj ho
        intro Az Lz vz wy Kz Ez hB k
        have e5 : Az.eval (.tmp 5) = .pointer (some ⟨w2.heap.size, 0, none⟩) := Ez.out 5 (by kernel_rfl)
        exact wpo_val (v := .pointer (some ⟨w2.heap.size, 2, none⟩)) (run_index e5 rfl (by simp [go_sem])) (k _ _ rfl hB)
      | 11, ho =>
        obtain rfl := Option.some.inj ho
        intro Az Lz vz wy Kz Ez hB k
        have e27 : Az.eval (.tmp 27) = .pointer (some ⟨w2.heap.size, 2, none⟩) := Ez.dep 10 27 (by kernel_rfl) rfl
        have c2_2 := hB.2.cell 2 2 rfl rfl
        exact wpo_val (v := .int .i64 C) (run_load e27 (by simp [go_sem, c2_2])) (k _ _ rfl hB)
      | 12, ho =>
        obtain rfl := Option.some.inj ho
        intro Az Lz vz wy Kz Ez hB k
        have e3 : Az.eval (.tmp 3) = .pointer (some ⟨w.heap.size + 1, 0, none⟩) := Ez.out 3 (by kernel_rfl)
        exact wpo_val (v := .pointer (some ⟨w.heap.size + 1, 0, none⟩)) (run_index e3 rfl (by simp [go_sem])) (k _ _ rfl hB)
      | 13, ho =>
        obtain rfl := Option.some.inj ho
        intro Az Lz vz wy Kz Ez hB k
        have e29 : Az.eval (.tmp 29) = .pointer (some ⟨w.heap.size + 1, 0, none⟩) := Ez.dep 12 29 (by kernel_rfl) rfl
        have c3_0 := hB.2.cell 3 0 rfl rfl
        exact wpo_val (v := .int .i64 d0) (run_load e29 (by simp [go_sem, c3_0])) (k _ _ rfl hB)
      | 14, ho =>
        obtain rfl := Option.some.inj ho
        intro Az Lz vz wy Kz Ez hB k
        have e28 : Az.eval (.tmp 28) = .int .i64 C := Ez.dep 11 28 (by kernel_rfl) rfl
        have e30 : Az.eval (.tmp 30) = .int .i64 d0 := Ez.dep 13 30 (by kernel_rfl) rfl
        refine wpo_call (run_callW (fun _ _ => by kernel_rfl)) (R := fun e w' => e = .returned (.int .i64 v3) ∧ Below wy.heap.size wy w') ?_ ?_
        · simp only [List.map_toArray, List.map_cons, List.map_nil, eval_const, e28, e30]
          exact L3.out wy
        · rintro e w' ⟨rfl, hb⟩
          exact ⟨_, rfl, k _ _ rfl ⟨bel_tr0 hB.1 hb, hB.2.later hb⟩⟩
      | 15, ho =>
        obtain rfl := Option.some.inj ho
        intro Az Lz vz wy Kz Ez hB k
        have e5 : Az.eval (.tmp 5) = .pointer (some ⟨w2.heap.size, 0, none⟩) := Ez.out 5 (by kernel_rfl)
        exact wpo_val (v := .pointer (some ⟨w2.heap.size, 3, none⟩)) (run_index e5 rfl (by simp [go_sem])) (k _ _ rfl hB)
      | 16, ho =>
        obtain rfl := Option.some.inj ho
        intro Az Lz vz wy Kz Ez hB k
        have e32 : Az.eval (.tmp 32) = .pointer (some ⟨w2.heap.size, 3, none⟩) := Ez.dep 15 32 (by kernel_rfl) rfl
        have c2_3 := hB.2.cell 2 3 rfl rfl
        exact wpo_val (v := .int .i64 D) (run_load e32 (by simp [go_sem, c2_3])) (k _ _ rfl hB)
      | 17, ho =>
        obtain rfl := Option.some.inj ho
        intro Az Lz vz wy Kz Ez hB k
        have e3 : Az.eval (.tmp 3) = .pointer (some ⟨w.heap.size + 1, 0, none⟩) := Ez.out 3 (by kernel_rfl)
        exact wpo_val (v := .pointer (some ⟨w.heap.size + 1, 1, none⟩)) (run_index e3 rfl (by simp [go_sem])) (k _ _ rfl hB)
      | 18, ho =>
        obtain rfl := Option.some.inj ho
        intro Az Lz vz wy Kz Ez hB k
        have e34 : Az.eval (.tmp 34) = .pointer (some ⟨w.heap.size + 1, 1, none⟩) := Ez.dep 17 34 (by kernel_rfl) rfl
        have c3_1 := hB.2.cell 3 1 rfl rfl
        exact wpo_val (v := .int .i64 d1) (run_load e34 (by simp [go_sem, c3_1])) (k _ _ rfl hB)
      | 19, ho =>
        obtain rfl := Option.some.inj ho
        intro Az Lz vz wy Kz Ez hB k
        have e33 : Az.eval (.tmp 33) = .int .i64 D := Ez.dep 16 33 (by kernel_rfl) rfl
        have e35 : Az.eval (.tmp 35) = .int .i64 d1 := Ez.dep 18 35 (by kernel_rfl) rfl
        refine wpo_call (run_callW (fun _ _ => by kernel_rfl)) (R := fun e w' => e = .returned (.int .i64 v4) ∧ Below wy.heap.size wy w') ?_ ?_
        · simp only [List.map_toArray, List.map_cons, List.map_nil, eval_const, e33, e35]
          exact L4.out wy
        · rintro e w' ⟨rfl, hb⟩
          exact ⟨_, rfl, k _ _ rfl ⟨bel_tr0 hB.1 hb, hB.2.later hb⟩⟩
      | 20, ho =>
        obtain rfl := Option.some.inj ho
        intro Az Lz vz wy Kz Ez hB k
        have e21 : Az.eval (.tmp 21) = .int .i64 v1 := Ez.dep 4 21 (by kernel_rfl) rfl
        have e26 : Az.eval (.tmp 26) = .int .i64 v2 := Ez.dep 9 26 (by kernel_rfl) rfl
        have e31 : Az.eval (.tmp 31) = .int .i64 v3 := Ez.dep 14 31 (by kernel_rfl) rfl
        have e36 : Az.eval (.tmp 36) = .int .i64 v4 := Ez.dep 19 36 (by kernel_rfl) rfl
        exact wpo_val (v := .agg #[.int .i64 v1, .int .i64 v2, .int .i64 v3, .int .i64 v4]) (run_build (l' := #[(0, .int .i64 v1), (1, .int .i64 v2), (2, .int .i64 v3), (3, .int .i64 v4)]) (by simp only [List.map_toArray, List.map_cons, List.map_nil, eval_const, e21, e26, e31, e36]) (by simp [go_sem])) (k _ _ rfl hB)
      | 21, ho =>
        obtain rfl := Option.some.inj ho
        intro Az Lz vz wy Kz Ez hB k
        have e37 : Az.eval (.tmp 37) = .agg #[.int .i64 v1, .int .i64 v2, .int .i64 v3, .int .i64 v4] := Ez.dep 20 37 (by kernel_rfl) rfl
        refine wpo_call (run_callW (fun _ _ => by kernel_rfl)) (R := fun e w' => e = .returned (.agg #[.int .i64 P, .int .i64 Q, .int .i64 R, .int .i64 S]) ∧ Below wy.heap.size wy w') ?_ ?_
        · simp only [List.map_toArray, List.map_cons, List.map_nil, eval_const, e37]
          exact NMR.out wy
        · rintro e w' ⟨rfl, hb⟩
          exact ⟨_, rfl, k _ _ rfl ⟨bel_tr0 hB.1 hb, hB.2.later hb⟩⟩
      | 22, ho =>
        obtain rfl := Option.some.inj ho
        intro Az Lz vz wy Kz Ez hB k
        have e6 : Az.eval (.tmp 6) = .pointer (some ⟨w2.heap.size + 1, 0, none⟩) := Ez.out 6 (by kernel_rfl)
        have e38 : Az.eval (.tmp 38) = .agg #[.int .i64 P, .int .i64 Q, .int .i64 R, .int .i64 S] := Ez.dep 21 38 (by kernel_rfl) rfl
        have z22 : Lz 22 = false := Ez.not
        have hT := hB.2
        simp only [z22, Bool.false_eq_true, if_false] at hT
        have c1_0 := hT.cell 1 0 rfl rfl
        have f1_0 := hT.froz 1 0 rfl rfl
        have c1_1 := hT.cell 1 1 rfl rfl
        have f1_1 := hT.froz 1 1 rfl rfl
        have c1_2 := hT.cell 1 2 rfl rfl
        have f1_2 := hT.froz 1 2 rfl rfl
        have c1_3 := hT.cell 1 3 rfl rfl
        have f1_3 := hT.froz 1 3 rfl rfl
        refine wpo_skip (w' := ((((wy.setCell ⟨w2.heap.size + 1, 0, none⟩ (.int .i64 P)).setCell ⟨w2.heap.size + 1, 1, none⟩ (.int .i64 Q)).setCell ⟨w2.heap.size + 1, 2, none⟩ (.int .i64 R)).setCell ⟨w2.heap.size + 1, 3, none⟩ (.int .i64 S))) (run_store e6 e38 (by simp [go_sem, c1_0, f1_0, c1_1, f1_1, c1_2, f1_2, c1_3, f1_3])) (k _ _ trivial ⟨?_, ?_⟩)
        · have hk := hB.1
          repeat' (first | exact hk | (with_reducible refine Below.setCell ?_ ?_ _) | (simp; done) | (simp; omega) | omega | go_size)
        · have hU := hB.2
          simp only [z22, Bool.false_eq_true, if_false] at hU
          exact ((((hU.set1 1 0 (.int .i64 P) rfl HD.out).set1 1 1 (.int .i64 Q) rfl HD.out).set1 1 2 (.int .i64 R) rfl HD.out).set1 1 3 (.int .i64 S) rfl HD.out)
      | n + 23, ho => simp at ho
    · have l22 : Lz 22 = true := hL 22 (by decide)
      obtain ⟨hk, hT⟩ := hB
      simp only [l22, if_true] at hT
      have KB := Lib.hid hk
      have KT := Lib.hid hT
      clear hk hT hL
      simp only [puts2, mix, Act.put, List.setIfInBounds_toArray, List.set_cons_zero, List.set_cons_succ, Nat.zero_add, Nat.reduceAdd, List.getElem?_cons_zero, List.getElem?_cons_succ]
      go_wp2_with fail
      refine wp_region_vals [some (.pointer (some ⟨w2.heap.size, 2, none⟩)), some (.int .i64 C), some (.int .i64 (-C)), some (.pointer (some ⟨w.heap.size + 1, 1, none⟩)), some (.int .i64 d1), some (.int .i64 g1), some (.pointer (some ⟨w2.heap.size, 3, none⟩)), some (.int .i64 D), some (.int .i64 (-D)), some (.pointer (some ⟨w.heap.size + 1, 2, none⟩)), some (.int .i64 d2), some (.int .i64 g2), some (.int .i64 g1), some (.int .i64 g2)] (fun Lz _ wy => Below w.heap.size w wy ∧ Tab wy [(w2.heap.size + 1 + 1, [.int .i64 0, .int .i64 0, .int .i64 0, .int .i64 0]), (w2.heap.size + 1, [.int .i64 P, .int .i64 Q, .int .i64 R, .int .i64 S]), (w2.heap.size, [.int .i64 A, .int .i64 B, .int .i64 C, .int .i64 D]), (w.heap.size + 1, [.int .i64 d0, .int .i64 d1, .int .i64 d2, .int .i64 d3]), (w.heap.size, [.int .i64 a, .int .i64 b, .int .i64 c, .int .i64 d])])
        [some 39, some 40, some 41, some 42, some 43, some 44, some 45, some 46, some 47, some 48, some 49, some 50, some 8, some 9] (by kernel_rfl) (by kernel_rfl) (by kernel_rfl) (by kernel_rfl) (by kernel_rfl) (by kernel_rfl) ⟨KB.out.drew, KT.out.later ((Below.refl _ _).drew)⟩ (fun i o ho => ?_) (fun Lz vz wz hL hB => ?_)
      · match i, ho with
        | 0, ho =>
          obtain rfl := Option.some.inj ho
          intro Az Lz vz wy Kz Ez hB k
          have e5 : Az.eval (.tmp 5) = .pointer (some ⟨w2.heap.size, 0, none⟩) := Ez.out 5 (by kernel_rfl)
          exact wpo_val (v := .pointer (some ⟨w2.heap.size, 2, none⟩)) (run_index e5 rfl (by simp [go_sem])) (k _ _ rfl hB)
        | 1, ho =>
          obtain rfl := Option.some.inj ho
          intro Az Lz vz wy Kz Ez hB k
          have e39 : Az.eval (.tmp 39) = .pointer (some ⟨w2.heap.size, 2, none⟩) := Ez.dep 0 39 (by kernel_rfl) rfl
          have c2_2 := hB.2.cell 2 2 rfl rfl
          exact wpo_val (v := .int .i64 C) (run_load e39 (by simp [go_sem, c2_2])) (k _ _ rfl hB)
        | 2, ho =>
          obtain rfl := Option.some.inj ho
          intro Az Lz vz wy Kz Ez hB k
          have e40 : Az.eval (.tmp 40) = .int .i64 C := Ez.dep 1 40 (by kernel_rfl) rfl
          exact wpo_val (v := .int .i64 (-C)) (run_un e40 (by simp [go_sem, wC])) (k _ _ rfl hB)
        | 3, ho =>
          obtain rfl := Option.some.inj ho
          intro Az Lz vz wy Kz Ez hB k
          have e3 : Az.eval (.tmp 3) = .pointer (some ⟨w.heap.size + 1, 0, none⟩) := Ez.out 3 (by kernel_rfl)
          exact wpo_val (v := .pointer (some ⟨w.heap.size + 1, 1, none⟩)) (run_index e3 rfl (by simp [go_sem])) (k _ _ rfl hB)
        | 4, ho =>
          obtain rfl := Option.some.inj ho
          intro Az Lz vz wy Kz Ez hB k
          have e42 : Az.eval (.tmp 42) = .pointer (some ⟨w.heap.size + 1, 1, none⟩) := Ez.dep 3 42 (by kernel_rfl) rfl
          have c3_1 := hB.2.cell 3 1 rfl rfl
          exact wpo_val (v := .int .i64 d1) (run_load e42 (by simp [go_sem, c3_1])) (k _ _ rfl hB)
        | 5, ho =>
          obtain rfl := Option.some.inj ho
          intro Az Lz vz wy Kz Ez hB k
          have e41 : Az.eval (.tmp 41) = .int .i64 (-C) := Ez.dep 2 41 (by kernel_rfl) rfl
          have e43 : Az.eval (.tmp 43) = .int .i64 d1 := Ez.dep 4 43 (by kernel_rfl) rfl
          refine wpo_call (run_callW (fun _ _ => by kernel_rfl)) (R := fun e w' => e = .returned (.int .i64 g1) ∧ Below wy.heap.size wy w') ?_ ?_
          · simp only [List.map_toArray, List.map_cons, List.map_nil, eval_const, e41, e43]
            exact L5.out wy
          · rintro e w' ⟨rfl, hb⟩
            exact ⟨_, rfl, k _ _ rfl ⟨bel_tr0 hB.1 hb, hB.2.later hb⟩⟩
        | 6, ho =>
          obtain rfl := Option.some.inj ho
          intro Az Lz vz wy Kz Ez hB k
          have e5 : Az.eval (.tmp 5) = .pointer (some ⟨w2.heap.size, 0, none⟩) := Ez.out 5 (by kernel_rfl)
          exact wpo_val (v := .pointer (some ⟨w2.heap.size, 3, none⟩)) (run_index e5 rfl (by simp [go_sem])) (k _ _ rfl hB)
        | 7, ho =>
          obtain rfl := Option.some.inj ho
          intro Az Lz vz wy Kz Ez hB k
          have e45 : Az.eval (.tmp 45) = .pointer (some ⟨w2.heap.size, 3, none⟩) := Ez.dep 6 45 (by kernel_rfl) rfl
          have c2_3 := hB.2.cell 2 3 rfl rfl
          exact wpo_val (v := .int .i64 D) (run_load e45 (by simp [go_sem, c2_3])) (k _ _ rfl hB)
        | 8, ho =>
          obtain rfl := Option.some.inj ho
          intro Az Lz vz wy Kz Ez hB k
          have e46 : Az.eval (.tmp 46) = .int .i64 D := Ez.dep 7 46 (by kernel_rfl) rfl
          exact wpo_val (v := .int .i64 (-D)) (run_un e46 (by simp [go_sem, wD])) (k _ _ rfl hB)
        | 9, ho =>
          obtain rfl := Option.some.inj ho
          intro Az Lz vz wy Kz Ez hB k
          have e3 : Az.eval (.tmp 3) = .pointer (some ⟨w.heap.size + 1, 0, none⟩) := Ez.out 3 (by kernel_rfl)
          exact wpo_val (v := .pointer (some ⟨w.heap.size + 1, 2, none⟩)) (run_index e3 rfl (by simp [go_sem])) (k _ _ rfl hB)
        | 10, ho =>
          obtain rfl := Option.some.inj ho
          intro Az Lz vz wy Kz Ez hB k
          have e48 : Az.eval (.tmp 48) = .pointer (some ⟨w.heap.size + 1, 2, none⟩) := Ez.dep 9 48 (by kernel_rfl) rfl
          have c3_2 := hB.2.cell 3 2 rfl rfl
          exact wpo_val (v := .int .i64 d2) (run_load e48 (by simp [go_sem, c3_2])) (k _ _ rfl hB)
        | 11, ho =>
          obtain rfl := Option.some.inj ho
          intro Az Lz vz wy Kz Ez hB k
          have e47 : Az.eval (.tmp 47) = .int .i64 (-D) := Ez.dep 8 47 (by kernel_rfl) rfl
          have e49 : Az.eval (.tmp 49) = .int .i64 d2 := Ez.dep 10 49 (by kernel_rfl) rfl
          refine wpo_call (run_callW (fun _ _ => by kernel_rfl)) (R := fun e w' => e = .returned (.int .i64 g2) ∧ Below wy.heap.size wy w') ?_ ?_
          · simp only [List.map_toArray, List.map_cons, List.map_nil, eval_const, e47, e49]
            exact L6.out wy
          · rintro e w' ⟨rfl, hb⟩
            exact ⟨_, rfl, k _ _ rfl ⟨bel_tr0 hB.1 hb, hB.2.later hb⟩⟩
        | 12, ho =>
          obtain rfl := Option.some.inj ho
          intro Az Lz vz wy Kz Ez hB k
          have e44 : Az.eval (.tmp 44) = .int .i64 g1 := Ez.dep 5 44 (by kernel_rfl) rfl
          exact wpo_val (v := .int .i64 g1) (run_assign e44) (k _ _ rfl hB)
        | 13, ho =>
          obtain rfl := Option.some.inj ho
          intro Az Lz vz wy Kz Ez hB k
          have e50 : Az.eval (.tmp 50) = .int .i64 g2 := Ez.dep 11 50 (by kernel_rfl) rfl
          exact wpo_val (v := .int .i64 g2) (run_assign e50) (k _ _ rfl hB)
        | n + 14, ho => simp at ho
      · obtain ⟨hk, hT⟩ := hB
        have KB := Lib.hid hk
        have KT := Lib.hid hT
        clear hk hT hL
        simp only [puts2, mix, Act.put, List.setIfInBounds_toArray, List.set_cons_zero, List.set_cons_succ, Nat.zero_add, Nat.reduceAdd, List.getElem?_cons_zero, List.getElem?_cons_succ]
        go_wp2_with fail
        refine wp_region_vals [some (.pointer (some ⟨w2.heap.size, 0, none⟩)), some (.int .i64 A), some (.pointer (some ⟨w.heap.size + 1, 3, none⟩)), some (.int .i64 d3), some (.int .i64 v5), some (.pointer (some ⟨w2.heap.size, 1, none⟩)), some (.int .i64 B), some (.pointer (some ⟨w.heap.size + 1, 0, none⟩)), some (.int .i64 d0), some (.int .i64 v6), some (.int .i64 g1), some (.int .i64 (-g1)), some (.int .i64 g2), some (.int .i64 (-g2)), some (.agg #[.int .i64 v5, .int .i64 v6, .int .i64 (-g1), .int .i64 (-g2)]), some (.agg #[.int .i64 P1, .int .i64 Q1, .int .i64 R1, .int .i64 S1]), none] (fun Lz _ wy => Below w.heap.size w wy ∧ Tab wy [(w2.heap.size + 1 + 1, if Lz 16 = true then [.int .i64 P1, .int .i64 Q1, .int .i64 R1, .int .i64 S1] else [.int .i64 0, .int .i64 0, .int .i64 0, .int .i64 0]), (w2.heap.size + 1, [.int .i64 P, .int .i64 Q, .int .i64 R, .int .i64 S]), (w2.heap.size, [.int .i64 A, .int .i64 B, .int .i64 C, .int .i64 D]), (w.heap.size + 1, [.int .i64 d0, .int .i64 d1, .int .i64 d2, .int .i64 d3]), (w.heap.size, [.int .i64 a, .int .i64 b, .int .i64 c, .int .i64 d])])
          [some 51, some 52, some 53, some 54, some 55, some 56, some 57, some 58, some 59, some 60, some 61, some 62, some 63, some 64, some 65, some 66, none] (by kernel_rfl) (by kernel_rfl) (by kernel_rfl) (by kernel_rfl) (by kernel_rfl) (by kernel_rfl) ⟨KB.out.drew, KT.out.later ((Below.refl _ _).drew)⟩ (fun i o ho => ?_) (fun Lz vz wz hL hB => ?_)
        · match i, ho with
          | 0, ho =>
            obtain rfl := Option.some.inj ho
            intro Az Lz vz wy Kz Ez hB k
            have e5 : Az.eval (.tmp 5) = .pointer (some ⟨w2.heap.size, 0, none⟩) := Ez.out 5 (by kernel_rfl)
            exact wpo_val (v := .pointer (some ⟨w2.heap.size, 0, none⟩)) (run_index e5 rfl (by simp [go_sem])) (k _ _ rfl hB)
          | 1, ho =>
            obtain rfl := Option.some.inj ho
            intro Az Lz vz wy Kz Ez hB k
            have e51 : Az.eval (.tmp 51) = .pointer (some ⟨w2.heap.size, 0, none⟩) := Ez.dep 0 51 (by kernel_rfl) rfl
            have c2_0 := hB.2.cell 2 0 rfl rfl
            exact wpo_val (v := .int .i64 A) (run_load e51 (by simp [go_sem, c2_0])) (k _ _ rfl hB)
          | 2, ho =>
            obtain rfl := Option.some.inj ho
            intro Az Lz vz wy Kz Ez hB k
            have e3 : Az.eval (.tmp 3) = .pointer (some ⟨w.heap.size + 1, 0, none⟩) := Ez.out 3 (by kernel_rfl)
            exact wpo_val (v := .pointer (some ⟨w.heap.size + 1, 3, none⟩)) (run_index e3 rfl (by simp [go_sem])) (k _ _ rfl hB)
          | 3, ho =>
            obtain rfl := Option.some.inj ho
            intro Az Lz vz wy Kz Ez hB k
            have e53 : Az.eval (.tmp 53) = .pointer (some ⟨w.heap.size + 1, 3, none⟩) := Ez.dep 2 53 (by kernel_rfl) rfl
            have c3_3 := hB.2.cell 3 3 rfl rfl
            exact wpo_val (v := .int .i64 d3) (run_load e53 (by simp [go_sem, c3_3])) (k _ _ rfl hB)
          | 4, ho =>
            obtain rfl := Option.some.inj ho
            intro Az Lz vz wy Kz Ez hB k
            have e52 : Az.eval (.tmp 52) = .int .i64 A := Ez.dep 1 52 (by kernel_rfl) rfl
            have e54 : Az.eval (.tmp 54) = .int .i64 d3 := Ez.dep 3 54 (by kernel_rfl) rfl
            refine wpo_call (run_callW (fun _ _ => by kernel_rfl)) (R := fun e w' => e = .returned (.int .i64 v5) ∧ Below wy.heap.size wy w') ?_ ?_
            · simp only [List.map_toArray, List.map_cons, List.map_nil, eval_const, e52, e54]
              exact L7.out wy
            · rintro e w' ⟨rfl, hb⟩
              exact ⟨_, rfl, k _ _ rfl ⟨bel_tr0 hB.1 hb, hB.2.later hb⟩⟩
          | 5, ho =>
            obtain rfl := Option.some.inj ho
            intro Az Lz vz wy Kz Ez hB k
            have e5 : Az.eval (.tmp 5) = .pointer (some ⟨w2.heap.size, 0, none⟩) := Ez.out 5 (by kernel_rfl)
            exact wpo_val (v := .pointer (some ⟨w2.heap.size, 1, none⟩)) (run_index e5 rfl (by simp [go_sem])) (k _ _ rfl hB)
          | 6, ho =>
            obtain rfl := Option.some.inj ho
            intro Az Lz vz wy Kz Ez hB k
            have e56 : Az.eval (.tmp 56) = .pointer (some ⟨w2.heap.size, 1, none⟩) := Ez.dep 5 56 (by kernel_rfl) rfl
            have c2_1 := hB.2.cell 2 1 rfl rfl
            exact wpo_val (v := .int .i64 B) (run_load e56 (by simp [go_sem, c2_1])) (k _ _ rfl hB)
          | 7, ho =>
            obtain rfl := Option.some.inj ho
            intro Az Lz vz wy Kz Ez hB k
            have e3 : Az.eval (.tmp 3) = .pointer (some ⟨w.heap.size + 1, 0, none⟩) := Ez.out 3 (by kernel_rfl)
            exact wpo_val (v := .pointer (some ⟨w.heap.size + 1, 0, none⟩)) (run_index e3 rfl (by simp [go_sem])) (k _ _ rfl hB)
          | 8, ho =>
            obtain rfl := Option.some.inj ho
            intro Az Lz vz wy Kz Ez hB k
            have e58 : Az.eval (.tmp 58) = .pointer (some ⟨w.heap.size + 1, 0, none⟩) := Ez.dep 7 58 (by kernel_rfl) rfl
            have c3_0 := hB.2.cell 3 0 rfl rfl
            exact wpo_val (v := .int .i64 d0) (run_load e58 (by simp [go_sem, c3_0])) (k _ _ rfl hB)
          | 9, ho =>
            obtain rfl := Option.some.inj ho
            intro Az Lz vz wy Kz Ez hB k
            have e57 : Az.eval (.tmp 57) = .int .i64 B := Ez.dep 6 57 (by kernel_rfl) rfl
            have e59 : Az.eval (.tmp 59) = .int .i64 d0 := Ez.dep 8 59 (by kernel_rfl) rfl
            refine wpo_call (run_callW (fun _ _ => by kernel_rfl)) (R := fun e w' => e = .returned (.int .i64 v6) ∧ Below wy.heap.size wy w') ?_ ?_
            · simp only [List.map_toArray, List.map_cons, List.map_nil, eval_const, e57, e59]
              exact L8.out wy
            · rintro e w' ⟨rfl, hb⟩
              exact ⟨_, rfl, k _ _ rfl ⟨bel_tr0 hB.1 hb, hB.2.later hb⟩⟩
          | 10, ho =>
            obtain rfl := Option.some.inj ho
            intro Az Lz vz wy Kz Ez hB k
            have e8 : Az.eval (.tmp 8) = .int .i64 g1 := Ez.out 8 (by kernel_rfl)
            exact wpo_val (v := .int .i64 g1) (run_move e8) (k _ _ rfl hB)
          | 11, ho =>
            obtain rfl := Option.some.inj ho
            intro Az Lz vz wy Kz Ez hB k
            have e61 : Az.eval (.tmp 61) = .int .i64 g1 := Ez.dep 10 61 (by kernel_rfl) rfl
            exact wpo_val (v := .int .i64 (-g1)) (run_un e61 (by simp [go_sem, wg1])) (k _ _ rfl hB)
          | 12, ho =>
            obtain rfl := Option.some.inj ho
            intro Az Lz vz wy Kz Ez hB k
            have e9 : Az.eval (.tmp 9) = .int .i64 g2 := Ez.out 9 (by kernel_rfl)
            exact wpo_val (v := .int .i64 g2) (run_move e9) (k _ _ rfl hB)
          | 13, ho =>
            obtain rfl := Option.some.inj ho
            intro Az Lz vz wy Kz Ez hB k
            have e63 : Az.eval (.tmp 63) = .int .i64 g2 := Ez.dep 12 63 (by kernel_rfl) rfl
            exact wpo_val (v := .int .i64 (-g2)) (run_un e63 (by simp [go_sem, wg2])) (k _ _ rfl hB)
          | 14, ho =>
            obtain rfl := Option.some.inj ho
            intro Az Lz vz wy Kz Ez hB k
            have e55 : Az.eval (.tmp 55) = .int .i64 v5 := Ez.dep 4 55 (by kernel_rfl) rfl
            have e60 : Az.eval (.tmp 60) = .int .i64 v6 := Ez.dep 9 60 (by kernel_rfl) rfl
            have e62 : Az.eval (.tmp 62) = .int .i64 (-g1) := Ez.dep 11 62 (by kernel_rfl) rfl
            have e64 : Az.eval (.tmp 64) = .int .i64 (-g2) := Ez.dep 13 64 (by kernel_rfl) rfl
            exact wpo_val (v := .agg #[.int .i64 v5, .int .i64 v6, .int .i64 (-g1), .int .i64 (-g2)]) (run_build (l' := #[(0, .int .i64 v5), (1, .int .i64 v6), (2, .int .i64 (-g1)), (3, .int .i64 (-g2))]) (by simp only [List.map_toArray, List.map_cons, List.map_nil, eval_const, e55, e60, e62, e64]) (by simp [go_sem])) (k _ _ rfl hB)
          | 15, ho =>
            obtain rfl := Option.some.inj ho
            intro Az Lz vz wy Kz Ez hB k
            have e65 : Az.eval (.tmp 65) = .agg #[.int .i64 v5, .int .i64 v6, .int .i64 (-g1), .int .i64 (-g2)] := Ez.dep 14 65 (by kernel_rfl) rfl
            refine wpo_call (run_callW (fun _ _ => by kernel_rfl)) (R := fun e w' => e = .returned (.agg #[.int .i64 P1, .int .i64 Q1, .int .i64 R1, .int .i64 S1]) ∧ Below wy.heap.size wy w') ?_ ?_
            · simp only [List.map_toArray, List.map_cons, List.map_nil, eval_const, e65]
              exact NIR.out wy
            · rintro e w' ⟨rfl, hb⟩
              exact ⟨_, rfl, k _ _ rfl ⟨bel_tr0 hB.1 hb, hB.2.later hb⟩⟩
          | 16, ho =>
            obtain rfl := Option.some.inj ho
            intro Az Lz vz wy Kz Ez hB k
            have e7 : Az.eval (.tmp 7) = .pointer (some ⟨w2.heap.size + 1 + 1, 0, none⟩) := Ez.out 7 (by kernel_rfl)
            have e66 : Az.eval (.tmp 66) = .agg #[.int .i64 P1, .int .i64 Q1, .int .i64 R1, .int .i64 S1] := Ez.dep 15 66 (by kernel_rfl) rfl
            have z16 : Lz 16 = false := Ez.not
            have hT := hB.2
            simp only [z16, Bool.false_eq_true, if_false] at hT
            have c0_0 := hT.cell 0 0 rfl rfl
            have f0_0 := hT.froz 0 0 rfl rfl
            have c0_1 := hT.cell 0 1 rfl rfl
            have f0_1 := hT.froz 0 1 rfl rfl
            have c0_2 := hT.cell 0 2 rfl rfl
            have f0_2 := hT.froz 0 2 rfl rfl
            have c0_3 := hT.cell 0 3 rfl rfl
            have f0_3 := hT.froz 0 3 rfl rfl
            refine wpo_skip (w' := ((((wy.setCell ⟨w2.heap.size + 1 + 1, 0, none⟩ (.int .i64 P1)).setCell ⟨w2.heap.size + 1 + 1, 1, none⟩ (.int .i64 Q1)).setCell ⟨w2.heap.size + 1 + 1, 2, none⟩ (.int .i64 R1)).setCell ⟨w2.heap.size + 1 + 1, 3, none⟩ (.int .i64 S1))) (run_store e7 e66 (by simp [go_sem, c0_0, f0_0, c0_1, f0_1, c0_2, f0_2, c0_3, f0_3])) (k _ _ trivial ⟨?_, ?_⟩)
            · have hk := hB.1
              repeat' (first | exact hk | (with_reducible refine Below.setCell ?_ ?_ _) | (simp; done) | (simp; omega) | omega | go_size)
            · have hU := hB.2
              simp only [z16, Bool.false_eq_true, if_false] at hU
              exact ((((hU.set1 0 0 (.int .i64 P1) rfl HD.out).set1 0 1 (.int .i64 Q1) rfl HD.out).set1 0 2 (.int .i64 R1) rfl HD.out).set1 0 3 (.int .i64 S1) rfl HD.out)
          | n + 17, ho => simp at ho
        · have l16 : Lz 16 = true := hL 16 (by decide)
          obtain ⟨hk, hT⟩ := hB
          simp only [l16, if_true] at hT
          have KB := Lib.hid hk
          have KT := Lib.hid hT
          clear hk hT hL
          simp only [puts2, mix, Act.put, List.setIfInBounds_toArray, List.set_cons_zero, List.set_cons_succ, Nat.zero_add, Nat.reduceAdd, List.getElem?_cons_zero, List.getElem?_cons_succ]
          go_wp2_with fail
          refine wp_region_vals [some (.agg #[.int .i64 a, .int .i64 b, .int .i64 c, .int .i64 d]), some (.agg #[.int .i64 a, .int .i64 b, .int .i64 c, .int .i64 d]), some (.pointer (some ⟨w.heap.size + 1, 0, none⟩)), some (.int .i64 d0), some (.pointer (some ⟨w.heap.size + 1, 1, none⟩)), some (.int .i64 d1), some (.agg #[.int .i64 P, .int .i64 Q, .int .i64 R, .int .i64 S]), some (.agg #[.int .i64 P, .int .i64 Q, .int .i64 R, .int .i64 S]), some (.agg #[.int .i64 P, .int .i64 Q, .int .i64 R, .int .i64 S]), some (.bool true), some (.bool true), some (.agg #[.int .i64 a, .int .i64 b, .int .i64 c, .int .i64 d]), some (.agg #[.int .i64 a, .int .i64 b, .int .i64 c, .int .i64 d]), some (.pointer (some ⟨w.heap.size + 1, 0, none⟩)), some (.int .i64 d0), some (.pointer (some ⟨w.heap.size + 1, 1, none⟩)), some (.int .i64 d1), some (.pointer (some ⟨w.heap.size + 1, 2, none⟩)), some (.int .i64 d2), some (.pointer (some ⟨w.heap.size + 1, 3, none⟩)), some (.int .i64 d3), some (.agg #[.int .i64 P1, .int .i64 Q1, .int .i64 R1, .int .i64 S1]), some (.agg #[.int .i64 P1, .int .i64 Q1, .int .i64 R1, .int .i64 S1]), some (.agg #[.int .i64 P1, .int .i64 Q1, .int .i64 R1, .int .i64 S1]), some (.bool true), some (.bool true), some (.bool true)] (fun Lz _ wy => Below w.heap.size w wy ∧ Tab wy [(w2.heap.size + 1 + 1, [.int .i64 P1, .int .i64 Q1, .int .i64 R1, .int .i64 S1]), (w2.heap.size + 1, [.int .i64 P, .int .i64 Q, .int .i64 R, .int .i64 S]), (w2.heap.size, [.int .i64 A, .int .i64 B, .int .i64 C, .int .i64 D]), (w.heap.size + 1, [.int .i64 d0, .int .i64 d1, .int .i64 d2, .int .i64 d3]), (w.heap.size, [.int .i64 a, .int .i64 b, .int .i64 c, .int .i64 d])])
            [some 67, some 68, some 69, some 70, some 71, some 72, some 73, some 74, some 75, some 76, some 77, some 78, some 79, some 80, some 81, some 82, some 83, some 84, some 85, some 86, some 87, some 88, some 89, some 90, some 91, some 92, some 4] (by kernel_rfl) (by kernel_rfl) (by kernel_rfl) (by kernel_rfl) (by kernel_rfl) (by kernel_rfl) ⟨KB.out.drew, KT.out.later ((Below.refl _ _).drew)⟩ (fun i o ho => ?_) (fun Lz vz wz hL hB => ?_)
          · match i, ho with
            | 0, ho =>
              obtain rfl := Option.some.inj ho
              intro Az Lz vz wy Kz Ez hB k
              have e2 : Az.eval (.tmp 2) = .pointer (some ⟨w.heap.size, 0, none⟩) := Ez.out 2 (by kernel_rfl)
              have c4_0 := hB.2.cell 4 0 rfl rfl
              have c4_1 := hB.2.cell 4 1 rfl rfl
              have c4_2 := hB.2.cell 4 2 rfl rfl
              have c4_3 := hB.2.cell 4 3 rfl rfl
              exact wpo_val (v := .agg #[.int .i64 a, .int .i64 b, .int .i64 c, .int .i64 d]) (run_load e2 (by simp [go_sem, c4_0, c4_1, c4_2, c4_3])) (k _ _ rfl hB)
            | 1, ho =>
              obtain rfl := Option.some.inj ho
              intro Az Lz vz wy Kz Ez hB k
              have e67 : Az.eval (.tmp 67) = .agg #[.int .i64 a, .int .i64 b, .int .i64 c, .int .i64 d] := Ez.dep 0 67 (by kernel_rfl) rfl
              refine wpo_call (run_callW (fun _ _ => by kernel_rfl)) (R := fun e w' => e = .returned (.agg #[.int .i64 a, .int .i64 b, .int .i64 c, .int .i64 d]) ∧ Below wy.heap.size wy w') ?_ ?_
              · simp only [List.map_toArray, List.map_cons, List.map_nil, eval_const, e67]
                exact N0.out wy
              · rintro e w' ⟨rfl, hb⟩
                exact ⟨_, rfl, k _ _ rfl ⟨bel_tr0 hB.1 hb, hB.2.later hb⟩⟩
            | 2, ho =>
              obtain rfl := Option.some.inj ho
              intro Az Lz vz wy Kz Ez hB k
              have e3 : Az.eval (.tmp 3) = .pointer (some ⟨w.heap.size + 1, 0, none⟩) := Ez.out 3 (by kernel_rfl)
              exact wpo_val (v := .pointer (some ⟨w.heap.size + 1, 0, none⟩)) (run_index e3 rfl (by simp [go_sem])) (k _ _ rfl hB)
            | 3, ho =>
              obtain rfl := Option.some.inj ho
              intro Az Lz vz wy Kz Ez hB k
              have e69 : Az.eval (.tmp 69) = .pointer (some ⟨w.heap.size + 1, 0, none⟩) := Ez.dep 2 69 (by kernel_rfl) rfl
              have c3_0 := hB.2.cell 3 0 rfl rfl
              exact wpo_val (v := .int .i64 d0) (run_load e69 (by simp [go_sem, c3_0])) (k _ _ rfl hB)
            | 4, ho =>
              obtain rfl := Option.some.inj ho
              intro Az Lz vz wy Kz Ez hB k
              have e3 : Az.eval (.tmp 3) = .pointer (some ⟨w.heap.size + 1, 0, none⟩) := Ez.out 3 (by kernel_rfl)
              exact wpo_val (v := .pointer (some ⟨w.heap.size + 1, 1, none⟩)) (run_index e3 rfl (by simp [go_sem])) (k _ _ rfl hB)
            | 5, ho =>
              obtain rfl := Option.some.inj ho
              intro Az Lz vz wy Kz Ez hB k
              have e71 : Az.eval (.tmp 71) = .pointer (some ⟨w.heap.size + 1, 1, none⟩) := Ez.dep 4 71 (by kernel_rfl) rfl
              have c3_1 := hB.2.cell 3 1 rfl rfl
              exact wpo_val (v := .int .i64 d1) (run_load e71 (by simp [go_sem, c3_1])) (k _ _ rfl hB)
            | 6, ho =>
              obtain rfl := Option.some.inj ho
              intro Az Lz vz wy Kz Ez hB k
              have e68 : Az.eval (.tmp 68) = .agg #[.int .i64 a, .int .i64 b, .int .i64 c, .int .i64 d] := Ez.dep 1 68 (by kernel_rfl) rfl
              have e70 : Az.eval (.tmp 70) = .int .i64 d0 := Ez.dep 3 70 (by kernel_rfl) rfl
              have e72 : Az.eval (.tmp 72) = .int .i64 d1 := Ez.dep 5 72 (by kernel_rfl) rfl
              refine wpo_call (run_callW (fun _ _ => by kernel_rfl)) (R := fun e w' => e = .returned (.agg #[.int .i64 P, .int .i64 Q, .int .i64 R, .int .i64 S]) ∧ Below wy.heap.size wy w') ?_ ?_
              · simp only [List.map_toArray, List.map_cons, List.map_nil, eval_const, e68, e70, e72]
                exact NM.out wy
              · rintro e w' ⟨rfl, hb⟩
                exact ⟨_, rfl, k _ _ rfl ⟨bel_tr0 hB.1 hb, hB.2.later hb⟩⟩
            | 7, ho =>
              obtain rfl := Option.some.inj ho
              intro Az Lz vz wy Kz Ez hB k
              have e73 : Az.eval (.tmp 73) = .agg #[.int .i64 P, .int .i64 Q, .int .i64 R, .int .i64 S] := Ez.dep 6 73 (by kernel_rfl) rfl
              refine wpo_call (run_callW (fun _ _ => by kernel_rfl)) (R := fun e w' => e = .returned (.agg #[.int .i64 P, .int .i64 Q, .int .i64 R, .int .i64 S]) ∧ Below wy.heap.size wy w') ?_ ?_
              · simp only [List.map_toArray, List.map_cons, List.map_nil, eval_const, e73]
                exact NP.out wy
              · rintro e w' ⟨rfl, hb⟩
                exact ⟨_, rfl, k _ _ rfl ⟨bel_tr0 hB.1 hb, hB.2.later hb⟩⟩
            | 8, ho =>
              obtain rfl := Option.some.inj ho
              intro Az Lz vz wy Kz Ez hB k
              have e6 : Az.eval (.tmp 6) = .pointer (some ⟨w2.heap.size + 1, 0, none⟩) := Ez.out 6 (by kernel_rfl)
              have c1_0 := hB.2.cell 1 0 rfl rfl
              have c1_1 := hB.2.cell 1 1 rfl rfl
              have c1_2 := hB.2.cell 1 2 rfl rfl
              have c1_3 := hB.2.cell 1 3 rfl rfl
              exact wpo_val (v := .agg #[.int .i64 P, .int .i64 Q, .int .i64 R, .int .i64 S]) (run_load e6 (by simp [go_sem, c1_0, c1_1, c1_2, c1_3])) (k _ _ rfl hB)
            | 9, ho =>
              obtain rfl := Option.some.inj ho
              intro Az Lz vz wy Kz Ez hB k
              have e74 : Az.eval (.tmp 74) = .agg #[.int .i64 P, .int .i64 Q, .int .i64 R, .int .i64 S] := Ez.dep 7 74 (by kernel_rfl) rfl
              have e75 : Az.eval (.tmp 75) = .agg #[.int .i64 P, .int .i64 Q, .int .i64 R, .int .i64 S] := Ez.dep 8 75 (by kernel_rfl) rfl
              exact wpo_val (v := .bool true) (run_bin e74 e75 (by simp [go_sem]) (by exact QM.out wy)) (k _ _ rfl hB)
            | 10, ho =>
              obtain rfl := Option.some.inj ho
              intro Az Lz vz wy Kz Ez hB k
              have e76 : Az.eval (.tmp 76) = .bool true := Ez.dep 9 76 (by kernel_rfl) rfl
              exact wpo_val (v := .bool true) (run_move e76) (k _ _ rfl hB)
            | 11, ho =>
              obtain rfl := Option.some.inj ho
              intro Az Lz vz wy Kz Ez hB k
              have e2 : Az.eval (.tmp 2) = .pointer (some ⟨w.heap.size, 0, none⟩) := Ez.out 2 (by kernel_rfl)
              have c4_0 := hB.2.cell 4 0 rfl rfl
              have c4_1 := hB.2.cell 4 1 rfl rfl
              have c4_2 := hB.2.cell 4 2 rfl rfl
              have c4_3 := hB.2.cell 4 3 rfl rfl
              exact wpo_val (v := .agg #[.int .i64 a, .int .i64 b, .int .i64 c, .int .i64 d]) (run_load e2 (by simp [go_sem, c4_0, c4_1, c4_2, c4_3])) (k _ _ rfl hB)
            | 12, ho =>
              obtain rfl := Option.some.inj ho
              intro Az Lz vz wy Kz Ez hB k
              have e78 : Az.eval (.tmp 78) = .agg #[.int .i64 a, .int .i64 b, .int .i64 c, .int .i64 d] := Ez.dep 11 78 (by kernel_rfl) rfl
              refine wpo_call (run_callW (fun _ _ => by kernel_rfl)) (R := fun e w' => e = .returned (.agg #[.int .i64 a, .int .i64 b, .int .i64 c, .int .i64 d]) ∧ Below wy.heap.size wy w') ?_ ?_
              · simp only [List.map_toArray, List.map_cons, List.map_nil, eval_const, e78]
                exact N0.out wy
              · rintro e w' ⟨rfl, hb⟩
                exact ⟨_, rfl, k _ _ rfl ⟨bel_tr0 hB.1 hb, hB.2.later hb⟩⟩
            | 13, ho =>
              obtain rfl := Option.some.inj ho
              intro Az Lz vz wy Kz Ez hB k
              have e3 : Az.eval (.tmp 3) = .pointer (some ⟨w.heap.size + 1, 0, none⟩) := Ez.out 3 (by kernel_rfl)
              exact wpo_val (v := .pointer (some ⟨w.heap.size + 1, 0, none⟩)) (run_index e3 rfl (by simp [go_sem])) (k _ _ rfl hB)
            | 14, ho =>
              obtain rfl := Option.some.inj ho
              intro Az Lz vz wy Kz Ez hB k
              have e80 : Az.eval (.tmp 80) = .pointer (some ⟨w.heap.size + 1, 0, none⟩) := Ez.dep 13 80 (by kernel_rfl) rfl
              have c3_0 := hB.2.cell 3 0 rfl rfl
              exact wpo_val (v := .int .i64 d0) (run_load e80 (by simp [go_sem, c3_0])) (k _ _ rfl hB)
            | 15, ho =>
              obtain rfl := Option.some.inj ho
              intro Az Lz vz wy Kz Ez hB k
              have e3 : Az.eval (.tmp 3) = .pointer (some ⟨w.heap.size + 1, 0, none⟩) := Ez.out 3 (by kernel_rfl)
              exact wpo_val (v := .pointer (some ⟨w.heap.size + 1, 1, none⟩)) (run_index e3 rfl (by simp [go_sem])) (k _ _ rfl hB)
            | 16, ho =>
              obtain rfl := Option.some.inj ho
              intro Az Lz vz wy Kz Ez hB k
              have e82 : Az.eval (.tmp 82) = .pointer (some ⟨w.heap.size + 1, 1, none⟩) := Ez.dep 15 82 (by kernel_rfl) rfl
              have c3_1 := hB.2.cell 3 1 rfl rfl
              exact wpo_val (v := .int .i64 d1) (run_load e82 (by simp [go_sem, c3_1])) (k _ _ rfl hB)
            | 17, ho =>
              obtain rfl := Option.some.inj ho
              intro Az Lz vz wy Kz Ez hB k
              have e3 : Az.eval (.tmp 3) = .pointer (some ⟨w.heap.size + 1, 0, none⟩) := Ez.out 3 (by kernel_rfl)
              exact wpo_val (v := .pointer (some ⟨w.heap.size + 1, 2, none⟩)) (run_index e3 rfl (by simp [go_sem])) (k _ _ rfl hB)
            | 18, ho =>
              obtain rfl := Option.some.inj ho
              intro Az Lz vz wy Kz Ez hB k
              have e84 : Az.eval (.tmp 84) = .pointer (some ⟨w.heap.size + 1, 2, none⟩) := Ez.dep 17 84 (by kernel_rfl) rfl
              have c3_2 := hB.2.cell 3 2 rfl rfl
              exact wpo_val (v := .int .i64 d2) (run_load e84 (by simp [go_sem, c3_2])) (k _ _ rfl hB)
            | 19, ho =>
              obtain rfl := Option.some.inj ho
              intro Az Lz vz wy Kz Ez hB k
              have e3 : Az.eval (.tmp 3) = .pointer (some ⟨w.heap.size + 1, 0, none⟩) := Ez.out 3 (by kernel_rfl)
              exact wpo_val (v := .pointer (some ⟨w.heap.size + 1, 3, none⟩)) (run_index e3 rfl (by simp [go_sem])) (k _ _ rfl hB)
            | 20, ho =>
              obtain rfl := Option.some.inj ho
              intro Az Lz vz wy Kz Ez hB k
              have e86 : Az.eval (.tmp 86) = .pointer (some ⟨w.heap.size + 1, 3, none⟩) := Ez.dep 19 86 (by kernel_rfl) rfl
              have c3_3 := hB.2.cell 3 3 rfl rfl
              exact wpo_val (v := .int .i64 d3) (run_load e86 (by simp [go_sem, c3_3])) (k _ _ rfl hB)
            | 21, ho =>
              obtain rfl := Option.some.inj ho
              intro Az Lz vz wy Kz Ez hB k
              have e79 : Az.eval (.tmp 79) = .agg #[.int .i64 a, .int .i64 b, .int .i64 c, .int .i64 d] := Ez.dep 12 79 (by kernel_rfl) rfl
              have e81 : Az.eval (.tmp 81) = .int .i64 d0 := Ez.dep 14 81 (by kernel_rfl) rfl
              have e83 : Az.eval (.tmp 83) = .int .i64 d1 := Ez.dep 16 83 (by kernel_rfl) rfl
              have e85 : Az.eval (.tmp 85) = .int .i64 d2 := Ez.dep 18 85 (by kernel_rfl) rfl
              have e87 : Az.eval (.tmp 87) = .int .i64 d3 := Ez.dep 20 87 (by kernel_rfl) rfl
              refine wpo_call (run_callW (fun _ _ => by kernel_rfl)) (R := fun e w' => e = .returned (.agg #[.int .i64 P1, .int .i64 Q1, .int .i64 R1, .int .i64 S1]) ∧ Below wy.heap.size wy w') ?_ ?_
              · simp only [List.map_toArray, List.map_cons, List.map_nil, eval_const, e79, e81, e83, e85, e87]
                exact NI.out wy
              · rintro e w' ⟨rfl, hb⟩
                exact ⟨_, rfl, k _ _ rfl ⟨bel_tr0 hB.1 hb, hB.2.later hb⟩⟩
            | 22, ho =>
              obtain rfl := Option.some.inj ho
              intro Az Lz vz wy Kz Ez hB k
              have e88 : Az.eval (.tmp 88) = .agg #[.int .i64 P1, .int .i64 Q1, .int .i64 R1, .int .i64 S1] := Ez.dep 21 88 (by kernel_rfl) rfl
              refine wpo_call (run_callW (fun _ _ => by kernel_rfl)) (R := fun e w' => e = .returned (.agg #[.int .i64 P1, .int .i64 Q1, .int .i64 R1, .int .i64 S1]) ∧ Below wy.heap.size wy w') ?_ ?_
              · simp only [List.map_toArray, List.map_cons, List.map_nil, eval_const, e88]
                exact NP1.out wy
              · rintro e w' ⟨rfl, hb⟩
                exact ⟨_, rfl, k _ _ rfl ⟨bel_tr0 hB.1 hb, hB.2.later hb⟩⟩
            | 23, ho =>
              obtain rfl := Option.some.inj ho
              intro Az Lz vz wy Kz Ez hB k
              have e7 : Az.eval (.tmp 7) = .pointer (some ⟨w2.heap.size + 1 + 1, 0, none⟩) := Ez.out 7 (by kernel_rfl)
              have c0_0 := hB.2.cell 0 0 rfl rfl
              have c0_1 := hB.2.cell 0 1 rfl rfl
              have c0_2 := hB.2.cell 0 2 rfl rfl
              have c0_3 := hB.2.cell 0 3 rfl rfl
              exact wpo_val (v := .agg #[.int .i64 P1, .int .i64 Q1, .int .i64 R1, .int .i64 S1]) (run_load e7 (by simp [go_sem, c0_0, c0_1, c0_2, c0_3])) (k _ _ rfl hB)
            | 24, ho =>
              obtain rfl := Option.some.inj ho
              intro Az Lz vz wy Kz Ez hB k
              have e89 : Az.eval (.tmp 89) = .agg #[.int .i64 P1, .int .i64 Q1, .int .i64 R1, .int .i64 S1] := Ez.dep 22 89 (by kernel_rfl) rfl
              have e90 : Az.eval (.tmp 90) = .agg #[.int .i64 P1, .int .i64 Q1, .int .i64 R1, .int .i64 S1] := Ez.dep 23 90 (by kernel_rfl) rfl
              exact wpo_val (v := .bool true) (run_bin e89 e90 (by simp [go_sem]) (by exact QI.out wy)) (k _ _ rfl hB)
            | 25, ho =>
              obtain rfl := Option.some.inj ho
              intro Az Lz vz wy Kz Ez hB k
              have e77 : Az.eval (.tmp 77) = .bool true := Ez.dep 10 77 (by kernel_rfl) rfl
              have e91 : Az.eval (.tmp 91) = .bool true := Ez.dep 24 91 (by kernel_rfl) rfl
              exact wpo_val (v := .bool true) (run_pickT e77 e91) (k _ _ rfl hB)
            | 26, ho =>
              obtain rfl := Option.some.inj ho
              intro Az Lz vz wy Kz Ez hB k
              have e92 : Az.eval (.tmp 92) = .bool true := Ez.dep 25 92 (by kernel_rfl) rfl
              exact wpo_val (v := .bool true) (run_assign e92) (k _ _ rfl hB)
            | n + 27, ho => simp at ho
          · obtain ⟨hk, hT⟩ := hB
            have KB := Lib.hid hk
            have KT := Lib.hid hT
            clear hk hT hL
            simp only [puts2, mix, Act.put, List.setIfInBounds_toArray, List.set_cons_zero, List.set_cons_succ, Nat.zero_add, Nat.reduceAdd, List.getElem?_cons_zero, List.getElem?_cons_succ]
            go_wp2_with fail
            go_returns
            exact ⟨rfl, KB.out⟩



end Go.Proofs.Ytlkpegfbnmecpaa
