/- Package rect: And, Hull, Holds, Move, Inset. -/
import Derived.Test.YtjemnjboopabpaaRectB
import Derived.WalkKit
import Derived.WalkSpells
import Derived.WalkLawsBesides
import Derived.Handy
import Derived.Lib.Hide
import Derived.Deep.QuietTactic
import Derived.BigQuiet
import Derived.LoopTactic
import Derived.Deep.RegionHeld3
import Derived.Deep.RegionWith
import Derived.Outline
import Derived.Deep.DeepCutAuto
namespace Go.Proofs.Ytjemnjboopabpaa
open Go.RowKit Go.Proofs.Reg
set_option linter.unusedVariables false
set_option linter.unusedSimpArgs false
set_option maxRecDepth 100000
/-- the hull of two that are put right -/
def HulR (A B C D E F G H P Q R S : Int) : Prop :=
  (emB A B C D = true ∧ P = E ∧ Q = F ∧ R = G ∧ S = H) ∨ (emB A B C D = false ∧ emB E F G H = true ∧ P = A ∧ Q = B ∧ R = C ∧ S = D) ∨
  (emB A B C D = false ∧ emB E F G H = false ∧ P = min A E ∧ Q = min B F ∧ R = max C G ∧ S = max D H)
theorem hul_ex (A B C D E F G H : Int) : ∃ P Q R S, HulR A B C D E F G H P Q R S := by
  cases h : emB A B C D
  · cases k : emB E F G H
    · exact ⟨_, _, _, _, .inr (.inr ⟨h, k, rfl, rfl, rfl, rfl⟩)⟩
    · exact ⟨_, _, _, _, .inr (.inl ⟨h, k, rfl, rfl, rfl, rfl⟩)⟩
  · exact ⟨_, _, _, _, .inl ⟨h, rfl, rfl, rfl, rfl⟩⟩
set_option maxHeartbeats 1000000 in
theorem xhull_any (a b c d A B C D e f g h E F G H : Int) (a0 : I64 a) (b0 : I64 b) (c0 : I64 c) (d0 : I64 d) (h0' : Nrm a b c d A B C D) (e0 : I64 e) (f0 : I64 f) (g0 : I64 g) (h0 : I64 h) (k : Nrm e f g h E F G H) (P Q R S : Int) (n : HulR A B C D E F G H P Q R S) (w : World) :
    Calls Try.prog 79 #[rv a b c d, rv e f g h] w fun en w' => en = .returned (rv P Q R S) ∧ Below w.heap.size w w' := by
  have N1 := Lib.hid (xright_any a b c d A B C D a0 b0 c0 d0 h0')
  have N2 := Lib.hid (xright_any e f g h E F G H e0 f0 g0 h0 k)
  obtain ⟨iA, iB, iC, iD⟩ := h0'.rgt.i64
  obtain ⟨iE, iF, iG, iH⟩ := k.rgt.i64
  have M1 := Lib.hid (xempty_any A B C D A B C D iA iB iC iD h0'.rgt.nrm)
  have M2 := Lib.hid (xempty_any E F G H E F G H iE iF iG iH k.rgt.nrm)
  obtain ⟨A0, A1⟩ := iA
  obtain ⟨B0, B1⟩ := iB
  obtain ⟨C0, C1⟩ := iC
  obtain ⟨D0, D1⟩ := iD
  obtain ⟨E0, E1⟩ := iE
  obtain ⟨F0, F1⟩ := iF
  obtain ⟨G0, G1⟩ := iG
  obtain ⟨H0, H1⟩ := iH
  have HD : Hid ([w.heap.size + 1 + 1, w.heap.size + 1, w.heap.size].Nodup) := Lib.hid (by simp; omega)
  clear h0' k
  unfold rv at N1 N2 M1 M2 ⊢
  rcases n with ⟨x1, s1, s2, s3, s4⟩ | ⟨x1, x2, s1, s2, s3, s4⟩ | ⟨x1, x2, s1, s2, s3, s4⟩
  · rw [x1] at M1
    rw [s1, s2, s3, s4]
    clear s1 s2 s3 s4
    go_enter Try.func79, Try.ntmps79
    go_wp2_with fail
    have KB : Hid (Below w.heap.size w (((w.alloc (.cells #[.int .i64 a, .int .i64 b, .int .i64 c, .int .i64 d] 40)).alloc (.cells #[.int .i64 e, .int .i64 f, .int .i64 g, .int .i64 h] 40)).alloc (.cells #[.int .i64 0, .int .i64 0, .int .i64 0, .int .i64 0] 40))) := Lib.hid (by go_grown)
    have KT : Hid (Tab (((w.alloc (.cells #[.int .i64 a, .int .i64 b, .int .i64 c, .int .i64 d] 40)).alloc (.cells #[.int .i64 e, .int .i64 f, .int .i64 g, .int .i64 h] 40)).alloc (.cells #[.int .i64 0, .int .i64 0, .int .i64 0, .int .i64 0] 40)) [(w.heap.size + 1 + 1, [.int .i64 0, .int .i64 0, .int .i64 0, .int .i64 0]), (w.heap.size + 1, [.int .i64 e, .int .i64 f, .int .i64 g, .int .i64 h]), (w.heap.size, [.int .i64 a, .int .i64 b, .int .i64 c, .int .i64 d])]) := Lib.hid ((((Tab.nil w).new' [.int .i64 a, .int .i64 b, .int .i64 c, .int .i64 d] 40 rfl).new' [.int .i64 e, .int .i64 f, .int .i64 g, .int .i64 h] 40 (by simp)).new' [.int .i64 0, .int .i64 0, .int .i64 0, .int .i64 0] 40 (by simp))
    refine wp_region_vals [some (.agg #[.int .i64 a, .int .i64 b, .int .i64 c, .int .i64 d]), some (.agg #[.int .i64 A, .int .i64 B, .int .i64 C, .int .i64 D]), some (.agg #[.int .i64 e, .int .i64 f, .int .i64 g, .int .i64 h]), some (.agg #[.int .i64 E, .int .i64 F, .int .i64 G, .int .i64 H]), none, none] (fun Lz _ wy => Below w.heap.size w wy ∧ Tab wy [(w.heap.size + 1 + 1, [.int .i64 0, .int .i64 0, .int .i64 0, .int .i64 0]), (w.heap.size + 1, if Lz 5 = true then [.int .i64 E, .int .i64 F, .int .i64 G, .int .i64 H] else [.int .i64 e, .int .i64 f, .int .i64 g, .int .i64 h]), (w.heap.size, if Lz 4 = true then [.int .i64 A, .int .i64 B, .int .i64 C, .int .i64 D] else [.int .i64 a, .int .i64 b, .int .i64 c, .int .i64 d])])
      [some 5, some 6, some 7, some 8, none, none] (by kernel_rfl) (by kernel_rfl) (by kernel_rfl) (by kernel_rfl) (by kernel_rfl) (by kernel_rfl) ⟨KB.out.drew, KT.out.later ((Below.refl _ _).drew)⟩ (fun i o ho => ?_) (fun Lz vz wz hL hB => ?_)
    · match i, ho with
      | 0, ho =>
        obtain rfl := Option.some.inj ho
        intro Az Lz vz wy Kz Ez hB k
        have e2 : Az.eval (.tmp 2) = .pointer (some ⟨w.heap.size, 0, none⟩) := Ez.out 2 (by kernel_rfl)
        have z4 : Lz 4 = false := Ez.late 4 _ rfl (by kernel_rfl)
        have hT := hB.2
        simp only [z4, Bool.false_eq_true, if_false] at hT
        have c2_0 := hT.cell 2 0 rfl rfl
        have c2_1 := hT.cell 2 1 rfl rfl
        have c2_2 := hT.cell 2 2 rfl rfl
        have c2_3 := hT.cell 2 3 rfl rfl
        exact wpo_val (v := .agg #[.int .i64 a, .int .i64 b, .int .i64 c, .int .i64 d]) (run_load e2 (by simp [go_sem, c2_0, c2_1, c2_2, c2_3])) (k _ _ rfl hB)
      | 1, ho =>
        obtain rfl := Option.some.inj ho
        intro Az Lz vz wy Kz Ez hB k
        have e5 : Az.eval (.tmp 5) = .agg #[.int .i64 a, .int .i64 b, .int .i64 c, .int .i64 d] := Ez.dep 0 5 (by kernel_rfl) rfl
        refine wpo_call (run_callW (fun _ _ => by kernel_rfl)) (R := fun e w' => e = .returned (.agg #[.int .i64 A, .int .i64 B, .int .i64 C, .int .i64 D]) ∧ Below wy.heap.size wy w') ?_ ?_
        · simp only [List.map_toArray, List.map_cons, List.map_nil, eval_const, e5]
          exact N1.out wy
        · rintro e w' ⟨rfl, hb⟩
          exact ⟨_, rfl, k _ _ rfl ⟨bel_tr0 hB.1 hb, hB.2.later hb⟩⟩
      | 2, ho =>
        obtain rfl := Option.some.inj ho
        intro Az Lz vz wy Kz Ez hB k
        have e3 : Az.eval (.tmp 3) = .pointer (some ⟨w.heap.size + 1, 0, none⟩) := Ez.out 3 (by kernel_rfl)
        have z5 : Lz 5 = false := Ez.late 5 _ rfl (by kernel_rfl)
        have hT := hB.2
        simp only [z5, Bool.false_eq_true, if_false] at hT
        have c1_0 := hT.cell 1 0 rfl rfl
        have c1_1 := hT.cell 1 1 rfl rfl
        have c1_2 := hT.cell 1 2 rfl rfl
        have c1_3 := hT.cell 1 3 rfl rfl
        exact wpo_val (v := .agg #[.int .i64 e, .int .i64 f, .int .i64 g, .int .i64 h]) (run_load e3 (by simp [go_sem, c1_0, c1_1, c1_2, c1_3])) (k _ _ rfl hB)
      | 3, ho =>
        obtain rfl := Option.some.inj ho
        intro Az Lz vz wy Kz Ez hB k
        have e7 : Az.eval (.tmp 7) = .agg #[.int .i64 e, .int .i64 f, .int .i64 g, .int .i64 h] := Ez.dep 2 7 (by kernel_rfl) rfl
        refine wpo_call (run_callW (fun _ _ => by kernel_rfl)) (R := fun e w' => e = .returned (.agg #[.int .i64 E, .int .i64 F, .int .i64 G, .int .i64 H]) ∧ Below wy.heap.size wy w') ?_ ?_
        · simp only [List.map_toArray, List.map_cons, List.map_nil, eval_const, e7]
          exact N2.out wy
        · rintro e w' ⟨rfl, hb⟩
          exact ⟨_, rfl, k _ _ rfl ⟨bel_tr0 hB.1 hb, hB.2.later hb⟩⟩
      | 4, ho =>
        obtain rfl := Option.some.inj ho
        intro Az Lz vz wy Kz Ez hB k
        have e2 : Az.eval (.tmp 2) = .pointer (some ⟨w.heap.size, 0, none⟩) := Ez.out 2 (by kernel_rfl)
        have e6 : Az.eval (.tmp 6) = .agg #[.int .i64 A, .int .i64 B, .int .i64 C, .int .i64 D] := Ez.dep 1 6 (by kernel_rfl) rfl
        have z4 : Lz 4 = false := Ez.not
        have hT := hB.2
        simp only [z4, Bool.false_eq_true, if_false] at hT
        have c2_0 := hT.cell 2 0 rfl rfl
        have f2_0 := hT.froz 2 0 rfl rfl
        have c2_1 := hT.cell 2 1 rfl rfl
        have f2_1 := hT.froz 2 1 rfl rfl
        have c2_2 := hT.cell 2 2 rfl rfl
        have f2_2 := hT.froz 2 2 rfl rfl
        have c2_3 := hT.cell 2 3 rfl rfl
        have f2_3 := hT.froz 2 3 rfl rfl
        refine wpo_skip (w' := ((((wy.setCell ⟨w.heap.size, 0, none⟩ (.int .i64 A)).setCell ⟨w.heap.size, 1, none⟩ (.int .i64 B)).setCell ⟨w.heap.size, 2, none⟩ (.int .i64 C)).setCell ⟨w.heap.size, 3, none⟩ (.int .i64 D))) (run_store e2 e6 (by simp [go_sem, c2_0, f2_0, c2_1, f2_1, c2_2, f2_2, c2_3, f2_3])) (k _ _ trivial ⟨?_, ?_⟩)
        · have hk := hB.1
          repeat' (first | exact hk | (with_reducible refine Below.setCell ?_ ?_ _) | (simp; done) | (simp; omega) | omega | go_size)
        · have hU := hB.2
          simp only [z4, Bool.false_eq_true, if_false] at hU
          exact ((((hU.set1 2 0 (.int .i64 A) rfl HD.out).set1 2 1 (.int .i64 B) rfl HD.out).set1 2 2 (.int .i64 C) rfl HD.out).set1 2 3 (.int .i64 D) rfl HD.out)
      | 5, ho =>
        obtain rfl := Option.some.inj ho
        intro Az Lz vz wy Kz Ez hB k
        have e3 : Az.eval (.tmp 3) = .pointer (some ⟨w.heap.size + 1, 0, none⟩) := Ez.out 3 (by kernel_rfl)
        have e8 : Az.eval (.tmp 8) = .agg #[.int .i64 E, .int .i64 F, .int .i64 G, .int .i64 H] := Ez.dep 3 8 (by kernel_rfl) rfl
        have z5 : Lz 5 = false := Ez.not
        have hT := hB.2
        simp only [z5, Bool.false_eq_true, if_false] at hT
        have c1_0 := hT.cell 1 0 rfl rfl
        have f1_0 := hT.froz 1 0 rfl rfl
        have c1_1 := hT.cell 1 1 rfl rfl
        have f1_1 := hT.froz 1 1 rfl rfl
        have c1_2 := hT.cell 1 2 rfl rfl
        have f1_2 := hT.froz 1 2 rfl rfl
        have c1_3 := hT.cell 1 3 rfl rfl
        have f1_3 := hT.froz 1 3 rfl rfl
        refine wpo_skip (w' := ((((wy.setCell ⟨w.heap.size + 1, 0, none⟩ (.int .i64 E)).setCell ⟨w.heap.size + 1, 1, none⟩ (.int .i64 F)).setCell ⟨w.heap.size + 1, 2, none⟩ (.int .i64 G)).setCell ⟨w.heap.size + 1, 3, none⟩ (.int .i64 H))) (run_store e3 e8 (by simp [go_sem, c1_0, f1_0, c1_1, f1_1, c1_2, f1_2, c1_3, f1_3])) (k _ _ trivial ⟨?_, ?_⟩)
        · have hk := hB.1
          repeat' (first | exact hk | (with_reducible refine Below.setCell ?_ ?_ _) | (simp; done) | (simp; omega) | omega | go_size)
        · have hU := hB.2
          simp only [z5, Bool.false_eq_true, if_false] at hU
          exact ((((hU.set1 1 0 (.int .i64 E) rfl HD.out).set1 1 1 (.int .i64 F) rfl HD.out).set1 1 2 (.int .i64 G) rfl HD.out).set1 1 3 (.int .i64 H) rfl HD.out)
      | n + 6, ho => simp at ho
    · have l4 : Lz 4 = true := hL 4 (by decide)
      have l5 : Lz 5 = true := hL 5 (by decide)
      obtain ⟨hk, hT⟩ := hB
      simp only [l4, l5, if_true] at hT
      have KB := Lib.hid hk
      have KT := Lib.hid hT
      clear hk hT hL
      simp only [puts2, mix, Act.put, List.setIfInBounds_toArray, List.set_cons_zero, List.set_cons_succ, Nat.zero_add, Nat.reduceAdd, List.getElem?_cons_zero, List.getElem?_cons_succ]
      have y0 := KT.out.cell 1 0 rfl rfl
      have yf0 := KT.out.froz 1 0 rfl rfl
      have y1 := KT.out.cell 1 1 rfl rfl
      have yf1 := KT.out.froz 1 1 rfl rfl
      have y2 := KT.out.cell 1 2 rfl rfl
      have yf2 := KT.out.froz 1 2 rfl rfl
      have y3 := KT.out.cell 1 3 rfl rfl
      have yf3 := KT.out.froz 1 3 rfl rfl
      have x0 := KT.out.cell 2 0 rfl rfl
      have xf0 := KT.out.froz 2 0 rfl rfl
      have x1 := KT.out.cell 2 1 rfl rfl
      have xf1 := KT.out.froz 2 1 rfl rfl
      have x2 := KT.out.cell 2 2 rfl rfl
      have xf2 := KT.out.froz 2 2 rfl rfl
      have x3 := KT.out.cell 2 3 rfl rfl
      have xf3 := KT.out.froz 2 3 rfl rfl
      go_wp2_with fail
      refine (M1.out _).mono ?_
      rintro e w1 ⟨rfl, hb⟩
      have KB := Lib.hid (bel_tr0 KB.out hb)
      have KT := Lib.hid (KT.out.later hb)
      clear hb
      have z0 := KT.out.cell 0 0 rfl rfl
      have zf0 := KT.out.froz 0 0 rfl rfl
      have z1 := KT.out.cell 0 1 rfl rfl
      have zf1 := KT.out.froz 0 1 rfl rfl
      have z2 := KT.out.cell 0 2 rfl rfl
      have zf2 := KT.out.froz 0 2 rfl rfl
      have z3 := KT.out.cell 0 3 rfl rfl
      have zf3 := KT.out.froz 0 3 rfl rfl
      have y0 := KT.out.cell 1 0 rfl rfl
      have yf0 := KT.out.froz 1 0 rfl rfl
      have y1 := KT.out.cell 1 1 rfl rfl
      have yf1 := KT.out.froz 1 1 rfl rfl
      have y2 := KT.out.cell 1 2 rfl rfl
      have yf2 := KT.out.froz 1 2 rfl rfl
      have y3 := KT.out.cell 1 3 rfl rfl
      have yf3 := KT.out.froz 1 3 rfl rfl
      have x0 := KT.out.cell 2 0 rfl rfl
      have xf0 := KT.out.froz 2 0 rfl rfl
      have x1 := KT.out.cell 2 1 rfl rfl
      have xf1 := KT.out.froz 2 1 rfl rfl
      have x2 := KT.out.cell 2 2 rfl rfl
      have xf2 := KT.out.froz 2 2 rfl rfl
      have x3 := KT.out.cell 2 3 rfl rfl
      have xf3 := KT.out.froz 2 3 rfl rfl
      have lz := KT.out.lt 0 rfl
      go_wp2_with fail
      refine bodyPost_ret (v := .agg #[.int .i64 E, .int .i64 F, .int .i64 G, .int .i64 H]) (by simp [results, Try.results79, go_sem, z0, z1, z2, z3]) rfl ?_
      exact ⟨rfl, (by have hk := KB.out; repeat' (first | exact hk | (with_reducible refine Below.drew ?_) | (with_reducible refine Below.alloc ?_ ?_ _) | (with_reducible refine Below.setCell ?_ ?_ _) | (with_reducible refine below_drewN ?_ _) | go_size))⟩
  · rw [x1] at M1
    rw [x2] at M2
    rw [s1, s2, s3, s4]
    clear s1 s2 s3 s4
    go_enter Try.func79, Try.ntmps79
    go_wp2_with fail
    have KB : Hid (Below w.heap.size w (((w.alloc (.cells #[.int .i64 a, .int .i64 b, .int .i64 c, .int .i64 d] 40)).alloc (.cells #[.int .i64 e, .int .i64 f, .int .i64 g, .int .i64 h] 40)).alloc (.cells #[.int .i64 0, .int .i64 0, .int .i64 0, .int .i64 0] 40))) := Lib.hid (by go_grown)
    have KT : Hid (Tab (((w.alloc (.cells #[.int .i64 a, .int .i64 b, .int .i64 c, .int .i64 d] 40)).alloc (.cells #[.int .i64 e, .int .i64 f, .int .i64 g, .int .i64 h] 40)).alloc (.cells #[.int .i64 0, .int .i64 0, .int .i64 0, .int .i64 0] 40)) [(w.heap.size + 1 + 1, [.int .i64 0, .int .i64 0, .int .i64 0, .int .i64 0]), (w.heap.size + 1, [.int .i64 e, .int .i64 f, .int .i64 g, .int .i64 h]), (w.heap.size, [.int .i64 a, .int .i64 b, .int .i64 c, .int .i64 d])]) := Lib.hid ((((Tab.nil w).new' [.int .i64 a, .int .i64 b, .int .i64 c, .int .i64 d] 40 rfl).new' [.int .i64 e, .int .i64 f, .int .i64 g, .int .i64 h] 40 (by simp)).new' [.int .i64 0, .int .i64 0, .int .i64 0, .int .i64 0] 40 (by simp))
    refine wp_region_vals [some (.agg #[.int .i64 a, .int .i64 b, .int .i64 c, .int .i64 d]), some (.agg #[.int .i64 A, .int .i64 B, .int .i64 C, .int .i64 D]), some (.agg #[.int .i64 e, .int .i64 f, .int .i64 g, .int .i64 h]), some (.agg #[.int .i64 E, .int .i64 F, .int .i64 G, .int .i64 H]), none, none] (fun Lz _ wy => Below w.heap.size w wy ∧ Tab wy [(w.heap.size + 1 + 1, [.int .i64 0, .int .i64 0, .int .i64 0, .int .i64 0]), (w.heap.size + 1, if Lz 5 = true then [.int .i64 E, .int .i64 F, .int .i64 G, .int .i64 H] else [.int .i64 e, .int .i64 f, .int .i64 g, .int .i64 h]), (w.heap.size, if Lz 4 = true then [.int .i64 A, .int .i64 B, .int .i64 C, .int .i64 D] else [.int .i64 a, .int .i64 b, .int .i64 c, .int .i64 d])])
      [some 5, some 6, some 7, some 8, none, none] (by kernel_rfl) (by kernel_rfl) (by kernel_rfl) (by kernel_rfl) (by kernel_rfl) (by kernel_rfl) ⟨KB.out.drew, KT.out.later ((Below.refl _ _).drew)⟩ (fun i o ho => ?_) (fun Lz vz wz hL hB => ?_)
    · match i, ho with
      | 0, ho =>
        obtain rfl := Option.some.inj ho
        intro Az Lz vz wy Kz Ez hB k
        have e2 : Az.eval (.tmp 2) = .pointer (some ⟨w.heap.size, 0, none⟩) := Ez.out 2 (by kernel_rfl)
        have z4 : Lz 4 = false := Ez.late 4 _ rfl (by kernel_rfl)
        have hT := hB.2
        simp only [z4, Bool.false_eq_true, if_false] at hT
        have c2_0 := hT.cell 2 0 rfl rfl
        have c2_1 := hT.cell 2 1 rfl rfl
        have c2_2 := hT.cell 2 2 rfl rfl
        have c2_3 := hT.cell 2 3 rfl rfl
        exact wpo_val (v := .agg #[.int .i64 a, .int .i64 b, .int .i64 c, .int .i64 d]) (run_load e2 (by simp [go_sem, c2_0, c2_1, c2_2, c2_3])) (k _ _ rfl hB)
      | 1, ho =>
        obtain rfl := Option.some.inj ho
        intro Az Lz vz wy Kz Ez hB k
        have e5 : Az.eval (.tmp 5) = .agg #[.int .i64 a, .int .i64 b, .int .i64 c, .int .i64 d] := Ez.dep 0 5 (by kernel_rfl) rfl
        refine wpo_call (run_callW (fun _ _ => by kernel_rfl)) (R := fun e w' => e = .returned (.agg #[.int .i64 A, .int .i64 B, .int .i64 C, .int .i64 D]) ∧ Below wy.heap.size wy w') ?_ ?_
        · simp only [List.map_toArray, List.map_cons, List.map_nil, eval_const, e5]
          exact N1.out wy
        · rintro e w' ⟨rfl, hb⟩
          exact ⟨_, rfl, k _ _ rfl ⟨bel_tr0 hB.1 hb, hB.2.later hb⟩⟩
      | 2, ho =>
        obtain rfl := Option.some.inj ho
        intro Az Lz vz wy Kz Ez hB k
        have e3 : Az.eval (.tmp 3) = .pointer (some ⟨w.heap.size + 1, 0, none⟩) := Ez.out 3 (by kernel_rfl)
        have z5 : Lz 5 = false := Ez.late 5 _ rfl (by kernel_rfl)
        have hT := hB.2
        simp only [z5, Bool.false_eq_true, if_false] at hT
        have c1_0 := hT.cell 1 0 rfl rfl
        have c1_1 := hT.cell 1 1 rfl rfl
        have c1_2 := hT.cell 1 2 rfl rfl
        have c1_3 := hT.cell 1 3 rfl rfl
        exact wpo_val (v := .agg #[.int .i64 e, .int .i64 f, .int .i64 g, .int .i64 h]) (run_load e3 (by simp [go_sem, c1_0, c1_1, c1_2, c1_3])) (k _ _ rfl hB)
      | 3, ho =>
        obtain rfl := Option.some.inj ho
        intro Az Lz vz wy Kz Ez hB k
        have e7 : Az.eval (.tmp 7) = .agg #[.int .i64 e, .int .i64 f, .int .i64 g, .int .i64 h] := Ez.dep 2 7 (by kernel_rfl) rfl
        refine wpo_call (run_callW (fun _ _ => by kernel_rfl)) (R := fun e w' => e = .returned (.agg #[.int .i64 E, .int .i64 F, .int .i64 G, .int .i64 H]) ∧ Below wy.heap.size wy w') ?_ ?_
        · simp only [List.map_toArray, List.map_cons, List.map_nil, eval_const, e7]
          exact N2.out wy
        · rintro e w' ⟨rfl, hb⟩
          exact ⟨_, rfl, k _ _ rfl ⟨bel_tr0 hB.1 hb, hB.2.later hb⟩⟩
      | 4, ho =>
        obtain rfl := Option.some.inj ho
        intro Az Lz vz wy Kz Ez hB k
        have e2 : Az.eval (.tmp 2) = .pointer (some ⟨w.heap.size, 0, none⟩) := Ez.out 2 (by kernel_rfl)
        have e6 : Az.eval (.tmp 6) = .agg #[.int .i64 A, .int .i64 B, .int .i64 C, .int .i64 D] := Ez.dep 1 6 (by kernel_rfl) rfl
        have z4 : Lz 4 = false := Ez.not
        have hT := hB.2
        simp only [z4, Bool.false_eq_true, if_false] at hT
        have c2_0 := hT.cell 2 0 rfl rfl
        have f2_0 := hT.froz 2 0 rfl rfl
        have c2_1 := hT.cell 2 1 rfl rfl
        have f2_1 := hT.froz 2 1 rfl rfl
        have c2_2 := hT.cell 2 2 rfl rfl
        have f2_2 := hT.froz 2 2 rfl rfl
        have c2_3 := hT.cell 2 3 rfl rfl
        have f2_3 := hT.froz 2 3 rfl rfl
        refine wpo_skip (w' := ((((wy.setCell ⟨w.heap.size, 0, none⟩ (.int .i64 A)).setCell ⟨w.heap.size, 1, none⟩ (.int .i64 B)).setCell ⟨w.heap.size, 2, none⟩ (.int .i64 C)).setCell ⟨w.heap.size, 3, none⟩ (.int .i64 D))) (run_store e2 e6 (by simp [go_sem, c2_0, f2_0, c2_1, f2_1, c2_2, f2_2, c2_3, f2_3])) (k _ _ trivial ⟨?_, ?_⟩)
        · have hk := hB.1
          repeat' (first | exact hk | (with_reducible refine Below.setCell ?_ ?_ _) | (simp; done) | (simp; omega) | omega | go_size)
        · have hU := hB.2
          simp only [z4, Bool.false_eq_true, if_false] at hU
          exact ((((hU.set1 2 0 (.int .i64 A) rfl HD.out).set1 2 1 (.int .i64 B) rfl HD.out).set1 2 2 (.int .i64 C) rfl HD.out).set1 2 3 (.int .i64 D) rfl HD.out)
      | 5, ho =>
        obtain rfl := Option.some.inj ho
        intro Az Lz vz wy Kz Ez hB k
        have e3 : Az.eval (.tmp 3) = .pointer (some ⟨w.heap.size + 1, 0, none⟩) := Ez.out 3 (by kernel_rfl)
        have e8 : Az.eval (.tmp 8) = .agg #[.int .i64 E, .int .i64 F, .int .i64 G, .int .i64 H] := Ez.dep 3 8 (by kernel_rfl) rfl
        have z5 : Lz 5 = false := Ez.not
        have hT := hB.2
        simp only [z5, Bool.false_eq_true, if_false] at hT
        have c1_0 := hT.cell 1 0 rfl rfl
        have f1_0 := hT.froz 1 0 rfl rfl
        have c1_1 := hT.cell 1 1 rfl rfl
        have f1_1 := hT.froz 1 1 rfl rfl
        have c1_2 := hT.cell 1 2 rfl rfl
        have f1_2 := hT.froz 1 2 rfl rfl
        have c1_3 := hT.cell 1 3 rfl rfl
        have f1_3 := hT.froz 1 3 rfl rfl
        refine wpo_skip (w' := ((((wy.setCell ⟨w.heap.size + 1, 0, none⟩ (.int .i64 E)).setCell ⟨w.heap.size + 1, 1, none⟩ (.int .i64 F)).setCell ⟨w.heap.size + 1, 2, none⟩ (.int .i64 G)).setCell ⟨w.heap.size + 1, 3, none⟩ (.int .i64 H))) (run_store e3 e8 (by simp [go_sem, c1_0, f1_0, c1_1, f1_1, c1_2, f1_2, c1_3, f1_3])) (k _ _ trivial ⟨?_, ?_⟩)
        · have hk := hB.1
          repeat' (first | exact hk | (with_reducible refine Below.setCell ?_ ?_ _) | (simp; done) | (simp; omega) | omega | go_size)
        · have hU := hB.2
          simp only [z5, Bool.false_eq_true, if_false] at hU
          exact ((((hU.set1 1 0 (.int .i64 E) rfl HD.out).set1 1 1 (.int .i64 F) rfl HD.out).set1 1 2 (.int .i64 G) rfl HD.out).set1 1 3 (.int .i64 H) rfl HD.out)
      | n + 6, ho => simp at ho
    · have l4 : Lz 4 = true := hL 4 (by decide)
      have l5 : Lz 5 = true := hL 5 (by decide)
      obtain ⟨hk, hT⟩ := hB
      simp only [l4, l5, if_true] at hT
      have KB := Lib.hid hk
      have KT := Lib.hid hT
      clear hk hT hL
      simp only [puts2, mix, Act.put, List.setIfInBounds_toArray, List.set_cons_zero, List.set_cons_succ, Nat.zero_add, Nat.reduceAdd, List.getElem?_cons_zero, List.getElem?_cons_succ]
      have y0 := KT.out.cell 1 0 rfl rfl
      have yf0 := KT.out.froz 1 0 rfl rfl
      have y1 := KT.out.cell 1 1 rfl rfl
      have yf1 := KT.out.froz 1 1 rfl rfl
      have y2 := KT.out.cell 1 2 rfl rfl
      have yf2 := KT.out.froz 1 2 rfl rfl
      have y3 := KT.out.cell 1 3 rfl rfl
      have yf3 := KT.out.froz 1 3 rfl rfl
      have x0 := KT.out.cell 2 0 rfl rfl
      have xf0 := KT.out.froz 2 0 rfl rfl
      have x1 := KT.out.cell 2 1 rfl rfl
      have xf1 := KT.out.froz 2 1 rfl rfl
      have x2 := KT.out.cell 2 2 rfl rfl
      have xf2 := KT.out.froz 2 2 rfl rfl
      have x3 := KT.out.cell 2 3 rfl rfl
      have xf3 := KT.out.froz 2 3 rfl rfl
      go_wp2_with fail
      refine (M1.out _).mono ?_
      rintro e w1 ⟨rfl, hb⟩
      have KB := Lib.hid (bel_tr0 KB.out hb)
      have KT := Lib.hid (KT.out.later hb)
      clear hb
      have z0 := KT.out.cell 0 0 rfl rfl
      have zf0 := KT.out.froz 0 0 rfl rfl
      have z1 := KT.out.cell 0 1 rfl rfl
      have zf1 := KT.out.froz 0 1 rfl rfl
      have z2 := KT.out.cell 0 2 rfl rfl
      have zf2 := KT.out.froz 0 2 rfl rfl
      have z3 := KT.out.cell 0 3 rfl rfl
      have zf3 := KT.out.froz 0 3 rfl rfl
      have y0 := KT.out.cell 1 0 rfl rfl
      have yf0 := KT.out.froz 1 0 rfl rfl
      have y1 := KT.out.cell 1 1 rfl rfl
      have yf1 := KT.out.froz 1 1 rfl rfl
      have y2 := KT.out.cell 1 2 rfl rfl
      have yf2 := KT.out.froz 1 2 rfl rfl
      have y3 := KT.out.cell 1 3 rfl rfl
      have yf3 := KT.out.froz 1 3 rfl rfl
      have x0 := KT.out.cell 2 0 rfl rfl
      have xf0 := KT.out.froz 2 0 rfl rfl
      have x1 := KT.out.cell 2 1 rfl rfl
      have xf1 := KT.out.froz 2 1 rfl rfl
      have x2 := KT.out.cell 2 2 rfl rfl
      have xf2 := KT.out.froz 2 2 rfl rfl
      have x3 := KT.out.cell 2 3 rfl rfl
      have xf3 := KT.out.froz 2 3 rfl rfl
      have lz := KT.out.lt 0 rfl
      go_wp2_with fail
      refine (M2.out _).mono ?_
      rintro e w1 ⟨rfl, hb⟩
      have KB := Lib.hid (bel_tr0 KB.out hb)
      have KT := Lib.hid (KT.out.later hb)
      clear hb
      have z0 := KT.out.cell 0 0 rfl rfl
      have zf0 := KT.out.froz 0 0 rfl rfl
      have z1 := KT.out.cell 0 1 rfl rfl
      have zf1 := KT.out.froz 0 1 rfl rfl
      have z2 := KT.out.cell 0 2 rfl rfl
      have zf2 := KT.out.froz 0 2 rfl rfl
      have z3 := KT.out.cell 0 3 rfl rfl
      have zf3 := KT.out.froz 0 3 rfl rfl
      have y0 := KT.out.cell 1 0 rfl rfl
      have yf0 := KT.out.froz 1 0 rfl rfl
      have y1 := KT.out.cell 1 1 rfl rfl
      have yf1 := KT.out.froz 1 1 rfl rfl
      have y2 := KT.out.cell 1 2 rfl rfl
      have yf2 := KT.out.froz 1 2 rfl rfl
      have y3 := KT.out.cell 1 3 rfl rfl
      have yf3 := KT.out.froz 1 3 rfl rfl
      have x0 := KT.out.cell 2 0 rfl rfl
      have xf0 := KT.out.froz 2 0 rfl rfl
      have x1 := KT.out.cell 2 1 rfl rfl
      have xf1 := KT.out.froz 2 1 rfl rfl
      have x2 := KT.out.cell 2 2 rfl rfl
      have xf2 := KT.out.froz 2 2 rfl rfl
      have x3 := KT.out.cell 2 3 rfl rfl
      have xf3 := KT.out.froz 2 3 rfl rfl
      have lz := KT.out.lt 0 rfl
      go_wp2_with fail
      refine bodyPost_ret (v := .agg #[.int .i64 A, .int .i64 B, .int .i64 C, .int .i64 D]) (by simp [results, Try.results79, go_sem, z0, z1, z2, z3]) rfl ?_
      exact ⟨rfl, (by have hk := KB.out; repeat' (first | exact hk | (with_reducible refine Below.drew ?_) | (with_reducible refine Below.alloc ?_ ?_ _) | (with_reducible refine Below.setCell ?_ ?_ _) | (with_reducible refine below_drewN ?_ _) | go_size))⟩
  · rw [x1] at M1
    rw [x2] at M2
    rw [s1, s2, s3, s4]
    clear s1 s2 s3 s4
    go_enter Try.func79, Try.ntmps79
    go_wp2_with fail
    have KB : Hid (Below w.heap.size w (((w.alloc (.cells #[.int .i64 a, .int .i64 b, .int .i64 c, .int .i64 d] 40)).alloc (.cells #[.int .i64 e, .int .i64 f, .int .i64 g, .int .i64 h] 40)).alloc (.cells #[.int .i64 0, .int .i64 0, .int .i64 0, .int .i64 0] 40))) := Lib.hid (by go_grown)
    have KT : Hid (Tab (((w.alloc (.cells #[.int .i64 a, .int .i64 b, .int .i64 c, .int .i64 d] 40)).alloc (.cells #[.int .i64 e, .int .i64 f, .int .i64 g, .int .i64 h] 40)).alloc (.cells #[.int .i64 0, .int .i64 0, .int .i64 0, .int .i64 0] 40)) [(w.heap.size + 1 + 1, [.int .i64 0, .int .i64 0, .int .i64 0, .int .i64 0]), (w.heap.size + 1, [.int .i64 e, .int .i64 f, .int .i64 g, .int .i64 h]), (w.heap.size, [.int .i64 a, .int .i64 b, .int .i64 c, .int .i64 d])]) := Lib.hid ((((Tab.nil w).new' [.int .i64 a, .int .i64 b, .int .i64 c, .int .i64 d] 40 rfl).new' [.int .i64 e, .int .i64 f, .int .i64 g, .int .i64 h] 40 (by simp)).new' [.int .i64 0, .int .i64 0, .int .i64 0, .int .i64 0] 40 (by simp))
    refine wp_region_vals [some (.agg #[.int .i64 a, .int .i64 b, .int .i64 c, .int .i64 d]), some (.agg #[.int .i64 A, .int .i64 B, .int .i64 C, .int .i64 D]), some (.agg #[.int .i64 e, .int .i64 f, .int .i64 g, .int .i64 h]), some (.agg #[.int .i64 E, .int .i64 F, .int .i64 G, .int .i64 H]), none, none] (fun Lz _ wy => Below w.heap.size w wy ∧ Tab wy [(w.heap.size + 1 + 1, [.int .i64 0, .int .i64 0, .int .i64 0, .int .i64 0]), (w.heap.size + 1, if Lz 5 = true then [.int .i64 E, .int .i64 F, .int .i64 G, .int .i64 H] else [.int .i64 e, .int .i64 f, .int .i64 g, .int .i64 h]), (w.heap.size, if Lz 4 = true then [.int .i64 A, .int .i64 B, .int .i64 C, .int .i64 D] else [.int .i64 a, .int .i64 b, .int .i64 c, .int .i64 d])])
      [some 5, some 6, some 7, some 8, none, none] (by kernel_rfl) (by kernel_rfl) (by kernel_rfl) (by kernel_rfl) (by kernel_rfl) (by kernel_rfl) ⟨KB.out.drew, KT.out.later ((Below.refl _ _).drew)⟩ (fun i o ho => ?_) (fun Lz vz wz hL hB => ?_)
    · match i, ho with
      | 0, ho =>
        obtain rfl := Option.some.inj ho
        intro Az Lz vz wy Kz Ez hB k
        have e2 : Az.eval (.tmp 2) = .pointer (some ⟨w.heap.size, 0, none⟩) := Ez.out 2 (by kernel_rfl)
        have z4 : Lz 4 = false := Ez.late 4 _ rfl (by kernel_rfl)
        have hT := hB.2
        simp only [z4, Bool.false_eq_true, if_false] at hT
        have c2_0 := hT.cell 2 0 rfl rfl
        have c2_1 := hT.cell 2 1 rfl rfl
        have c2_2 := hT.cell 2 2 rfl rfl
        have c2_3 := hT.cell 2 3 rfl rfl
        exact wpo_val (v := .agg #[.int .i64 a, .int .i64 b, .int .i64 c, .int .i64 d]) (run_load e2 (by simp [go_sem, c2_0, c2_1, c2_2, c2_3])) (k _ _ rfl hB)
      | 1, ho =>
        obtain rfl := Option.some.inj ho
        intro Az Lz vz wy Kz Ez hB k
        have e5 : Az.eval (.tmp 5) = .agg #[.int .i64 a, .int .i64 b, .int .i64 c, .int .i64 d] := Ez.dep 0 5 (by kernel_rfl) rfl
        refine wpo_call (run_callW (fun _ _ => by kernel_rfl)) (R := fun e w' => e = .returned (.agg #[.int .i64 A, .int .i64 B, .int .i64 C, .int .i64 D]) ∧ Below wy.heap.size wy w') ?_ ?_
        · simp only [List.map_toArray, List.map_cons, List.map_nil, eval_const, e5]
          exact N1.out wy
        · rintro e w' ⟨rfl, hb⟩
          exact ⟨_, rfl, k _ _ rfl ⟨bel_tr0 hB.1 hb, hB.2.later hb⟩⟩
      | 2, ho =>
        obtain rfl := Option.some.inj ho
        intro Az Lz vz wy Kz Ez hB k
        have e3 : Az.eval (.tmp 3) = .pointer (some ⟨w.heap.size + 1, 0, none⟩) := Ez.out 3 (by kernel_rfl)
        have z5 : Lz 5 = false := Ez.late 5 _ rfl (by kernel_rfl)
        have hT := hB.2
        simp only [z5, Bool.false_eq_true, if_false] at hT
        have c1_0 := hT.cell 1 0 rfl rfl
        have c1_1 := hT.cell 1 1 rfl rfl
        have c1_2 := hT.cell 1 2 rfl rfl
        have c1_3 := hT.cell 1 3 rfl rfl
        exact wpo_val (v := .agg #[.int .i64 e, .int .i64 f, .int .i64 g, .int .i64 h]) (run_load e3 (by simp [go_sem, c1_0, c1_1, c1_2, c1_3])) (k _ _ rfl hB)
      | 3, ho =>
        obtain rfl := Option.some.inj ho
        intro Az Lz vz wy Kz Ez hB k
        have e7 : Az.eval (.tmp 7) = .agg #[.int .i64 e, .int .i64 f, .int .i64 g, .int .i64 h] := Ez.dep 2 7 (by kernel_rfl) rfl
        refine wpo_call (run_callW (fun _ _ => by kernel_rfl)) (R := fun e w' => e = .returned (.agg #[.int .i64 E, .int .i64 F, .int .i64 G, .int .i64 H]) ∧ Below wy.heap.size wy w') ?_ ?_
        · simp only [List.map_toArray, List.map_cons, List.map_nil, eval_const, e7]
          exact N2.out wy
        · rintro e w' ⟨rfl, hb⟩
          exact ⟨_, rfl, k _ _ rfl ⟨bel_tr0 hB.1 hb, hB.2.later hb⟩⟩
      | 4, ho =>
        obtain rfl := Option.some.inj ho
        intro Az Lz vz wy Kz Ez hB k
        have e2 : Az.eval (.tmp 2) = .pointer (some ⟨w.heap.size, 0, none⟩) := Ez.out 2 (by kernel_rfl)
        have e6 : Az.eval (.tmp 6) = .agg #[.int .i64 A, .int .i64 B, .int .i64 C, .int .i64 D] := Ez.dep 1 6 (by kernel_rfl) rfl
        have z4 : Lz 4 = false := Ez.not
        have hT := hB.2
        simp only [z4, Bool.false_eq_true, if_false] at hT
        have c2_0 := hT.cell 2 0 rfl rfl
        have f2_0 := hT.froz 2 0 rfl rfl
        have c2_1 := hT.cell 2 1 rfl rfl
        have f2_1 := hT.froz 2 1 rfl rfl
        have c2_2 := hT.cell 2 2 rfl rfl
        have f2_2 := hT.froz 2 2 rfl rfl
        have c2_3 := hT.cell 2 3 rfl rfl
        have f2_3 := hT.froz 2 3 rfl rfl
        refine wpo_skip (w' := ((((wy.setCell ⟨w.heap.size, 0, none⟩ (.int .i64 A)).setCell ⟨w.heap.size, 1, none⟩ (.int .i64 B)).setCell ⟨w.heap.size, 2, none⟩ (.int .i64 C)).setCell ⟨w.heap.size, 3, none⟩ (.int .i64 D))) (run_store e2 e6 (by simp [go_sem, c2_0, f2_0, c2_1, f2_1, c2_2, f2_2, c2_3, f2_3])) (k _ _ trivial ⟨?_, ?_⟩)
        · have hk := hB.1
          repeat' (first | exact hk | (with_reducible refine Below.setCell ?_ ?_ _) | (simp; done) | (simp; omega) | omega | go_size)
        · have hU := hB.2
          simp only [z4, Bool.false_eq_true, if_false] at hU
          exact ((((hU.set1 2 0 (.int .i64 A) rfl HD.out).set1 2 1 (.int .i64 B) rfl HD.out).set1 2 2 (.int .i64 C) rfl HD.out).set1 2 3 (.int .i64 D) rfl HD.out)
      | 5, ho =>
        obtain rfl := Option.some.inj ho
        intro Az Lz vz wy Kz Ez hB k
        have e3 : Az.eval (.tmp 3) = .pointer (some ⟨w.heap.size + 1, 0, none⟩) := Ez.out 3 (by kernel_rfl)
        have e8 : Az.eval (.tmp 8) = .agg #[.int .i64 E, .int .i64 F, .int .i64 G, .int .i64 H] := Ez.dep 3 8 (by kernel_rfl) rfl
        have z5 : Lz 5 = false := Ez.not
        have hT := hB.2
        simp only [z5, Bool.false_eq_true, if_false] at hT
        have c1_0 := hT.cell 1 0 rfl rfl
        have f1_0 := hT.froz 1 0 rfl rfl
        have c1_1 := hT.cell 1 1 rfl rfl
        have f1_1 := hT.froz 1 1 rfl rfl
        have c1_2 := hT.cell 1 2 rfl rfl
        have f1_2 := hT.froz 1 2 rfl rfl
        have c1_3 := hT.cell 1 3 rfl rfl
        have f1_3 := hT.froz 1 3 rfl rfl
        refine wpo_skip (w' := ((((wy.setCell ⟨w.heap.size + 1, 0, none⟩ (.int .i64 E)).setCell ⟨w.heap.size + 1, 1, none⟩ (.int .i64 F)).setCell ⟨w.heap.size + 1, 2, none⟩ (.int .i64 G)).setCell ⟨w.heap.size + 1, 3, none⟩ (.int .i64 H))) (run_store e3 e8 (by simp [go_sem, c1_0, f1_0, c1_1, f1_1, c1_2, f1_2, c1_3, f1_3])) (k _ _ trivial ⟨?_, ?_⟩)
        · have hk := hB.1
          repeat' (first | exact hk | (with_reducible refine Below.setCell ?_ ?_ _) | (simp; done) | (simp; omega) | omega | go_size)
        · have hU := hB.2
          simp only [z5, Bool.false_eq_true, if_false] at hU
          exact ((((hU.set1 1 0 (.int .i64 E) rfl HD.out).set1 1 1 (.int .i64 F) rfl HD.out).set1 1 2 (.int .i64 G) rfl HD.out).set1 1 3 (.int .i64 H) rfl HD.out)
      | n + 6, ho => simp at ho
    · have l4 : Lz 4 = true := hL 4 (by decide)
      have l5 : Lz 5 = true := hL 5 (by decide)
      obtain ⟨hk, hT⟩ := hB
      simp only [l4, l5, if_true] at hT
      have KB := Lib.hid hk
      have KT := Lib.hid hT
      clear hk hT hL
      simp only [puts2, mix, Act.put, List.setIfInBounds_toArray, List.set_cons_zero, List.set_cons_succ, Nat.zero_add, Nat.reduceAdd, List.getElem?_cons_zero, List.getElem?_cons_succ]
      have y0 := KT.out.cell 1 0 rfl rfl
      have yf0 := KT.out.froz 1 0 rfl rfl
      have y1 := KT.out.cell 1 1 rfl rfl
      have yf1 := KT.out.froz 1 1 rfl rfl
      have y2 := KT.out.cell 1 2 rfl rfl
      have yf2 := KT.out.froz 1 2 rfl rfl
      have y3 := KT.out.cell 1 3 rfl rfl
      have yf3 := KT.out.froz 1 3 rfl rfl
      have x0 := KT.out.cell 2 0 rfl rfl
      have xf0 := KT.out.froz 2 0 rfl rfl
      have x1 := KT.out.cell 2 1 rfl rfl
      have xf1 := KT.out.froz 2 1 rfl rfl
      have x2 := KT.out.cell 2 2 rfl rfl
      have xf2 := KT.out.froz 2 2 rfl rfl
      have x3 := KT.out.cell 2 3 rfl rfl
      have xf3 := KT.out.froz 2 3 rfl rfl
      go_wp2_with fail
      refine (M1.out _).mono ?_
      rintro e w1 ⟨rfl, hb⟩
      have KB := Lib.hid (bel_tr0 KB.out hb)
      have KT := Lib.hid (KT.out.later hb)
      clear hb
      have z0 := KT.out.cell 0 0 rfl rfl
      have zf0 := KT.out.froz 0 0 rfl rfl
      have z1 := KT.out.cell 0 1 rfl rfl
      have zf1 := KT.out.froz 0 1 rfl rfl
      have z2 := KT.out.cell 0 2 rfl rfl
      have zf2 := KT.out.froz 0 2 rfl rfl
      have z3 := KT.out.cell 0 3 rfl rfl
      have zf3 := KT.out.froz 0 3 rfl rfl
      have y0 := KT.out.cell 1 0 rfl rfl
      have yf0 := KT.out.froz 1 0 rfl rfl
      have y1 := KT.out.cell 1 1 rfl rfl
      have yf1 := KT.out.froz 1 1 rfl rfl
      have y2 := KT.out.cell 1 2 rfl rfl
      have yf2 := KT.out.froz 1 2 rfl rfl
      have y3 := KT.out.cell 1 3 rfl rfl
      have yf3 := KT.out.froz 1 3 rfl rfl
      have x0 := KT.out.cell 2 0 rfl rfl
      have xf0 := KT.out.froz 2 0 rfl rfl
      have x1 := KT.out.cell 2 1 rfl rfl
      have xf1 := KT.out.froz 2 1 rfl rfl
      have x2 := KT.out.cell 2 2 rfl rfl
      have xf2 := KT.out.froz 2 2 rfl rfl
      have x3 := KT.out.cell 2 3 rfl rfl
      have xf3 := KT.out.froz 2 3 rfl rfl
      have lz := KT.out.lt 0 rfl
      go_wp2_with fail
      refine (M2.out _).mono ?_
      rintro e w1 ⟨rfl, hb⟩
      have KB := Lib.hid (bel_tr0 KB.out hb)
      have KT := Lib.hid (KT.out.later hb)
      clear hb
      have z0 := KT.out.cell 0 0 rfl rfl
      have zf0 := KT.out.froz 0 0 rfl rfl
      have z1 := KT.out.cell 0 1 rfl rfl
      have zf1 := KT.out.froz 0 1 rfl rfl
      have z2 := KT.out.cell 0 2 rfl rfl
      have zf2 := KT.out.froz 0 2 rfl rfl
      have z3 := KT.out.cell 0 3 rfl rfl
      have zf3 := KT.out.froz 0 3 rfl rfl
      have y0 := KT.out.cell 1 0 rfl rfl
      have yf0 := KT.out.froz 1 0 rfl rfl
      have y1 := KT.out.cell 1 1 rfl rfl
      have yf1 := KT.out.froz 1 1 rfl rfl
      have y2 := KT.out.cell 1 2 rfl rfl
      have yf2 := KT.out.froz 1 2 rfl rfl
      have y3 := KT.out.cell 1 3 rfl rfl
      have yf3 := KT.out.froz 1 3 rfl rfl
      have x0 := KT.out.cell 2 0 rfl rfl
      have xf0 := KT.out.froz 2 0 rfl rfl
      have x1 := KT.out.cell 2 1 rfl rfl
      have xf1 := KT.out.froz 2 1 rfl rfl
      have x2 := KT.out.cell 2 2 rfl rfl
      have xf2 := KT.out.froz 2 2 rfl rfl
      have x3 := KT.out.cell 2 3 rfl rfl
      have xf3 := KT.out.froz 2 3 rfl rfl
      have lz := KT.out.lt 0 rfl
      go_wp2_with fail
      refine bodyPost_ret (v := .agg #[.int .i64 (min A E), .int .i64 (min B F), .int .i64 (max C G), .int .i64 (max D H)]) (by simp [results, Try.results79, go_sem, z0, z1, z2, z3]) rfl ?_
      exact ⟨rfl, (by have hk := KB.out; repeat' (first | exact hk | (with_reducible refine Below.drew ?_) | (with_reducible refine Below.alloc ?_ ?_ _) | (with_reducible refine Below.setCell ?_ ?_ _) | (with_reducible refine below_drewN ?_ _) | go_size))⟩
/-- are four numbers the same? -/
def eq4 (A B C D E F G H : Int) : Bool := (A == E) && (B == F) && (C == G) && (D == H)
/-- how far a side moves -/
def nr (n : Int) : Int := min (max n (-2147483648)) 2147483648
theorem nr_bd (n : Int) : -2147483648 ≤ nr n ∧ nr n ≤ 2147483648 := by unfold nr; omega
theorem xnear_any (n : Int) (n0 : I64 n) (w : World) :
    Calls Try.prog 93 #[.int .i64 n] w fun e w' => e = .returned (.int .i64 (nr n)) ∧ Below w.heap.size w w' := by
  have L := Lib.hid (xlimited_any n 2147483648 n0.1 n0.2 (by decide) (by decide))
  have e : min (max n (-2147483648)) 2147483648 = nr n := rfl
  rw [e] at L
  clear e
  go_enter Try.func93, Try.ntmps93
  go_wp2_with fail
  refine (L.out _).mono ?_
  rintro e w1 ⟨rfl, rfl⟩
  go_wp2_with fail
  go_returns
  exact ⟨rfl, Below.refl _ _⟩
set_option maxHeartbeats 1000000 in
theorem xmove_any (a b c d A B C D x y : Int) (a0 : I64 a) (b0 : I64 b) (c0 : I64 c) (d0 : I64 d) (h0' : Nrm a b c d A B C D) (x0 : I64 x) (y0 : I64 y) (P Q R S : Int) (n : Nrm (A + nr x) (B + nr y) (C + nr x) (D + nr y) P Q R S) (w : World) :
    Calls Try.prog 77 #[rv a b c d, .int .i64 x, .int .i64 y] w fun en w' => en = .returned (rv P Q R S) ∧ Below w.heap.size w w' := by
  have N1 := Lib.hid (xright_any a b c d A B C D a0 b0 c0 d0 h0')
  have L1 := Lib.hid (xnear_any x x0)
  have L2 := Lib.hid (xnear_any y y0)
  have bx := nr_bd x
  have by' := nr_bd y
  obtain ⟨p, hp⟩ : ∃ p, nr x = p := ⟨_, rfl⟩
  obtain ⟨q, hq⟩ : ∃ p, nr y = p := ⟨_, rfl⟩
  rw [hp] at L1 bx n
  rw [hq] at L2 by' n
  obtain ⟨bx0, bx1⟩ := bx
  obtain ⟨by0, by1⟩ := by'
  have rg := h0'.rgt
  have bd : -1073741824 ≤ A ∧ A ≤ 1073741824 ∧ -1073741824 ≤ B ∧ B ≤ 1073741824 ∧ -1073741824 ≤ C ∧ C ≤ 1073741824 ∧ -1073741824 ≤ D ∧ D ≤ 1073741824 := by unfold Rgt at rg; omega
  obtain ⟨A0, A1, B0, B1, C0, C1, D0, D1⟩ := bd
  have N3 := Lib.hid (xnew_any (A + p) (B + q) (C + p) (D + q) P Q R S ⟨by omega, by omega⟩ ⟨by omega, by omega⟩ ⟨by omega, by omega⟩ ⟨by omega, by omega⟩ n)
  clear h0' n rg hp hq
  unfold rv at N1 N3 ⊢
  go_enter Try.func77, Try.ntmps77
  go_wp2_with fail
  have KB : Hid (Below w.heap.size w ((w.alloc (.cells #[.int .i64 a, .int .i64 b, .int .i64 c, .int .i64 d] 40)).alloc (.cells #[.int .i64 0, .int .i64 0, .int .i64 0, .int .i64 0] 40))) := Lib.hid (by go_grown)
  have KT : Hid (Tab ((w.alloc (.cells #[.int .i64 a, .int .i64 b, .int .i64 c, .int .i64 d] 40)).alloc (.cells #[.int .i64 0, .int .i64 0, .int .i64 0, .int .i64 0] 40)) [(w.heap.size + 1, [.int .i64 0, .int .i64 0, .int .i64 0, .int .i64 0]), (w.heap.size, [.int .i64 a, .int .i64 b, .int .i64 c, .int .i64 d])]) := Lib.hid (((Tab.nil w).new' [.int .i64 a, .int .i64 b, .int .i64 c, .int .i64 d] 40 rfl).new' [.int .i64 0, .int .i64 0, .int .i64 0, .int .i64 0] 40 (by simp))
  refine (N1.out _).mono ?_
  rintro e w1 ⟨rfl, hb⟩
  have KB := Lib.hid (bel_tr0 KB.out hb)
  have KT := Lib.hid (KT.out.later hb)
  clear hb
  have z0 := KT.out.cell 0 0 rfl rfl
  have zf0 := KT.out.froz 0 0 rfl rfl
  have z1 := KT.out.cell 0 1 rfl rfl
  have zf1 := KT.out.froz 0 1 rfl rfl
  have z2 := KT.out.cell 0 2 rfl rfl
  have zf2 := KT.out.froz 0 2 rfl rfl
  have z3 := KT.out.cell 0 3 rfl rfl
  have zf3 := KT.out.froz 0 3 rfl rfl
  have x0 := KT.out.cell 1 0 rfl rfl
  have xf0 := KT.out.froz 1 0 rfl rfl
  have x1 := KT.out.cell 1 1 rfl rfl
  have xf1 := KT.out.froz 1 1 rfl rfl
  have x2 := KT.out.cell 1 2 rfl rfl
  have xf2 := KT.out.froz 1 2 rfl rfl
  have x3 := KT.out.cell 1 3 rfl rfl
  have xf3 := KT.out.froz 1 3 rfl rfl
  have lz := KT.out.lt 0 rfl
  have lx := KT.out.lt 1 rfl
  go_wp2_with fail
  refine (L1.out _).mono ?_
  rintro e w2 ⟨rfl, hb⟩
  have KB := Lib.hid (bel_tr0 KB.out hb)
  have KT := Lib.hid (KT.out.later hb)
  clear hb
  have z0 := KT.out.cell 0 0 rfl rfl
  have zf0 := KT.out.froz 0 0 rfl rfl
  have z1 := KT.out.cell 0 1 rfl rfl
  have zf1 := KT.out.froz 0 1 rfl rfl
  have z2 := KT.out.cell 0 2 rfl rfl
  have zf2 := KT.out.froz 0 2 rfl rfl
  have z3 := KT.out.cell 0 3 rfl rfl
  have zf3 := KT.out.froz 0 3 rfl rfl
  have x0 := KT.out.cell 1 0 rfl rfl
  have xf0 := KT.out.froz 1 0 rfl rfl
  have x1 := KT.out.cell 1 1 rfl rfl
  have xf1 := KT.out.froz 1 1 rfl rfl
  have x2 := KT.out.cell 1 2 rfl rfl
  have xf2 := KT.out.froz 1 2 rfl rfl
  have x3 := KT.out.cell 1 3 rfl rfl
  have xf3 := KT.out.froz 1 3 rfl rfl
  have lz := KT.out.lt 0 rfl
  have lx := KT.out.lt 1 rfl
  go_wp2_with fail
  refine (L2.out _).mono ?_
  rintro e w3 ⟨rfl, hb⟩
  have KB := Lib.hid (bel_tr0 KB.out hb)
  have KT := Lib.hid (KT.out.later hb)
  clear hb
  have z0 := KT.out.cell 0 0 rfl rfl
  have zf0 := KT.out.froz 0 0 rfl rfl
  have z1 := KT.out.cell 0 1 rfl rfl
  have zf1 := KT.out.froz 0 1 rfl rfl
  have z2 := KT.out.cell 0 2 rfl rfl
  have zf2 := KT.out.froz 0 2 rfl rfl
  have z3 := KT.out.cell 0 3 rfl rfl
  have zf3 := KT.out.froz 0 3 rfl rfl
  have x0 := KT.out.cell 1 0 rfl rfl
  have xf0 := KT.out.froz 1 0 rfl rfl
  have x1 := KT.out.cell 1 1 rfl rfl
  have xf1 := KT.out.froz 1 1 rfl rfl
  have x2 := KT.out.cell 1 2 rfl rfl
  have xf2 := KT.out.froz 1 2 rfl rfl
  have x3 := KT.out.cell 1 3 rfl rfl
  have xf3 := KT.out.froz 1 3 rfl rfl
  have lz := KT.out.lt 0 rfl
  have lx := KT.out.lt 1 rfl
  go_wp2_with fail
  refine (N3.out _).mono ?_
  rintro e w4 ⟨rfl, hb⟩
  have KT : Hid (Tab w4 [(w.heap.size + 1, [.int .i64 0, .int .i64 0, .int .i64 0, .int .i64 0])]) := by
    refine Lib.hid (Tab.later (Tab.cons (Tab.nil _) fun i v hi => ?_) hb)
    have h1 := KT.out.cell 0 i rfl hi
    have h2 := KT.out.froz 0 i rfl hi
    constructor
    · repeat (rw [World.cell?_setCell_other (h := fun x => by injection x with x; omega)])
      exact h1
    · simpa [go_sem] using h2
  have KB : Hid (Below w.heap.size w w4) := by
    refine Lib.hid (bel_tr0 ?_ hb)
    have hk := KB.out
    repeat' (first | exact hk | (with_reducible refine Below.setCell ?_ ?_ _) | go_size)
  clear hb
  have z0 := KT.out.cell 0 0 rfl rfl
  have zf0 := KT.out.froz 0 0 rfl rfl
  have z1 := KT.out.cell 0 1 rfl rfl
  have zf1 := KT.out.froz 0 1 rfl rfl
  have z2 := KT.out.cell 0 2 rfl rfl
  have zf2 := KT.out.froz 0 2 rfl rfl
  have z3 := KT.out.cell 0 3 rfl rfl
  have zf3 := KT.out.froz 0 3 rfl rfl
  have lz := KT.out.lt 0 rfl
  go_wp2_with fail
  refine bodyPost_ret (v := .agg #[.int .i64 P, .int .i64 Q, .int .i64 R, .int .i64 S]) (by simp [results, Try.results77, go_sem, z0, z1, z2, z3]) rfl ?_
  exact ⟨rfl, (by have hk := KB.out; repeat' (first | exact hk | (with_reducible refine Below.drew ?_) | (with_reducible refine Below.alloc ?_ ?_ _) | (with_reducible refine Below.setCell ?_ ?_ _) | (with_reducible refine below_drewN ?_ _) | go_size))⟩
end Go.Proofs.Ytjemnjboopabpaa
