/- The walk of ValueScales. -/
import Derived.Test.YtfhepaiefdmlcaaDoorDist
import Derived.Test.YtfhepaiefdmlcaaDoorValS
import Derived.Test.YtfhepaiefdmlcaaDoorRatioB
import Derived.WalkKit
import Derived.WalkSpells
import Derived.WalkLawsBesides
import Derived.Handy
import Derived.Lib.Hide
import Derived.Outline
namespace Go.Proofs.YtfhepaiefdmlcaaDoor
open Go.RowKit Go.Proofs.Flo Go.Proofs.Reg
set_option linter.unusedVariables false
set_option linter.unusedSimpArgs false
set_option maxRecDepth 100000
theorem lenB_in {n : Int} (a : -17592186044416 ≤ n) (b : n ≤ 17592186044416) : lenB n = true := by
  unfold lenB
  rw [decide_eq_true b, decide_eq_true a]
  rfl
theorem in_ok {k n base N D p : Int} (h : ∀ w, Calls Tryd.prog 12 #[.agg #[.int .i64 k, .int .i64 n], .int .i64 base, .agg #[.int .i64 N, .int .i64 D]] w fun e w' => InR p 0 e ∧ Below w.heap.size w w') (w : World) :
    Calls Tryd.prog 12 #[.agg #[.int .i64 k, .int .i64 n], .int .i64 base, .agg #[.int .i64 N, .int .i64 D]] w fun e w' => e = .returned (.tuple #[.int .i64 p, .bool true]) ∧ Below w.heap.size w w' := by
  refine (h w).mono ?_
  rintro e w' ⟨h | h, hb⟩
  · exact ⟨h.2, hb⟩
  · exact absurd rfl h.1
theorem quo_len {V N D : Int} (v0 : -1073741824 ≤ V) (v1 : V ≤ 1073741824) (N0 : 1 ≤ N) (N1 : N ≤ 4096) (D0 : 1 ≤ D) : lenB (V * N / D) = true := by
  have h1 : V * N ≤ 1073741824 * N := Int.mul_le_mul_of_nonneg_right v1 (by omega)
  have h2 : -1073741824 * N ≤ V * N := Int.mul_le_mul_of_nonneg_right v0 (by omega)
  have a : V * N / D ≤ 4398046511104 := by
    have := Int.ediv_le_ediv (c := D) (by omega) (show V * N ≤ 4398046511104 by omega)
    have := Int.ediv_le_self D (show (0 : Int) ≤ 4398046511104 by decide)
    omega
  have b : -4398046511104 ≤ V * N / D := by
    rw [Int.le_ediv_iff_mul_le (by omega)]
    have := Int.mul_le_mul_of_nonneg_left D0 (show (0 : Int) ≤ 4398046511104 by decide)
    omega
  exact lenB_in (by omega) (by omega)
theorem whole_in (V N D : Int) (v0 : -1073741824 ≤ V) (v1 : V ≤ 1073741824) (w : World) : Calls Tryd.prog 12 #[.agg #[.int .i64 4, .int .i64 6400], .int .i64 V, .agg #[.int .i64 N, .int .i64 D]] w fun e w' => e = .returned (.tuple #[.int .i64 V, .bool true]) ∧ Below w.heap.size w w' := by
  obtain ⟨p0, p1⟩ := prod_127 V 6400 (by omega) (by omega) (by decide) (by decide)
  obtain ⟨q, r, Q, R, F⟩ := df_ex (V * 6400) 6400 (by decide) p0 p1
  have hq : q = V := by have := F.er; have := F.rr; omega
  refine in_ok (vin_pct 6400 V N D V 0 (part_ends V 6400 6400 q r Q R V 0 (by omega) (by omega) (by decide) (by decide) (by decide) (by decide) F (.inl ⟨?_, hq.symm, rfl⟩))) w
  rw [hq]
  exact lenB_in (by omega) (by omega)
theorem one_in (V : Int) (v0 : -1073741824 ≤ V) (v1 : V ≤ 1073741824) (w : World) : Calls Tryd.prog 12 #[.agg #[.int .i64 3, .int .i64 V], .int .i64 0, .agg #[.int .i64 1, .int .i64 1]] w fun e w' => e = .returned (.tuple #[.int .i64 V, .bool true]) ∧ Below w.heap.size w w' := by
  refine in_ok (vin_fixed V 0 1 1 V 0 (scale_ends V 1 1 V 0 (by omega) (by omega) (by decide) (by decide) (by decide) (by decide) (by decide) (.inl ⟨?_, by omega, rfl⟩))) w
  exact lenB_in (by omega) (by omega)
theorem scaled_in (V N D : Int) (v0 : -1073741824 ≤ V) (v1 : V ≤ 1073741824) (N0 : 1 ≤ N) (N1 : N ≤ 4096) (D0 : 1 ≤ D) (D1 : D ≤ 4096) (hg : goodB N D = true) (w : World) : Calls Tryd.prog 12 #[.agg #[.int .i64 3, .int .i64 V], .int .i64 0, .agg #[.int .i64 N, .int .i64 D]] w fun e w' => e = .returned (.tuple #[.int .i64 (V * N / D), .bool true]) ∧ Below w.heap.size w w' :=
  in_ok (vin_fixed V 0 N D _ 0 (scale_ends V N D _ 0 (by omega) (by omega) (by omega) (by omega) D0 (by omega) hg (.inl ⟨quo_len v0 v1 N0 N1 D0, rfl, rfl⟩))) w
/-- the ratio of the law -/
theorem ratio_of (s t : Int) (s0 : 1 ≤ s) (s1 : s ≤ 4096) (t0 : 1 ≤ t) (t1 : t ≤ 4096) : ∃ N D, 1 ≤ N ∧ N ≤ 4096 ∧ 1 ≤ D ∧ D ≤ 4096 ∧ goodB N D = true ∧ ∀ w : World, Calls Tryd.prog 14 #[.int .i64 s, .int .i64 t] w fun e w' => e = .returned (.tuple #[.agg #[.int .i64 N, .int .i64 D], .int .i64 0]) ∧ Below w.heap.size w w' := by
  obtain ⟨g, N, D, L⟩ := lowest_ex s t (by omega) (by omega) (by omega) (by omega) (by omega)
  have D0 := L.Dpos
  have g0 := L.gpos
  obtain ⟨q1, q2⟩ := L.quo
  have eN := L.eN
  rw [if_neg (show ¬ t < 0 by omega)] at eN q2
  rw [if_neg (show ¬ s < 0 by omega)] at q1
  have D1 : D ≤ 4096 := by have := Int.ediv_le_self g (show 0 ≤ t by omega); omega
  have Nn : (if N < 0 then -N else N) ≤ 4096 := by have := Int.ediv_le_self g (show 0 ≤ s by omega); omega
  have N0 : 1 ≤ N := by
    by_cases h : 1 ≤ N
    · exact h
    · have : N * g ≤ 0 * g := Int.mul_le_mul_of_nonneg_right (by omega) (by omega)
      omega
  have N1 : N ≤ 4096 := by rw [if_neg (show ¬ N < 0 by omega)] at Nn; exact Nn
  exact ⟨N, D, N0, N1, D0, D1, L.good, fun w => of_any' L 0 N D (.inl ⟨by omega, by omega, rfl, rfl, rfl⟩) w⟩
/-- what the closure reads and writes -/
structure Sc (w : World) (bv br bw bp : Nat) (V W N D x1 x2 x3 x4 : Int) : Prop where
  lv : bv < bp
  lr : br < bp
  lw : bw < bp
  v0 : w.cell? ⟨bv, 0, none⟩ = some (.int .i64 3)
  v1 : w.cell? ⟨bv, 1, none⟩ = some (.int .i64 V)
  r0 : w.cell? ⟨br, 0, none⟩ = some (.int .i64 N)
  r1 : w.cell? ⟨br, 1, none⟩ = some (.int .i64 D)
  w0 : w.cell? ⟨bw, 0, none⟩ = some (.int .i64 3)
  w1 : w.cell? ⟨bw, 1, none⟩ = some (.int .i64 W)
  p1 : Var w ⟨bp, 0, none⟩ (.int .i64 x1)
  p2 : Var w ⟨bp + 1, 0, none⟩ (.int .i64 x2)
  p3 : Var w ⟨bp + 2, 0, none⟩ (.int .i64 x3)
  p4 : Var w ⟨bp + 3, 0, none⟩ (.int .i64 x4)
theorem Sc.later {w w' : World} {bv br bw bp : Nat} {V W N D x1 x2 x3 x4 : Int} (h : Sc w bv br bw bp V W N D x1 x2 x3 x4) (k : Below w.heap.size w w') : Sc w' bv br bw bp V W N D x1 x2 x3 x4 :=
  ⟨h.lv, h.lr, h.lw, cell_later k h.v0, cell_later k h.v1, cell_later k h.r0, cell_later k h.r1, cell_later k h.w0, cell_later k h.w1, h.p1.later k, h.p2.later k, h.p3.later k, h.p4.later k⟩
theorem cell_off {w : World} {b g i : Nat} {v u : Value} (h : w.cell? ⟨b, i, none⟩ = some v) (hn : b < g) : (w.setCell ⟨g, 0, none⟩ u).cell? ⟨b, i, none⟩ = some v := by
  rw [World.cell?_setCell_other _ _ _ _ (fun e => by injection e; omega)]
  exact h
theorem Sc.set1 {w : World} {bv br bw bp : Nat} {V W N D x1 x2 x3 x4 : Int} (h : Sc w bv br bw bp V W N D x1 x2 x3 x4) (u : Int) : Sc (w.setCell ⟨bp, 0, none⟩ (.int .i64 u)) bv br bw bp V W N D u x2 x3 x4 :=
  ⟨h.lv, h.lr, h.lw, cell_off h.v0 h.lv, cell_off h.v1 h.lv, cell_off h.r0 h.lr, cell_off h.r1 h.lr, cell_off h.w0 h.lw, cell_off h.w1 h.lw, h.p1.set _, h.p2.other (fun e => by injection e; omega) _, h.p3.other (fun e => by injection e; omega) _, h.p4.other (fun e => by injection e; omega) _⟩
theorem Sc.set2 {w : World} {bv br bw bp : Nat} {V W N D x1 x2 x3 x4 : Int} (h : Sc w bv br bw bp V W N D x1 x2 x3 x4) (u : Int) : Sc (w.setCell ⟨bp + 1, 0, none⟩ (.int .i64 u)) bv br bw bp V W N D x1 u x3 x4 :=
  ⟨h.lv, h.lr, h.lw, cell_off h.v0 (by have := h.lv; omega), cell_off h.v1 (by have := h.lv; omega), cell_off h.r0 (by have := h.lr; omega), cell_off h.r1 (by have := h.lr; omega), cell_off h.w0 (by have := h.lw; omega), cell_off h.w1 (by have := h.lw; omega), h.p1.other (fun e => by injection e; omega) _, h.p2.set _, h.p3.other (fun e => by injection e; omega) _, h.p4.other (fun e => by injection e; omega) _⟩
theorem Sc.set3 {w : World} {bv br bw bp : Nat} {V W N D x1 x2 x3 x4 : Int} (h : Sc w bv br bw bp V W N D x1 x2 x3 x4) (u : Int) : Sc (w.setCell ⟨bp + 2, 0, none⟩ (.int .i64 u)) bv br bw bp V W N D x1 x2 u x4 :=
  ⟨h.lv, h.lr, h.lw, cell_off h.v0 (by have := h.lv; omega), cell_off h.v1 (by have := h.lv; omega), cell_off h.r0 (by have := h.lr; omega), cell_off h.r1 (by have := h.lr; omega), cell_off h.w0 (by have := h.lw; omega), cell_off h.w1 (by have := h.lw; omega), h.p1.other (fun e => by injection e; omega) _, h.p2.other (fun e => by injection e; omega) _, h.p3.set _, h.p4.other (fun e => by injection e; omega) _⟩
theorem Sc.set4 {w : World} {bv br bw bp : Nat} {V W N D x1 x2 x3 x4 : Int} (h : Sc w bv br bw bp V W N D x1 x2 x3 x4) (u : Int) : Sc (w.setCell ⟨bp + 3, 0, none⟩ (.int .i64 u)) bv br bw bp V W N D x1 x2 x3 u :=
  ⟨h.lv, h.lr, h.lw, cell_off h.v0 (by have := h.lv; omega), cell_off h.v1 (by have := h.lv; omega), cell_off h.r0 (by have := h.lr; omega), cell_off h.r1 (by have := h.lr; omega), cell_off h.w0 (by have := h.lw; omega), cell_off h.w1 (by have := h.lw; omega), h.p1.other (fun e => by injection e; omega) _, h.p2.other (fun e => by injection e; omega) _, h.p3.other (fun e => by injection e; omega) _, h.p4.set _⟩
def four9 (bp : Nat) (x1 x2 x3 x4 : Int) : List (Addr × Value) := [(⟨bp, 0, none⟩, .int .i64 x1), (⟨bp + 1, 0, none⟩, .int .i64 x2), (⟨bp + 2, 0, none⟩, .int .i64 x3), (⟨bp + 3, 0, none⟩, .int .i64 x4)]
theorem Sc.vars {w : World} {bv br bw bp : Nat} {V W N D x1 x2 x3 x4 : Int} (h : Sc w bv br bw bp V W N D x1 x2 x3 x4) : Vars w (four9 bp x1 x2 x3 x4) := fun x hx => by
  unfold four9 at hx
  rcases List.mem_cons.1 hx with rfl | hx
  · exact h.p1
  rcases List.mem_cons.1 hx with rfl | hx
  · exact h.p2
  rcases List.mem_cons.1 hx with rfl | hx
  · exact h.p3
  obtain rfl : x = _ := List.mem_singleton.1 hx
  exact h.p4
def scalesArgs (bv br bw bp : Nat) : Array Value := #[.pointer (some ⟨bv, 0, none⟩), .pointer (some ⟨br, 0, none⟩), .pointer (some ⟨bp, 0, none⟩), .pointer (some ⟨bw, 0, none⟩), .pointer (some ⟨bp + 1, 0, none⟩), .pointer (some ⟨bp + 2, 0, none⟩), .pointer (some ⟨bp + 3, 0, none⟩)]
set_option maxHeartbeats 2000000 in
theorem scales1_ret (bv br bw bp : Nat) (V W N D p q : Int) (w : World) (h : Sc w bv br bw bp V W N D 0 0 0 0)
    (i1 : ∀ w, Calls Tryd.prog 12 #[.agg #[.int .i64 3, .int .i64 V], .int .i64 0, .agg #[.int .i64 N, .int .i64 D]] w fun e w' => e = .returned (.tuple #[.int .i64 p, .bool true]) ∧ Below w.heap.size w w')
    (i2 : ∀ w, Calls Tryd.prog 12 #[.agg #[.int .i64 3, .int .i64 W], .int .i64 0, .agg #[.int .i64 N, .int .i64 D]] w fun e w' => e = .returned (.tuple #[.int .i64 q, .bool true]) ∧ Below w.heap.size w w')
    (i3 : ∀ w, Calls Tryd.prog 12 #[.agg #[.int .i64 3, .int .i64 V], .int .i64 0, .agg #[.int .i64 1, .int .i64 1]] w fun e w' => e = .returned (.tuple #[.int .i64 V, .bool true]) ∧ Below w.heap.size w w')
    (i4 : ∀ w, Calls Tryd.prog 12 #[.agg #[.int .i64 4, .int .i64 6400], .int .i64 V, .agg #[.int .i64 N, .int .i64 D]] w fun e w' => e = .returned (.tuple #[.int .i64 V, .bool true]) ∧ Below w.heap.size w w') :
    Calls Tryd.prog 15 (scalesArgs bv br bw bp) w fun e w' => e = .returned (.tuple #[]) ∧ But [bp, bp + 1, bp + 2, bp + 3] w w' ∧ Vars w' (four9 bp p q V V) := by
  have I1 := Lib.hid i1
  have I2 := Lib.hid i2
  have I3 := Lib.hid i3
  have I4 := Lib.hid i4
  have H := Lib.hid h
  obtain ⟨lv, lr, lw, c1, c2, c3, c4, c5, c6, _, _, _, _⟩ := h
  clear i1 i2 i3 i4
  unfold scalesArgs
  have m1 : ¬ bp = bv := by omega
  have m2 : ¬ bp = br := by omega
  have m3 : ¬ bp = bw := by omega
  have m4 : ¬ bp + 1 = bv := by omega
  have m5 : ¬ bp + 1 = br := by omega
  have m6 : ¬ bp + 1 = bw := by omega
  have m7 : ¬ bp + 2 = bv := by omega
  have m8 : ¬ bp + 2 = br := by omega
  have m9 : ¬ bp + 2 = bw := by omega
  clear lv lr lw
  go_enter Tryd.func15, Tryd.ntmps15
  go_wp2_with fail
  refine (I1.out _).mono ?_
  rintro e w1 ⟨rfl, hb⟩
  have H1 := Lib.hid (H.out.later hb)
  have B1 := Lib.hid (But.of (bs := [bp, bp + 1, bp + 2, bp + 3]) hb)
  clear hb H c1 c2 c3 c4 c5 c6
  obtain ⟨_, _, _, c1, c2, c3, c4, c5, c6, ⟨d1, z1⟩, _, _, _⟩ := H1.out
  go_wp2_with fail
  refine (I2.out _).mono ?_
  rintro e w2 ⟨rfl, hb⟩
  have H2 := Lib.hid ((H1.out.set1 p).later hb)
  have B2 := Lib.hid ((B1.out.setCell (p := ⟨bp, 0, none⟩) (.inl (by simp)) _).later hb)
  clear hb H1 B1 c1 c2 c3 c4 c5 c6 d1 z1
  obtain ⟨_, _, _, c1, c2, c3, c4, c5, c6, _, ⟨d1, z1⟩, _, _⟩ := H2.out
  go_wp2_with fail
  refine (I3.out _).mono ?_
  rintro e w3 ⟨rfl, hb⟩
  have H3 := Lib.hid ((H2.out.set2 q).later hb)
  have B3 := Lib.hid ((B2.out.setCell (p := ⟨bp + 1, 0, none⟩) (.inl (by simp)) _).later hb)
  clear hb H2 B2 c1 c2 c3 c4 c5 c6 d1 z1
  obtain ⟨_, _, _, c1, c2, c3, c4, c5, c6, _, _, ⟨d1, z1⟩, _⟩ := H3.out
  go_wp2_with fail
  refine (I4.out _).mono ?_
  rintro e w4 ⟨rfl, hb⟩
  have H4 := Lib.hid ((H3.out.set3 V).later hb)
  have B4 := Lib.hid ((B3.out.setCell (p := ⟨bp + 2, 0, none⟩) (.inl (by simp)) _).later hb)
  clear hb H3 B3 c1 c2 c3 c4 c5 c6 d1 z1
  obtain ⟨_, _, _, c1, c2, c3, c4, c5, c6, _, _, _, ⟨d1, z1⟩⟩ := H4.out
  go_wp2_with fail
  go_end0
  exact ⟨rfl, B4.out.setCell (p := ⟨bp + 3, 0, none⟩) (.inl (by simp)) _, (H4.out.set4 V).vars⟩
theorem scales1_any (bv br bw bp : Nat) (V W N D p q : Int) (w : World) (h : Sc w bv br bw bp V W N D 0 0 0 0)
    (i1 : ∀ w, Calls Tryd.prog 12 #[.agg #[.int .i64 3, .int .i64 V], .int .i64 0, .agg #[.int .i64 N, .int .i64 D]] w fun e w' => e = .returned (.tuple #[.int .i64 p, .bool true]) ∧ Below w.heap.size w w')
    (i2 : ∀ w, Calls Tryd.prog 12 #[.agg #[.int .i64 3, .int .i64 W], .int .i64 0, .agg #[.int .i64 N, .int .i64 D]] w fun e w' => e = .returned (.tuple #[.int .i64 q, .bool true]) ∧ Below w.heap.size w w')
    (i3 : ∀ w, Calls Tryd.prog 12 #[.agg #[.int .i64 3, .int .i64 V], .int .i64 0, .agg #[.int .i64 1, .int .i64 1]] w fun e w' => e = .returned (.tuple #[.int .i64 V, .bool true]) ∧ Below w.heap.size w w')
    (i4 : ∀ w, Calls Tryd.prog 12 #[.agg #[.int .i64 4, .int .i64 6400], .int .i64 V, .agg #[.int .i64 N, .int .i64 D]] w fun e w' => e = .returned (.tuple #[.int .i64 V, .bool true]) ∧ Below w.heap.size w w') :
    Calls Tryd.prog 10 #[.func (.func 15) #[] (scalesArgs bv br bw bp)] w fun e w' => e = .returned (.int .i64 0) ∧ But [bp, bp + 1, bp + 2, bp + 3] w w' ∧ Vars w' (four9 bp p q V V) := by
  have ba : Below w.heap.size w (w.alloc (.cells #[.int .i64 0] 26)) := (Below.refl _ _).alloc (Nat.le_refl _) _
  have l4 := h.p4.lt
  have l4 : bp + 3 < w.heap.size := l4
  refine tryB_ret 15 _ [bp, bp + 1, bp + 2, bp + 3] (four9 bp p q V V) w (fun i hi => by simp at hi; omega) (fun x hx => by simp [four9] at hx; rcases hx with rfl | rfl | rfl | rfl <;> simp <;> omega) (fun _ => by kernel_rfl) ?_
  exact scales1_ret bv br bw bp V W N D p q _ (h.later ba) i1 i2 i3 i4
theorem run_i64f (n : Int) (x : Nat) (e : Ieee.double.write (.number (n < 0) n.natAbs 0) = x) (w : World) : (convert 2 29 (.int .i64 n)).run Tryd.prog w = .ok (.float .f64 x) w := by
  rw [← e]
  kernel_rfl
theorem dec_len {x : Nat} {k V : Int} (h : decR x false 8 = (k, V, 0)) : rung x < 9218868437227405312 ∧ nanB x = false ∧ k = 3 ∧ gridR (sval x) 64 = V ∧ V.natAbs ≤ 1073741824 := by
  unfold decR at h
  rw [show bitB 8 1 = false by decide, show bitB 8 2 = false by decide, show bitB 8 4 = false by decide, show bitB 8 8 = true by decide] at h
  cases n : nanB x
  · cases i : infB x
    · rw [n, i] at h
      simp only [Bool.false_eq_true, if_false, Bool.false_and] at h
      have r : rung x < 9218868437227405312 := by
        unfold nanB at n
        unfold infB at i
        have := of_decide_eq_false n
        have := of_decide_eq_false i
        omega
      generalize gridR (sval x) 64 = G at *
      by_cases b : G < -1073741824 ∨ 1073741824 < G
      · rw [if_pos b] at h
        simp at h
      · rw [if_neg b, if_neg (by simp)] at h
        simp only [Prod.mk.injEq, and_true] at h
        obtain ⟨rfl, rfl⟩ := h
        exact ⟨r, rfl, rfl, rfl, by omega⟩
    · rw [n, i] at h
      simp at h
  · rw [n] at h
    simp at h
set_option maxHeartbeats 2000000 in
theorem scales_bad9 (x y : Nat) (s t n d N D KX V EX KY W EY : Int) (hx : x < 18446744073709551616) (hy : y < 18446744073709551616) (ks : 0 ≤ s ∧ s ≤ 65535) (kt : 0 ≤ t ∧ t ≤ 65535) (hn : 1 + s % 4096 = n) (hd : 1 + t % 4096 = d) (n0 : 1 ≤ n) (n1 : n ≤ 4096) (d0 : 1 ≤ d) (d1 : d ≤ 4096)
    (OF : Hid (∀ w : World, Calls Tryd.prog 14 #[.int .i64 n, .int .i64 d] w fun e w' => e = .returned (.tuple #[.agg #[.int .i64 N, .int .i64 D], .int .i64 0]) ∧ Below w.heap.size w w'))
    (D1 : Hid (∀ w : World, Deb w → Calls Tryd.prog 7 #[.agg #[.float .f64 x, .bool false], .int .i64 8] w fun r w' => r = .returned (.tuple #[.agg #[.int .i64 KX, .int .i64 V], .int .i64 EX]) ∧ Below w.heap.size w w'))
    (D2 : Hid (∀ w : World, Deb w → Calls Tryd.prog 7 #[.agg #[.float .f64 y, .bool false], .int .i64 8] w fun r w' => r = .returned (.tuple #[.agg #[.int .i64 KY, .int .i64 W], .int .i64 EY]) ∧ Below w.heap.size w w'))
    (hE : EX ≠ 0 ∨ (EX = 0 ∧ EY ≠ 0)) (w : World) (hD : Deb w) :
    Calls Tryd.prog 5 #[.int .u64 (x : Int), .int .u64 (y : Int), .agg #[.int .u16 s, .int .u16 t]] w fun e w' => e = .returned (.bool true) ∧ Below w.heap.size w w' := by
  have HS := Lib.hid (fun w h => speaks9_any w h)
  have HD := Lib.hid hD
  have r1 : ∀ w : World, (callFunc 8 #[.int .u64 (x : Int)]).run Tryd.prog w = .ok (.value (.float .f64 x)) w := fun w => run_frombits x w
  have r2 : ∀ w : World, (callFunc 8 #[.int .u64 (y : Int)]).run Tryd.prog w = .ok (.value (.float .f64 y)) w := fun w => run_frombits y w
  obtain ⟨s0, s1⟩ := ks
  obtain ⟨t0, t1⟩ := kt
  clear hD
  rcases hE with e1 | ⟨rfl, e1⟩
  · have e2 : (EX == 0) = false := by simpa using e1
    have e3 : (EX != 0) = true := by simpa using e1
    clear e1
    go_enter Tryd.func5, Tryd.ntmps5
    go_wp2_with fail
    refine (HS.out _ (HD.out.later (by go_grown))).mono ?_
    rintro e w1 ⟨rfl, hb⟩
    have K1 := Lib.hid (show Below w.heap.size w w1 from bel_tr0 (by go_grown) hb)
    have T1 := Lib.hid (((Tab.nil w).new [.int .u16 s, .int .u16 t] 48).later hb)
    clear hb
    have hs1 := K1.out.size
    go_wp2_with fail
    refine (D1.out _ (HD.out.later K1.out)).mono ?_
    rintro e w2 ⟨rfl, hb⟩
    have K2 := Lib.hid (bel_tr0 K1.out hb)
    have T2 := Lib.hid (T1.out.later hb)
    clear hb
    have hs2 := K2.out.size
    go_wp2_with fail
    refine (D2.out _ (HD.out.later (K2.out.alloc (by omega) _))).mono ?_
    rintro e w3 ⟨rfl, hb⟩
    have K3 := Lib.hid (bel_tr0 (K2.out.alloc (by omega) _) hb)
    have lt3 : w2.heap.size < w3.heap.size := by have := hb.size; simp at this; omega
    have T3 := Lib.hid (((T2.out.new [.int .i64 KX, .int .i64 V] 25).later hb).new [.int .i64 KY, .int .i64 W] 25)
    clear hb
    have hs3 := K3.out.size
    have c0 := T3.out.cell 2 0 rfl rfl
    have c1 := T3.out.cell 2 1 rfl rfl
    go_wp2_with fail
    refine (OF.out _).mono ?_
    rintro e w4 ⟨rfl, hb⟩
    have K4 := Lib.hid (bel_tr0 (K3.out.alloc (by omega) _) hb)
    have lt4 : w3.heap.size < w4.heap.size := by have := hb.size; simp at this; omega
    have T4 := Lib.hid ((T3.out.later hb).new [.int .i64 N, .int .i64 D] 43)
    clear hb c0 c1
    have hs4 := K4.out.size
    go_wp2_with fail
    go_returns
    exact ⟨rfl, K4.out.alloc (by omega) _⟩
  · have e2 : (EY == 0) = false := by simpa using e1
    have e3 : (EY != 0) = true := by simpa using e1
    clear e1
    go_enter Tryd.func5, Tryd.ntmps5
    go_wp2_with fail
    refine (HS.out _ (HD.out.later (by go_grown))).mono ?_
    rintro e w1 ⟨rfl, hb⟩
    have K1 := Lib.hid (show Below w.heap.size w w1 from bel_tr0 (by go_grown) hb)
    have T1 := Lib.hid (((Tab.nil w).new [.int .u16 s, .int .u16 t] 48).later hb)
    clear hb
    have hs1 := K1.out.size
    go_wp2_with fail
    refine (D1.out _ (HD.out.later K1.out)).mono ?_
    rintro e w2 ⟨rfl, hb⟩
    have K2 := Lib.hid (bel_tr0 K1.out hb)
    have T2 := Lib.hid (T1.out.later hb)
    clear hb
    have hs2 := K2.out.size
    go_wp2_with fail
    refine (D2.out _ (HD.out.later (K2.out.alloc (by omega) _))).mono ?_
    rintro e w3 ⟨rfl, hb⟩
    have K3 := Lib.hid (bel_tr0 (K2.out.alloc (by omega) _) hb)
    have lt3 : w2.heap.size < w3.heap.size := by have := hb.size; simp at this; omega
    have T3 := Lib.hid (((T2.out.new [.int .i64 KX, .int .i64 V] 25).later hb).new [.int .i64 KY, .int .i64 W] 25)
    clear hb
    have hs3 := K3.out.size
    have c0 := T3.out.cell 2 0 rfl rfl
    have c1 := T3.out.cell 2 1 rfl rfl
    go_wp2_with fail
    refine (OF.out _).mono ?_
    rintro e w4 ⟨rfl, hb⟩
    have K4 := Lib.hid (bel_tr0 (K3.out.alloc (by omega) _) hb)
    have lt4 : w3.heap.size < w4.heap.size := by have := hb.size; simp at this; omega
    have T4 := Lib.hid ((T3.out.later hb).new [.int .i64 N, .int .i64 D] 43)
    clear hb c0 c1
    have hs4 := K4.out.size
    go_wp2_with fail
    go_returns
    exact ⟨rfl, K4.out.alloc (by omega) _⟩
set_option maxHeartbeats 4000000 in
theorem scales_good9 (x y : Nat) (s t n d N D V W p q : Int) (hx : x < 18446744073709551616) (hy : y < 18446744073709551616) (ks : 0 ≤ s ∧ s ≤ 65535) (kt : 0 ≤ t ∧ t ≤ 65535) (hn : 1 + s % 4096 = n) (hd : 1 + t % 4096 = d) (n0 : 1 ≤ n) (n1 : n ≤ 4096) (d0 : 1 ≤ d) (d1 : d ≤ 4096)
    (OF : Hid (∀ w : World, Calls Tryd.prog 14 #[.int .i64 n, .int .i64 d] w fun e w' => e = .returned (.tuple #[.agg #[.int .i64 N, .int .i64 D], .int .i64 0]) ∧ Below w.heap.size w w'))
    (D1 : Hid (∀ w : World, Deb w → Calls Tryd.prog 7 #[.agg #[.float .f64 x, .bool false], .int .i64 8] w fun r w' => r = .returned (.tuple #[.agg #[.int .i64 3, .int .i64 V], .int .i64 0]) ∧ Below w.heap.size w w'))
    (D2 : Hid (∀ w : World, Deb w → Calls Tryd.prog 7 #[.agg #[.float .f64 y, .bool false], .int .i64 8] w fun r w' => r = .returned (.tuple #[.agg #[.int .i64 3, .int .i64 W], .int .i64 0]) ∧ Below w.heap.size w w'))
    (I1 : Hid (∀ w, Calls Tryd.prog 12 #[.agg #[.int .i64 3, .int .i64 V], .int .i64 0, .agg #[.int .i64 N, .int .i64 D]] w fun e w' => e = .returned (.tuple #[.int .i64 p, .bool true]) ∧ Below w.heap.size w w'))
    (I2 : Hid (∀ w, Calls Tryd.prog 12 #[.agg #[.int .i64 3, .int .i64 W], .int .i64 0, .agg #[.int .i64 N, .int .i64 D]] w fun e w' => e = .returned (.tuple #[.int .i64 q, .bool true]) ∧ Below w.heap.size w w'))
    (I3 : Hid (∀ w, Calls Tryd.prog 12 #[.agg #[.int .i64 3, .int .i64 V], .int .i64 0, .agg #[.int .i64 1, .int .i64 1]] w fun e w' => e = .returned (.tuple #[.int .i64 V, .bool true]) ∧ Below w.heap.size w w'))
    (I4 : Hid (∀ w, Calls Tryd.prog 12 #[.agg #[.int .i64 4, .int .i64 6400], .int .i64 V, .agg #[.int .i64 N, .int .i64 D]] w fun e w' => e = .returned (.tuple #[.int .i64 V, .bool true]) ∧ Below w.heap.size w w'))
    (g1 : Bool) (o1 : (FloatKind.f64.format.order x y == some Ordering.gt) = g1) (pq : g1 = false → p ≤ q)
    (yy ff dd : Nat) (hdd : dd < 18446744073709551616) (m1 : Ieee.double.mul 4634204016564240384 x = some yy) (m2 : Ieee.double.write (.number (V < 0) V.natAbs 0) = ff) (m3 : Ieee.double.sub yy ff = some dd)
    (b1 b2 : Bool) (o2 : (FloatKind.f64.format.order (rung dd) 4602678819172646912 == some Ordering.lt) = b1) (o3 : (FloatKind.f64.format.order (rung dd) 4602678819172646912 == some Ordering.eq) = b2) (o4 : (b1 || b2) = true)
    (w : World) (hD : Deb w) :
    Calls Tryd.prog 5 #[.int .u64 (x : Int), .int .u64 (y : Int), .agg #[.int .u16 s, .int .u16 t]] w fun e w' => e = .returned (.bool true) ∧ Below w.heap.size w w' := by
  have hmf : ∀ (fn : Fn) (first cap : Array Value) (w : World), (Instr.makeFunc fn first cap).run Tryd.prog w = .ok (.func fn first cap) w := fun _ _ _ _ => rfl
  have HS := Lib.hid (fun w h => speaks9_any w h)
  have HD := Lib.hid hD
  have HA := Lib.hid (abs_any dd hdd)
  have PQ := Lib.hid pq
  have r1 : ∀ w : World, (callFunc 8 #[.int .u64 (x : Int)]).run Tryd.prog w = .ok (.value (.float .f64 x)) w := fun w => run_frombits x w
  have r2 : ∀ w : World, (callFunc 8 #[.int .u64 (y : Int)]).run Tryd.prog w = .ok (.value (.float .f64 y)) w := fun w => run_frombits y w
  have a1 := run_mul 29 4634204016564240384 x yy m1
  have a2 := run_i64f V ff m2
  have a3 : ∀ w : World, (binOp BinOp.sub 29 (.float .f64 yy) (.float .f64 ff)).run Tryd.prog w = .ok (.float .f64 dd) w := fun w => run_float_arith w .sub 29 .f64 yy ff dd m3
  obtain ⟨s0, s1⟩ := ks
  obtain ⟨t0, t1⟩ := kt
  clear hD m1 m2 m3 pq
  go_enter Tryd.func5, Tryd.ntmps5
  go_wp2_with fail
  refine (HS.out _ (HD.out.later (by go_grown))).mono ?_
  rintro e w1 ⟨rfl, hb⟩
  have K1 := Lib.hid (show Below w.heap.size w w1 from bel_tr0 (by go_grown) hb)
  have T1 := Lib.hid (((Tab.nil w).new [.int .u16 s, .int .u16 t] 48).later hb)
  clear hb
  have hs1 := K1.out.size
  go_wp2_with fail
  refine (D1.out _ (HD.out.later K1.out)).mono ?_
  rintro e w2 ⟨rfl, hb⟩
  have K2 := Lib.hid (bel_tr0 K1.out hb)
  have T2 := Lib.hid (T1.out.later hb)
  clear hb
  have hs2 := K2.out.size
  go_wp2_with fail
  refine (D2.out _ (HD.out.later (K2.out.alloc (by omega) _))).mono ?_
  rintro e w3 ⟨rfl, hb⟩
  have K3 := Lib.hid (bel_tr0 (K2.out.alloc (by omega) _) hb)
  have lt3 : w2.heap.size < w3.heap.size := by have := hb.size; simp at this; omega
  have T3 := Lib.hid (((T2.out.new [.int .i64 3, .int .i64 V] 25).later hb).new [.int .i64 3, .int .i64 W] 25)
  clear hb
  have hs3 := K3.out.size
  have c0 := T3.out.cell 2 0 rfl rfl
  have c1 := T3.out.cell 2 1 rfl rfl
  go_wp2_with fail
  refine (OF.out _).mono ?_
  rintro e w4 ⟨rfl, hb⟩
  have K4 := Lib.hid (bel_tr0 (K3.out.alloc (by omega) _) hb)
  have lt4 : w3.heap.size < w4.heap.size := by have := hb.size; simp at this; omega
  have T4 := Lib.hid ((T3.out.later hb).new [.int .i64 N, .int .i64 D] 43)
  clear hb c0 c1
  have hs4 := K4.out.size
  go_wp2_with fail
  have nw : Sc ((((w4.alloc (.cells #[.int .i64 N, .int .i64 D] 43)).alloc (.cells #[.int .i64 0] 2)).alloc (.cells #[.int .i64 0] 2)).alloc (.cells #[.int .i64 0] 2) |>.alloc (.cells #[.int .i64 0] 2)) w2.heap.size w4.heap.size w3.heap.size (w4.heap.size + 1) V W N D 0 0 0 0 := by
    have ba : Below (w4.alloc (.cells #[.int .i64 N, .int .i64 D] 43)).heap.size (w4.alloc (.cells #[.int .i64 N, .int .i64 D] 43)) ((((w4.alloc (.cells #[.int .i64 N, .int .i64 D] 43)).alloc (.cells #[.int .i64 0] 2)).alloc (.cells #[.int .i64 0] 2)).alloc (.cells #[.int .i64 0] 2) |>.alloc (.cells #[.int .i64 0] 2)) := by go_grown
    have TT := T4.out.later ba
    refine ⟨by omega, by omega, by omega, TT.cell 2 0 rfl rfl, TT.cell 2 1 rfl rfl, TT.cell 0 0 rfl rfl, TT.cell 0 1 rfl rfl, TT.cell 1 0 rfl rfl, TT.cell 1 1 rfl rfl, ?_, ?_, ?_, ?_⟩
    · have := (((Var.new (w4.alloc (.cells #[.int .i64 N, .int .i64 D] 43)) (.int .i64 0) 2).alloc (.cells #[.int .i64 0] 2)).alloc (.cells #[.int .i64 0] 2)).alloc (.cells #[.int .i64 0] 2)
      simpa using this
    · have := ((Var.new ((w4.alloc (.cells #[.int .i64 N, .int .i64 D] 43)).alloc (.cells #[.int .i64 0] 2)) (.int .i64 0) 2).alloc (.cells #[.int .i64 0] 2)).alloc (.cells #[.int .i64 0] 2)
      simpa using this
    · have := (Var.new (((w4.alloc (.cells #[.int .i64 N, .int .i64 D] 43)).alloc (.cells #[.int .i64 0] 2)).alloc (.cells #[.int .i64 0] 2)) (.int .i64 0) 2).alloc (.cells #[.int .i64 0] 2)
      simpa using this
    · have := Var.new ((((w4.alloc (.cells #[.int .i64 N, .int .i64 D] 43)).alloc (.cells #[.int .i64 0] 2)).alloc (.cells #[.int .i64 0] 2)).alloc (.cells #[.int .i64 0] 2)) (.int .i64 0) 2
      simpa using this
  have kw : Below w.heap.size w ((((w4.alloc (.cells #[.int .i64 N, .int .i64 D] 43)).alloc (.cells #[.int .i64 0] 2)).alloc (.cells #[.int .i64 0] 2)).alloc (.cells #[.int .i64 0] 2) |>.alloc (.cells #[.int .i64 0] 2)) := bel_tr0 (K4.out.alloc (by omega) (.cells #[.int .i64 N, .int .i64 D] 43)) (by go_grown)
  have TR := scales1_any w2.heap.size w4.heap.size w3.heap.size (w4.heap.size + 1) V W N D p q _ nw I1.out I2.out I3.out I4.out
  unfold scalesArgs at TR
  refine TR.mono ?_
  rintro e w5 ⟨rfl, hbut, hv⟩
  have K5 : Hid (Below w.heap.size w w5) := Lib.hid (But.below kw hbut (by simp; omega) (fun i hi => by simp at hi; omega))
  have v1 := (hv (⟨w4.heap.size + 1, 0, none⟩, .int .i64 p) (by simp [four9])).c
  have v2 := (hv (⟨w4.heap.size + 1 + 1, 0, none⟩, .int .i64 q) (by simp [four9])).c
  have v3 := (hv (⟨w4.heap.size + 1 + 2, 0, none⟩, .int .i64 V) (by simp [four9])).c
  have v4 := (hv (⟨w4.heap.size + 1 + 3, 0, none⟩, .int .i64 V) (by simp [four9])).c
  have v5 := hbut.cell (p := ⟨w2.heap.size, 1, none⟩) (by simp; omega) nw.v1
  simp only at v1 v2 v3 v4
  clear TR hbut hv nw kw
  have w2' : ∀ k : Nat, w4.heap.size + 1 + 1 = w4.heap.size + 2 := fun _ => rfl
  cases g1
  · have pq := PQ.out rfl
    cases b1 <;> cases b2
    · cases o4
    all_goals
      go_wp2_with fail
      refine (HA.out _).mono ?_
      rintro e w6 ⟨rfl, rfl⟩
      go_wp2_with fail
      go_returns
      exact ⟨rfl, K5.out⟩
  · cases b1 <;> cases b2
    · cases o4
    all_goals
      go_wp2_with fail
      refine (HA.out _).mono ?_
      rintro e w6 ⟨rfl, rfl⟩
      go_wp2_with fail
      go_returns
      exact ⟨rfl, K5.out⟩
theorem sval_mono9 {x y : Nat} (h : key x ≤ key y) : sval x ≤ sval y := by
  have a := mag_iff (rung x) (rung y)
  have b := mag_iff (rung y) (rung x)
  revert h
  unfold key sval sg
  cases sgn x <;> cases sgn y <;> simp only [Bool.false_eq_true, if_false, if_true] <;> intro h
  · by_cases c : rung x < rung y
    · have := a.1.2 c; omega
    · have := a.2.2 (by omega); omega
  · have := a.2.2 (by omega)
    have e : rung x = 0 ∧ rung y = 0 := by omega
    rw [e.1, e.2, mag_zero]; omega
  · omega
  · by_cases c : rung y < rung x
    · have := b.1.2 c; omega
    · have := a.2.2 (by omega); omega
theorem law_scales9 (x y : Nat) (s t : Int) (hx : x < 18446744073709551616) (hy : y < 18446744073709551616) (ks : 0 ≤ s ∧ s ≤ 65535) (kt : 0 ≤ t ∧ t ≤ 65535) (w : World) (hD : Deb w) :
    Calls Tryd.prog 5 #[.int .u64 (x : Int), .int .u64 (y : Int), .agg #[.int .u16 s, .int .u16 t]] w fun e w' => e = .returned (.bool true) ∧ Below w.heap.size w w' := by
  obtain ⟨n, hn⟩ : ∃ n, 1 + s % 4096 = n := ⟨_, rfl⟩
  obtain ⟨d, hd⟩ : ∃ d, 1 + t % 4096 = d := ⟨_, rfl⟩
  obtain ⟨N, D, N0, N1, D0, D1, hg, OF⟩ := ratio_of n d (by omega) (by omega) (by omega) (by omega)
  obtain ⟨⟨KX, V, EX⟩, h1⟩ : ∃ r, decR x false 8 = r := ⟨_, rfl⟩
  obtain ⟨⟨KY, W, EY⟩, h2⟩ : ∃ r, decR y false 8 = r := ⟨_, rfl⟩
  have X1 := fun w h => vdecode_any x hx false 8 (by decide) w h
  have X2 := fun w h => vdecode_any y hy false 8 (by decide) w h
  rw [show ((8 : Nat) : Int) = 8 from rfl] at X1 X2
  rw [h1] at X1
  rw [h2] at X2
  by_cases e1 : EX = 0
  · by_cases e2 : EY = 0
    · subst e1 e2
      obtain ⟨rx, nx, rfl, gx, lx⟩ := dec_len h1
      obtain ⟨ry, ny, rfl, gy, ly⟩ := dec_len h2
      obtain ⟨yy, ff, dd, m1, m2, m3, hdd, hr⟩ := dist_any x V rx gx lx
      obtain ⟨q1, q2, q3⟩ := eql_key (rung dd) 4602678819172646912 (by unfold nanB; rw [rung_rung]; exact decide_eq_false (by omega)) (by decide)
      obtain ⟨_, _, q4⟩ := eql_key x y nx ny
      refine scales_good9 x y s t n d N D V W (V * N / D) (W * N / D) hx hy ks kt hn hd (by omega) (by omega) (by omega) (by omega) (Lib.hid OF) (Lib.hid X1) (Lib.hid X2)
        (Lib.hid (scaled_in V N D (by omega) (by omega) N0 N1 D0 D1 hg)) (Lib.hid (scaled_in W N D (by omega) (by omega) N0 N1 D0 D1 hg)) (Lib.hid (one_in V (by omega) (by omega))) (Lib.hid (whole_in V N D (by omega) (by omega)))
        _ q4 (fun z => ?_) yy ff dd hdd m1 m2 m3 _ _ q2 q1 ?_ w hD
      · have k := of_decide_eq_false z
        have vw : V ≤ W := by rw [← gx, ← gy]; exact gridR_mono _ _ _ (by decide) (sval_mono9 (by omega))
        exact Int.ediv_le_ediv (by omega) (Int.mul_le_mul_of_nonneg_right vw (by omega))
      · rw [key_rung, show key 4602678819172646912 = 4602678819172646912 by decide]
        by_cases c : (rung dd : Int) < 4602678819172646912
        · rw [decide_eq_true c, Bool.true_or]
        · rw [decide_eq_false c, Bool.false_or]
          exact decide_eq_true (by omega)
    · exact scales_bad9 x y s t n d N D KX V EX KY W EY hx hy ks kt hn hd (by omega) (by omega) (by omega) (by omega) (Lib.hid OF) (Lib.hid X1) (Lib.hid X2) (.inr ⟨e1, e2⟩) w hD
  · exact scales_bad9 x y s t n d N D KX V EX KY W EY hx hy ks kt hn hd (by omega) (by omega) (by omega) (by omega) (Lib.hid OF) (Lib.hid X1) (Lib.hid X2) (.inl e1) w hD
end Go.Proofs.YtfhepaiefdmlcaaDoor
