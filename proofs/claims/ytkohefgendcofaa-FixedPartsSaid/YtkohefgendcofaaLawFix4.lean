/- The walk of FixedParts. -/
import Derived.Test.YtkohefgendcofaaParts
import Derived.Test.YtkohefgendcofaaSpk4
import Derived.WalkKit
import Derived.WalkSpells
import Derived.WalkLawsBesides
import Derived.Handy
import Derived.Lib.Hide
import Derived.LaidEql
import Derived.Deep.QuietTactic
import Derived.BigQuiet
import Derived.LoopTactic
import Derived.Deep.RegionHeld3
import Derived.Deep.RegionWith
import Derived.Outline
import Derived.Deep.DeepCutAuto
namespace Go.Proofs.Ytkohefgendcofaa
open Go.RowKit Go.Proofs.Big Go.Proofs.Reg
set_option linter.unusedVariables false
set_option linter.unusedSimpArgs false
set_option maxRecDepth 100000
/-- what the program and the reference say of a part, the same -/
structure Same3 (x n d v er : Int) : Prop where
  prog : ∀ w, Calls Try.prog 48 #[.int .i64 x, .int .i64 n, .int .i64 d] w fun e w' => Ends v er e ∧ Below w.heap.size w w'
  ref : ∀ w, Calls Try.prog 53 #[.int .i64 x, .int .i64 n, .int .i64 d] w fun e w' => e = .returned (.tuple #[.int .i64 v, .int .i64 er]) ∧ Below w.heap.size w w'
  zero : er ≠ 0 → v = 0
theorem Tl.zero {n v er : Int} (h : Tl n v er) : er ≠ 0 → v = 0 := fun z => by
  rcases h with ⟨_, _, h⟩ | ⟨_, h, _⟩
  · exact absurd h z
  · exact h
theorem prod_127 (x n : Int) (x0 : -9223372036854775808 ≤ x) (x1 : x ≤ 9223372036854775807) (n0 : -9223372036854775808 ≤ n) (n1 : n ≤ 9223372036854775807) : -170141183460469231731687303715884105728 ≤ x * n ∧ x * n < 170141183460469231731687303715884105728 := by
  have := prod_range x n x0 x1 n0 n1
  omega
theorem same3_ex (x n d : Int) (x0 : -9223372036854775808 ≤ x) (x1 : x ≤ 9223372036854775807) (n0 : -9223372036854775808 ≤ n) (n1 : n ≤ 9223372036854775807) (d0 : -9223372036854775808 ≤ d) (d1 : d ≤ 9223372036854775807) : ∃ v er, Same3 x n d v er := by
  by_cases z : d = 0
  · subst z
    refine ⟨0, 3, fun w => (fpart_zero x n w).mono ?_, part4_zero x n, fun _ => rfl⟩
    rintro e w' ⟨rfl, rfl⟩
    exact ⟨.inr ⟨by decide, rfl, rfl⟩, Below.refl _ _⟩
  · obtain ⟨p0, p1⟩ := prod_127 x n x0 x1 n0 n1
    obtain ⟨q, r, Q, R, F⟩ := df_ex (x * n) d z p0 p1
    obtain ⟨v, er, ht⟩ := tl_ex q
    exact ⟨v, er, part_ends x n d q r Q R v er x0 x1 n0 n1 d0 d1 F ht, part4_any x n d q r Q R v er x0 x1 n0 n1 d0 d1 F ht, ht.zero⟩
/-- a good ratio's scale, and the reference's part -/
theorem scale_same (x n d : Int) (x0 : -9223372036854775808 ≤ x) (x1 : x ≤ 9223372036854775807) (n0 : -9223372036854775808 ≤ n) (n1 : n ≤ 9223372036854775807) (d0 : 1 ≤ d) (d1 : d ≤ 9223372036854775807) (hg : goodB n d = true) :
    ∃ v er, (∀ w, Calls Try.prog 50 #[.int .i64 x, .agg #[.int .i64 n, .int .i64 d]] w fun e w' => Ends v er e ∧ Below w.heap.size w w') ∧
      (∀ w, Calls Try.prog 53 #[.int .i64 x, .int .i64 n, .int .i64 d] w fun e w' => e = .returned (.tuple #[.int .i64 v, .int .i64 er]) ∧ Below w.heap.size w w') ∧ (er ≠ 0 → v = 0) := by
  obtain ⟨p0, p1⟩ := prod_127 x n x0 x1 n0 n1
  obtain ⟨q, r, Q, R, F⟩ := df_ex (x * n) d (by omega) p0 p1
  have hq : x * n / d = q := ((Int.ediv_emod_unique (a := x * n) (r := r) (q := q) (show 0 < d by omega)).2 ⟨by have := F.er; rw [Int.mul_comm d q]; omega, by have := F.rr; omega, by have := F.rr; omega⟩).1
  obtain ⟨v, er, ht⟩ := tl_ex q
  refine ⟨v, er, scale_ends x n d v er x0 x1 n0 n1 d0 d1 hg (by rw [hq]; exact ht), part4_any x n d q r Q R v er x0 x1 n0 n1 (by omega) d1 F ht, ht.zero⟩
theorem goodB_pos {n d : Int} (h : goodB n d = true) : 1 ≤ d := by
  unfold goodB at h
  rw [Bool.and_eq_true] at h
  exact of_decide_eq_true h.1
set_option maxHeartbeats 4000000 in
theorem law_parts (A N D P Q : Int) (a0 : -9223372036854775808 ≤ A) (a1 : A ≤ 9223372036854775807) (n0 : -9223372036854775808 ≤ N) (n1 : N ≤ 9223372036854775807) (d0 : -9223372036854775808 ≤ D) (d1 : D ≤ 9223372036854775807) (p0 : -9223372036854775808 ≤ P) (p1 : P ≤ 9223372036854775807) (q0 : -9223372036854775808 ≤ Q) (q1 : Q ≤ 9223372036854775807) (w : World) :
    Calls Try.prog 8 #[.agg #[.int .i64 A, .int .i64 N, .int .i64 D, .int .i64 P, .int .i64 Q]] w fun e w' => e = .returned (.bool true) ∧ Below w.heap.size w w' := by
  obtain ⟨v1, e1, s1, s2, s3⟩ := same3_ex A N D a0 a1 n0 n1 d0 d1
  have S1 := Lib.hid s1
  have S2 := Lib.hid s2
  have S3 := Lib.hid s3
  obtain ⟨v3, e3, ht3⟩ := tl_ex (A * 64)
  have X1 := Lib.hid (px_ends A v3 e3 a0 a1 ht3)
  have X2 : Hid (∀ w, Calls Try.prog 53 #[.int .i64 A, .int .i64 64, .int .i64 1] w fun e w' => e = .returned (.tuple #[.int .i64 v3, .int .i64 e3]) ∧ Below w.heap.size w w') := Lib.hid (by
    obtain ⟨c0, c1⟩ := prod_127 A 64 a0 a1 (by decide) (by decide)
    obtain ⟨q, r, Q', R, F⟩ := df_ex (A * 64) 1 (by decide) c0 c1
    have hq : q = A * 64 := by have := F.er; have := F.rr; omega
    exact part4_any A 64 1 q r Q' R v3 e3 a0 a1 (by decide) (by decide) (by decide) (by decide) F (by rw [hq]; exact ht3))
  have X3 := Lib.hid ht3.zero
  obtain ⟨f, hf⟩ : ∃ f, goodB P Q = f := ⟨_, rfl⟩
  obtain ⟨v2, e2, t1, t2⟩ : ∃ v er, ((∀ w, Calls Try.prog 50 #[.int .i64 A, .agg #[.int .i64 P, .int .i64 Q]] w fun e w' => Ends v er e ∧ Below w.heap.size w w') ∧ (er ≠ 0 → v = 0)) ∧
      (f = true → ∀ w, Calls Try.prog 53 #[.int .i64 A, .int .i64 P, .int .i64 Q] w fun e w' => e = .returned (.tuple #[.int .i64 v, .int .i64 er]) ∧ Below w.heap.size w w') ∧ (f = false → v = 0 ∧ er = 1) := by
    cases f
    · exact ⟨0, 1, ⟨scale_bad A P Q p0 p1 q0 q1 hf, fun _ => rfl⟩, (fun h => absurd h (by decide)), (fun _ => ⟨rfl, rfl⟩)⟩
    · obtain ⟨v, er, u1, u2, u3⟩ := scale_same A P Q a0 a1 p0 p1 (goodB_pos hf) q1 hf
      exact ⟨v, er, ⟨u1, u3⟩, (fun _ => u2), (fun h => absurd h (by decide))⟩
  have T1 := Lib.hid t1.1
  have T2 := Lib.hid t1.2
  have T3 := Lib.hid t2.1
  have T4 := Lib.hid t2.2
  have HG := Lib.hid (good2_any P Q p0 p1 q0 q1)
  rw [hf] at HG
  have hmf : ∀ (fn : Fn) (first cap : Array Value) (w : World), (Instr.makeFunc fn first cap).run Try.prog w = .ok (.func fn first cap) w := fun _ _ _ _ => rfl
  clear s1 s2 s3 ht3 t1 t2 hf
  go_enter Try.func8, Try.ntmps8
  go_wp2_with fail
  refine (speaks4_any _).mono ?_
  rintro e w1 ⟨rfl, hb1⟩
  have B1 := Lib.hid (show PB (w1.alloc (.cells #[.int .i64 0, .int .i64 0, .int .i64 0] 64)) w.heap.size A N D P Q from
    ((⟨by simp [go_sem], by simp [go_sem], by simp [go_sem], by simp [go_sem], by simp [go_sem]⟩ : PB (w.alloc (.cells #[.int .i64 A, .int .i64 N, .int .i64 D, .int .i64 P, .int .i64 Q] 74)) w.heap.size A N D P Q).later hb1).later ((Below.refl _ _).alloc (Nat.le_refl _) _))
  have G1 := Lib.hid (show G3 (w1.alloc (.cells #[.int .i64 0, .int .i64 0, .int .i64 0] 64)) w1.heap.size 0 0 0 from ⟨⟨by simp [go_sem], by simp [go_sem]⟩, ⟨by simp [go_sem], by simp [go_sem]⟩, ⟨by simp [go_sem], by simp [go_sem]⟩⟩)
  have z1 := hb1.size
  simp only [World.size_alloc] at z1
  have NE : Hid (w.heap.size ∉ [w1.heap.size]) := Lib.hid (by simp; omega)
  have K1 := Lib.hid (bel_alloc (bel_trans (bel_alloc (Below.refl w.heap.size w) (.cells #[.int .i64 A, .int .i64 N, .int .i64 D, .int .i64 P, .int .i64 Q] 74)) hb1) (.cells #[.int .i64 0, .int .i64 0, .int .i64 0] 64))
  have LG : Hid (∀ i ∈ [w1.heap.size], w.heap.size ≤ i) := Lib.hid (by simp; omega)
  clear hb1
  go_wp2_with fail
  refine (cl1_any w.heap.size w1.heap.size A N D P Q v1 e1 0 0 0 _ B1.out G1.out S1.out S3.out).mono ?_
  rintro e w2 ⟨rfl, hb2, hg2⟩
  have B2 := Lib.hid (B1.out.but hb2 NE.out)
  have G2 := Lib.hid hg2
  have K2 := Lib.hid (But.below K1.out hb2 K1.out.size LG.out)
  clear hb2 hg2 B1 G1 K1
  go_wp2_with fail
  refine (cl2_any w.heap.size w1.heap.size A N D P Q v2 e2 v1 0 0 _ B2.out G2.out T1.out T2.out).mono ?_
  rintro e w3 ⟨rfl, hb3, hg3⟩
  have B3 := Lib.hid (B2.out.but hb3 NE.out)
  have G3' := Lib.hid hg3
  have K3 := Lib.hid (But.below K2.out hb3 K2.out.size LG.out)
  clear hb3 hg3 B2 G2 K2
  go_wp2_with fail
  refine (cl3_any w.heap.size w1.heap.size A N D P Q v3 e3 v1 v2 0 _ B3.out G3'.out X1.out X3.out).mono ?_
  rintro e w4 ⟨rfl, hb4, hg4⟩
  have B4 := Lib.hid (B3.out.but hb4 NE.out)
  have G4 := Lib.hid hg4
  have K4 := Lib.hid (But.below K3.out hb4 K3.out.size LG.out)
  clear hb4 hg4 B3 G3' K3
  obtain ⟨c0, c1, c2, c3, c4⟩ := B4.out
  go_wp2_with fail
  refine (S2.out _).mono ?_
  rintro e w5 ⟨rfl, hb5⟩
  have B5 := Lib.hid (B4.out.later hb5)
  have G5 := Lib.hid (G4.out.later hb5)
  have K5 := Lib.hid (bel_trans K4.out hb5)
  clear hb5 B4 G4 K4 c0 c1 c2 c3 c4
  obtain ⟨c0, c1, c2, c3, c4⟩ := B5.out
  go_wp2_with fail
  refine (HG.out _).mono ?_
  rintro e w6 ⟨rfl, hb6⟩
  have B6 := Lib.hid (B5.out.later hb6)
  have G6 := Lib.hid (G5.out.later hb6)
  have K6 := Lib.hid (bel_trans K5.out hb6)
  clear hb6 B5 G5 K5 c0 c1 c2 c3 c4
  obtain ⟨c0, c1, c2, c3, c4⟩ := B6.out
  have heq := arr3_eql v1 v2 v3
  cases f
  · obtain ⟨rfl, rfl⟩ := T4.out rfl
    go_wp2_with fail
    refine (X2.out _).mono ?_
    rintro e w7 ⟨rfl, hb7⟩
    have G7 := Lib.hid (G6.out.later hb7)
    have K7 := Lib.hid (bel_trans K6.out hb7)
    clear hb7 B6 G6 K6 c0 c1 c2 c3 c4
    obtain ⟨⟨g0, _⟩, ⟨g1, _⟩, ⟨g2, _⟩⟩ := G7.out
    go_wp2_with fail
    go_returns
    exact ⟨rfl, K7.out⟩
  · go_wp2_with fail
    refine (T3.out (by first | rfl | trivial) _).mono ?_
    rintro e w7 ⟨rfl, hb7⟩
    have B7 := Lib.hid (B6.out.later hb7)
    have G7 := Lib.hid (G6.out.later hb7)
    have K7 := Lib.hid (bel_trans K6.out hb7)
    clear hb7 B6 G6 K6 c0 c1 c2 c3 c4
    obtain ⟨c0, c1, c2, c3, c4⟩ := B7.out
    go_wp2_with fail
    refine (X2.out _).mono ?_
    rintro e w8 ⟨rfl, hb8⟩
    have G8 := Lib.hid (G7.out.later hb8)
    have K8 := Lib.hid (bel_trans K7.out hb8)
    clear hb8 B7 G7 K7 c0 c1 c2 c3 c4
    obtain ⟨⟨g0, _⟩, ⟨g1, _⟩, ⟨g2, _⟩⟩ := G8.out
    go_wp2_with fail
    go_returns
    exact ⟨rfl, K8.out⟩
end Go.Proofs.Ytkohefgendcofaa
