/- The walk of RatioPairs. -/
import Derived.Test.YtkohefgendcofaaRatioF
import Derived.Test.YtkohefgendcofaaLawRatio2
import Derived.Test.YtkohefgendcofaaRefD
import Derived.Test.YtkohefgendcofaaKit4
import Derived.WalkKit
import Derived.WalkSpells
import Derived.WalkLawsBesides
import Derived.Handy
import Derived.Lib.Hide
import Derived.LaidEql
import Derived.Deep.QuietTactic
import Derived.BigQuiet
import Derived.LoopTactic
import Derived.RegionTactic
import Derived.BigRegion
import Derived.Deep.RegionHeld3
import Derived.Deep.RegionWith
import Derived.Outline
import Derived.Deep.DeepCutAuto
namespace Go.Proofs.Ytkohefgendcofaa
open Go.RowKit Go.Proofs.Big Go.Proofs.Reg
set_option linter.unusedVariables false
set_option linter.unusedSimpArgs false
set_option maxRecDepth 100000
section
variable {ops : Array Oper} {a0 : Act} {w0 : World} {kind : Nat → Kind} {o : Oper}
theorem ok_loadR {t : Tmp} {q : Nat} {h l : Int} {x : Option Tmp} {ty : TypeId} {ps : String} {af : Array Edge} {gd : Option (Nat × Bool)} (ht : (ops.all fun o => o.dst != some t) = true) (he : a0.eval (.tmp t) = .pointer (some ⟨q, 0, none⟩)) (h0 : w0.cell? ⟨q, 0, none⟩ = some (.int .i64 h)) (h1 : w0.cell? ⟨q, 1, none⟩ = some (.int .i64 l)) :
    OpOk Try.prog ops a0 w0 kind ⟨x, .load 42 (.tmp t), ty, ps, af, gd⟩ (constK (.agg #[.int .i64 h, .int .i64 l])) := by
  refine ok_const fun A L val w env facts hb => ?_
  have e1 := env.out t ht
  rw [he] at e1
  have c0 := cell_later hb h0
  have c1 := cell_later hb h1
  simp only [execOp, e1]
  simp [go_sem, c0, c1]
theorem ok_neqK {j k : Nat} {t u : Tmp} {r : Int} {x : Option Tmp} {ty : TypeId} {ps : String} {af : Array Edge} {gd : Option (Nat × Bool)} (hj : dstAt ops j = some t) (hd : depB ⟨x, .binOp .neq 3 (.tmp t) (.tmp u) 3, ty, ps, af, gd⟩ j = true) (hk : kind j = keptK (.int .i64 r))
    (hj' : dstAt ops k = some u) (hd' : depB ⟨x, .binOp .neq 3 (.tmp t) (.tmp u) 3, ty, ps, af, gd⟩ k = true) (hk' : kind k = keptK (.int .i64 r)) :
    OpOk Try.prog ops a0 w0 kind ⟨x, .binOp .neq 3 (.tmp t) (.tmp u) 3, ty, ps, af, gd⟩ (constK (.bool false)) := by
  refine ok_const fun A L val w env facts hb => ?_
  have e1 := dep_kept env facts j t _ hd hj hk
  have e2 := dep_kept env facts k u _ hd' hj' hk'
  simp only [execOp, e1, e2]
  simp [go_sem]
theorem ok_fstP {j : Nat} {t : Tmp} {N M : Int} {x : Option Tmp} {ty : TypeId} {ps : String} {af : Array Edge} {gd : Option (Nat × Bool)} (hj : dstAt ops j = some t) (hd : depB ⟨x, .extract (.tmp t) 0, ty, ps, af, gd⟩ j = true) (hk : kind j = pairK N M) :
    OpOk Try.prog ops a0 w0 kind ⟨x, .extract (.tmp t) 0, ty, ps, af, gd⟩ (fstK j) := by
  refine ⟨fun val val' x h hr => ⟨hr.1, by obtain ⟨q, e⟩ := hr.2; exact ⟨q, by rw [← h j hd]; exact e⟩⟩, fun A L val w env facts hb => ?_⟩
  obtain ⟨l, F⟩ := facts j hd
  unfold Fact at F
  rw [hk] at F
  obtain ⟨n, a, l', c, n', a', l'', c', e, _, _⟩ := F
  have e1 := env.dep j t l hj
  rw [e] at e1
  exact ⟨.agg #[.bool n, .slice a l' c], ⟨⟨n, a, l', c, rfl⟩, _, e⟩, by simp only [execOp, e1]; simp [go_sem]⟩
theorem ok_sndP {j : Nat} {t : Tmp} {N M : Int} {x : Option Tmp} {ty : TypeId} {ps : String} {af : Array Edge} {gd : Option (Nat × Bool)} (hj : dstAt ops j = some t) (hd : depB ⟨x, .extract (.tmp t) 1, ty, ps, af, gd⟩ j = true) (hk : kind j = pairK N M) :
    OpOk Try.prog ops a0 w0 kind ⟨x, .extract (.tmp t) 1, ty, ps, af, gd⟩ (sndK j) := by
  refine ⟨fun val val' x h hr => ⟨hr.1, by obtain ⟨q, e⟩ := hr.2; exact ⟨q, by rw [← h j hd]; exact e⟩⟩, fun A L val w env facts hb => ?_⟩
  obtain ⟨l, F⟩ := facts j hd
  unfold Fact at F
  rw [hk] at F
  obtain ⟨n, a, l', c, n', a', l'', c', e, _, _⟩ := F
  have e1 := env.dep j t l hj
  rw [e] at e1
  exact ⟨.agg #[.bool n', .slice a' l'' c'], ⟨⟨n', a', l'', c', rfl⟩, _, e⟩, by simp only [execOp, e1]; simp [go_sem]⟩
end
/-- a ratio of two ints, or why there is none -/
theorem rof_ex (n d : Int) (n0 : -9223372036854775808 ≤ n) (n1 : n ≤ 9223372036854775807) (d0 : -9223372036854775808 ≤ d) (d1 : d ≤ 9223372036854775807) :
    ∃ N D er : Int, (∀ w : World, Calls Try.prog 23 #[.int .i64 n, .int .i64 d] w fun e w' => e = .returned (.tuple #[.agg #[.int .i64 N, .int .i64 D], .int .i64 er]) ∧ Below w.heap.size w w') ∧
      (er = 0 → goodB N D = true ∧ -9223372036854775808 ≤ N ∧ N ≤ 9223372036854775807 ∧ 1 ≤ D ∧ D ≤ 9223372036854775807) := by
  by_cases dz : d = 0
  · subst dz
    exact ⟨0, 0, 3, of_zero n, fun h => absurd h (by decide)⟩
  · obtain ⟨g, N, D, L⟩ := lowest_ex n d n0 n1 d0 d1 dz
    have Nl := L.Nle
    have Dp := L.Dpos
    by_cases c : N ≤ 9223372036854775807 ∧ D ≤ 9223372036854775807
    · exact ⟨N, D, 0, of_any' L 0 N D (.inl ⟨c.1, c.2, rfl, rfl, rfl⟩), fun _ => ⟨L.good, by split at Nl <;> omega, c.1, Dp, c.2⟩⟩
    · exact ⟨0, 0, 2, of_any' L 2 0 0 (.inr ⟨c, rfl, rfl, rfl⟩), fun h => absurd h (by decide)⟩
theorem goodB_gcd {n d : Int} (h : goodB n d = true) : Int.gcd n d = 1 := by
  unfold goodB at h
  rw [Bool.and_eq_true] at h
  have := h.2
  simp at this
  omega
theorem Crs.muls {n d m c l r a1 a2 b1 b2 : Int} (K : Crs n d m c l r a1 a2 b1 b2) : a1 * a2 * (l * r) = n * m ∧ b1 * b2 * (l * r) = d * c := by
  constructor
  · rw [← K.en, ← K.em]
    simp only [Int.mul_assoc, Int.mul_left_comm]
  · rw [← K.ed, ← K.ec, Int.mul_comm l r]
    simp only [Int.mul_assoc, Int.mul_left_comm]
/-- four numbers in a box -/
structure P4 (w : World) (b : Nat) (A B C D : Int) : Prop where
  c0 : w.cell? ⟨b, 0, none⟩ = some (.int .i64 A)
  c1 : w.cell? ⟨b, 1, none⟩ = some (.int .i64 B)
  c2 : w.cell? ⟨b, 2, none⟩ = some (.int .i64 C)
  c3 : w.cell? ⟨b, 3, none⟩ = some (.int .i64 D)
theorem P4.later {w w' : World} {b : Nat} {A B C D : Int} (h : P4 w b A B C D) (k : Below w.heap.size w w') : P4 w' b A B C D := ⟨cell_later k h.c0, cell_later k h.c1, cell_later k h.c2, cell_later k h.c3⟩
set_option maxHeartbeats 8000000 in
theorem law_pairs (A B C D : Int) (a0 : -9223372036854775808 ≤ A) (a1 : A ≤ 9223372036854775807) (b0 : -9223372036854775808 ≤ B) (b1 : B ≤ 9223372036854775807) (c0 : -9223372036854775808 ≤ C) (c1 : C ≤ 9223372036854775807) (d0 : -9223372036854775808 ≤ D) (d1 : D ≤ 9223372036854775807) (w : World) :
    Calls Try.prog 5 #[.agg #[.int .i64 A, .int .i64 B, .int .i64 C, .int .i64 D]] w fun e w' => e = .returned (.bool true) ∧ Below w.heap.size w w' := by
  obtain ⟨N1, D1, e1, of1, ok1⟩ := rof_ex A B a0 a1 b0 b1
  obtain ⟨N2, D2, e2, of2, ok2⟩ := rof_ex C D c0 c1 d0 d1
  have OF1 := Lib.hid of1
  have OF2 := Lib.hid of2
  have OK1 := Lib.hid ok1
  have OK2 := Lib.hid ok2
  have G1 := Lib.hid (good_any A B a0 a1 b0 b1)
  have G2 := Lib.hid (good_any C D c0 c1 d0 d1)
  obtain ⟨f, hf⟩ : ∃ f, goodB A B = f := ⟨_, rfl⟩
  obtain ⟨g, hg⟩ : ∃ g, goodB C D = g := ⟨_, rfl⟩
  have TB : Hid ((f && g) = false → ∀ w, Calls Try.prog 29 #[.agg #[.int .i64 A, .int .i64 B], .agg #[.int .i64 C, .int .i64 D]] w fun e w' => e = .returned (.tuple #[.agg #[.int .i64 0, .int .i64 0], .int .i64 1]) ∧ Below w.heap.size w w') :=
    Lib.hid fun h w => rtimes_bad A B C D a0 a1 b0 b1 c0 c1 d0 d1 (by rw [hf, hg]; exact h) w
  have CB : Hid ((f && g) = false → ∀ w, Calls Try.prog 30 #[.agg #[.int .i64 A, .int .i64 B], .agg #[.int .i64 C, .int .i64 D]] w fun e w' => e = .returned (.int .i64 0) ∧ Below w.heap.size w w') :=
    Lib.hid fun h w => rcmp_bad A B C D a0 a1 b0 b1 c0 c1 d0 d1 (by rw [hf, hg]; exact h) w
  rw [hf] at G1
  rw [hg] at G2
  clear of1 of2 ok1 ok2 hf hg
  go_enter Try.func5, Try.ntmps5
  go_wp2_with fail
  refine (speaks2_any _).mono ?_
  rintro e w1 ⟨rfl, hb1⟩
  have P1 := Lib.hid (show P4 w1 w.heap.size A B C D from ⟨cell_later hb1 (by simp [go_sem]), cell_later hb1 (by simp [go_sem]), cell_later hb1 (by simp [go_sem]), cell_later hb1 (by simp [go_sem])⟩)
  have K1 := Lib.hid (bel_trans (bel_alloc (Below.refl w.heap.size w) (.cells #[.int .i64 A, .int .i64 B, .int .i64 C, .int .i64 D] 53)) hb1)
  clear hb1
  obtain ⟨q0, q1, q2, q3⟩ := P1.out
  go_wp2_with fail
  refine (OF1.out _).mono ?_
  rintro e w2 ⟨rfl, hb2⟩
  have P2 := Lib.hid (P1.out.later hb2)
  have T2 := Lib.hid (TwoI.new w2 N1 D1 42)
  have K2 := Lib.hid (bel_alloc (bel_trans K1.out hb2) (.cells #[.int .i64 N1, .int .i64 D1] 42))
  clear hb2 q0 q1 q2 q3 P1 K1 OF1
  obtain ⟨q0, q1, q2, q3⟩ := P2.out
  have lt2 : w.heap.size < w2.heap.size := World.block_lt_of_cell? w2 _ q0
  have ne2 := World.new_ne w2 _ q0
  go_wp2_with fail
  refine (OF2.out _).mono ?_
  rintro e w4 ⟨rfl, hb4⟩
  have P4' := Lib.hid (show P4 w4 w.heap.size A B C D from (P2.out.later ((Below.refl _ _).alloc (Nat.le_refl _) _)).later hb4)
  have T4 := Lib.hid (T2.out.later hb4)
  have R4 := Lib.hid (show RR (w4.alloc (.cells #[.int .i64 N2, .int .i64 D2] 42)) w2.heap.size w4.heap.size N1 D1 N2 D2 from ⟨keep_alloc T4.out.c0, keep_alloc T4.out.c1, (TwoI.new w4 N2 D2 42).c0, (TwoI.new w4 N2 D2 42).c1⟩)
  have K4 := Lib.hid (bel_alloc (bel_trans K2.out hb4) (.cells #[.int .i64 N2, .int .i64 D2] 42))
  have n0 : w.heap.size < w4.heap.size := World.block_lt_of_cell? w4 _ P4'.out.c0
  have n1 : w.heap.size < w4.heap.size + 1 := by omega
  have n2 : w.heap.size < w4.heap.size + 1 + 1 := by omega
  clear hb4 q0 q1 q2 q3 P2 K2 T2 T4 OF2
  obtain ⟨q0, q1, q2, q3⟩ := P4'.out
  have e0 := World.new_ne w4 _ q0
  go_upto_region 5 with fail
  go_cut [7, 8] (fun s7 s8 wx => ∃ x y : Nat, s7 = .pointer (some ⟨x, 0, none⟩) ∧ s8 = .pointer (some ⟨y, 0, none⟩) ∧ Hid (RR wx x y A B C D) ∧ Hid (RR wx w2.heap.size w4.heap.size N1 D1 N2 D2) ∧ Hid (Below w.heap.size w wx))
  case first =>
    go_region_held3 (fun w' => w'.cell? ⟨w.heap.size, 0, none⟩ = some (.int .i64 A) ∧ w'.cell? ⟨w.heap.size, 1, none⟩ = some (.int .i64 B) ∧ w'.cell? ⟨w.heap.size, 2, none⟩ = some (.int .i64 C) ∧ w'.cell? ⟨w.heap.size, 3, none⟩ = some (.int .i64 D)) (simp [go_sem, World.cell?_alloc_past, *]) (fail)
    all_goals
      go_wp2_with fail
      go_meet
      refine ⟨_, _, rfl, rfl, Lib.hid ⟨by simp [go_sem], by simp [go_sem], by simp [go_sem], by simp [go_sem]⟩, Lib.hid (R4.out.later ?_), Lib.hid (K4.out.trans (Below.mono ?_ K4.out.size))⟩
      all_goals
        repeat' (first | exact Below.refl _ _ | (with_reducible refine Below.drew ?_) | (with_reducible refine Below.alloc ?_ ?_ _) | (with_reducible refine Below.setCell ?_ ?_ _) | go_size)
  case rest =>
    obtain ⟨x, y, rfl, rfl, RW, R5, K5⟩ := hcut
    clear q0 q1 q2 q3 P4' R4 K4 n0 n1 n2 e0
    clear lt2 ne2
    obtain ⟨k0, k1, k2, k3⟩ := RW.out
    go_upto_region 6 with fail
    go_cut [55] (fun s wx => s = .bool (!(f && g)) ∧ Hid (RR wx x y A B C D) ∧ Hid (RR wx w2.heap.size w4.heap.size N1 D1 N2 D2) ∧ Hid (Below w.heap.size w wx))
    case first =>
      go_wp2_with fail
      refine (G1.out _).mono ?_
      rintro e w6 ⟨rfl, hb6⟩
      have RW6 := Lib.hid (RW.out.later hb6)
      have R6 := Lib.hid (R5.out.later hb6)
      have K6 := Lib.hid (bel_trans K5.out hb6)
      clear hb6 k0 k1 k2 k3
      obtain ⟨k0, k1, k2, k3⟩ := RW6.out
      cases f
      · go_wp2_with fail
        go_meet
        exact ⟨rfl, RW6, R6, K6⟩
      · go_wp2_with fail
        refine (G2.out _).mono ?_
        rintro e w7 ⟨rfl, hb7⟩
        have RW7 := Lib.hid (RW6.out.later hb7)
        have R7 := Lib.hid (R6.out.later hb7)
        have K7 := Lib.hid (bel_trans K6.out hb7)
        clear hb7
        cases g
        all_goals
          go_wp2_with fail
          go_meet
          exact ⟨rfl, RW7, R7, K7⟩
    case rest =>
      obtain ⟨rfl, RW6, R6, K6⟩ := hcut
      clear k0 k1 k2 k3 RW R5 K5 G1 G2
      obtain ⟨k0, k1, k2, k3⟩ := RW6.out
      go_upto_if 55 with fail
      go_cut [] (fun wx => Hid (RR wx w2.heap.size w4.heap.size N1 D1 N2 D2) ∧ Hid (Below w.heap.size w wx))
      case first =>
        obtain ⟨b, hb⟩ : ∃ b, (f && g) = b := ⟨_, rfl⟩
        rw [hb] at TB CB ⊢
        clear hb
        cases b
        · go_wp2_with fail
          refine (TB.out (by first | rfl | trivial) _).mono ?_
          rintro e w8 ⟨rfl, hb8⟩
          have RW8 := Lib.hid (RW6.out.later hb8)
          have R8 := Lib.hid ((R6.out.later hb8).later ((Below.refl _ _).alloc (Nat.le_refl _) (.cells #[.int .i64 0, .int .i64 0] 42)))
          have K8 := Lib.hid (bel_alloc (bel_trans K6.out hb8) (.cells #[.int .i64 0, .int .i64 0] 42))
          have l8 : x < w8.heap.size := World.block_lt_of_cell? w8 _ RW8.out.k0
          have m8 : y < w8.heap.size := World.block_lt_of_cell? w8 _ RW8.out.k2
          clear hb8 k0 k1 k2 k3
          obtain ⟨k0, k1, k2, k3⟩ := RW8.out
          have ne8 := World.new_ne w8 _ k0
          have ne9 := World.new_ne w8 _ k2
          go_wp2_with fail
          refine (CB.out (by first | rfl | trivial) _).mono ?_
          rintro e w9 ⟨rfl, hb9⟩
          have R9 := Lib.hid (R8.out.later hb9)
          have K9 := Lib.hid (bel_trans K8.out hb9)
          clear hb9
          go_wp2_with fail
          go_meet
          exact ⟨R9, K9⟩
        · go_wp2_with fail
          go_meet
          exact ⟨R6, K6⟩
      case rest =>
        obtain ⟨R7, K7⟩ := hcut
        clear k0 k1 k2 k3 RW6 R6 K6 TB CB
        by_cases h1 : e1 = 0
        · by_cases h2 : e2 = 0
          · subst h1
            subst h2
            obtain ⟨g1, x0, x1, y0, y1⟩ := OK1.out (by first | rfl | trivial)
            obtain ⟨g2, z0, z1, u0, u1⟩ := OK2.out (by first | rfl | trivial)
            obtain ⟨l, r, A1, A2, B1, B2, K⟩ := crs_ex N1 D1 N2 D2 y0 u0
            have sa1 := small_of_mul K.en K.l1 x0 x1
            have sa2 := small_of_mul K.em K.r1 z0 z1
            have sb1 := small_of_mul K.ed K.r1 (by omega) y1
            have sb2 := small_of_mul K.ec K.l1 (by omega) u1
            obtain ⟨h1, l1, k1, f1, hf1, hk1, _, _, _, M1, I1⟩ := mulint A1 A2 sa1.1 sa1.2 sa2.1 sa2.2
            obtain ⟨h2, l2, k2, f2, hf2, hk2, _, _, _, M2, I2⟩ := mulint B1 B2 sb1.1 sb1.2 sb2.1 sb2.2
            have rt := rtimes_any N1 D1 N2 D2 l r A1 A2 B1 B2 h1 l1 k1 h2 l2 k2 f1 f2 x0 x1 y0 y1 z0 z1 u0 u1 g1 g2 K M1 I1 M2 I2
            obtain ⟨p1, hp1⟩ : ∃ p, (if (f1 && f2) = true then k1 else 0) = p := ⟨_, rfl⟩
            obtain ⟨p2, hp2⟩ : ∃ p, (if (f1 && f2) = true then k2 else 0) = p := ⟨_, rfl⟩
            obtain ⟨er, her⟩ : ∃ p : Int, (if (f1 && f2) = true then 0 else 2) = p := ⟨_, rfl⟩
            rw [hp1, hp2, her] at rt
            have RTT := Lib.hid rt
            obtain ⟨ff, hff⟩ : ∃ ff, (f1 && f2) = ff := ⟨_, rfl⟩
            have FIN : Hid ((ff = true ∧ p1 = k1 ∧ p2 = k2 ∧ er = 0) ∨ (ff = false ∧ p1 = 0 ∧ p2 = 0 ∧ er = 2)) := Lib.hid (by
              rw [hff] at hp1 hp2 her
              cases ff
              · exact .inr ⟨rfl, hp1.symm, hp2.symm, her.symm⟩
              · exact .inl ⟨rfl, hp1.symm, hp2.symm, her.symm⟩)
            have CM := Lib.hid (rcmp_any N1 D1 N2 D2 (cmpI (N1 * D2) (N2 * D1)) x0 x1 (by omega) y1 z0 z1 (by omega) u1 g1 g2 rfl)
            obtain ⟨gg, _⟩ := K.gcd (goodB_gcd g1) (goodB_gcd g2)
            obtain ⟨mu1, mu2⟩ := K.muls
            have lr1 : 1 ≤ l * r := by
              have : 1 * 1 ≤ l * r := Int.mul_le_mul K.l1 K.r1 (by decide) (by have := K.l1; omega)
              simpa using this
            have dd1 : 1 ≤ D1 * D2 := by
              have : 1 * 1 ≤ D1 * D2 := Int.mul_le_mul y0 u0 (by decide) (by omega)
              simpa using this
            have LF := Lib.hid (lowest_form (N1 * N2) (D1 * D2) (l * r) (A1 * A2) (B1 * B2) lr1 dd1 mu1 mu2)
            have GG := Lib.hid gg
            have pr1 := prod_range N1 N2 x0 x1 z0 z1
            have pr2 := prod_range D1 D2 (by omega) y1 (by omega) u1
            have pr3 := prod_range N1 D2 x0 x1 (by omega) u1
            have pr4 := prod_range N2 D1 z0 z1 (by omega) y1
            have pr5 := prod_range A1 A2 sa1.1 sa1.2 sa2.1 sa2.2
            have pr6 := prod_range B1 B2 sb1.1 sb1.2 sb2.1 sb2.2
            have LN : Hid (LowN (N1 * N2) (D1 * D2)) := Lib.hid (by have := P50_big; exact ⟨by omega, by omega, by omega, by omega, by omega⟩)
            have S1 := Lib.hid (sm_of N1 (by omega) (by omega))
            have S2 := Lib.hid (sm_of N2 (by omega) (by omega))
            have S3 := Lib.hid (sm_of D1 (by omega) (by omega))
            have S4 := Lib.hid (sm_of D2 (by omega) (by omega))
            have S5 := Lib.hid (sm_of (N1 * D2) (by omega) (by omega))
            have S6 := Lib.hid (sm_of (N2 * D1) (by omega) (by omega))
            have S7 := Lib.hid (sm_of (A1 * A2) (by omega) (by omega))
            have S8 := Lib.hid (sm_of (B1 * B2) (by omega) (by omega))
            have HF1 := Lib.hid hf1
            have HF2 := Lib.hid hf2
            have HK1 := Lib.hid hk1
            have HK2 := Lib.hid hk2
            have O1 := Lib.hid (bof_any N1 x0 x1)
            have O2 := Lib.hid (bof_any N2 z0 z1)
            have O3 := Lib.hid (bof_any D1 (by omega) y1)
            have O4 := Lib.hid (bof_any D2 (by omega) u1)
            clear sa1 sa2 sb1 sb2 hf1 hk1 hf2 hk2 M1 I1 M2 I2 rt hp1 hp2 her gg mu1 mu2 lr1 dd1 pr1 pr2 pr3 pr4 pr5 pr6 OK1 OK2 K g1 g2
            go_wp2_with fail
            refine wp_region_kinds [constK (.pointer (some ⟨w2.heap.size, 0, none⟩)), constK (.int .i64 N1), bigK N1, constK (.pointer (some ⟨w4.heap.size, 0, none⟩)), constK (.int .i64 N2), bigK N2, .box 29 8 2, .box 29 9 5, .put 6 2, .put 7 5]
              [some 76, some 77, some 78, some 79, some 80, some 81, some 11, some 12, none, none] (by kernel_rfl) (by kernel_rfl) (by kernel_rfl) (by kernel_rfl) (by kernel_rfl) (by kernel_rfl) (by kernel_rfl) (fun i o ho => ?_) (fun val2 w12 hf hne hb => ?_)
            · match i, ho with
              | 0, ho =>
                obtain rfl := Option.some.inj ho
                exact ok_fieldR0 (by kernel_rfl) rfl
              | 1, ho =>
                obtain rfl := Option.some.inj ho
                exact ok_cell64 (j := 0) rfl (by kernel_rfl) rfl R7.out.k0
              | 2, ho =>
                obtain rfl := Option.some.inj ho
                refine ok_big (fun _ _ => by kernel_rfl) fun A' L val w env facts hb => ?_
                rw [map1, dep_const env facts 1 77 _ (by kernel_rfl) rfl rfl]
                exact O1.out w
              | 3, ho =>
                obtain rfl := Option.some.inj ho
                exact ok_fieldR0 (by kernel_rfl) rfl
              | 4, ho =>
                obtain rfl := Option.some.inj ho
                exact ok_cell64 (j := 3) rfl (by kernel_rfl) rfl R7.out.k2
              | 5, ho =>
                obtain rfl := Option.some.inj ho
                refine ok_big (fun _ _ => by kernel_rfl) fun A' L val w env facts hb => ?_
                rw [map1, dep_const env facts 4 80 _ (by kernel_rfl) rfl rfl]
                exact O2.out w
              | 6, ho =>
                obtain rfl := Option.some.inj ho
                exact ok_box
              | 7, ho =>
                obtain rfl := Option.some.inj ho
                exact ok_box
              | 8, ho =>
                obtain rfl := Option.some.inj ho
                refine ok_put rfl rfl (by kernel_rfl) (by kernel_rfl) (fun L val w h => ?_)
                obtain ⟨n, a, l, c, e, _⟩ : BigC N1 (val 2) w := h
                exact ⟨n, a, l, c, e⟩
              | 9, ho =>
                obtain rfl := Option.some.inj ho
                refine ok_put rfl rfl (by kernel_rfl) (by kernel_rfl) (fun L val w h => ?_)
                obtain ⟨n, a, l, c, e, _⟩ : BigC N2 (val 5) w := h
                exact ⟨n, a, l, c, e⟩
              | n + 10, ho => simp at ho
            have F2 : BigC N1 (val2 2) w12 := hf 2 (by decide)
            have F5 : BigC N2 (val2 5) w12 := hf 5 (by decide)
            obtain ⟨q11, eA, _, _, BA⟩ : ∃ q, val2 6 = .pointer (some ⟨q, 0, none⟩) ∧ _ ≤ q ∧ q < w12.heap.size ∧ BoxAt w12 q (val2 2) := hf 6 (by decide)
            obtain ⟨q12, eB, _, _, BB⟩ : ∃ q, val2 7 = .pointer (some ⟨q, 0, none⟩) ∧ _ ≤ q ∧ q < w12.heap.size ∧ BoxAt w12 q (val2 5) := hf 7 (by decide)
            obtain ⟨n11, a11, l11, c11, _, X11'⟩ := BN.of BA F2
            obtain ⟨n12, a12, l12, c12, _, X12'⟩ := BN.of BB F5
            have X11a := Lib.hid X11'
            have X12a := Lib.hid X12'
            have R8 := Lib.hid (R7.out.later hb)
            have K8 := Lib.hid (bel_trans K7.out hb)
            simp only [puts2, Act.put, List.setIfInBounds_toArray, List.set_cons_zero, List.set_cons_succ, Nat.zero_add, Nat.reduceAdd]
            rw [eA, eB]
            clear hf hne hb F2 F5 BA BB eA eB X11' X12' R7 K7
            go_wp2_with fail
            refine wp_region_kinds [constK (.pointer (some ⟨w2.heap.size, 1, none⟩)), constK (.int .i64 D1), bigK D1, constK (.pointer (some ⟨w4.heap.size, 1, none⟩)), constK (.int .i64 D2), bigK D2, .box 29 8 2, .box 29 9 5, .put 6 2, .put 7 5]
              [some 82, some 83, some 84, some 85, some 86, some 87, some 13, some 14, none, none] (by kernel_rfl) (by kernel_rfl) (by kernel_rfl) (by kernel_rfl) (by kernel_rfl) (by kernel_rfl) (by kernel_rfl) (fun i o ho => ?_) (fun val2 w13 hf hne hb => ?_)
            · match i, ho with
              | 0, ho =>
                obtain rfl := Option.some.inj ho
                exact ok_fieldR1 (by kernel_rfl) rfl
              | 1, ho =>
                obtain rfl := Option.some.inj ho
                exact ok_cell64 (j := 0) rfl (by kernel_rfl) rfl R8.out.k1
              | 2, ho =>
                obtain rfl := Option.some.inj ho
                refine ok_big (fun _ _ => by kernel_rfl) fun A' L val w env facts hb => ?_
                rw [map1, dep_const env facts 1 83 _ (by kernel_rfl) rfl rfl]
                exact O3.out w
              | 3, ho =>
                obtain rfl := Option.some.inj ho
                exact ok_fieldR1 (by kernel_rfl) rfl
              | 4, ho =>
                obtain rfl := Option.some.inj ho
                exact ok_cell64 (j := 3) rfl (by kernel_rfl) rfl R8.out.k3
              | 5, ho =>
                obtain rfl := Option.some.inj ho
                refine ok_big (fun _ _ => by kernel_rfl) fun A' L val w env facts hb => ?_
                rw [map1, dep_const env facts 4 86 _ (by kernel_rfl) rfl rfl]
                exact O4.out w
              | 6, ho =>
                obtain rfl := Option.some.inj ho
                exact ok_box
              | 7, ho =>
                obtain rfl := Option.some.inj ho
                exact ok_box
              | 8, ho =>
                obtain rfl := Option.some.inj ho
                refine ok_put rfl rfl (by kernel_rfl) (by kernel_rfl) (fun L val w h => ?_)
                obtain ⟨n, a, l, c, e, _⟩ : BigC D1 (val 2) w := h
                exact ⟨n, a, l, c, e⟩
              | 9, ho =>
                obtain rfl := Option.some.inj ho
                refine ok_put rfl rfl (by kernel_rfl) (by kernel_rfl) (fun L val w h => ?_)
                obtain ⟨n, a, l, c, e, _⟩ : BigC D2 (val 5) w := h
                exact ⟨n, a, l, c, e⟩
              | n + 10, ho => simp at ho
            have F2 : BigC D1 (val2 2) w13 := hf 2 (by decide)
            have F5 : BigC D2 (val2 5) w13 := hf 5 (by decide)
            obtain ⟨q13, eA, _, _, BA⟩ : ∃ q, val2 6 = .pointer (some ⟨q, 0, none⟩) ∧ _ ≤ q ∧ q < w13.heap.size ∧ BoxAt w13 q (val2 2) := hf 6 (by decide)
            obtain ⟨q14, eB, _, _, BB⟩ : ∃ q, val2 7 = .pointer (some ⟨q, 0, none⟩) ∧ _ ≤ q ∧ q < w13.heap.size ∧ BoxAt w13 q (val2 5) := hf 7 (by decide)
            obtain ⟨n13, a13, l13, c13, _, X13'⟩ := BN.of BA F2
            obtain ⟨n14, a14, l14, c14, _, X14'⟩ := BN.of BB F5
            have X13b := Lib.hid X13'
            have X14b := Lib.hid X14'
            have R9 := Lib.hid (R8.out.later hb)
            have X11b := Lib.hid (X11a.out.later hb)
            have X12b := Lib.hid (X12a.out.later hb)
            have K9 := Lib.hid (bel_trans K8.out hb)
            simp only [puts2, Act.put, List.setIfInBounds_toArray, List.set_cons_zero, List.set_cons_succ, Nat.zero_add, Nat.reduceAdd]
            rw [eA, eB]
            clear hf hne hb F2 F5 BA BB eA eB X13' X14' R8 X11a X12a K8
            go_wp2_with fail
            refine wp_region_kinds [constK (.agg #[.int .i64 N1, .int .i64 D1]), constK (.agg #[.int .i64 N2, .int .i64 D2]), keptK (.int .i64 (cmpI (N1 * D2) (N2 * D1))), constK (.agg #[.bool n11, .slice a11 l11 c11]), constK (.agg #[.bool n14, .slice a14 l14 c14]), bigK (N1 * D2), constK (.agg #[.bool n12, .slice a12 l12 c12]), constK (.agg #[.bool n13, .slice a13 l13 c13]), bigK (N2 * D1), keptK (.int .i64 (cmpI (N1 * D2) (N2 * D1))), constK (.bool false)]
              [some 88, some 89, some 90, some 91, some 92, some 93, some 94, some 95, some 96, some 97, some 98] (by kernel_rfl) (by kernel_rfl) (by kernel_rfl) (by kernel_rfl) (by kernel_rfl) (by kernel_rfl) (by kernel_rfl) (fun i o ho => ?_) (fun val2 w14 hf hne hb => ?_)
            · match i, ho with
              | 0, ho =>
                obtain rfl := Option.some.inj ho
                exact ok_loadR (by kernel_rfl) rfl R9.out.k0 R9.out.k1
              | 1, ho =>
                obtain rfl := Option.some.inj ho
                exact ok_loadR (by kernel_rfl) rfl R9.out.k2 R9.out.k3
              | 2, ho =>
                obtain rfl := Option.some.inj ho
                refine ok_keptG (fun _ _ => by kernel_rfl) fun A' L val w env facts hb => ?_
                rw [map2, dep_const env facts 0 88 _ (by kernel_rfl) rfl rfl, dep_const env facts 1 89 _ (by kernel_rfl) rfl rfl]
                exact CM.out w
              | 3, ho =>
                obtain rfl := Option.some.inj ho
                exact ok_loadB (by kernel_rfl) rfl X11b.out.B
              | 4, ho =>
                obtain rfl := Option.some.inj ho
                exact ok_loadB (by kernel_rfl) rfl X14b.out.B
              | 5, ho =>
                obtain rfl := Option.some.inj ho
                refine ok_big (fun _ _ => by kernel_rfl) fun A' L val w env facts hb => ?_
                have v2 := (X11b.out.later hb).V
                have v3 := (X14b.out.later hb).V
                rw [map2, dep_const env facts 3 91 _ (by kernel_rfl) rfl rfl, dep_const env facts 4 92 _ (by kernel_rfl) rfl rfl]
                exact times_any n11 n14 a11 a14 l11 c11 l14 c14 N1 D2 w v2 v3 (Nat.le_trans (Sm.le v2 S1.out) (by decide)) (Nat.le_trans (Sm.le v3 S4.out) (by decide))
              | 6, ho =>
                obtain rfl := Option.some.inj ho
                exact ok_loadB (by kernel_rfl) rfl X12b.out.B
              | 7, ho =>
                obtain rfl := Option.some.inj ho
                exact ok_loadB (by kernel_rfl) rfl X13b.out.B
              | 8, ho =>
                obtain rfl := Option.some.inj ho
                refine ok_big (fun _ _ => by kernel_rfl) fun A' L val w env facts hb => ?_
                have v2 := (X12b.out.later hb).V
                have v3 := (X13b.out.later hb).V
                rw [map2, dep_const env facts 6 94 _ (by kernel_rfl) rfl rfl, dep_const env facts 7 95 _ (by kernel_rfl) rfl rfl]
                exact times_any n12 n13 a12 a13 l12 c12 l13 c13 N2 D1 w v2 v3 (Nat.le_trans (Sm.le v2 S2.out) (by decide)) (Nat.le_trans (Sm.le v3 S3.out) (by decide))
              | 9, ho =>
                obtain rfl := Option.some.inj ho
                refine ok_keptG (fun _ _ => by kernel_rfl) fun A' L val w env facts hb => ?_
                obtain ⟨ng2, a2, l2, c2, e2, v2⟩ := dep_big env facts 5 93 _ (by kernel_rfl) rfl rfl
                obtain ⟨ng3, a3, l3, c3, e3, v3⟩ := dep_big env facts 8 96 _ (by kernel_rfl) rfl rfl
                rw [map2, e2, e3]
                exact bcmp_any ng2 ng3 a2 a3 l2 c2 l3 c3 (N1 * D2) (N2 * D1) _ w v2 v3 (Nat.le_trans (Sm.le v2 S5.out) (by decide)) (Nat.le_trans (Sm.le v3 S6.out) (by decide)) (Lib.hid rfl)
              | 10, ho =>
                obtain rfl := Option.some.inj ho
                exact ok_neqK (j := 2) (k := 9) rfl (by kernel_rfl) rfl rfl (by kernel_rfl) rfl
              | n + 11, ho => simp at ho
            have F : val2 10 = .bool false := hf 10 (by decide)
            have X11c := Lib.hid (X11b.out.later hb)
            have X12c := Lib.hid (X12b.out.later hb)
            have X13c := Lib.hid (X13b.out.later hb)
            have X14c := Lib.hid (X14b.out.later hb)
            have R10 := Lib.hid (R9.out.later hb)
            have K10 := Lib.hid (bel_trans K9.out hb)
            simp only [puts2, Act.put, List.setIfInBounds_toArray, List.set_cons_zero, List.set_cons_succ, Nat.zero_add, Nat.reduceAdd]
            rw [F]
            clear hf hne hb F X11b X12b X13b X14b R9 K9
            obtain ⟨t0, t1, t2, t3⟩ := R10.out
            go_wp2_with fail
            refine (RTT.out _).mono ?_
            rintro e w16 ⟨rfl, hb16⟩
            have X11d := Lib.hid ((X11c.out.later hb16).later ((Below.refl _ _).alloc (Nat.le_refl _) (.cells #[.int .i64 p1, .int .i64 p2] 42)))
            have X12d := Lib.hid ((X12c.out.later hb16).later ((Below.refl _ _).alloc (Nat.le_refl _) (.cells #[.int .i64 p1, .int .i64 p2] 42)))
            have X13d := Lib.hid ((X13c.out.later hb16).later ((Below.refl _ _).alloc (Nat.le_refl _) (.cells #[.int .i64 p1, .int .i64 p2] 42)))
            have X14d := Lib.hid ((X14c.out.later hb16).later ((Below.refl _ _).alloc (Nat.le_refl _) (.cells #[.int .i64 p1, .int .i64 p2] 42)))
            have T15 := Lib.hid (TwoI.new w16 p1 p2 42)
            have K11 := Lib.hid (bel_alloc (bel_trans K10.out hb16) (.cells #[.int .i64 p1, .int .i64 p2] 42))
            clear hb16 X11c X12c X13c X14c R10 K10 t0 t1 t2 t3 RTT CM
            go_wp2_with fail
            refine wp_region_kinds [constK (.agg #[.bool n11, .slice a11 l11 c11]), constK (.agg #[.bool n12, .slice a12 l12 c12]), bigK (N1 * N2), constK (.agg #[.bool n13, .slice a13 l13 c13]), constK (.agg #[.bool n14, .slice a14 l14 c14]), bigK (D1 * D2), pairK (A1 * A2) (B1 * B2), fstK 6, sndK 6, keptK (.tuple #[.int .i64 k1, .int .i64 k2, .bool ff]), constK (.tuple #[.int .i64 k1, .int .i64 k2, .bool ff]), constK (.int .i64 k1), constK (.int .i64 k2), constK (.bool ff), constK (.int .i64 k1), constK (.int .i64 k2), constK (.bool ff)]
              [some 106, some 107, some 108, some 109, some 110, some 111, some 112, some 113, some 114, some 115, some 105, some 116, some 117, some 118, some 17, some 18, some 19] (by kernel_rfl) (by kernel_rfl) (by kernel_rfl) (by kernel_rfl) (by kernel_rfl) (by kernel_rfl) (by kernel_rfl) (fun i o ho => ?_) (fun val2 w17 hf hne hb => ?_)
            · match i, ho with
              | 0, ho =>
                obtain rfl := Option.some.inj ho
                exact ok_loadB (by kernel_rfl) rfl X11d.out.B
              | 1, ho =>
                obtain rfl := Option.some.inj ho
                exact ok_loadB (by kernel_rfl) rfl X12d.out.B
              | 2, ho =>
                obtain rfl := Option.some.inj ho
                refine ok_big (fun _ _ => by kernel_rfl) fun A' L val w env facts hb => ?_
                have v2 := (X11d.out.later hb).V
                have v3 := (X12d.out.later hb).V
                rw [map2, dep_const env facts 0 106 _ (by kernel_rfl) rfl rfl, dep_const env facts 1 107 _ (by kernel_rfl) rfl rfl]
                exact times_any n11 n12 a11 a12 l11 c11 l12 c12 N1 N2 w v2 v3 (Nat.le_trans (Sm.le v2 S1.out) (by decide)) (Nat.le_trans (Sm.le v3 S2.out) (by decide))
              | 3, ho =>
                obtain rfl := Option.some.inj ho
                exact ok_loadB (by kernel_rfl) rfl X13d.out.B
              | 4, ho =>
                obtain rfl := Option.some.inj ho
                exact ok_loadB (by kernel_rfl) rfl X14d.out.B
              | 5, ho =>
                obtain rfl := Option.some.inj ho
                refine ok_big (fun _ _ => by kernel_rfl) fun A' L val w env facts hb => ?_
                have v2 := (X13d.out.later hb).V
                have v3 := (X14d.out.later hb).V
                rw [map2, dep_const env facts 3 109 _ (by kernel_rfl) rfl rfl, dep_const env facts 4 110 _ (by kernel_rfl) rfl rfl]
                exact times_any n13 n14 a13 a14 l13 c13 l14 c14 D1 D2 w v2 v3 (Nat.le_trans (Sm.le v2 S3.out) (by decide)) (Nat.le_trans (Sm.le v3 S4.out) (by decide))
              | 6, ho =>
                obtain rfl := Option.some.inj ho
                refine ok_pair (fun _ _ => by kernel_rfl) fun A' L val w env facts hb => ?_
                obtain ⟨ng2, a2, l2, c2, e2, v2⟩ := dep_big env facts 2 108 _ (by kernel_rfl) rfl rfl
                obtain ⟨ng3, a3, l3, c3, e3, v3⟩ := dep_big env facts 5 111 _ (by kernel_rfl) rfl rfl
                rw [map2, e2, e3]
                have lo := lowest_any ng2 ng3 a2 a3 l2 c2 l3 c3 (N1 * N2) (D1 * D2) w v2 v3 LN
                obtain ⟨q1, q2⟩ := LF.out ng2 ng3 v2.hng v3.hng
                rw [GG.out, q1, q2] at lo
                exact lo
              | 7, ho =>
                obtain rfl := Option.some.inj ho
                exact ok_fstP (j := 6) rfl (by kernel_rfl) rfl
              | 8, ho =>
                obtain rfl := Option.some.inj ho
                exact ok_sndP (j := 6) rfl (by kernel_rfl) rfl
              | 9, ho =>
                obtain rfl := Option.some.inj ho
                refine ok_kept (fun _ _ => by kernel_rfl) fun A' L val w env facts hb => ?_
                have F6 : PairC (A1 * A2) (B1 * B2) (val 6) w := (facts 6 (by kernel_rfl)).2
                have F7 : IsBig (val 7) ∧ ∃ q, val 6 = .tuple #[val 7, q] := (facts 7 (by kernel_rfl)).2
                have F8 : IsBig (val 8) ∧ ∃ q, val 6 = .tuple #[q, val 8] := (facts 8 (by kernel_rfl)).2
                obtain ⟨ng2, a2, l2, c2, e2, v2⟩ := pair_fst F6 rfl F7.2
                obtain ⟨ng3, a3, l3, c3, e3, v3⟩ := pair_snd F6 rfl F8.2
                rw [map2, env.dep 7 113 (facts 7 (by kernel_rfl)).1 rfl, env.dep 8 114 (facts 8 (by kernel_rfl)).1 rfl, e2, e3, ← hff]
                exact ints_any ng2 ng3 a2 a3 l2 c2 l3 c3 (A1 * A2) (B1 * B2) w v2 v3 (Nat.le_trans (Sm.le v2 S7.out) (by decide)) (Nat.le_trans (Sm.le v3 S8.out) (by decide)) f1 f2 k1 k2 HF1 HK1 HF2 HK2
              | 10, ho =>
                obtain rfl := Option.some.inj ho
                exact ok_moveKp2 (j := 9) rfl (by kernel_rfl) rfl
              | 11, ho =>
                obtain rfl := Option.some.inj ho
                exact ok_ext (j := 10) rfl (by kernel_rfl) rfl rfl
              | 12, ho =>
                obtain rfl := Option.some.inj ho
                exact ok_ext (j := 10) rfl (by kernel_rfl) rfl rfl
              | 13, ho =>
                obtain rfl := Option.some.inj ho
                exact ok_ext (j := 10) rfl (by kernel_rfl) rfl rfl
              | 14, ho =>
                obtain rfl := Option.some.inj ho
                exact ok_assignC (j := 11) rfl (by kernel_rfl) rfl
              | 15, ho =>
                obtain rfl := Option.some.inj ho
                exact ok_assignC (j := 12) rfl (by kernel_rfl) rfl
              | 16, ho =>
                obtain rfl := Option.some.inj ho
                exact ok_assignC (j := 13) rfl (by kernel_rfl) rfl
              | n + 17, ho => simp at ho
            have F14 : val2 14 = .int .i64 k1 := hf 14 (by decide)
            have F15 : val2 15 = .int .i64 k2 := hf 15 (by decide)
            have F16 : val2 16 = .bool ff := hf 16 (by decide)
            have T17 := Lib.hid (T15.out.later hb)
            have K12 := Lib.hid (bel_trans K11.out hb)
            simp only [puts2, Act.put, List.setIfInBounds_toArray, List.set_cons_zero, List.set_cons_succ, Nat.zero_add, Nat.reduceAdd]
            rw [F14, F15, F16]
            clear hf hne hb F14 F15 F16 X11d X12d X13d X14d T15 K11 hff
            obtain ⟨t0, t1⟩ := T17.out
            rcases FIN.out with ⟨rfl, rfl, rfl, rfl⟩ | ⟨rfl, rfl, rfl, rfl⟩
            all_goals
              go_wp2_with fail
              go_returns
              exact ⟨rfl, K12.out⟩
          · have b1' : (e1 == 0) = true := by rw [h1]; rfl
            have b2' : (e2 == 0) = false := by simpa using h2
            go_wp2_with fail
            go_returns
            exact ⟨rfl, K7.out⟩
        · have b1' : (e1 == 0) = false := by simpa using h1
          go_wp2_with fail
          go_returns
          exact ⟨rfl, K7.out⟩
end Go.Proofs.Ytkohefgendcofaa
