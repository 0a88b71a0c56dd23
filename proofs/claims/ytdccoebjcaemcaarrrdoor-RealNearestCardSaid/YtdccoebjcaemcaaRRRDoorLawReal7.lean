/- The walk of RealNearest. -/
import Derived.Test.YtdccoebjcaemcaaRRRDoorLawReal7a
import Derived.Test.YtdccoebjcaemcaaRRRDoorGrid3
import Derived.WalkKit
import Derived.WalkSpells
import Derived.WalkLawsBesides
import Derived.Handy
import Derived.Lib.Hide
import Derived.LoopTactic
import Derived.Outline
namespace Go.Proofs.YtdccoebjcaemcaaRRRDoor
open Go.RowKit Go.Proofs.Flo Go.Proofs.Reg Go.Proofs.Big
set_option linter.unusedVariables false
set_option linter.unusedSimpArgs false
set_option maxRecDepth 100000
section
variable {ops : Array Oper} {a0 : Act} {w0 : World} {kind : Nat → Kind} {o : Oper}
theorem ok_assignK {j : Nat} {t : Tmp} {c : Value} {x : Option Tmp} {ty : TypeId} {ps : String} {af : Array Edge} {gd : Option (Nat × Bool)} (hj : dstAt ops j = some t) (hd : depB ⟨x, .assign (.tmp t), ty, ps, af, gd⟩ j = true) (hk : kind j = keptK c) :
    OpOk Tryd.prog ops a0 w0 kind ⟨x, .assign (.tmp t), ty, ps, af, gd⟩ (constK c) := by
  refine ok_const fun A L val w env facts hb => ?_
  have e1 := dep_kept env facts j t _ hd hj hk
  rw [← e1]; rfl
end
/-- the boxes: the ratio, the distance of the float -/
structure Nst (w wr : World) (q5 q12 q13 : Nat) (N D : Int) (nx : Bool) (ax : Option Addr) (lx cx : Nat) (X : Int) (ny : Bool) (ay : Option Addr) (ly cy : Nat) (Y : Int) : Prop where
  B : Below w.heap.size w wr
  c0 : wr.cell? ⟨q5, 0, none⟩ = some (.int .i64 N)
  c1 : wr.cell? ⟨q5, 1, none⟩ = some (.int .i64 D)
  x : BN wr q12 nx ax lx cx X
  y : BN wr q13 ny ay ly cy Y
theorem Nst.later {w wr w' : World} {q5 q12 q13 : Nat} {N D : Int} {nx : Bool} {ax : Option Addr} {lx cx : Nat} {X : Int} {ny : Bool} {ay : Option Addr} {ly cy : Nat} {Y : Int} (h : Nst w wr q5 q12 q13 N D nx ax lx cx X ny ay ly cy Y) (hb : Below wr.heap.size wr w') : Nst w w' q5 q12 q13 N D nx ax lx cx X ny ay ly cy Y :=
  ⟨bel_tr0 h.B hb, cell_later hb h.c0, cell_later hb h.c1, h.x.later hb, h.y.later hb⟩
theorem ap_sm {x : Nat} {N D : Int} (hf : rung x < 9218868437227405312) (a0 : -9223372036854775808 ≤ N) (a1 : N ≤ 9223372036854775807) (b0 : 1 ≤ D) (b1 : D ≤ 9223372036854775807) : (0 ≤ apX x N D ∧ apX x N D < P 73) ∧ (0 < (fracD x : Int) * D ∧ (fracD x : Int) * D < P 72) := by
  obtain ⟨s1, s2, s3, s4, _⟩ := frac_size x hf
  obtain ⟨_, _, _, _, _, _, z, _, _, _, _, t⟩ := apart_size s1 s2 s3 s4 a0 a1 b0 b1
  refine ⟨?_, z⟩
  unfold apX
  generalize fracN x * D + -(N * fracD x) = X at *
  split <;> omega
theorem prod300 {X Q : Int} (x0 : 0 ≤ X) (x1 : X < P 73) (q0 : 0 < Q) (q1 : Q < P 72) : -P 300 < X * Q ∧ X * Q < P 300 := by
  have e : P 145 = P 73 * P 72 := P_add 73 72
  have m := P_mono (show 145 ≤ 300 by decide)
  have p := P_pos 300
  have h1 : X * Q ≤ P 73 * Q := Int.mul_le_mul_of_nonneg_right (by omega) (by omega)
  have h2 : P 73 * Q < P 73 * P 72 := Int.mul_lt_mul_of_pos_left q1 (by have := P_pos 73; omega)
  have h3 := Int.mul_nonneg x0 (show 0 ≤ Q by omega)
  generalize X * Q = Z at *
  generalize P 73 * Q = Z1 at *
  generalize P 73 * P 72 = Z2 at *
  generalize P 145 = Z3 at *
  generalize P 300 = Z4 at *
  omega
theorem prod_sm {X Y : Int} (x0 : 0 ≤ X) (x1 : X < P 73) (y0 : 0 < Y) (y1 : Y < P 72) : Sm X ∧ Sm Y ∧ True := by
  have m := P_mono (show 73 ≤ 100 by decide)
  have m2 := P_mono (show 72 ≤ 100 by decide)
  exact ⟨⟨by omega, by omega⟩, ⟨by omega, by omega⟩, trivial⟩
theorem law_near_bad (n d : Int) (er : Int) (e0 : (er == 0) = false) (kn : -9223372036854775808 ≤ n ∧ n ≤ 9223372036854775807)
    (O : ∀ w : World, Calls Tryd.prog 13 #[.int .i64 n, .int .i64 d] w fun e w' => e = .returned (.tuple #[.agg #[.int .i64 0, .int .i64 0], .int .i64 er]) ∧ Below w.heap.size w w') (w : World) (hD : Deb w) :
    Calls Tryd.prog 4 #[.int .i64 n, .int .i64 d] w fun e w' => e = .returned (.bool true) ∧ Below w.heap.size w w' := by
  have HS := Lib.hid (fun w h => speaks3_any w h)
  have OF := Lib.hid O
  have KN := Lib.hid (knear_bad n 0 kn.1 kn.2 (by decide) (by decide) rfl)
  have e1 := neq_self 9221120237041090561
  rw [show nanB 9221120237041090561 = true by decide] at e1
  have HD := Lib.hid hD
  clear hD O kn
  go_enter Tryd.func4, Tryd.ntmps4
  go_wp2_with fail
  refine (HS.out _ HD.out).mono ?_
  rintro e w1 ⟨rfl, hb⟩
  have K1 := Lib.hid hb
  clear hb HD
  go_wp2_with fail
  refine (OF.out _).mono ?_
  rintro e w2 ⟨rfl, hb⟩
  have K2 := Lib.hid (bel_tr0 (bel_tr0 K1.out hb) (bel_new w2 (.cells #[.int .i64 0, .int .i64 0] 25)))
  clear hb K1
  go_wp2_with fail
  refine (KN.out _).mono ?_
  rintro e w3 ⟨rfl, hb⟩
  have K3 := Lib.hid (bel_tr0 K2.out hb)
  clear hb K2
  go_wp2_with fail
  go_returns
  exact ⟨rfl, K3.out⟩
set_option maxHeartbeats 4000000 in
theorem law_near_ok (n d N D : Int) (N0 : -9223372036854775808 ≤ N) (N1 : N ≤ 9223372036854775807) (D0 : 1 ≤ D) (D1 : D ≤ 9223372036854775807) (G : goodB N D = true)
    (O : ∀ w : World, Calls Tryd.prog 13 #[.int .i64 n, .int .i64 d] w fun e w' => e = .returned (.tuple #[.agg #[.int .i64 N, .int .i64 D], .int .i64 0]) ∧ Below w.heap.size w w') (w : World) (hD : Deb w) :
    Calls Tryd.prog 4 #[.int .i64 n, .int .i64 d] w fun e w' => e = .returned (.bool true) ∧ Below w.heap.size w w' := by
  have HS := Lib.hid (fun w h => speaks3_any w h)
  have OF := Lib.hid O
  obtain ⟨f, R, Q⟩ := knear_ex N D N0 N1 D0 D1 G
  have KN := Lib.hid Q
  have r1 := run_bits f
  have HD := Lib.hid hD
  clear hD O G Q
  by_cases nz : N = 0
  · subst nz
    have f0 : f = 0 := by rcases R.cs with ⟨_, a⟩ | ⟨a, _⟩; exact a; exact absurd rfl a
    subst f0
    clear R
    go_enter Tryd.func4, Tryd.ntmps4
    go_wp2_with fail
    refine (HS.out _ HD.out).mono ?_
    rintro e w1 ⟨rfl, hb⟩
    have K1 := Lib.hid hb
    clear hb HD
    go_wp2_with fail
    refine (OF.out _).mono ?_
    rintro e w2 ⟨rfl, hb⟩
    have K2 := Lib.hid (bel_tr0 (bel_tr0 K1.out hb) (bel_new w2 (.cells #[.int .i64 0, .int .i64 D] 25)))
    have T2 := Lib.hid ((Tab.nil w2).new [.int .i64 0, .int .i64 D] 25)
    clear hb K1
    go_wp2_with fail
    refine (KN.out _).mono ?_
    rintro e w3 ⟨rfl, hb⟩
    have K3 := Lib.hid (bel_tr0 K2.out hb)
    have T3 := Lib.hid (T2.out.later hb)
    have c0 := T3.out.cell 0 0 rfl rfl
    have c1 := T3.out.cell 0 1 rfl rfl
    clear hb K2
    go_wp2_with fail
    go_returns
    exact ⟨rfl, K3.out⟩
  · obtain ⟨g0, g1, sf, fb⟩ : 4503599627370496 ≤ rung f ∧ rung f < 4953959590107545600 ∧ sgn f = decide (N < 0) ∧ f < 18446744073709551616 := by
      rcases R.cs with ⟨a, _⟩ | ⟨_, a, b, c, _⟩
      · exact absurd a nz
      · exact ⟨a, b, c, R.fb⟩
    have hf : rung f < 9218868437227405312 := by omega
    have K3 := Lib.hid (kind3_any f fb)
    have kn : kindN f = 5 := by
      unfold kindN
      rw [nan_num hf, inf_num hf, decide_eq_false (by omega), decide_eq_false (by omega)]
      rfl
    have ks : kindS f = decide (N < 0) := by
      unfold kindS
      rw [nan_num hf]
      exact sf
    rw [kn, ks] at K3
    have AF := Lib.hid (apart_any f N D fb hf N0 N1 D0 D1)
    obtain ⟨⟨x0, x1⟩, y0, y1⟩ := ap_sm hf N0 N1 D0 D1
    -- the neighbours
    have f1 : 4503599627370496 ≤ f := by unfold rung at g0; omega
    obtain ⟨m, hm⟩ : ∃ m, f = m + 1 := ⟨f - 1, by omega⟩
    have B1 := near_beside f m N D D0 nz R (.inl hm.symm)
    have B2 := near_beside f (f + 1) N D D0 nz R (.inr rfl)
    have C1 := near_cmp f m N D D0 nz R (.inl hm.symm)
    have C2 := near_cmp f (f + 1) N D D0 nz R (.inr rfl)
    have A1 := Lib.hid (apart_any m N D B1.2.2.2 B1.2.2.1 N0 N1 D0 D1)
    have A2 := Lib.hid (apart_any (f + 1) N D B2.2.2.2 B2.2.2.1 N0 N1 D0 D1)
    have S1 := ap_sm B1.2.2.1 N0 N1 D0 D1
    have S2 := ap_sm B2.2.2.1 N0 N1 D0 D1
    obtain ⟨X, hX⟩ : ∃ X, apX f N D = X := ⟨_, rfl⟩
    obtain ⟨Y, hY⟩ : ∃ X : Int, (fracD f : Int) * D = X := ⟨_, rfl⟩
    obtain ⟨P1, hP1⟩ : ∃ X, apX m N D = X := ⟨_, rfl⟩
    obtain ⟨Q1, hQ1⟩ : ∃ X : Int, (fracD m : Int) * D = X := ⟨_, rfl⟩
    obtain ⟨P2, hP2⟩ : ∃ X, apX (f + 1) N D = X := ⟨_, rfl⟩
    obtain ⟨Q2, hQ2⟩ : ∃ X : Int, (fracD (f + 1) : Int) * D = X := ⟨_, rfl⟩
    rw [hX, hY] at AF C1 C2
    rw [hX] at x0 x1
    rw [hY] at y0 y1
    rw [hP1, hQ1] at A1 C1 S1
    rw [hP2, hQ2] at A2 C2 S2
    have SX := Lib.hid (prod_sm x0 x1 y0 y1)
    have SA := Lib.hid (prod_sm S1.1.1 S1.1.2 S1.2.1 S1.2.2)
    have SB := Lib.hid (prod_sm S2.1.1 S2.1.2 S2.2.1 S2.2.2)
    have SQ0 := Lib.hid (show (-P 300 < X * Q1 ∧ X * Q1 < P 300) ∧ (-P 300 < P1 * Y ∧ P1 * Y < P 300) from ⟨prod300 x0 x1 S1.2.1 S1.2.2, prod300 S1.1.1 S1.1.2 y0 y1⟩)
    have SQ1 := Lib.hid (show (-P 300 < X * Q2 ∧ X * Q2 < P 300) ∧ (-P 300 < P2 * Y ∧ P2 * Y < P 300) from ⟨prod300 x0 x1 S2.2.1 S2.2.2, prod300 S2.1.1 S2.1.2 y0 y1⟩)
    have HC1 := Lib.hid C1
    have HC2 := Lib.hid C2
    obtain ⟨sb, hsb⟩ : ∃ b, decide (N < 0) = b := ⟨_, rfl⟩
    rw [hsb] at K3
    have nb : (N == 0) = false := by simpa using nz
    have F1 : (1 : Int) ≤ (f : Int) := by omega
    have F2 : (f : Int) ≤ 18446744073709551613 := by unfold rung at g1; omega
    have HM : Hid ((f : Int) - 1 = (m : Int)) := Lib.hid (by omega)
    have A1 : Hid (∀ w : World, Calls Tryd.prog 17 #[.int .u64 ((f : Int) - 1), .agg #[.int .i64 N, .int .i64 D]] w (RetBig2 w P1 Q1)) := Lib.hid fun w => by rw [HM.out]; exact A1.out w
    have A2 : Hid (∀ w : World, Calls Tryd.prog 17 #[.int .u64 ((f : Int) - 1 + 2), .agg #[.int .i64 N, .int .i64 D]] w (RetBig2 w P2 Q2)) := Lib.hid fun w => by rw [show (f : Int) - 1 + 2 = ((f + 1 : Nat) : Int) by omega]; exact A2.out w
    clear B1 B2 C1 C2 S1 S2 hX hY hP1 hQ1 hP2 hQ2 kn ks hf g0 g1 f1 hm sf fb x0 x1 y0 y1 nz R
    go_enter Tryd.func4, Tryd.ntmps4
    go_wp2_with fail
    refine (HS.out _ HD.out).mono ?_
    rintro e w1 ⟨rfl, hb⟩
    have K1 := Lib.hid hb
    clear hb HD
    go_wp2_with fail
    refine (OF.out _).mono ?_
    rintro e w2 ⟨rfl, hb⟩
    have K2 := Lib.hid (bel_tr0 (bel_tr0 K1.out hb) (bel_new w2 (.cells #[.int .i64 N, .int .i64 D] 25)))
    have T2 := Lib.hid ((Tab.nil w2).new [.int .i64 N, .int .i64 D] 25)
    clear hb K1
    go_wp2_with fail
    refine (KN.out _).mono ?_
    rintro e w3 ⟨rfl, hb⟩
    have K4 := Lib.hid (bel_tr0 K2.out hb)
    have T3 := Lib.hid (T2.out.later hb)
    have c0 := T3.out.cell 0 0 rfl rfl
    have c1 := T3.out.cell 0 1 rfl rfl
    clear hb K2
    go_wp2_with fail
    refine (K3.out _).mono ?_
    rintro e w4 ⟨rfl, rfl⟩
    go_wp2_with fail
    refine (AF.out _).mono ?_
    rintro e w5 ⟨nx, ax, lx, cx, ny, ay, ly, cy, rfl, vx, vy, hb⟩
    have G : Hid (Nst w ((w5.alloc (.cells #[.bool nx, .slice ax lx cx] 41)).alloc (.cells #[.bool ny, .slice ay ly cy] 41)) w2.heap.size w5.heap.size (w5.heap.size + 1) N D nx ax lx cx X ny ay ly cy Y) := by
      have b2 := bel_tr0 (bel_new w5 (.cells #[.bool nx, .slice ax lx cx] 41)) (bel_new _ (.cells #[.bool ny, .slice ay ly cy] 41))
      have x1 := (BV.new w5 nx ax lx cx 41).alloc (.cells #[.bool ny, .slice ay ly cy] 41)
      have x2 := BV.new (w5.alloc (.cells #[.bool nx, .slice ax lx cx] 41)) ny ay ly cy 41
      rw [World.size_alloc] at x2
      have t := (T3.out.later hb).later b2
      exact Lib.hid ⟨bel_tr0 (bel_tr0 K4.out hb) b2, t.cell 0 0 rfl rfl, t.cell 0 1 rfl rfl, ⟨x1, vx.later b2⟩, ⟨x2, vy.later b2⟩⟩
    clear vx vy hb T3 K4 c0 c1 T2
    go_wp2_with fail
    go_loopw [14] (fun s14 wx => ∃ k : Nat, s14 = .int .i64 k ∧ k ≤ 2 ∧ Hid (Nst w wx w2.heap.size w5.heap.size (w5.heap.size + 1) N D nx ax lx cx X ny ay ly cy Y)) (fun s14 _ => 2 - (intOf s14).toNat)
    case atStart => exact ⟨0, rfl, by decide, G⟩
    case round =>
      clear G
      obtain ⟨k, rfl, hk, G⟩ := hrel
      obtain ⟨c0, c1⟩ : _ ∧ _ := ⟨G.out.c0, G.out.c1⟩
      have ks : k = 0 ∨ k = 1 ∨ k = 2 := by omega
      rcases ks with rfl | rfl | rfl
      · go_wp2_with fail
        refine (A1.out _).mono ?_
        rintro e w6 ⟨np, ap, lp, cp, nq, aq, lq, cq, rfl, vp, vq, hb⟩
        have G6 : Hid (Nst w ((w6.alloc (.cells #[.bool np, .slice ap lp cp] 41)).alloc (.cells #[.bool nq, .slice aq lq cq] 41)) w2.heap.size w5.heap.size (w5.heap.size + 1) N D nx ax lx cx X ny ay ly cy Y ∧ BN ((w6.alloc (.cells #[.bool np, .slice ap lp cp] 41)).alloc (.cells #[.bool nq, .slice aq lq cq] 41)) w6.heap.size np ap lp cp P1 ∧ BN ((w6.alloc (.cells #[.bool np, .slice ap lp cp] 41)).alloc (.cells #[.bool nq, .slice aq lq cq] 41)) (w6.heap.size + 1) nq aq lq cq Q1) := by
          have b2 := bel_tr0 (bel_new w6 (.cells #[.bool np, .slice ap lp cp] 41)) (bel_new _ (.cells #[.bool nq, .slice aq lq cq] 41))
          have x1 := (BV.new w6 np ap lp cp 41).alloc (.cells #[.bool nq, .slice aq lq cq] 41)
          have x2 := BV.new (w6.alloc (.cells #[.bool np, .slice ap lp cp] 41)) nq aq lq cq 41
          rw [World.size_alloc] at x2
          exact Lib.hid ⟨(G.out.later hb).later b2, ⟨x1, vp.later b2⟩, ⟨x2, vq.later b2⟩⟩
        clear vp vq hb c0 c1 G
        go_wp2_with fail
        refine wp_region_kinds [constK (.agg #[.bool nx, .slice ax lx cx]), constK (.agg #[.bool nq, .slice aq lq cq]), bigK (X * Q1), constK (.agg #[.bool np, .slice ap lp cp]), constK (.agg #[.bool ny, .slice ay ly cy]), bigK (P1 * Y), keptK (.int .i64 (cmpI (X * Q1) (P1 * Y))), constK (.int .i64 (cmpI (X * Q1) (P1 * Y)))]
          [some 78, some 79, some 80, some 81, some 82, some 83, some 84, some 17] (by kernel_rfl) (by kernel_rfl) (by kernel_rfl) (by kernel_rfl) (by kernel_rfl) (by kernel_rfl) (by kernel_rfl) (fun i o ho => ?_) (fun val7 w7 hf hne hb => ?_)
        · match i, ho with
          | 0, ho =>
            obtain rfl := Option.some.inj ho
            exact ok_load (by kernel_rfl) rfl G6.out.1.x.B
          | 1, ho =>
            obtain rfl := Option.some.inj ho
            exact ok_load (by kernel_rfl) rfl G6.out.2.2.B
          | 2, ho =>
            obtain rfl := Option.some.inj ho
            refine ok_big (fun _ _ => by kernel_rfl) fun A' L val w' env facts hb => ?_
            have v1 := (G6.out.1.x.later hb).V
            have v2 := (G6.out.2.2.later hb).V
            rw [map2, dep_const env facts 0 78 _ (by kernel_rfl) rfl rfl, dep_const env facts 1 79 _ (by kernel_rfl) rfl rfl]
            exact times_any nx nq ax aq lx cx lq cq X Q1 w' v1 v2 (Nat.le_trans (Sm.le v1 SX.out.1) (by decide)) (Nat.le_trans (Sm.le v2 SA.out.2.1) (by decide))
          | 3, ho =>
            obtain rfl := Option.some.inj ho
            exact ok_load (by kernel_rfl) rfl G6.out.2.1.B
          | 4, ho =>
            obtain rfl := Option.some.inj ho
            exact ok_load (by kernel_rfl) rfl G6.out.1.y.B
          | 5, ho =>
            obtain rfl := Option.some.inj ho
            refine ok_big (fun _ _ => by kernel_rfl) fun A' L val w' env facts hb => ?_
            have v1 := (G6.out.2.1.later hb).V
            have v2 := (G6.out.1.y.later hb).V
            rw [map2, dep_const env facts 3 81 _ (by kernel_rfl) rfl rfl, dep_const env facts 4 82 _ (by kernel_rfl) rfl rfl]
            exact times_any np ny ap ay lp cp ly cy P1 Y w' v1 v2 (Nat.le_trans (Sm.le v1 SA.out.1) (by decide)) (Nat.le_trans (Sm.le v2 SX.out.2.1) (by decide))
          | 6, ho =>
            obtain rfl := Option.some.inj ho
            refine ok_kept (fun _ _ => by kernel_rfl) fun A' L val w' env facts hb => ?_
            obtain ⟨ng, a4, l4, c4, e4, v4⟩ := dep_big env facts 2 80 _ (by kernel_rfl) rfl rfl
            obtain ⟨ng5, a5, l5, c5, e5, v5⟩ := dep_big env facts 5 83 _ (by kernel_rfl) rfl rfl
            rw [map2, e4, e5]
            exact bcmp_any ng ng5 a4 a5 l4 c4 l5 c5 _ _ _ w' v4 v5 (Nat.le_trans (v4.len 300 SQ0.out.1.1 SQ0.out.1.2) (by decide)) (Nat.le_trans (v5.len 300 SQ0.out.2.1 SQ0.out.2.2) (by decide)) (Lib.hid rfl)
          | 7, ho =>
            obtain rfl := Option.some.inj ho
            exact ok_assignK (j := 6) rfl (by kernel_rfl) rfl
          | n + 8, ho => simp at ho
        · have F7 : val7 7 = .int .i64 (cmpI (X * Q1) (P1 * Y)) := hf 7 (by decide)
          have G := Lib.hid (G6.out.1.later hb)
          obtain ⟨c, hc⟩ : ∃ c, cmpI (X * Q1) (P1 * Y) = c := ⟨_, rfl⟩
          rw [hc] at F7
          have cl : ¬ 0 < c := by
            have := cmpI_gtr (X * Q1) (P1 * Y)
            rw [hc] at this
            have h := HC1.out.1
            rw [decide_eq_false (show ¬ P1 * Y < X * Q1 by omega)] at this
            exact of_decide_eq_false this
          have ce : c = 0 → (f : Int) % 2 = 0 := fun z => by
            have h := HC1.out
            have h1 := cmpI_lss (X * Q1) (P1 * Y)
            rw [hc, z] at h1
            have h2 : ¬ (X * Q1 < P1 * Y) := of_decide_eq_false h1.symm
            have := h.2 (by omega)
            omega
          simp only [puts2, Act.put, List.setIfInBounds_toArray, List.set_cons_zero, List.set_cons_succ, Nat.zero_add, Nat.reduceAdd]
          rw [F7]
          clear hf hne hb F7 G6 hc
          by_cases z : c = 0
          · subst z
            have ev := ce rfl
            have eo : ((f : Int) % 2 == 1) = false := by rw [ev]; rfl
            clear ce ev cl
            go_wp2_with fail
            go_round
            case rel => exact ⟨1, rfl, by decide, G⟩
            case measure => decide
          · have cz : (c == 0) = false := by simpa using z
            have cl : c ≤ 0 := by omega
            clear ce z
            go_wp2_with fail
            go_round
            case rel => exact ⟨1, rfl, by decide, G⟩
            case measure => decide
      · go_wp2_with fail
        refine (A2.out _).mono ?_
        rintro e w6 ⟨np, ap, lp, cp, nq, aq, lq, cq, rfl, vp, vq, hb⟩
        have G6 : Hid (Nst w ((w6.alloc (.cells #[.bool np, .slice ap lp cp] 41)).alloc (.cells #[.bool nq, .slice aq lq cq] 41)) w2.heap.size w5.heap.size (w5.heap.size + 1) N D nx ax lx cx X ny ay ly cy Y ∧ BN ((w6.alloc (.cells #[.bool np, .slice ap lp cp] 41)).alloc (.cells #[.bool nq, .slice aq lq cq] 41)) w6.heap.size np ap lp cp P2 ∧ BN ((w6.alloc (.cells #[.bool np, .slice ap lp cp] 41)).alloc (.cells #[.bool nq, .slice aq lq cq] 41)) (w6.heap.size + 1) nq aq lq cq Q2) := by
          have b2 := bel_tr0 (bel_new w6 (.cells #[.bool np, .slice ap lp cp] 41)) (bel_new _ (.cells #[.bool nq, .slice aq lq cq] 41))
          have x1 := (BV.new w6 np ap lp cp 41).alloc (.cells #[.bool nq, .slice aq lq cq] 41)
          have x2 := BV.new (w6.alloc (.cells #[.bool np, .slice ap lp cp] 41)) nq aq lq cq 41
          rw [World.size_alloc] at x2
          exact Lib.hid ⟨(G.out.later hb).later b2, ⟨x1, vp.later b2⟩, ⟨x2, vq.later b2⟩⟩
        clear vp vq hb c0 c1 G
        go_wp2_with fail
        refine wp_region_kinds [constK (.agg #[.bool nx, .slice ax lx cx]), constK (.agg #[.bool nq, .slice aq lq cq]), bigK (X * Q2), constK (.agg #[.bool np, .slice ap lp cp]), constK (.agg #[.bool ny, .slice ay ly cy]), bigK (P2 * Y), keptK (.int .i64 (cmpI (X * Q2) (P2 * Y))), constK (.int .i64 (cmpI (X * Q2) (P2 * Y)))]
          [some 78, some 79, some 80, some 81, some 82, some 83, some 84, some 17] (by kernel_rfl) (by kernel_rfl) (by kernel_rfl) (by kernel_rfl) (by kernel_rfl) (by kernel_rfl) (by kernel_rfl) (fun i o ho => ?_) (fun val7 w7 hf hne hb => ?_)
        · match i, ho with
          | 0, ho =>
            obtain rfl := Option.some.inj ho
            exact ok_load (by kernel_rfl) rfl G6.out.1.x.B
          | 1, ho =>
            obtain rfl := Option.some.inj ho
            exact ok_load (by kernel_rfl) rfl G6.out.2.2.B
          | 2, ho =>
            obtain rfl := Option.some.inj ho
            refine ok_big (fun _ _ => by kernel_rfl) fun A' L val w' env facts hb => ?_
            have v1 := (G6.out.1.x.later hb).V
            have v2 := (G6.out.2.2.later hb).V
            rw [map2, dep_const env facts 0 78 _ (by kernel_rfl) rfl rfl, dep_const env facts 1 79 _ (by kernel_rfl) rfl rfl]
            exact times_any nx nq ax aq lx cx lq cq X Q2 w' v1 v2 (Nat.le_trans (Sm.le v1 SX.out.1) (by decide)) (Nat.le_trans (Sm.le v2 SB.out.2.1) (by decide))
          | 3, ho =>
            obtain rfl := Option.some.inj ho
            exact ok_load (by kernel_rfl) rfl G6.out.2.1.B
          | 4, ho =>
            obtain rfl := Option.some.inj ho
            exact ok_load (by kernel_rfl) rfl G6.out.1.y.B
          | 5, ho =>
            obtain rfl := Option.some.inj ho
            refine ok_big (fun _ _ => by kernel_rfl) fun A' L val w' env facts hb => ?_
            have v1 := (G6.out.2.1.later hb).V
            have v2 := (G6.out.1.y.later hb).V
            rw [map2, dep_const env facts 3 81 _ (by kernel_rfl) rfl rfl, dep_const env facts 4 82 _ (by kernel_rfl) rfl rfl]
            exact times_any np ny ap ay lp cp ly cy P2 Y w' v1 v2 (Nat.le_trans (Sm.le v1 SB.out.1) (by decide)) (Nat.le_trans (Sm.le v2 SX.out.2.1) (by decide))
          | 6, ho =>
            obtain rfl := Option.some.inj ho
            refine ok_kept (fun _ _ => by kernel_rfl) fun A' L val w' env facts hb => ?_
            obtain ⟨ng, a4, l4, c4, e4, v4⟩ := dep_big env facts 2 80 _ (by kernel_rfl) rfl rfl
            obtain ⟨ng5, a5, l5, c5, e5, v5⟩ := dep_big env facts 5 83 _ (by kernel_rfl) rfl rfl
            rw [map2, e4, e5]
            exact bcmp_any ng ng5 a4 a5 l4 c4 l5 c5 _ _ _ w' v4 v5 (Nat.le_trans (v4.len 300 SQ1.out.1.1 SQ1.out.1.2) (by decide)) (Nat.le_trans (v5.len 300 SQ1.out.2.1 SQ1.out.2.2) (by decide)) (Lib.hid rfl)
          | 7, ho =>
            obtain rfl := Option.some.inj ho
            exact ok_assignK (j := 6) rfl (by kernel_rfl) rfl
          | n + 8, ho => simp at ho
        · have F7 : val7 7 = .int .i64 (cmpI (X * Q2) (P2 * Y)) := hf 7 (by decide)
          have G := Lib.hid (G6.out.1.later hb)
          obtain ⟨c, hc⟩ : ∃ c, cmpI (X * Q2) (P2 * Y) = c := ⟨_, rfl⟩
          rw [hc] at F7
          have cl : ¬ 0 < c := by
            have := cmpI_gtr (X * Q2) (P2 * Y)
            rw [hc] at this
            have h := HC2.out.1
            rw [decide_eq_false (show ¬ P2 * Y < X * Q2 by omega)] at this
            exact of_decide_eq_false this
          have ce : c = 0 → (f : Int) % 2 = 0 := fun z => by
            have h := HC2.out
            have h1 := cmpI_lss (X * Q2) (P2 * Y)
            rw [hc, z] at h1
            have h2 : ¬ (X * Q2 < P2 * Y) := of_decide_eq_false h1.symm
            have := h.2 (by omega)
            omega
          simp only [puts2, Act.put, List.setIfInBounds_toArray, List.set_cons_zero, List.set_cons_succ, Nat.zero_add, Nat.reduceAdd]
          rw [F7]
          clear hf hne hb F7 G6 hc
          by_cases z : c = 0
          · subst z
            have ev := ce rfl
            have eo : ((f : Int) % 2 == 1) = false := by rw [ev]; rfl
            clear ce ev cl
            go_wp2_with fail
            go_round
            case rel => exact ⟨2, rfl, by decide, G⟩
            case measure => decide
          · have cz : (c == 0) = false := by simpa using z
            have cl : c ≤ 0 := by omega
            clear ce z
            go_wp2_with fail
            go_round
            case rel => exact ⟨2, rfl, by decide, G⟩
            case measure => decide
      · go_wp2_with fail
        go_returns
        exact ⟨rfl, G.out.B⟩
/-- whatever the two numbers are -/
theorem law_nearest (n d : Int) (kn : -9223372036854775808 ≤ n ∧ n ≤ 9223372036854775807) (kd : -9223372036854775808 ≤ d ∧ d ≤ 9223372036854775807) (w : World) (hD : Deb w) :
    Calls Tryd.prog 4 #[.int .i64 n, .int .i64 d] w fun e w' => e = .returned (.bool true) ∧ Below w.heap.size w w' := by
  by_cases z : d = 0
  · subst z
    exact law_near_bad n 0 3 rfl kn (of_zero n) w hD
  · obtain ⟨g, N, D, L⟩ := lowest_ex n d kn.1 kn.2 kd.1 kd.2 z
    have le := L.Nle
    have dp := L.Dpos
    by_cases c : N ≤ 9223372036854775807 ∧ D ≤ 9223372036854775807
    · exact law_near_ok n d N D (by have := le.1; split at this <;> omega) c.1 dp c.2 L.good (of_any' L 0 N D (.inl ⟨c.1, c.2, rfl, rfl, rfl⟩)) w hD
    · exact law_near_bad n d 2 rfl kn (of_any' L 2 0 0 (.inr ⟨c, rfl, rfl, rfl⟩)) w hD
end Go.Proofs.YtdccoebjcaemcaaRRRDoor
