/- The reference of law 3: the nearest place of a grid. -/
import Derived.Test.YtjemnjboopabpaaDoorFrac
import Derived.Test.YtjemnjboopabpaaDoorGridB
import Derived.WalkKit
import Derived.WalkSpells
import Derived.WalkLawsBesides
import Derived.Handy
import Derived.Lib.Hide
import Derived.Outline
namespace Go.Proofs.YtjemnjboopabpaaDoor
open Go.RowKit Go.Proofs.Flo Go.Proofs.Big Go.Proofs.Reg
set_option linter.unusedVariables false
set_option linter.unusedSimpArgs false
set_option maxRecDepth 100000
section
variable {ops : Array Oper} {a0 : Act} {w0 : World} {kind : Nat → Kind} {o : Oper}
theorem ok_lssZ {j : Nat} {t : Tmp} {r : Int} {b : Bool} {x : Option Tmp} {ty : TypeId} {ps : String} {af : Array Edge} {gd : Option (Nat × Bool)} (hj : dstAt ops j = some t) (hd : depB ⟨x, .binOp .lss 3 (.tmp t) (.const (.int .i64 0)) 3, ty, ps, af, gd⟩ j = true) (hk : kind j = keptK (.int .i64 r)) (hb : decide (r < 0) = b) :
    OpOk Tryd.prog ops a0 w0 kind ⟨x, .binOp .lss 3 (.tmp t) (.const (.int .i64 0)) 3, ty, ps, af, gd⟩ (constK (.bool b)) := by
  subst hb
  refine ok_const fun A L val w env facts hb => ?_
  have e1 := dep_kept env facts j t _ hd hj hk
  have e2 : A.eval (.const (.int .i64 0)) = .int .i64 0 := rfl
  simp only [execOp, e1, e2]
  simp [go_sem]
theorem ok_gtrZ {j : Nat} {t : Tmp} {r : Int} {b : Bool} {x : Option Tmp} {ty : TypeId} {ps : String} {af : Array Edge} {gd : Option (Nat × Bool)} (hj : dstAt ops j = some t) (hd : depB ⟨x, .binOp .gtr 3 (.tmp t) (.const (.int .i64 0)) 3, ty, ps, af, gd⟩ j = true) (hk : kind j = keptK (.int .i64 r)) (hb : decide (0 < r) = b) :
    OpOk Tryd.prog ops a0 w0 kind ⟨x, .binOp .gtr 3 (.tmp t) (.const (.int .i64 0)) 3, ty, ps, af, gd⟩ (constK (.bool b)) := by
  subst hb
  refine ok_const fun A L val w env facts hb => ?_
  have e1 := dep_kept env facts j t _ hd hj hk
  have e2 : A.eval (.const (.int .i64 0)) = .int .i64 0 := rfl
  simp only [execOp, e1, e2]
  simp [go_sem]
end
theorem run_callX {f : FuncId} {xs : Array Operand} {ts : Array TypeId} {x : Option Tmp} {ty : TypeId} {ps : String} {af : Array Edge} {gd : Option (Nat × Bool)} {A : Act} {w : World} {v : Value} (h : (callFunc f (xs.map A.eval)).run Tryd.prog w = .ok (.value v) w) :
    (execOp A.eval ⟨x, .call ⟨.value (.func f), xs, ts⟩, ty, ps, af, gd⟩).run Tryd.prog w = .ok (.value v) w := by
  have e : A.eval (.func f) = .func (.func f) #[] #[] := rfl
  simp only [execOp, resolve, e]
  simp [go_sem, h]
theorem grid3_bad (x : Nat) (den lo hi : Int) (h : den < 1 ∨ 1048576 < den ∨ hi < lo) (w : World) : Calls Tryd.prog 55 #[.int .u64 (x : Int), .int .i64 den, .int .i64 lo, .int .i64 hi] w fun e w' => e = .returned (.tuple #[.int .i64 0, .int .i64 1]) ∧ Below w.heap.size w w' := by
  have s : den < 1 ∨ (¬ den < 1 ∧ 1048576 < den) ∨ (¬ den < 1 ∧ ¬ 1048576 < den ∧ hi < lo) := by omega
  clear h
  rcases s with a | ⟨a, b⟩ | ⟨a, b, c⟩
  all_goals
    go_enter Tryd.func55, Tryd.ntmps55
    go_wp2_with fail
    go_returns
    exact ⟨rfl, Below.refl _ _⟩
theorem grid3_nan (x : Nat) (den lo hi : Int) (hx : x < 18446744073709551616) (h : ¬ (den < 1 ∨ 1048576 < den ∨ hi < lo)) (nn : nanB x = true) (w : World) : Calls Tryd.prog 55 #[.int .u64 (x : Int), .int .i64 den, .int .i64 lo, .int .i64 hi] w fun e w' => e = .returned (.tuple #[.int .i64 0, .int .i64 4]) ∧ Below w.heap.size w w' := by
  have K := Lib.hid (kind3_any x hx)
  rw [show kindN x = 1 by unfold kindN; rw [nn]; rfl, show kindS x = false by unfold kindS; rw [nn]; rfl] at K
  have a : ¬ den < 1 := by omega
  have b : ¬ 1048576 < den := by omega
  have c : ¬ hi < lo := by omega
  clear h nn hx
  go_enter Tryd.func55, Tryd.ntmps55
  go_wp2_with fail
  refine (K.out _).mono ?_
  rintro e w1 ⟨rfl, rfl⟩
  go_wp2_with fail
  go_returns
  exact ⟨rfl, Below.refl _ _⟩
theorem grid3_inf (x : Nat) (den lo hi : Int) (s : Bool) (hx : x < 18446744073709551616) (h : ¬ (den < 1 ∨ 1048576 < den ∨ hi < lo)) (nn : nanB x = false) (ii : infB x = true) (hs : sgn x = s) (w : World) : Calls Tryd.prog 55 #[.int .u64 (x : Int), .int .i64 den, .int .i64 lo, .int .i64 hi] w fun e w' => e = .returned (.tuple #[.int .i64 (if s then lo else hi), .int .i64 0]) ∧ Below w.heap.size w w' := by
  have K := Lib.hid (kind3_any x hx)
  rw [show kindN x = 2 by unfold kindN; rw [nn, ii]; rfl, show kindS x = s by unfold kindS; rw [nn, hs]; rfl] at K
  have a : ¬ den < 1 := by omega
  have b : ¬ 1048576 < den := by omega
  have c : ¬ hi < lo := by omega
  clear h nn hx ii hs
  cases s
  all_goals
    simp only [if_true, Bool.false_eq_true, if_false]
    go_enter Tryd.func55, Tryd.ntmps55
    go_wp2_with fail
    refine (K.out _).mono ?_
    rintro e w1 ⟨rfl, rfl⟩
    go_wp2_with fail
    go_returns
    exact ⟨rfl, Below.refl _ _⟩
/-- the boxes that the reference fills: the fraction, two -/
structure G3 (w wr : World) (b12 b13 b14 : Nat) (n1 : Bool) (a1 : Option Addr) (l1 c1 : Nat) (N : Int) (n2 : Bool) (a2 : Option Addr) (l2 c2 : Nat) (D : Int) (n3 : Bool) (a3 : Option Addr) (l3 c3 : Nat) : Prop where
  B : Below w.heap.size w wr
  x : BN wr b12 n1 a1 l1 c1 N
  y : BN wr b13 n2 a2 l2 c2 D
  z : BN wr b14 n3 a3 l3 c3 2
theorem G3.later {w wr w' : World} {b12 b13 b14 : Nat} {n1 : Bool} {a1 : Option Addr} {l1 c1 : Nat} {N : Int} {n2 : Bool} {a2 : Option Addr} {l2 c2 : Nat} {D : Int} {n3 : Bool} {a3 : Option Addr} {l3 c3 : Nat} (h : G3 w wr b12 b13 b14 n1 a1 l1 c1 N n2 a2 l2 c2 D n3 a3 l3 c3) (hb : Below wr.heap.size wr w') : G3 w w' b12 b13 b14 n1 a1 l1 c1 N n2 a2 l2 c2 D n3 a3 l3 c3 :=
  ⟨bel_tr0 h.B hb, h.x.later hb, h.y.later hb, h.z.later hb⟩
/-- how great the numbers of the grid are -/
theorem grid3_size {N D den : Int} (n0 : -P 65 < N) (n1 : N < P 65) (d0 : 1 ≤ D) (d1 : D < P 68) (e0 : 1 ≤ den) (e1 : den ≤ 1048576) : Sm N ∧ Sm D ∧ Sm (N * den) ∧ Sm (2 * (N * den)) ∧ Sm (2 * D) ∧ (-P 98 < 2 * (N * den) + D ∧ 2 * (N * den) + D < P 98) ∧ (0 < 2 * D ∧ 2 * D < P 98) := by
  have p65 := P_pos 65
  have h1 : -(P 65 * 1048576) ≤ N * den ∧ N * den ≤ P 65 * 1048576 := by
    have a : N * den ≤ P 65 * den := Int.mul_le_mul_of_nonneg_right (by omega) (by omega)
    have b : P 65 * den ≤ P 65 * 1048576 := Int.mul_le_mul_of_nonneg_left e1 (by omega)
    have c : -P 65 * den ≤ N * den := Int.mul_le_mul_of_nonneg_right (by omega) (by omega)
    rw [Int.neg_mul] at c
    omega
  have q : P 67 = 4294967296 * P 65 := by rw [P_succ 66, P_succ 65]; omega
  have q2 : P 69 = 65536 * P 68 := P_succ 68
  have q3 : P 68 = 65536 * P 67 := P_succ 67
  have m1 := P_mono (show 69 ≤ 98 by decide)
  have m2 := P_mono (show 98 ≤ 100 by decide)
  obtain ⟨X, hX⟩ : ∃ X, N * den = X := ⟨_, rfl⟩
  rw [hX] at h1 ⊢
  unfold Sm
  generalize P 65 = p at *
  generalize P 67 = p1 at *
  generalize P 68 = p2 at *
  generalize P 69 = p3 at *
  generalize P 98 = p4 at *
  generalize P 100 = p5 at *
  omega
theorem cmpI_lss (n m : Int) : decide (cmpI n m < 0) = decide (n < m) := by unfold cmpI; by_cases x : n < m <;> by_cases y : m < n <;> simp [x, y] <;> omega
theorem cmpI_gtr (n m : Int) : decide (0 < cmpI n m) = decide (m < n) := by unfold cmpI; by_cases x : n < m <;> by_cases y : m < n <;> simp [x, y] <;> omega
set_option maxHeartbeats 2000000 in
theorem grid3_fin (x : Nat) (den lo hi : Int) (hx : x < 18446744073709551616) (h : ¬ (den < 1 ∨ 1048576 < den ∨ hi < lo)) (hf : rung x < 9218868437227405312) (l0 : -9223372036854775808 ≤ lo) (l1 : lo ≤ 9223372036854775807) (h0 : -9223372036854775808 ≤ hi) (h1 : hi ≤ 9223372036854775807) (w : World) :
    Calls Tryd.prog 55 #[.int .u64 (x : Int), .int .i64 den, .int .i64 lo, .int .i64 hi] w fun e w' => e = .returned (.tuple #[.int .i64 (lmt (gridR (sval x) den) lo hi), .int .i64 0]) ∧ Below w.heap.size w w' := by
  have K := Lib.hid (kind3_any x hx)
  have FR := Lib.hid (fraction_any x hx hf)
  obtain ⟨s1, s2, s3, s4, _⟩ := frac_size x hf
  have ge := grid_alg (fracN x) den (sval x) U (fracD x) U_int (by omega) (frac_eq x hf)
  have a : ¬ den < 1 := by omega
  have b : ¬ 1048576 < den := by omega
  have c : ¬ hi < lo := by omega
  obtain ⟨z1, z2, z3, z4, z5, ⟨z6, z7⟩, z8, z9⟩ := grid3_size s1 s2 s3 s4 (show 1 ≤ den by omega) (show den ≤ 1048576 by omega)
  obtain ⟨N, hN⟩ : ∃ N, fracN x = N := ⟨_, rfl⟩
  obtain ⟨D, hD⟩ : ∃ D : Int, (fracD x : Int) = D := ⟨_, rfl⟩
  have GE : Hid (gridR (sval x) den = (2 * (N * den) + D) / (2 * D)) := Lib.hid (by rw [← hN, ← hD]; exact ge)
  rw [hN] at FR z1 z3 z4 z6 z7
  rw [hD] at FR z2 z5 z6 z7 z8 z9
  obtain ⟨R, hR⟩ : ∃ R, (2 * (N * den) + D) % (2 * D) = R := ⟨_, rfl⟩
  obtain ⟨Q, hQ⟩ : ∃ Q, (2 * (N * den) + D) / (2 * D) = Q := ⟨_, rfl⟩
  rw [GE.out, hQ]
  have HQ := Lib.hid hQ
  have HR := Lib.hid hR
  have Z6 := Lib.hid z6
  have Z7 := Lib.hid z7
  have Z8 := Lib.hid z8
  have Z9 := Lib.hid z9
  have SN := Lib.hid z1
  have SD := Lib.hid z2
  have SX := Lib.hid z3
  have SY := Lib.hid z4
  have SZ := Lib.hid z5
  have SQ : Hid (Sm Q) := Lib.hid (by
    have p0 := P_pos 98
    have e98 : P 99 = 65536 * P 98 := P_succ 98
    have e99 : P 100 = 65536 * P 99 := P_succ 99
    have f1 : -P 98 ≤ Q := by
      rw [← hQ, Int.le_ediv_iff_mul_le z8]
      have := Int.mul_le_mul_of_nonpos_left (show -P 98 ≤ 0 by omega) (show 1 ≤ 2 * D by omega)
      omega
    have f2 : Q < P 98 := by
      rw [← hQ, Int.ediv_lt_iff_lt_mul z8]
      have := Int.mul_le_mul_of_nonneg_left (show 1 ≤ 2 * D by omega) (show 0 ≤ P 98 by omega)
      omega
    exact ⟨by omega, by omega⟩)
  have SD2 := Lib.hid (show Sm den from sm_of den (by omega) (by omega))
  have S2 : Hid (Sm 2) := Lib.hid (sm_of 2 (by decide) (by decide))
  have SL := Lib.hid (show Sm lo from sm_of lo (by omega) (by omega))
  have SH := Lib.hid (show Sm hi from sm_of hi (by omega) (by omega))
  have O2 := Lib.hid (ofu_any 2 (by decide) (by decide))
  have OD := Lib.hid (bof_any den (by omega) (by omega))
  have OL := Lib.hid (bof_any lo l0 l1)
  have OH := Lib.hid (bof_any hi h0 h1)
  obtain ⟨L, hL⟩ : ∃ L, lmt Q lo hi = L := ⟨_, rfl⟩
  have LM : Hid ((Q < lo → L = lo) ∧ (¬ Q < lo → hi < Q → L = hi) ∧ (¬ Q < lo → ¬ hi < Q → L = Q)) := Lib.hid (by
    rw [← hL]; unfold lmt
    refine ⟨fun a => if_pos a, fun a b => by rw [if_neg a, if_pos b], fun a b => by rw [if_neg a, if_neg b]⟩)
  rw [hL]
  clear hL
  have kk : ∃ r : Int, kindN x = r ∧ (r == 1) = false ∧ (r == 2) = false := by
    unfold kindN
    rw [nan_num hf, inf_num hf]
    simp only [Bool.false_eq_true, if_false]
    split
    · exact ⟨3, rfl, rfl, rfl⟩
    · split
      · exact ⟨4, rfl, rfl, rfl⟩
      · exact ⟨5, rfl, rfl, rfl⟩
  obtain ⟨r, hr, r1, r2⟩ := kk
  rw [hr] at K
  obtain ⟨ks, hks⟩ : ∃ b, kindS x = b := ⟨_, rfl⟩
  rw [hks] at K
  clear hr hks hN hD hQ hR ge GE h hf hx s1 s2 s3 s4 z1 z2 z3 z4 z5 z6 z7 z8 z9
  go_enter Tryd.func55, Tryd.ntmps55
  go_wp2_with fail
  refine (K.out _).mono ?_
  rintro e w1 ⟨rfl, hw⟩
  obtain rfl := hw.symm
  go_wp2_with fail
  refine (FR.out _).mono ?_
  rintro e w2 ⟨n1, a1, l1', c1, n2, a2, l2, c2, rfl, v1, v2, hb⟩
  have K2 := Lib.hid hb
  have V1 := Lib.hid v1
  have V2 := Lib.hid v2
  clear v1 v2 hb
  go_wp2_with fail
  refine (O2.out _).mono ?_
  rintro e w3 ⟨n3, a3, l3, c3, rfl, v3, hb⟩
  have G : Hid (G3 w (w3.alloc (.cells #[.bool n3, .slice a3 l3 c3] 151)) w2.heap.size (w2.heap.size + 1) w3.heap.size n1 a1 l1' c1 N n2 a2 l2 c2 D n3 a3 l3 c3) := by
    have b2 := bel_tr0 (bel_new w2 (.cells #[.bool n1, .slice a1 l1' c1] 151)) (bel_new _ (.cells #[.bool n2, .slice a2 l2 c2] 151))
    have b3 := bel_tr0 hb (bel_new w3 (.cells #[.bool n3, .slice a3 l3 c3] 151))
    have x1 := (BV.new w2 n1 a1 l1' c1 151).alloc (.cells #[.bool n2, .slice a2 l2 c2] 151)
    have x2 := BV.new (w2.alloc (.cells #[.bool n1, .slice a1 l1' c1] 151)) n2 a2 l2 c2 151
    rw [World.size_alloc] at x2
    exact Lib.hid ⟨bel_tr0 (bel_tr0 K2.out b2) b3, ⟨x1.later b3, (V1.out.later b2).later b3⟩, ⟨x2.later b3, (V2.out.later b2).later b3⟩, ⟨BV.new w3 n3 a3 l3 c3 151, v3.later (bel_new _ _)⟩⟩
  have zz := hb.size
  simp only [World.size_alloc] at zz
  clear hb v3 K2 V1 V2
  go_wp2_with fail
  refine wp_region_kinds [constK (.agg #[.bool n3, .slice a3 l3 c3]), constK (.agg #[.bool n1, .slice a1 l1' c1]), constK (.int .i64 den), bigK den, bigK (N * den), bigK (2 * (N * den)), constK (.agg #[.bool n2, .slice a2 l2 c2]), bigK (2 * (N * den) + D), .box 151 9 7, .put 8 7]
    [some 49, some 50, some 51, some 52, some 53, some 54, some 55, some 56, some 15, none] (by kernel_rfl) (by kernel_rfl) (by kernel_rfl) (by kernel_rfl) (by kernel_rfl) (by kernel_rfl) (by kernel_rfl) (fun i o ho => ?_) (fun val4 w4 hf hne hb => ?_)
  · match i, ho with
    | 0, ho =>
      obtain rfl := Option.some.inj ho
      exact ok_load (by kernel_rfl) rfl G.out.z.B
    | 1, ho =>
      obtain rfl := Option.some.inj ho
      exact ok_load (by kernel_rfl) rfl G.out.x.B
    | 2, ho =>
      obtain rfl := Option.some.inj ho
      exact ok_arg (by kernel_rfl) rfl
    | 3, ho =>
      obtain rfl := Option.some.inj ho
      refine ok_big (fun _ _ => by kernel_rfl) fun A' L val w' env facts hb => ?_
      rw [map1, dep_const env facts 2 51 _ (by kernel_rfl) rfl rfl]
      exact OD.out w'
    | 4, ho =>
      obtain rfl := Option.some.inj ho
      refine ok_big (fun _ _ => by kernel_rfl) fun A' L val w env facts hb => ?_
      obtain ⟨ng, a4, l4, c4, e4, v4⟩ := dep_big env facts 3 52 _ (by kernel_rfl) rfl rfl
      have v2 := (G.out.x.later hb).V
      rw [map2, e4, dep_const env facts 1 50 _ (by kernel_rfl) rfl rfl]
      exact times_any n1 ng a1 a4 l1' c1 l4 c4 N den w v2 v4 (Nat.le_trans (Sm.le v2 SN.out) (by decide)) (Nat.le_trans (Sm.le v4 SD2.out) (by decide))
    | 5, ho =>
      obtain rfl := Option.some.inj ho
      refine ok_big (fun _ _ => by kernel_rfl) fun A' L val w env facts hb => ?_
      obtain ⟨ng, a4, l4, c4, e4, v4⟩ := dep_big env facts 4 53 _ (by kernel_rfl) rfl rfl
      have v2 := (G.out.z.later hb).V
      rw [map2, e4, dep_const env facts 0 49 _ (by kernel_rfl) rfl rfl]
      exact times_any n3 ng a3 a4 l3 c3 l4 c4 2 (N * den) w v2 v4 (Nat.le_trans (Sm.le v2 S2.out) (by decide)) (Nat.le_trans (Sm.le v4 SX.out) (by decide))
    | 6, ho =>
      obtain rfl := Option.some.inj ho
      exact ok_load (by kernel_rfl) rfl G.out.y.B
    | 7, ho =>
      obtain rfl := Option.some.inj ho
      refine ok_big (fun _ _ => by kernel_rfl) fun A' L val w env facts hb => ?_
      obtain ⟨ng, a4, l4, c4, e4, v4⟩ := dep_big env facts 5 54 _ (by kernel_rfl) rfl rfl
      have v2 := (G.out.y.later hb).V
      rw [map2, e4, dep_const env facts 6 55 _ (by kernel_rfl) rfl rfl]
      exact plus_any ng n2 a4 a2 l4 c4 l2 c2 (2 * (N * den)) D w v4 v2 (Nat.le_trans (Sm.le v4 SY.out) (by decide)) (Nat.le_trans (Sm.le v2 SD.out) (by decide))
    | 8, ho =>
      obtain rfl := Option.some.inj ho
      exact ok_box
    | 9, ho =>
      obtain rfl := Option.some.inj ho
      exact ok_put rfl rfl (by kernel_rfl) (by kernel_rfl) (fun L val w h => by obtain ⟨n, a, l, c, e, _⟩ := (h : BigC _ (val 7) _); exact ⟨n, a, l, c, e⟩)
    | n + 10, ho => simp at ho
  · have F7 : BigC (2 * (N * den) + D) (val4 7) w4 := hf 7 (by decide)
    obtain ⟨q, eB, q0, q1, BB⟩ : ∃ q, val4 8 = .pointer (some ⟨q, 0, none⟩) ∧ _ ≤ q ∧ q < w4.heap.size ∧ BoxAt w4 q (val4 7) := hf 8 (by decide)
    obtain ⟨nx, ax, lx, cx, ex, CX⟩ := BN.of BB F7
    have G4 := Lib.hid (G.out.later hb)
    have TX := Lib.hid CX
    simp only [puts2, Act.put, List.setIfInBounds_toArray, List.set_cons_zero, List.set_cons_succ, Nat.zero_add, Nat.reduceAdd]
    rw [eB]
    clear hf hne hb F7 BB CX eB ex q0 q1 G zz
    go_wp2_with fail
    refine wp_region_kinds [constK (.agg #[.bool nx, .slice ax lx cx]), constK (.agg #[.bool n3, .slice a3 l3 c3]), constK (.agg #[.bool n2, .slice a2 l2 c2]), bigK (2 * D), pairK Q R, moveK 4, fstK 5, sndK 5, .box 151 10 6, .box 151 11 7, .put 8 6, .put 9 7]
      [some 58, some 59, some 60, some 61, some 62, some 57, some 63, some 64, some 16, some 17, none, none] (by kernel_rfl) (by kernel_rfl) (by kernel_rfl) (by kernel_rfl) (by kernel_rfl) (by kernel_rfl) (by kernel_rfl) (fun i o ho => ?_) (fun val5 w5 hf hne hb => ?_)
    · match i, ho with
      | 0, ho =>
        obtain rfl := Option.some.inj ho
        exact ok_load (by kernel_rfl) rfl TX.out.B
      | 1, ho =>
        obtain rfl := Option.some.inj ho
        exact ok_load (by kernel_rfl) rfl G4.out.z.B
      | 2, ho =>
        obtain rfl := Option.some.inj ho
        exact ok_load (by kernel_rfl) rfl G4.out.y.B
      | 3, ho =>
        obtain rfl := Option.some.inj ho
        refine ok_big (fun _ _ => by kernel_rfl) fun A' L val w env facts hb => ?_
        have v2 := (G4.out.z.later hb).V
        have v3 := (G4.out.y.later hb).V
        rw [map2, dep_const env facts 1 59 _ (by kernel_rfl) rfl rfl, dep_const env facts 2 60 _ (by kernel_rfl) rfl rfl]
        exact times_any n3 n2 a3 a2 l3 c3 l2 c2 2 D w v2 v3 (Nat.le_trans (Sm.le v2 S2.out) (by decide)) (Nat.le_trans (Sm.le v3 SD.out) (by decide))
      | 4, ho =>
        obtain rfl := Option.some.inj ho
        refine ok_pair (fun _ _ => by kernel_rfl) fun A' L val w env facts hb => ?_
        obtain ⟨ng, a4, l4, c4, e4, v4⟩ := dep_big env facts 3 61 _ (by kernel_rfl) rfl rfl
        have v2 := (TX.out.later hb).V
        have hn := v4.hng
        rw [decide_eq_false (by have := Z8.out; omega)] at hn
        subst hn
        rw [map2, e4, dep_const env facts 0 58 _ (by kernel_rfl) rfl rfl, ← HQ.out, ← HR.out]
        exact bdown_pos nx ax a4 lx cx l4 c4 (2 * (N * den) + D) (2 * D) w v2 v4 Z6.out Z7.out Z8.out Z9.out
      | 5, ho =>
        obtain rfl := Option.some.inj ho
        exact ok_move rfl (by kernel_rfl) rfl
      | 6, ho =>
        obtain rfl := Option.some.inj ho
        exact ok_fst rfl (by kernel_rfl) rfl
      | 7, ho =>
        obtain rfl := Option.some.inj ho
        exact ok_snd rfl (by kernel_rfl) rfl
      | 8, ho =>
        obtain rfl := Option.some.inj ho
        exact ok_box
      | 9, ho =>
        obtain rfl := Option.some.inj ho
        exact ok_box
      | 10, ho =>
        obtain rfl := Option.some.inj ho
        exact ok_put rfl rfl (by kernel_rfl) (by kernel_rfl) (fun L val w h => (h : IsBig (val 6) ∧ _).1)
      | 11, ho =>
        obtain rfl := Option.some.inj ho
        exact ok_put rfl rfl (by kernel_rfl) (by kernel_rfl) (fun L val w h => (h : IsBig (val 7) ∧ _).1)
      | n + 12, ho => simp at ho
    · have F4 : PairC Q R (val5 4) w5 := hf 4 (by decide)
      have F5 : val5 5 = val5 4 ∧ _ := hf 5 (by decide)
      have F6 : _ ∧ ∃ q, val5 5 = .tuple #[val5 6, q] := hf 6 (by decide)
      obtain ⟨qB, eB, q0, q1, BB⟩ : ∃ q, val5 8 = .pointer (some ⟨q, 0, none⟩) ∧ _ ≤ q ∧ q < w5.heap.size ∧ BoxAt w5 q (val5 6) := hf 8 (by decide)
      obtain ⟨nB, aB, lB, cB, e10, CB⟩ := BN.of BB (pair_fst F4 F5.1 F6.2)
      have TB := Lib.hid CB
      have K5 := Lib.hid (bel_tr0 G4.out.B hb)
      simp only [puts2, Act.put, List.setIfInBounds_toArray, List.set_cons_zero, List.set_cons_succ, Nat.zero_add, Nat.reduceAdd]
      rw [eB]
      clear hf hne hb F4 F5 F6 BB CB eB e10 q0 q1 G4 TX HQ HR
      go_wp2_with fail
      refine wp_region_kinds [constK (.agg #[.bool nB, .slice aB lB cB]), constK (.int .i64 lo), bigK lo, keptK (.int .i64 (cmpI Q lo)), constK (.bool (decide (Q < lo)))]
        [some 65, some 66, some 67, some 68, some 69] (by kernel_rfl) (by kernel_rfl) (by kernel_rfl) (by kernel_rfl) (by kernel_rfl) (by kernel_rfl) (by kernel_rfl) (fun i o ho => ?_) (fun val6 w6 hf hne hb => ?_)
      · match i, ho with
        | 0, ho =>
          obtain rfl := Option.some.inj ho
          exact ok_load (by kernel_rfl) rfl TB.out.B
        | 1, ho =>
          obtain rfl := Option.some.inj ho
          exact ok_arg (by kernel_rfl) rfl
        | 2, ho =>
          obtain rfl := Option.some.inj ho
          refine ok_big (fun _ _ => by kernel_rfl) fun A' L val w env facts hb => ?_
          rw [map1, dep_const env facts 1 66 _ (by kernel_rfl) rfl rfl]
          exact OL.out w
        | 3, ho =>
          obtain rfl := Option.some.inj ho
          refine ok_kept (fun _ _ => by kernel_rfl) fun A' L val w env facts hb => ?_
          obtain ⟨ng, a4, l4, c4, e4, v4⟩ := dep_big env facts 2 67 _ (by kernel_rfl) rfl rfl
          have v2 := (TB.out.later hb).V
          rw [map2, e4, dep_const env facts 0 65 _ (by kernel_rfl) rfl rfl]
          exact bcmp_any nB ng aB a4 lB cB l4 c4 Q lo (cmpI Q lo) w v2 v4 (Nat.le_trans (Sm.le v2 SQ.out) (by decide)) (Nat.le_trans (Sm.le v4 SL.out) (by decide)) (Lib.hid rfl)
        | 4, ho =>
          obtain rfl := Option.some.inj ho
          exact ok_lssZ (j := 3) rfl (by kernel_rfl) rfl (cmpI_lss _ _)
        | n + 5, ho => simp at ho
      · have F4 : val6 4 = .bool (decide (Q < lo)) := hf 4 (by decide)
        have TB := Lib.hid (TB.out.later hb)
        have K6 := Lib.hid (bel_tr0 K5.out hb)
        simp only [puts2, Act.put, List.setIfInBounds_toArray, List.set_cons_zero, List.set_cons_succ, Nat.zero_add, Nat.reduceAdd]
        rw [F4]
        clear hf hne hb F4 K5
        by_cases q1 : Q < lo
        · have EL := Lib.hid (LM.out.1 (by omega))
          rw [decide_eq_true q1]
          clear LM q1
          go_wp2_with fail
          go_returns
          exact ⟨by rw [EL.out]; rfl, K6.out⟩
        · rw [decide_eq_false q1]
          go_wp2_with fail
          refine wp_region_kinds [constK (.agg #[.bool nB, .slice aB lB cB]), constK (.int .i64 hi), bigK hi, keptK (.int .i64 (cmpI Q hi)), constK (.bool (decide (hi < Q)))]
            [some 71, some 72, some 73, some 74, some 75] (by kernel_rfl) (by kernel_rfl) (by kernel_rfl) (by kernel_rfl) (by kernel_rfl) (by kernel_rfl) (by kernel_rfl) (fun i o ho => ?_) (fun val7 w7 hf hne hb => ?_)
          · match i, ho with
            | 0, ho =>
              obtain rfl := Option.some.inj ho
              exact ok_load (by kernel_rfl) rfl TB.out.B
            | 1, ho =>
              obtain rfl := Option.some.inj ho
              exact ok_arg (by kernel_rfl) rfl
            | 2, ho =>
              obtain rfl := Option.some.inj ho
              refine ok_big (fun _ _ => by kernel_rfl) fun A' L val w env facts hb => ?_
              rw [map1, dep_const env facts 1 72 _ (by kernel_rfl) rfl rfl]
              exact OH.out w
            | 3, ho =>
              obtain rfl := Option.some.inj ho
              refine ok_kept (fun _ _ => by kernel_rfl) fun A' L val w env facts hb => ?_
              obtain ⟨ng, a4, l4, c4, e4, v4⟩ := dep_big env facts 2 73 _ (by kernel_rfl) rfl rfl
              have v2 := (TB.out.later hb).V
              rw [map2, e4, dep_const env facts 0 71 _ (by kernel_rfl) rfl rfl]
              exact bcmp_any nB ng aB a4 lB cB l4 c4 Q hi (cmpI Q hi) w v2 v4 (Nat.le_trans (Sm.le v2 SQ.out) (by decide)) (Nat.le_trans (Sm.le v4 SH.out) (by decide)) (Lib.hid rfl)
            | 4, ho =>
              obtain rfl := Option.some.inj ho
              exact ok_gtrZ (j := 3) rfl (by kernel_rfl) rfl (cmpI_gtr _ _)
            | n + 5, ho => simp at ho
          · have F4 : val7 4 = .bool (decide (hi < Q)) := hf 4 (by decide)
            have TB := Lib.hid (TB.out.later hb)
            have K7 := Lib.hid (bel_tr0 K6.out hb)
            simp only [puts2, Act.put, List.setIfInBounds_toArray, List.set_cons_zero, List.set_cons_succ, Nat.zero_add, Nat.reduceAdd]
            rw [F4]
            clear hf hne hb F4 K6
            by_cases q2 : hi < Q
            · have EL := Lib.hid (LM.out.2.1 (by omega) (by omega))
              rw [decide_eq_true q2]
              clear LM q1 q2
              go_wp2_with fail
              go_returns
              exact ⟨by rw [EL.out]; rfl, K7.out⟩
            · rw [decide_eq_false q2]
              have EL := Lib.hid (LM.out.2.2 (by omega) (by omega))
              have BI := Lib.hid (fun (w : World) (v : BigV w nB aB lB cB Q) => bint_any nB aB lB cB Q w v (Nat.le_trans (Sm.le v SQ.out) (by decide)) true Q (Lib.hid (decide_eq_true (by omega)).symm) (Lib.hid (by rw [if_pos (by omega)])))
              obtain ⟨g0, g1, _, _⟩ := TB.out.B
              clear LM q1 q2
              go_wp2_with fail
              refine (BI.out _ TB.out.V).mono ?_
              rintro e w8 ⟨rfl, hb8⟩
              have K8 := Lib.hid (bel_tr0 K7.out hb8)
              clear hb8
              go_wp2_with fail
              go_returns
              exact ⟨by rw [EL.out]; rfl, K8.out⟩
theorem r3grid_any (x : Nat) (den lo hi : Int) (hx : x < 18446744073709551616) (l0 : -9223372036854775808 ≤ lo) (l1 : lo ≤ 9223372036854775807) (h0 : -9223372036854775808 ≤ hi) (h1 : hi ≤ 9223372036854775807) (w : World) :
    Calls Tryd.prog 55 #[.int .u64 (x : Int), .int .i64 den, .int .i64 lo, .int .i64 hi] w fun e w' => e = .returned (.tuple #[.int .i64 (gridN x den lo hi), .int .i64 (gridE x den lo hi)]) ∧ Below w.heap.size w w' := by
  unfold gridN gridE
  by_cases b : den < 1 ∨ 1048576 < den ∨ hi < lo
  · rw [if_pos b, if_pos b]
    exact grid3_bad x den lo hi b w
  · rw [if_neg b, if_neg b]
    cases nn : nanB x
    · simp only [Bool.false_eq_true, if_false]
      have nr := of_decide_eq_false nn
      cases ii : infB x
      · simp only [Bool.false_eq_true, if_false]
        exact grid3_fin x den lo hi hx b (by have := of_decide_eq_false ii; omega) l0 l1 h0 h1 w
      · simp only [if_true]
        exact grid3_inf x den lo hi (sgn x) hx b nn ii rfl w
    · simp only [if_true]
      exact grid3_nan x den lo hi hx b nn w
end Go.Proofs.YtjemnjboopabpaaDoor
