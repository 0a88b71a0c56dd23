/- Law 3: how far a float is from a ratio. -/
import Derived.Test.YtdccoebjcaemcaaRRRDoorFrac
import Derived.WalkKit
import Derived.WalkSpells
import Derived.WalkLawsBesides
import Derived.Handy
import Derived.Lib.Hide
import Derived.Outline
namespace Go.Proofs.YtdccoebjcaemcaaRRRDoor
open Go.RowKit Go.Proofs.Flo Go.Proofs.Big Go.Proofs.Reg
set_option linter.unusedVariables false
set_option linter.unusedSimpArgs false
set_option maxRecDepth 100000
section
variable {ops : Array Oper} {a0 : Act} {w0 : World} {kind : Nat → Kind} {o : Oper}
theorem ok_fieldR0 {t : Tmp} {q : Nat} {x : Option Tmp} {ty : TypeId} {ps : String} {af : Array Edge} {gd : Option (Nat × Bool)} (ht : (ops.all fun o => o.dst != some t) = true) (he : a0.eval (.tmp t) = .pointer (some ⟨q, 0, none⟩)) :
    OpOk Tryd.prog ops a0 w0 kind ⟨x, .fieldAddr 25 (.tmp t) 0, ty, ps, af, gd⟩ (constK (.pointer (some ⟨q, 0, none⟩))) := by
  refine ok_const fun A L val w env facts hb => ?_
  have e1 := env.out t ht
  rw [he] at e1
  simp only [execOp, e1]
  simp [go_sem]
theorem ok_fieldR1 {t : Tmp} {q : Nat} {x : Option Tmp} {ty : TypeId} {ps : String} {af : Array Edge} {gd : Option (Nat × Bool)} (ht : (ops.all fun o => o.dst != some t) = true) (he : a0.eval (.tmp t) = .pointer (some ⟨q, 0, none⟩)) :
    OpOk Tryd.prog ops a0 w0 kind ⟨x, .fieldAddr 25 (.tmp t) 1, ty, ps, af, gd⟩ (constK (.pointer (some ⟨q, 1, none⟩))) := by
  refine ok_const fun A L val w env facts hb => ?_
  have e1 := env.out t ht
  rw [he] at e1
  simp only [execOp, e1]
  simp [go_sem]
end
/-- how far apart, and over what -/
def apX (x : Nat) (N D : Int) : Int := if fracN x * D + -(N * fracD x) < 0 then -(fracN x * D + -(N * fracD x)) else fracN x * D + -(N * fracD x)
theorem apart_size {n d N D : Int} (n0 : -P 65 < n) (n1 : n < P 65) (d0 : 1 ≤ d) (d1 : d < P 68) (a0 : -9223372036854775808 ≤ N) (a1 : N ≤ 9223372036854775807) (b0 : 1 ≤ D) (b1 : D ≤ 9223372036854775807) : Sm n ∧ Sm d ∧ Sm N ∧ Sm D ∧ (-P 72 < n * D ∧ n * D < P 72) ∧ (-P 72 < N * d ∧ N * d < P 72) ∧ (0 < d * D ∧ d * D < P 72) ∧ Sm (n * D) ∧ Sm (N * d) ∧ Sm (d * D) ∧ Sm (-(N * d)) ∧ (-P 73 < n * D + -(N * d) ∧ n * D + -(N * d) < P 73) := by
  have p := P_pos 65
  have p8 := P_pos 68
  have e4 : P 72 = P 68 * 18446744073709551616 := by rw [show (72 : Nat) = 68 + 4 by decide, P_add]; rfl
  have e73 : P 73 = 65536 * P 72 := P_succ 72
  have m1 := P_mono (show 65 ≤ 68 by decide)
  have m2 := P_mono (show 73 ≤ 100 by decide)
  have h1 : n * D ≤ P 65 * 9223372036854775807 := Int.le_trans (Int.mul_le_mul_of_nonneg_right (show n ≤ P 65 by omega) (by omega)) (Int.mul_le_mul_of_nonneg_left b1 (by omega))
  have h2 : -(P 65 * 9223372036854775807) ≤ n * D := by
    have := Int.le_trans (Int.mul_le_mul_of_nonneg_right (show -n ≤ P 65 by omega) (show 0 ≤ D by omega)) (Int.mul_le_mul_of_nonneg_left b1 (show 0 ≤ P 65 by omega))
    rw [Int.neg_mul] at this
    omega
  have h3 : N * d ≤ 9223372036854775808 * P 68 := Int.le_trans (Int.mul_le_mul_of_nonneg_right (show N ≤ 9223372036854775808 by omega) (by omega)) (Int.mul_le_mul_of_nonneg_left (show d ≤ P 68 by omega) (by omega))
  have h4 : -(9223372036854775808 * P 68) ≤ N * d := by
    have := Int.le_trans (Int.mul_le_mul_of_nonneg_right (show -N ≤ 9223372036854775808 by omega) (show 0 ≤ d by omega)) (Int.mul_le_mul_of_nonneg_left (show d ≤ P 68 by omega) (show (0 : Int) ≤ 9223372036854775808 by omega))
    rw [Int.neg_mul] at this
    omega
  have h5 : d * D ≤ P 68 * 9223372036854775807 := Int.le_trans (Int.mul_le_mul_of_nonneg_right (show d ≤ P 68 by omega) (by omega)) (Int.mul_le_mul_of_nonneg_left b1 (by omega))
  have h6 : 0 < d * D := Int.mul_pos (by omega) (by omega)
  generalize n * D = X at *
  generalize N * d = Y at *
  generalize d * D = Z at *
  have c1 : 9223372036854775808 < P 72 := by omega
  unfold Sm
  generalize P 65 = p1 at *
  generalize P 68 = p2 at *
  generalize P 72 = p3 at *
  generalize P 73 = p4 at *
  generalize P 100 = p5 at *
  omega
/-- the boxes that apart fills: the ratio, the results, the fraction -/
structure Ap (w wr : World) (q6 q7 : Nat) (N D : Int) (n1 : Bool) (a1 : Option Addr) (l1 c1 : Nat) (n : Int) (n2 : Bool) (a2 : Option Addr) (l2 c2 : Nat) (d : Int) : Prop where
  B : Below w.heap.size w wr
  T : Tab wr [(w.heap.size, [.int .i64 N, .int .i64 D]), (w.heap.size + 1, [.bool false, .slice none 0 0]), (w.heap.size + 1 + 1, [.bool false, .slice none 0 0]), (q6, [.bool n1, .slice a1 l1 c1]), (q7, [.bool n2, .slice a2 l2 c2])]
  V1 : BigV wr n1 a1 l1 c1 n
  V2 : BigV wr n2 a2 l2 c2 d
theorem Ap.later {w wr w' : World} {q6 q7 : Nat} {N D : Int} {n1 : Bool} {a1 : Option Addr} {l1 c1 : Nat} {n : Int} {n2 : Bool} {a2 : Option Addr} {l2 c2 : Nat} {d : Int} (h : Ap w wr q6 q7 N D n1 a1 l1 c1 n n2 a2 l2 c2 d) (hb : Below wr.heap.size wr w') : Ap w w' q6 q7 N D n1 a1 l1 c1 n n2 a2 l2 c2 d :=
  ⟨bel_tr0 h.B hb, h.T.later hb, h.V1.later hb, h.V2.later hb⟩
theorem Ap.x {w wr : World} {q6 q7 : Nat} {N D : Int} {n1 : Bool} {a1 : Option Addr} {l1 c1 : Nat} {n : Int} {n2 : Bool} {a2 : Option Addr} {l2 c2 : Nat} {d : Int} (h : Ap w wr q6 q7 N D n1 a1 l1 c1 n n2 a2 l2 c2 d) : BN wr q6 n1 a1 l1 c1 n :=
  ⟨⟨h.T.cell 3 0 rfl rfl, h.T.cell 3 1 rfl rfl, h.T.froz 3 0 rfl rfl, h.T.froz 3 1 rfl rfl⟩, h.V1⟩
theorem Ap.y {w wr : World} {q6 q7 : Nat} {N D : Int} {n1 : Bool} {a1 : Option Addr} {l1 c1 : Nat} {n : Int} {n2 : Bool} {a2 : Option Addr} {l2 c2 : Nat} {d : Int} (h : Ap w wr q6 q7 N D n1 a1 l1 c1 n n2 a2 l2 c2 d) : BN wr q7 n2 a2 l2 c2 d :=
  ⟨⟨h.T.cell 4 0 rfl rfl, h.T.cell 4 1 rfl rfl, h.T.froz 4 0 rfl rfl, h.T.froz 4 1 rfl rfl⟩, h.V2⟩
theorem bigV_set1 {w : World} {ng : Bool} {a : Option Addr} {l c : Nat} {n : Int} (h : BigV w ng a l c n) {p : Addr} {u : Value} (hp : w.cell? p = some u) (hu : ∀ x, u ≠ .int .u64 x) (v : Value) : BigV (w.setCell p v) ng a l c n := by
  obtain ⟨xs, r, o, cn, hv⟩ := h.rd
  exact ⟨⟨xs, r.set hp hu v, o, cn, hv⟩, h.hng⟩
/-- behind the distance: the boxes, and the distance's own -/
structure Ap2 (w wr : World) (q6 q7 q8 : Nat) (N D : Int) (n1 : Bool) (a1 : Option Addr) (l1 c1 : Nat) (n2 : Bool) (a2 : Option Addr) (l2 c2 : Nat) (d : Int) (ax : Option Addr) (lx cx : Nat) (X : Int) (r1 r2 : List Value) : Prop where
  B : Below w.heap.size w wr
  T : Tab wr [(w.heap.size, [.int .i64 N, .int .i64 D]), (w.heap.size + 1, r1), (w.heap.size + 1 + 1, r2), (q6, [.bool n1, .slice a1 l1 c1]), (q7, [.bool n2, .slice a2 l2 c2]), (q8, [.bool false, .slice ax lx cx])]
  V2 : BigV wr n2 a2 l2 c2 d
  X : BigV wr false ax lx cx X
theorem Ap2.later {w wr w' : World} {q6 q7 q8 : Nat} {N D : Int} {n1 : Bool} {a1 : Option Addr} {l1 c1 : Nat} {n2 : Bool} {a2 : Option Addr} {l2 c2 : Nat} {d : Int} {ax : Option Addr} {lx cx : Nat} {X : Int} {r1 r2 : List Value} (h : Ap2 w wr q6 q7 q8 N D n1 a1 l1 c1 n2 a2 l2 c2 d ax lx cx X r1 r2) (hb : Below wr.heap.size wr w') : Ap2 w w' q6 q7 q8 N D n1 a1 l1 c1 n2 a2 l2 c2 d ax lx cx X r1 r2 :=
  ⟨bel_tr0 h.B hb, h.T.later hb, h.V2.later hb, h.X.later hb⟩
set_option maxHeartbeats 2000000 in
theorem apart_any (x : Nat) (N D : Int) (hx : x < 18446744073709551616) (hf : rung x < 9218868437227405312) (a0 : -9223372036854775808 ≤ N) (a1 : N ≤ 9223372036854775807) (b0 : 1 ≤ D) (b1 : D ≤ 9223372036854775807) (w : World) :
    Calls Tryd.prog 17 #[.int .u64 (x : Int), .agg #[.int .i64 N, .int .i64 D]] w (RetBig2 w (apX x N D) (fracD x * D)) := by
  obtain ⟨s1, s2, s3, s4, _⟩ := frac_size x hf
  have AX : Hid (apX x N D = if fracN x * D + -(N * fracD x) < 0 then -(fracN x * D + -(N * fracD x)) else fracN x * D + -(N * fracD x)) := Lib.hid rfl
  have FR := Lib.hid (fraction_any x hx hf)
  obtain ⟨n, hn⟩ : ∃ N, fracN x = N := ⟨_, rfl⟩
  obtain ⟨d, hd⟩ : ∃ D : Int, (fracD x : Int) = D := ⟨_, rfl⟩
  rw [hn, hd] at FR AX
  rw [hn] at s1 s2
  rw [hd] at s3 s4 ⊢
  obtain ⟨z1, z2, z3, z4, _, _, _, z5, z6, z7, z8, _⟩ := apart_size s1 s2 s3 s4 a0 a1 b0 b1
  obtain ⟨X, hX⟩ : ∃ X, apX x N D = X := ⟨_, rfl⟩
  rw [hX] at AX ⊢
  obtain ⟨Z, hZ⟩ : ∃ X, d * D = X := ⟨_, rfl⟩
  have HZ := Lib.hid hZ
  rw [hZ] at z7 ⊢
  have Sn := Lib.hid z1
  have Sd := Lib.hid z2
  have SN := Lib.hid z3
  have SD := Lib.hid z4
  have SX := Lib.hid z5
  have SY := Lib.hid z6
  have SW := Lib.hid z8
  have ON := Lib.hid (bof_any N a0 a1)
  have OD := Lib.hid (bof_any D (by omega) (by omega))
  clear s1 s2 s3 s4 z1 z2 z3 z4 z5 z6 z7 z8 hn hd hX hZ hf hx
  have T0 : Hid (Tab (((w.alloc (.cells #[.int .i64 N, .int .i64 D] 25)).alloc (.cells #[.bool false, .slice none 0 0] 41)).alloc (.cells #[.bool false, .slice none 0 0] 41)) [(w.heap.size, [.int .i64 N, .int .i64 D]), (w.heap.size + 1, [.bool false, .slice none 0 0]), (w.heap.size + 1 + 1, [.bool false, .slice none 0 0])]) := by
    have t1 := (Tab.nil w).new [.int .i64 N, .int .i64 D] 25
    have t2 := (Tab.nil (w.alloc (.cells #[.int .i64 N, .int .i64 D] 25))).new [.bool false, .slice none 0 0] 41
    rw [World.size_alloc] at t2
    have t3 := (Tab.nil ((w.alloc (.cells #[.int .i64 N, .int .i64 D] 25)).alloc (.cells #[.bool false, .slice none 0 0] 41))).new [.bool false, .slice none 0 0] 41
    rw [World.size_alloc, World.size_alloc] at t3
    have u1 := (t1.alloc (.cells #[.bool false, .slice none 0 0] 41)).alloc (.cells #[.bool false, .slice none 0 0] 41)
    have u2 := t2.alloc (.cells #[.bool false, .slice none 0 0] 41)
    exact Lib.hid (Tab.cons (Tab.cons (Tab.cons (Tab.nil _) fun i v hi => ⟨t3.cell 0 i rfl hi, t3.froz 0 i rfl hi⟩) fun i v hi => ⟨u2.cell 0 i rfl hi, u2.froz 0 i rfl hi⟩) fun i v hi => ⟨u1.cell 0 i rfl hi, u1.froz 0 i rfl hi⟩)
  go_enter Tryd.func17, Tryd.ntmps17
  go_wp2_with fail
  refine (FR.out _).mono ?_
  rintro e w2 ⟨n1, a1', l1, c1, n2, a2, l2, c2, rfl, v1, v2, hb⟩
  have z2 := hb.size
  simp only [World.size_alloc] at z2
  have A0 : Hid (Ap w ((w2.alloc (.cells #[.bool n1, .slice a1' l1 c1] 41)).alloc (.cells #[.bool n2, .slice a2 l2 c2] 41)) w2.heap.size (w2.heap.size + 1) N D n1 a1' l1 c1 n n2 a2 l2 c2 d) := by
    have b2 := bel_tr0 (bel_new w2 (.cells #[.bool n1, .slice a1' l1 c1] 41)) (bel_new _ (.cells #[.bool n2, .slice a2 l2 c2] 41))
    have t0 := (T0.out.later hb).later b2
    have x1 := ((Tab.nil w2).new [.bool n1, .slice a1' l1 c1] 41).alloc (.cells #[.bool n2, .slice a2 l2 c2] 41)
    have x2 := (Tab.nil (w2.alloc (.cells #[.bool n1, .slice a1' l1 c1] 41))).new [.bool n2, .slice a2 l2 c2] 41
    rw [World.size_alloc] at x2
    refine Lib.hid ⟨bel_tr0 (bel_tr0 (show Below w.heap.size w _ by go_grown) hb) b2, ?_, v1.later b2, v2.later b2⟩
    exact Tab.cons (Tab.cons (Tab.cons (Tab.cons (Tab.cons (Tab.nil _) fun i v hi => ⟨x2.cell 0 i rfl hi, x2.froz 0 i rfl hi⟩) fun i v hi => ⟨x1.cell 0 i rfl hi, x1.froz 0 i rfl hi⟩) fun i v hi => ⟨t0.cell 2 i rfl hi, t0.froz 2 i rfl hi⟩) fun i v hi => ⟨t0.cell 1 i rfl hi, t0.froz 1 i rfl hi⟩) fun i v hi => ⟨t0.cell 0 i rfl hi, t0.froz 0 i rfl hi⟩
  clear v1 v2 hb T0
  go_wp2_with fail
  refine wp_region_kinds [constK (.agg #[.bool n1, .slice a1' l1 c1]), constK (.pointer (some ⟨w.heap.size, 1, none⟩)), constK (.int .i64 D), bigK D, bigK (n * D), constK (.pointer (some ⟨w.heap.size, 0, none⟩)), constK (.int .i64 N), bigK N, constK (.agg #[.bool n2, .slice a2 l2 c2]), bigK (N * d), bigK (-(N * d)), bigK (n * D + -(N * d)), .box 41 13 11, .put 12 11]
    [some 14, some 15, some 16, some 17, some 18, some 19, some 20, some 21, some 22, some 23, some 24, some 25, some 8, none] (by kernel_rfl) (by kernel_rfl) (by kernel_rfl) (by kernel_rfl) (by kernel_rfl) (by kernel_rfl) (by kernel_rfl) (fun i o ho => ?_) (fun val4 w4 hf hne hb => ?_)
  · match i, ho with
    | 0, ho =>
      obtain rfl := Option.some.inj ho
      exact ok_load (by kernel_rfl) rfl A0.out.x.B
    | 1, ho =>
      obtain rfl := Option.some.inj ho
      exact ok_fieldR1 (by kernel_rfl) rfl
    | 2, ho =>
      obtain rfl := Option.some.inj ho
      exact ok_cell64 (j := 1) rfl (by kernel_rfl) rfl (A0.out.T.cell 0 1 rfl rfl)
    | 3, ho =>
      obtain rfl := Option.some.inj ho
      refine ok_big (fun _ _ => by kernel_rfl) fun A' L val w' env facts hb => ?_
      rw [map1, dep_const env facts 2 16 _ (by kernel_rfl) rfl rfl]
      exact OD.out w'
    | 4, ho =>
      obtain rfl := Option.some.inj ho
      refine ok_big (fun _ _ => by kernel_rfl) fun A' L val w' env facts hb => ?_
      obtain ⟨ng, a4, l4, c4, e4, v4⟩ := dep_big env facts 3 17 _ (by kernel_rfl) rfl rfl
      have v2 := (A0.out.x.later hb).V
      rw [map2, e4, dep_const env facts 0 14 _ (by kernel_rfl) rfl rfl]
      exact times_any n1 ng a1' a4 l1 c1 l4 c4 n D w' v2 v4 (Nat.le_trans (Sm.le v2 Sn.out) (by decide)) (Nat.le_trans (Sm.le v4 SD.out) (by decide))
    | 5, ho =>
      obtain rfl := Option.some.inj ho
      exact ok_fieldR0 (by kernel_rfl) rfl
    | 6, ho =>
      obtain rfl := Option.some.inj ho
      exact ok_cell64 (j := 5) rfl (by kernel_rfl) rfl (A0.out.T.cell 0 0 rfl rfl)
    | 7, ho =>
      obtain rfl := Option.some.inj ho
      refine ok_big (fun _ _ => by kernel_rfl) fun A' L val w' env facts hb => ?_
      rw [map1, dep_const env facts 6 20 _ (by kernel_rfl) rfl rfl]
      exact ON.out w'
    | 8, ho =>
      obtain rfl := Option.some.inj ho
      exact ok_load (by kernel_rfl) rfl A0.out.y.B
    | 9, ho =>
      obtain rfl := Option.some.inj ho
      refine ok_big (fun _ _ => by kernel_rfl) fun A' L val w' env facts hb => ?_
      obtain ⟨ng, a4, l4, c4, e4, v4⟩ := dep_big env facts 7 21 _ (by kernel_rfl) rfl rfl
      have v2 := (A0.out.y.later hb).V
      rw [map2, e4, dep_const env facts 8 22 _ (by kernel_rfl) rfl rfl]
      exact times_any ng n2 a4 a2 l4 c4 l2 c2 N d w' v4 v2 (Nat.le_trans (Sm.le v4 SN.out) (by decide)) (Nat.le_trans (Sm.le v2 Sd.out) (by decide))
    | 10, ho =>
      obtain rfl := Option.some.inj ho
      refine ok_big (fun _ _ => by kernel_rfl) fun A' L val w' env facts hb => ?_
      obtain ⟨ng, a4, l4, c4, e4, v4⟩ := dep_big env facts 9 23 _ (by kernel_rfl) rfl rfl
      rw [map1, e4]
      exact minus_any ng a4 l4 c4 (N * d) w' v4 (Nat.le_trans (Sm.le v4 SY.out) (by decide))
    | 11, ho =>
      obtain rfl := Option.some.inj ho
      refine ok_big (fun _ _ => by kernel_rfl) fun A' L val w' env facts hb => ?_
      obtain ⟨ng, a4, l4, c4, e4, v4⟩ := dep_big env facts 4 18 _ (by kernel_rfl) rfl rfl
      obtain ⟨ng5, a5, l5, c5, e5, v5⟩ := dep_big env facts 10 24 _ (by kernel_rfl) rfl rfl
      rw [map2, e4, e5]
      exact plus_any ng ng5 a4 a5 l4 c4 l5 c5 (n * D) (-(N * d)) w' v4 v5 (Nat.le_trans (Sm.le v4 SX.out) (by decide)) (Nat.le_trans (Sm.le v5 SW.out) (by decide))
    | 12, ho =>
      obtain rfl := Option.some.inj ho
      exact ok_box
    | 13, ho =>
      obtain rfl := Option.some.inj ho
      exact ok_put rfl rfl (by kernel_rfl) (by kernel_rfl) (fun L val w' h => by obtain ⟨n, a, l, c, e, _⟩ := (h : BigC _ (val 11) _); exact ⟨n, a, l, c, e⟩)
    | n + 14, ho => simp at ho
  · have F11 : BigC (n * D + -(N * d)) (val4 11) w4 := hf 11 (by decide)
    obtain ⟨q, eB, q0, q1, BB⟩ : ∃ q, val4 12 = .pointer (some ⟨q, 0, none⟩) ∧ _ ≤ q ∧ q < w4.heap.size ∧ BoxAt w4 q (val4 11) := hf 12 (by decide)
    obtain ⟨nx, ax, lx, cx, ex, CX⟩ := BN.of BB F11
    simp only [World.size_alloc] at q0
    have A4 := A0.out.later hb
    have ND : Hid (([w.heap.size, w.heap.size + 1, w.heap.size + 1 + 1, w2.heap.size, w2.heap.size + 1, q] : List Nat).Nodup) := Lib.hid (by simp; omega)
    have XA := big_abs CX.V
    rw [← AX.out] at XA
    have A6 : Hid (Ap2 w (w4.setCell ⟨q, 0, none⟩ (.bool false)) w2.heap.size (w2.heap.size + 1) q N D n1 a1' l1 c1 n2 a2 l2 c2 d ax lx cx X [.bool false, .slice none 0 0] [.bool false, .slice none 0 0]) := by
      have t6 : Tab w4 [(w.heap.size, [.int .i64 N, .int .i64 D]), (w.heap.size + 1, [.bool false, .slice none 0 0]), (w.heap.size + 1 + 1, [.bool false, .slice none 0 0]), (w2.heap.size, [.bool n1, .slice a1' l1 c1]), (w2.heap.size + 1, [.bool n2, .slice a2 l2 c2]), (q, [.bool nx, .slice ax lx cx])] := by
        have t := A4.T
        have b := CX.B
        refine Tab.cons (Tab.cons (Tab.cons (Tab.cons (Tab.cons (Tab.cons (Tab.nil _) fun i v hi => ?_) fun i v hi => ⟨t.cell 4 i rfl hi, t.froz 4 i rfl hi⟩) fun i v hi => ⟨t.cell 3 i rfl hi, t.froz 3 i rfl hi⟩) fun i v hi => ⟨t.cell 2 i rfl hi, t.froz 2 i rfl hi⟩) fun i v hi => ⟨t.cell 1 i rfl hi, t.froz 1 i rfl hi⟩) fun i v hi => ⟨t.cell 0 i rfl hi, t.froz 0 i rfl hi⟩
        match i, hi with
        | 0, hi => obtain rfl := Option.some.inj hi; exact ⟨b.c0, b.f0⟩
        | 1, hi => obtain rfl := Option.some.inj hi; exact ⟨b.c1, b.f1⟩
        | i + 2, hi => simp at hi
      exact Lib.hid ⟨A4.B.setCell (by simp; omega) _, t6.set1 5 0 (.bool false) rfl ND.out, bigV_set1 A4.V2 CX.B.c0 (fun _ h => by cases h) _, bigV_set1 XA CX.B.c0 (fun _ h => by cases h) _⟩
    obtain ⟨g0, g1, k0, k1⟩ := CX.B
    simp only [puts2, Act.put, List.setIfInBounds_toArray, List.set_cons_zero, List.set_cons_succ, Nat.zero_add, Nat.reduceAdd]
    rw [eB]
    clear hf hne hb F11 BB CX eB ex q0 q1 A0 A4 XA AX z2 Sn SX SY SW
    go_wp2_with fail
    refine wp_region_vals [some (.agg #[.bool false, .slice ax lx cx]), some (.agg #[.bool n2, .slice a2 l2 c2]), some (.pointer (some ⟨w.heap.size, 1, none⟩)), some (.int .i64 D), none, none, none, none]
      (fun Lz vz wy => ∃ r1 r2, Ap2 w wy w2.heap.size (w2.heap.size + 1) q N D n1 a1' l1 c1 n2 a2 l2 c2 d ax lx cx X r1 r2 ∧ (Lz 6 = false → r1 = [.bool false, .slice none 0 0]) ∧ (Lz 6 = true → r1 = [.bool false, .slice ax lx cx]) ∧ (Lz 7 = false → r2 = [.bool false, .slice none 0 0]) ∧
        (Lz 4 = true → ∃ n a l c, vz 4 = .agg #[.bool n, .slice a l c] ∧ BigV wy n a l c D) ∧ (Lz 5 = true → ∃ n a l c, vz 5 = .agg #[.bool n, .slice a l c] ∧ BigV wy n a l c Z ∧ (Lz 7 = true → r2 = [.bool n, .slice a l c])))
      [some 27, some 28, some 29, some 30, some 31, some 32, none, none] (by kernel_rfl) (by kernel_rfl) (by kernel_rfl) (by kernel_rfl) (by kernel_rfl) (by kernel_rfl) ⟨_, _, A6.out.later ((Below.refl _ _).drew), fun _ => rfl, fun h => (by cases h), fun _ => rfl, fun h => (by cases h), fun h => (by cases h)⟩ (fun i o ho => ?_) (fun Lz vz wz hL hB => ?_)
    · match i, ho with
      | 0, ho =>
        obtain rfl := Option.some.inj ho
        intro Az Lz vz wy Kz Ez hB k
        obtain ⟨r1, r2, h1, h2⟩ := hB
        have e8 : Az.eval (.tmp 8) = .pointer (some ⟨q, 0, none⟩) := Ez.out 8 (by kernel_rfl)
        have c0 := h1.T.cell 5 0 rfl rfl
        have c1 := h1.T.cell 5 1 rfl rfl
        exact wpo_val (v := .agg #[.bool false, .slice ax lx cx]) (run_load e8 (by simp [go_sem, c0, c1])) (k _ _ rfl ⟨r1, r2, h1, h2⟩)
      | 1, ho =>
        obtain rfl := Option.some.inj ho
        intro Az Lz vz wy Kz Ez hB k
        obtain ⟨r1, r2, h1, h2⟩ := hB
        have e7 : Az.eval (.tmp 7) = .pointer (some ⟨w2.heap.size + 1, 0, none⟩) := Ez.out 7 (by kernel_rfl)
        have c0 := h1.T.cell 4 0 rfl rfl
        have c1 := h1.T.cell 4 1 rfl rfl
        exact wpo_val (v := .agg #[.bool n2, .slice a2 l2 c2]) (run_load e7 (by simp [go_sem, c0, c1])) (k _ _ rfl ⟨r1, r2, h1, h2⟩)
      | 2, ho =>
        obtain rfl := Option.some.inj ho
        intro Az Lz vz wy Kz Ez hB k
        have e3 : Az.eval (.tmp 3) = .pointer (some ⟨w.heap.size, 0, none⟩) := Ez.out 3 (by kernel_rfl)
        exact wpo_val (v := .pointer (some ⟨w.heap.size, 1, none⟩)) (run_field e3 (by simp [go_sem])) (k _ _ rfl hB)
      | 3, ho =>
        obtain rfl := Option.some.inj ho
        intro Az Lz vz wy Kz Ez hB k
        obtain ⟨r1, r2, h1, h2⟩ := hB
        have e29 : Az.eval (.tmp 29) = .pointer (some ⟨w.heap.size, 1, none⟩) := Ez.dep 2 29 (by kernel_rfl) rfl
        have c1 := h1.T.cell 0 1 rfl rfl
        exact wpo_val (v := .int .i64 D) (run_load e29 (by simp [go_sem, c1])) (k _ _ rfl ⟨r1, r2, h1, h2⟩)
      | 4, ho =>
        obtain rfl := Option.some.inj ho
        intro Az Lz vz wy Kz Ez hB k
        have e30 : Az.eval (.tmp 30) = .int .i64 D := Ez.dep 3 30 (by kernel_rfl) rfl
        have z5 : Lz 5 = false := Ez.late 5 _ rfl (by kernel_rfl)
        obtain ⟨r1, r2, h1, h2, h3, h4, _, _⟩ := hB
        refine wpo_call (run_callW (fun _ _ => by kernel_rfl)) (R := RetBig wy D) ?_ ?_
        · simp only [List.map_toArray, List.map_cons, List.map_nil, eval_const, e30]
          exact OD.out wy
        · rintro ez w' ⟨n, a, l, c, rfl, hv, hb⟩
          refine ⟨_, rfl, k _ _ trivial ⟨r1, r2, h1.later hb, h2, h3, h4, fun _ => ⟨n, a, l, c, by simp [upd], hv⟩, fun h => ?_⟩⟩
          simp [addL, z5] at h
      | 5, ho =>
        obtain rfl := Option.some.inj ho
        intro Az Lz vz wy Kz Ez hB k
        have z7 : Lz 7 = false := Ez.late 7 _ rfl (by kernel_rfl)
        obtain ⟨r1, r2, h1, h2, h3, h4, h5, _⟩ := hB
        obtain ⟨n, a, l, c, hv, bv⟩ := h5 (Ez.had 4 (by kernel_rfl))
        have e28 : Az.eval (.tmp 28) = .agg #[.bool n2, .slice a2 l2 c2] := Ez.dep 1 28 (by kernel_rfl) rfl
        have e31 : Az.eval (.tmp 31) = .agg #[.bool n, .slice a l c] := (Ez.dep 4 31 (by kernel_rfl) rfl).trans hv
        refine wpo_call (run_callW (fun _ _ => by kernel_rfl)) (R := RetBig wy Z) ?_ ?_
        · simp only [List.map_toArray, List.map_cons, List.map_nil, eval_const, e28, e31]
          rw [← HZ.out]
          exact times_any n2 n a2 a l2 c2 l c d D wy h1.V2 bv (Nat.le_trans (Sm.le h1.V2 Sd.out) (by decide)) (Nat.le_trans (Sm.le bv SD.out) (by decide))
        · rintro ez w' ⟨n', a', l', c', rfl, hv', hb⟩
          refine ⟨_, rfl, k _ _ trivial ⟨r1, r2, h1.later hb, h2, h3, h4, fun _ => ⟨n, a, l, c, by simpa [upd] using hv, bv.later hb⟩, fun _ => ⟨n', a', l', c', by simp [upd], hv', fun h => ?_⟩⟩⟩
          simp [addL, z7] at h
      | 6, ho =>
        obtain rfl := Option.some.inj ho
        intro Az Lz vz wy Kz Ez hB k
        have z6 : Lz 6 = false := Ez.not
        obtain ⟨r1, r2, h1, h2, h3, h4, h5, h6⟩ := hB
        obtain rfl := h2 z6
        have e4 : Az.eval (.tmp 4) = .pointer (some ⟨w.heap.size + 1, 0, none⟩) := Ez.out 4 (by kernel_rfl)
        have e27 : Az.eval (.tmp 27) = .agg #[.bool false, .slice ax lx cx] := Ez.dep 0 27 (by kernel_rfl) rfl
        have c0 := h1.T.cell 1 0 rfl rfl
        have c1 := h1.T.cell 1 1 rfl rfl
        have g0 := h1.T.froz 1 0 rfl rfl
        have g1 := h1.T.froz 1 1 rfl rfl
        have bv : BV wy (w.heap.size + 1) false none 0 0 := ⟨c0, c1, g0, g1⟩
        refine wpo_skip (w' := (wy.setCell ⟨w.heap.size + 1, 0, none⟩ (.bool false)).setCell ⟨w.heap.size + 1, 1, none⟩ (.slice ax lx cx)) (run_store e4 e27 (by simp [go_sem, c0, c1, g0, g1])) (k _ _ trivial ⟨[.bool false, .slice ax lx cx], r2, ⟨(h1.B.setCell (by simp) _).setCell (by simp) _, (h1.T.set1 1 0 (.bool false) rfl ND.out).set1 1 1 (.slice ax lx cx) rfl ND.out, h1.V2.setBV bv _ _, h1.X.setBV bv _ _⟩, fun h => ?_, fun _ => rfl, fun h => h4 (by simpa [addL] using h), fun h => ?_, fun h => ?_⟩)
        · simp [addL] at h
        · obtain ⟨n, a, l, c, hv, b⟩ := h5 (by simpa [addL] using h)
          exact ⟨n, a, l, c, by simpa [upd] using hv, b.setBV bv _ _⟩
        · obtain ⟨n, a, l, c, hv, b, hr⟩ := h6 (by simpa [addL] using h)
          exact ⟨n, a, l, c, by simpa [upd] using hv, b.setBV bv _ _, fun h => hr (by simpa [addL] using h)⟩
      | 7, ho =>
        obtain rfl := Option.some.inj ho
        intro Az Lz vz wy Kz Ez hB k
        have z7 : Lz 7 = false := Ez.not
        obtain ⟨r1, r2, h1, h2, h3, h4, h5, h6⟩ := hB
        obtain rfl := h4 z7
        obtain ⟨n, a, l, c, hv, b, _⟩ := h6 (Ez.had 5 (by kernel_rfl))
        have e5 : Az.eval (.tmp 5) = .pointer (some ⟨w.heap.size + 1 + 1, 0, none⟩) := Ez.out 5 (by kernel_rfl)
        have e32 : Az.eval (.tmp 32) = .agg #[.bool n, .slice a l c] := (Ez.dep 5 32 (by kernel_rfl) rfl).trans hv
        have c0 := h1.T.cell 2 0 rfl rfl
        have c1 := h1.T.cell 2 1 rfl rfl
        have g0 := h1.T.froz 2 0 rfl rfl
        have g1 := h1.T.froz 2 1 rfl rfl
        have bv : BV wy (w.heap.size + 1 + 1) false none 0 0 := ⟨c0, c1, g0, g1⟩
        refine wpo_skip (w' := (wy.setCell ⟨w.heap.size + 1 + 1, 0, none⟩ (.bool n)).setCell ⟨w.heap.size + 1 + 1, 1, none⟩ (.slice a l c)) (run_store e5 e32 (by simp [go_sem, c0, c1, g0, g1])) (k _ _ trivial ⟨r1, [.bool n, .slice a l c], ⟨(h1.B.setCell (by simp; omega) _).setCell (by simp; omega) _, (h1.T.set1 2 0 (.bool n) rfl ND.out).set1 2 1 (.slice a l c) rfl ND.out, h1.V2.setBV bv _ _, h1.X.setBV bv _ _⟩, fun h => h2 (by simpa [addL] using h), fun h => h3 (by simpa [addL] using h), fun h => ?_, fun h => ?_, fun h => ⟨n, a, l, c, by simpa [upd] using hv, b.setBV bv _ _, fun _ => rfl⟩⟩)
        · simp [addL] at h
        · obtain ⟨n', a', l', c', hv', b'⟩ := h5 (by simpa [addL] using h)
          exact ⟨n', a', l', c', by simpa [upd] using hv', b'.setBV bv _ _⟩
      | n + 8, ho => simp at ho
    · obtain ⟨r1, r2, h1, _, h3, _, _, h6⟩ := hB
      obtain rfl := h3 (hL 6 (by decide))
      obtain ⟨n, a, l, c, _, b, hr⟩ := h6 (hL 5 (by decide))
      obtain rfl := hr (hL 7 (by decide))
      have r0 := h1.T.cell 1 0 rfl rfl
      have r1 := h1.T.cell 1 1 rfl rfl
      have r2 := h1.T.cell 2 0 rfl rfl
      have r3 := h1.T.cell 2 1 rfl rfl
      have K := Lib.hid h1.B
      have V1 := Lib.hid h1.X
      have V2 := Lib.hid b
      clear h1 h3 h6 hr b hL ND A6
      simp only [puts2, mix, Act.put, List.setIfInBounds_toArray, List.set_cons_zero, List.set_cons_succ, Nat.zero_add, Nat.reduceAdd, List.getElem?_cons_zero, List.getElem?_cons_succ]
      go_wp2_with fail
      refine bodyPost_ret (v := .tuple #[.agg #[.bool false, .slice ax lx cx], .agg #[.bool n, .slice a l c]]) (by simp [results, Tryd.results17, go_sem, r0, r1, r2, r3]) rfl ?_
      exact ⟨_, _, _, _, _, _, _, _, rfl, V1.out, V2.out, K.out⟩
end Go.Proofs.YtdccoebjcaemcaaRRRDoor
