/- The reference of law 3: the fraction that a float is. -/
import Derived.Test.YtjemnjboopabpaaDoorReal
import Derived.Test.YtjemnjboopabpaaDoorFlor
import Derived.Test.YtjemnjboopabpaaDoorRefC
import Derived.Test.YtjemnjboopabpaaDoorRegC
import Derived.Test.YtjemnjboopabpaaDoorRegF
import Derived.Test.YtjemnjboopabpaaDoorRegW
import Derived.RegionTactic
import Derived.WalkKit
import Derived.WalkSpells
import Derived.WalkLawsBesides
import Derived.Handy
import Derived.Lib.Hide
import Derived.Outline
namespace Go.Proofs.YtjemnjboopabpaaDoor
open Go.RowKit Go.Proofs.Flo Go.Proofs.Big Go.Proofs.Reg
set_option linter.unusedVariables false
set_option linter.unusedSimpArgs false
set_option maxRecDepth 100000
/-- the digits and the exponent's field, at least one -/
def frM (x : Nat) : Nat := if rung x < 4503599627370496 then rung x else 4503599627370496 + rung x % 4503599627370496
def frE (x : Nat) : Nat := if rung x < 4503599627370496 then 1 else rung x / 4503599627370496
theorem fr_mag (x : Nat) (h : rung x < 9218868437227405312) : mag (rung x) = frM x * 2 ^ (frE x - 1) ∧ 1 ≤ frE x ∧ frE x ≤ 2046 ∧ frM x < 9007199254740992 := by
  unfold frM frE
  by_cases c : rung x < 4503599627370496
  · rw [if_pos c, if_pos c, mag_small c]
    exact ⟨by simp, by decide, by decide, by omega⟩
  · rw [if_neg c, if_neg c, mag_great (by omega)]
    exact ⟨rfl, by omega, by omega, by omega⟩
/-- both parts of the fraction -/
def fracA (x : Nat) : Nat := if 1075 < frE x then frM x * 2 ^ (frE x - 1075) else frM x
def fracN (x : Nat) : Int := sg (sgn x) (fracA x)
def fracD (x : Nat) : Nat := if 1075 < frE x then 1 else 2 ^ (1075 - frE x)
theorem frac_abs (x : Nat) (h : rung x < 9218868437227405312) : fracA x * U = mag (rung x) * fracD x := by
  obtain ⟨e, e1, e2, e3⟩ := fr_mag x h
  obtain ⟨a, ha⟩ : ∃ a, a = 1074 := ⟨_, rfl⟩
  obtain ⟨b, hb⟩ : ∃ a, a = 1075 := ⟨_, rfl⟩
  rw [e, U_pow ha]
  unfold fracA fracD
  rw [← hb]
  by_cases c : b < frE x
  · rw [if_pos c, if_pos c, Nat.mul_one, Nat.mul_assoc, ← Nat.pow_add]
    congr 2
    omega
  · rw [if_neg c, if_neg c, Nat.mul_assoc, ← Nat.pow_add]
    congr 2
    omega
theorem frac_eq (x : Nat) (h : rung x < 9218868437227405312) : fracN x * U = sval x * fracD x := by
  have e := frac_abs x h
  unfold fracN sval sg
  cases sgn x
  · simp only [Bool.false_eq_true, if_false]
    rw [← Int.natCast_mul, e, Int.natCast_mul]
  · simp only [if_true]
    rw [Int.neg_mul, ← Int.natCast_mul, e, Int.natCast_mul, Int.neg_mul]
/-- how great they are -/
theorem frac_size (x : Nat) (h : rung x < 9218868437227405312) : -P 65 < fracN x ∧ fracN x < P 65 ∧ (1 : Int) ≤ fracD x ∧ (fracD x : Int) < P 68 ∧ (fracA x : Int) < P 65 := by
  obtain ⟨e, e1, e2, e3⟩ := fr_mag x h
  obtain ⟨b, hb⟩ : ∃ a, a = 1075 := ⟨_, rfl⟩
  have p : ∀ k u, u = 16 * k → P k = ((2 ^ u : Nat) : Int) := fun k u h => by
    rw [h, Nat.pow_mul, Int.natCast_pow]; rfl
  obtain ⟨u, hu⟩ : ∃ u, u = 16 * 68 := ⟨_, rfl⟩
  obtain ⟨v, hv⟩ : ∃ u, u = 16 * 65 := ⟨_, rfl⟩
  have d1 : 1 ≤ fracD x := by unfold fracD; split; exact Nat.le_refl _; exact Nat.one_le_two_pow
  have d2 : fracD x < 2 ^ u := by
    unfold fracD
    rw [← hb]
    split
    · exact Nat.one_lt_two_pow (by omega)
    · exact Nat.pow_lt_pow_right (by decide) (by omega)
  have n2 : fracA x < 2 ^ v := by
    unfold fracA
    rw [← hb]
    split
    · obtain ⟨k, hk⟩ : ∃ k, frE x - b = k := ⟨_, rfl⟩
      rw [hk]
      have h1 : frM x * 2 ^ k < 2 ^ 53 * 2 ^ k := Nat.mul_lt_mul_of_pos_right (by omega) (Nat.two_pow_pos _)
      rw [← Nat.pow_add] at h1
      exact Nat.lt_of_lt_of_le h1 (Nat.pow_le_pow_right (by decide) (by omega))
    · exact Nat.lt_of_lt_of_le (show frM x < 2 ^ 53 by omega) (Nat.pow_le_pow_right (by decide) (by omega))
  have n3 : fracN x = fracA x ∨ fracN x = -(fracA x : Int) := by unfold fracN sg; cases sgn x <;> simp
  rw [p 65 v hv, p 68 u hu]
  generalize 2 ^ v = q at *
  generalize 2 ^ u = q2 at *
  omega
theorem fields_fr (x : Nat) (h : rung x < 9218868437227405312) : (expo x = 0 ∧ frE x = 1 ∧ mant x = frM x) ∨ (1 ≤ expo x ∧ expo x = frE x ∧ mant x + 4503599627370496 = frM x) := by
  unfold expo mant frE frM
  unfold rung at h ⊢
  by_cases c : x % 9223372036854775808 < 4503599627370496
  · rw [if_pos c, if_pos c]; left; omega
  · rw [if_neg c, if_neg c]; right; omega
/-- two numbers in boxes, behind two boxes for the results -/
structure FrW (w wr : World) (q : Nat) (n1 : Bool) (a1 : Option Addr) (l1 c1 : Nat) (N1 : Int) (n2 : Bool) (a2 : Option Addr) (l2 c2 : Nat) (N2 : Int) : Prop where
  B : Below w.heap.size w wr
  T : Tab wr [(w.heap.size, [.bool false, .slice none 0 0]), (w.heap.size + 1, [.bool false, .slice none 0 0]), (q, [.bool n1, .slice a1 l1 c1]), (q + 1, [.bool n2, .slice a2 l2 c2])]
  V1 : BigV wr n1 a1 l1 c1 N1
  V2 : BigV wr n2 a2 l2 c2 N2
  hq : w.heap.size + 1 < q
def FrX (w : World) (q : Nat) (N1 N2 : Int) (wr : World) : Prop := ∃ n1 a1 l1 c1 n2 a2 l2 c2, FrW w wr q n1 a1 l1 c1 N1 n2 a2 l2 c2 N2
theorem FrW.later {w wr w' : World} {q : Nat} {n1 : Bool} {a1 : Option Addr} {l1 c1 : Nat} {N1 : Int} {n2 : Bool} {a2 : Option Addr} {l2 c2 : Nat} {N2 : Int} (h : FrW w wr q n1 a1 l1 c1 N1 n2 a2 l2 c2 N2) (hb : Below wr.heap.size wr w') : FrW w w' q n1 a1 l1 c1 N1 n2 a2 l2 c2 N2 :=
  ⟨bel_tr0 h.B hb, h.T.later hb, h.V1.later hb, h.V2.later hb, h.hq⟩
theorem FrW.nodup {w wr : World} {q : Nat} {n1 : Bool} {a1 : Option Addr} {l1 c1 : Nat} {N1 : Int} {n2 : Bool} {a2 : Option Addr} {l2 c2 : Nat} {N2 : Int} (h : FrW w wr q n1 a1 l1 c1 N1 n2 a2 l2 c2 N2) : ([w.heap.size, w.heap.size + 1, q, q + 1] : List Nat).Nodup := by
  have := h.hq
  simp
  omega
theorem FrW.bv1 {w wr : World} {q : Nat} {n1 : Bool} {a1 : Option Addr} {l1 c1 : Nat} {N1 : Int} {n2 : Bool} {a2 : Option Addr} {l2 c2 : Nat} {N2 : Int} (h : FrW w wr q n1 a1 l1 c1 N1 n2 a2 l2 c2 N2) : BV wr q n1 a1 l1 c1 :=
  ⟨h.T.cell 2 0 rfl rfl, h.T.cell 2 1 rfl rfl, h.T.froz 2 0 rfl rfl, h.T.froz 2 1 rfl rfl⟩
theorem FrW.bv2 {w wr : World} {q : Nat} {n1 : Bool} {a1 : Option Addr} {l1 c1 : Nat} {N1 : Int} {n2 : Bool} {a2 : Option Addr} {l2 c2 : Nat} {N2 : Int} (h : FrW w wr q n1 a1 l1 c1 N1 n2 a2 l2 c2 N2) : BV wr (q + 1) n2 a2 l2 c2 :=
  ⟨h.T.cell 3 0 rfl rfl, h.T.cell 3 1 rfl rfl, h.T.froz 3 0 rfl rfl, h.T.froz 3 1 rfl rfl⟩
/-- another number in the first box -/
theorem FrW.set1 {w wr : World} {q : Nat} {n1 : Bool} {a1 : Option Addr} {l1 c1 : Nat} {N1 : Int} {n2 : Bool} {a2 : Option Addr} {l2 c2 : Nat} {N2 : Int} (h : FrW w wr q n1 a1 l1 c1 N1 n2 a2 l2 c2 N2) {n : Bool} {a : Option Addr} {l c : Nat} {N : Int} (v : BigV wr n a l c N) :
    FrW w ((wr.setCell ⟨q, 0, none⟩ (.bool n)).setCell ⟨q, 1, none⟩ (.slice a l c)) q n a l c N n2 a2 l2 c2 N2 := by
  have hq := h.hq
  exact ⟨(h.B.setCell (by simp; omega) _).setCell (by simp; omega) _, (h.T.set1 2 0 (.bool n) rfl h.nodup).set1 2 1 (.slice a l c) rfl h.nodup, v.setBV h.bv1 _ _, h.V2.setBV h.bv1 _ _, hq⟩
theorem FrW.set2 {w wr : World} {q : Nat} {n1 : Bool} {a1 : Option Addr} {l1 c1 : Nat} {N1 : Int} {n2 : Bool} {a2 : Option Addr} {l2 c2 : Nat} {N2 : Int} (h : FrW w wr q n1 a1 l1 c1 N1 n2 a2 l2 c2 N2) {n : Bool} {a : Option Addr} {l c : Nat} {N : Int} (v : BigV wr n a l c N) :
    FrW w ((wr.setCell ⟨q + 1, 0, none⟩ (.bool n)).setCell ⟨q + 1, 1, none⟩ (.slice a l c)) q n1 a1 l1 c1 N1 n a l c N := by
  have hq := h.hq
  exact ⟨(h.B.setCell (by simp; omega) _).setCell (by simp; omega) _, (h.T.set1 3 0 (.bool n) rfl h.nodup).set1 3 1 (.slice a l c) rfl h.nodup, h.V1.setBV h.bv2 _ _, v.setBV h.bv2 _ _, hq⟩
theorem frm_pow (m k : Nat) (hk : k ≤ 1500) (hm : m < 9007199254740992) (l c : Nat) (n : Bool) (a : Option Addr) (w : World) (v : BigV w n a l c (m : Int)) : l ≤ 4 := v.len 4 (by have := P_pos 4; omega) (by rw [show P 4 = 18446744073709551616 by decide]; omega)
set_option maxHeartbeats 2000000 in
theorem fraction_any (x : Nat) (hx : x < 18446744073709551616) (h : rung x < 9218868437227405312) (w : World) : Calls Tryd.prog 75 #[.int .u64 (x : Int)] w (RetBig2 w (fracN x) (fracD x)) := by
  have F := Lib.hid (fields3_any x hx)
  obtain ⟨_, f1, f2, f3⟩ := fr_mag x h
  have ff := fields_fr x h
  have m0 : 0 ≤ mant x := by unfold mant; omega
  have m1 : mant x < 4503599627370496 := by unfold mant; omega
  obtain ⟨E, hE⟩ : ∃ E, expo x = E := ⟨_, rfl⟩
  obtain ⟨M, hM⟩ : ∃ M, mant x = M := ⟨_, rfl⟩
  obtain ⟨s, hs⟩ : ∃ s, sgn x = s := ⟨_, rfl⟩
  obtain ⟨A, hA⟩ : ∃ A, A = fracA x := ⟨_, rfl⟩
  obtain ⟨D, hD⟩ : ∃ D : Int, D = fracD x := ⟨_, rfl⟩
  obtain ⟨N, hN⟩ : ∃ N, N = fracN x := ⟨_, rfl⟩
  rw [← hN, ← hD]
  have FN : Hid (N = sg s A) := Lib.hid (by rw [hN, hA, ← hs]; rfl)
  have SA : Hid (Sm (A : Int)) := Lib.hid (by
    have := (frac_size x h).2.2.2.2
    rw [hA]
    have p := P_mono (show 65 ≤ 100 by decide)
    have := P_pos 100
    exact ⟨by omega, by omega⟩)
  unfold fracA at hA
  unfold fracD at hD
  obtain ⟨e, he⟩ : ∃ E, frE x = E := ⟨_, rfl⟩
  obtain ⟨m, hm⟩ : ∃ M, frM x = M := ⟨_, rfl⟩
  rw [hE, hM, hs] at F
  rw [hE, hM, he, hm] at ff
  rw [he] at f1 f2 hA hD
  rw [hm] at f3 hA
  rw [hM] at m0 m1
  have O1 := Lib.hid (ofu_any 1 (by decide) (by decide))
  have O2 := Lib.hid (ofu_any m (by omega) (by omega))
  have HA := Lib.hid hA
  have HD := Lib.hid hD
  clear hE hM hs he hm h hx hA hD hN
  go_enter Tryd.func75, Tryd.ntmps75
  go_wp2_with fail
  refine (F.out _).mono ?_
  rintro e w1 ⟨rfl, rfl⟩
  go_upto_if 16 with fail
  go_cut [5, 6] (fun s5 s6 wx => s5 = .int .i64 (e : Int) ∧ s6 = .int .u64 (m : Int) ∧ Hid (wx = (w.alloc (.cells #[.bool false, .slice none 0 0] 151)).alloc (.cells #[.bool false, .slice none 0 0] 151)))
  case first =>
    rcases ff with ⟨rfl, e1, em⟩ | ⟨e0, rfl, em⟩
    · have EM := Lib.hid em
      have E1 := Lib.hid e1
      clear em e1 f1 f2 f3
      go_wp2_with fail
      go_meet
      exact ⟨by rw [E1.out]; rfl, by rw [EM.out], Lib.hid rfl⟩
    · have ez : ((e : Int) == 0) = false := by simpa using (show (e : Int) ≠ 0 by omega)
      have EM := Lib.hid em
      clear em
      go_wp2_with fail
      go_meet
      exact ⟨rfl, by rw [EM.out], Lib.hid rfl⟩
  case rest =>
    obtain ⟨rfl, rfl, HW⟩ := hcut
    obtain rfl := HW.out
    clear ff HW F
    go_wp2_with fail
    refine (O2.out _).mono ?_
    rintro ee w2 ⟨n1, a1, l1, c1, rfl, v1, hb⟩
    have K2 := Lib.hid (bel_tr0 (show Below w.heap.size w _ by go_grown) hb)
    have T0 : Hid (Tab ((w.alloc (.cells #[.bool false, .slice none 0 0] 151)).alloc (.cells #[.bool false, .slice none 0 0] 151)) [(w.heap.size, [.bool false, .slice none 0 0]), (w.heap.size + 1, [.bool false, .slice none 0 0])]) := by
      refine Lib.hid (Tab.cons (Tab.new' (Tab.nil _) [.bool false, .slice none 0 0] 151 (by simp)) fun i v hi => ?_)
      have := ((Tab.nil w).new [.bool false, .slice none 0 0] 151).alloc (.cells #[.bool false, .slice none 0 0] 151)
      exact ⟨this.cell 0 i rfl hi, this.froz 0 i rfl hi⟩
    have T2 := Lib.hid (T0.out.later hb)
    have V2 := Lib.hid v1
    have z2 := hb.size
    simp only [World.size_alloc] at z2
    clear v1 T0
    go_wp2_with fail
    refine (O1.out _).mono ?_
    rintro ee w3 ⟨n2, a2, l2, c2, rfl, v2, hb2⟩
    have z3 := hb2.size
    have FW : Hid (FrX w w3.heap.size (m : Int) 1 ((w3.alloc (.cells #[.bool n1, .slice a1 l1 c1] 151)).alloc (.cells #[.bool n2, .slice a2 l2 c2] 151))) := by
      have K := bel_tr0 (bel_tr0 K2.out hb2) (bel_tr0 (bel_new w3 (.cells #[.bool n1, .slice a1 l1 c1] 151)) (bel_new _ (.cells #[.bool n2, .slice a2 l2 c2] 151)))
      have b3 := bel_tr0 (bel_new w3 (.cells #[.bool n1, .slice a1 l1 c1] 151)) (bel_new _ (.cells #[.bool n2, .slice a2 l2 c2] 151))
      have t3 := (T2.out.later hb2).later b3
      have q1 := ((Tab.nil w3).new [.bool n1, .slice a1 l1 c1] 151).alloc (.cells #[.bool n2, .slice a2 l2 c2] 151)
      have q2 := (Tab.nil (w3.alloc (.cells #[.bool n1, .slice a1 l1 c1] 151))).new [.bool n2, .slice a2 l2 c2] 151
      rw [World.size_alloc] at q2
      refine Lib.hid ⟨n1, a1, l1, c1, n2, a2, l2, c2, K, ?_, (V2.out.later hb2).later b3, v2.later b3, by omega⟩
      refine Tab.cons (Tab.cons (Tab.cons (Tab.cons (Tab.nil _) fun i v hi => ⟨q2.cell 0 i rfl hi, q2.froz 0 i rfl hi⟩) fun i v hi => ⟨q1.cell 0 i rfl hi, q1.froz 0 i rfl hi⟩) fun i v hi => ⟨t3.cell 1 i rfl hi, t3.froz 1 i rfl hi⟩) fun i v hi => ⟨t3.cell 0 i rfl hi, t3.froz 0 i rfl hi⟩
    clear v2 hb hb2 K2 T2 V2 z2
    go_upto_if 23 with fail
    generalize ((w3.alloc (.cells #[.bool n1, .slice a1 l1 c1] 151)).alloc (.cells #[.bool n2, .slice a2 l2 c2] 151)) = W at FW ⊢
    generalize w3.heap.size = q at FW ⊢
    go_cut [] (fun wx => Hid (FrX w q A D wx))
    case first =>
      obtain ⟨m1, b1, k1, d1, m2, b2, k2, d2, FX⟩ := FW.out
      have hX := Lib.hid FX
      clear FW FX O1 O2
      by_cases c : 1075 < e
      · have ci : (1075 : Int) < (e : Int) := by omega
        obtain ⟨p, hp⟩ : ∃ p, e = p + 1075 := ⟨e - 1075, by omega⟩
        have A1 : Hid ((A : Int) = m * 2 ^ p) := Lib.hid (by
          rw [HA.out, if_pos c, show e - 1075 = p by omega, Int.natCast_mul, Int.natCast_pow]; rfl)
        have D1 : Hid (D = 1) := Lib.hid (by rw [HD.out, if_pos c]; rfl)
        have ep : (e : Int) - 1075 = (p : Int) := by omega
        have PW := Lib.hid (power_any p (by omega))
        have PS := Lib.hid (pow_sm p (by omega)).2
        have MS := Lib.hid (sm_of m (by omega) (by omega))
        clear HA HD c hp
        go_wp2_with fail
        refine wp_region_vals [some (.agg #[.bool m1, .slice b1 k1 d1]), some (.int .i64 e), some (.int .i64 p), none, none, none]
          (fun Lz vz wy => (Lz 5 = false → FrW w wy q m1 b1 k1 d1 m m2 b2 k2 d2 1) ∧ (Lz 3 = true → ∃ n a l c, vz 3 = .agg #[.bool n, .slice a l c] ∧ BigV wy n a l c (2 ^ p)) ∧ (Lz 4 = true → ∃ n a l c, vz 4 = .agg #[.bool n, .slice a l c] ∧ BigV wy n a l c (m * 2 ^ p)) ∧ (Lz 5 = true → FrX w q (m * 2 ^ p) 1 wy))
          [some 24, some 25, some 26, some 27, some 28, none] (by kernel_rfl) (by kernel_rfl) (by kernel_rfl) (by kernel_rfl) (by kernel_rfl) (by kernel_rfl) ⟨fun _ => hX.out.later ((Below.refl _ _).drew), fun h => (by cases h), fun h => (by cases h), fun h => (by cases h)⟩ (fun i o ho => ?_) (fun Lz vz wz hL hB => ?_)
        · match i, ho with
          | 0, ho =>
            obtain rfl := Option.some.inj ho
            intro Az Lz vz wy Kz Ez hB k
            have z5 : Lz 5 = false := Ez.late 5 _ rfl (by kernel_rfl)
            have e7 : Az.eval (.tmp 7) = .pointer (some ⟨q, 0, none⟩) := Ez.out 7 (by kernel_rfl)
            obtain ⟨c0, c1, _, _⟩ := (hB.1 z5).bv1
            exact wpo_val (v := .agg #[.bool m1, .slice b1 k1 d1]) (run_load e7 (by simp [go_sem, c0, c1])) (k _ _ rfl hB)
          | 1, ho =>
            obtain rfl := Option.some.inj ho
            intro Az Lz vz wy Kz Ez hB k
            have e5 : Az.eval (.tmp 5) = .int .i64 e := Ez.out 5 (by kernel_rfl)
            exact wpo_val (v := .int .i64 e) (run_move e5) (k _ _ rfl hB)
          | 2, ho =>
            obtain rfl := Option.some.inj ho
            intro Az Lz vz wy Kz Ez hB k
            have e25 : Az.eval (.tmp 25) = .int .i64 e := Ez.dep 1 25 (by kernel_rfl) rfl
            exact wpo_val (v := .int .i64 p) (run_bin e25 rfl (by simp [go_sem]) (by simp [go_sem, ep, IntKind.wrap_i64]; omega)) (k _ _ rfl hB)
          | 3, ho =>
            obtain rfl := Option.some.inj ho
            intro Az Lz vz wy Kz Ez hB k
            have e26 : Az.eval (.tmp 26) = .int .i64 p := Ez.dep 2 26 (by kernel_rfl) rfl
            have z5 : Lz 5 = false := Ez.late 5 _ rfl (by kernel_rfl)
            have z4 : Lz 4 = false := Ez.late 4 _ rfl (by kernel_rfl)
            refine wpo_call (run_callW (fun _ _ => by kernel_rfl)) (R := RetBig wy (2 ^ p)) ?_ ?_
            · simp only [List.map_toArray, List.map_cons, List.map_nil, eval_const, e26]
              exact PW.out wy
            · rintro ez w' ⟨n, a, l, c, rfl, hv, hb⟩
              refine ⟨_, rfl, k _ _ trivial ⟨fun _ => (hB.1 z5).later hb, fun _ => ⟨n, a, l, c, by simp [upd], hv⟩, fun h => ?_, fun h => ?_⟩⟩
              · simp [addL, z4] at h
              · simp [addL, z5] at h
          | 4, ho =>
            obtain rfl := Option.some.inj ho
            intro Az Lz vz wy Kz Ez hB k
            have z5 : Lz 5 = false := Ez.late 5 _ rfl (by kernel_rfl)
            have e24 : Az.eval (.tmp 24) = .agg #[.bool m1, .slice b1 k1 d1] := Ez.dep 0 24 (by kernel_rfl) rfl
            obtain ⟨n, a, l, c, hv, bv⟩ := hB.2.1 (Ez.had 3 (by kernel_rfl))
            have e27 : Az.eval (.tmp 27) = .agg #[.bool n, .slice a l c] := (Ez.dep 3 27 (by kernel_rfl) rfl).trans hv
            have v1 := (hB.1 z5).V1
            refine wpo_call (run_callW (fun _ _ => by kernel_rfl)) (R := RetBig wy (m * 2 ^ p)) ?_ ?_
            · simp only [List.map_toArray, List.map_cons, List.map_nil, eval_const, e24, e27]
              exact times_any m1 n b1 a k1 d1 l c m (2 ^ p) wy v1 bv (Nat.le_trans (Sm.le v1 MS.out) (by decide)) (Nat.le_trans (Sm.le bv PS.out) (by decide))
            · rintro ez w' ⟨n', a', l', c', rfl, hv', hb⟩
              refine ⟨_, rfl, k _ _ trivial ⟨fun _ => (hB.1 z5).later hb, fun _ => ⟨n, a, l, c, by simpa [upd] using hv, bv.later hb⟩, fun h => ⟨n', a', l', c', by simp [upd], hv'⟩, fun h => ?_⟩⟩
              simp [addL, z5] at h
          | 5, ho =>
            obtain rfl := Option.some.inj ho
            intro Az Lz vz wy Kz Ez hB k
            have z5 : Lz 5 = false := Ez.not
            have e7 : Az.eval (.tmp 7) = .pointer (some ⟨q, 0, none⟩) := Ez.out 7 (by kernel_rfl)
            obtain ⟨n, a, l, c, hv, bv⟩ := hB.2.2.1 (Ez.had 4 (by kernel_rfl))
            have e28 : Az.eval (.tmp 28) = .agg #[.bool n, .slice a l c] := (Ez.dep 4 28 (by kernel_rfl) rfl).trans hv
            obtain ⟨n3, a3, l3, c3, hv3, bv3⟩ := hB.2.1 (Ez.had 3 (by kernel_rfl))
            have fw := hB.1 z5
            obtain ⟨c0, c1, f0, f1⟩ := fw.bv1
            refine wpo_skip (w' := (wy.setCell ⟨q, 0, none⟩ (.bool n)).setCell ⟨q, 1, none⟩ (.slice a l c)) (run_store e7 e28 (by simp [go_sem, c0, c1, f0, f1])) (k _ _ trivial ⟨fun h => ?_, fun _ => ⟨n3, a3, l3, c3, hv3, bv3.setBV fw.bv1 _ _⟩, fun _ => ⟨n, a, l, c, hv, bv.setBV fw.bv1 _ _⟩, fun _ => ⟨n, a, l, c, m2, b2, k2, d2, fw.set1 bv⟩⟩)
            simp [addL] at h
          | n + 6, ho => simp at ho
        · have R := Lib.hid (hB.2.2.2 (hL 5 (by decide)))
          clear hB hL
          simp only [puts2, mix, Act.put, List.setIfInBounds_toArray, List.set_cons_zero, List.set_cons_succ, Nat.zero_add, Nat.reduceAdd, List.getElem?_cons_zero, List.getElem?_cons_succ]
          go_wp2_with fail
          go_meet
          exact Lib.hid (by rw [A1.out, D1.out]; exact R.out)
      · have ci : ¬ (1075 : Int) < (e : Int) := by omega
        obtain ⟨p, hp⟩ : ∃ p, 1075 = p + e := ⟨1075 - e, by omega⟩
        have A1 : Hid ((A : Int) = m) := Lib.hid (by rw [HA.out, if_neg c])
        have D1 : Hid (D = 2 ^ p) := Lib.hid (by rw [HD.out, if_neg c, show 1075 - e = p by omega, Int.natCast_pow]; rfl)
        have ep : 1075 - (e : Int) = (p : Int) := by omega
        have PW := Lib.hid (power_any p (by omega))
        obtain ⟨c0, c1, g0, g1⟩ := hX.out.bv2
        have HX := hX
        clear HA HD c hp
        go_wp2_with fail
        refine (PW.out _).mono ?_
        rintro ee w4 ⟨n, a, l, c, rfl, v, hb⟩
        have hY := Lib.hid (hX.out.later hb)
        have V := Lib.hid v
        clear v hb c0 c1 g0 g1
        obtain ⟨c0, c1, g0, g1⟩ := hY.out.bv2
        go_wp2_with fail
        go_meet
        exact Lib.hid (by rw [A1.out, D1.out]; exact ⟨_, _, _, _, _, _, _, _, hY.out.set2 V.out⟩)
    case rest =>
      have FX := hcut
      clear FW HA HD O1 O2 f1 f2 f3 m0 m1
      go_upto_if 32 with fail
      go_cut [] (fun wx => Hid (FrX w q N D wx))
      case first =>
        obtain ⟨m1, b1, k1, d1, m2, b2, k2, d2, FY⟩ := FX.out
        have hX := Lib.hid FY
        clear FX FY
        cases s
        · go_wp2_with fail
          go_meet
          exact Lib.hid (by rw [FN.out]; exact ⟨_, _, _, _, _, _, _, _, hX.out⟩)
        · have MN := Lib.hid (minus_any m1 b1 k1 d1 A)
          obtain ⟨c0, c1, g0, g1⟩ := hX.out.bv1
          go_wp2_with fail
          refine (MN.out _ hX.out.V1 (Nat.le_trans (Sm.le hX.out.V1 SA.out) (by decide))).mono ?_
          rintro ee w4 ⟨n, a, l, c, rfl, v, hb⟩
          have hY := Lib.hid (hX.out.later hb)
          have V := Lib.hid v
          clear v hb c0 c1 g0 g1
          obtain ⟨c0, c1, g0, g1⟩ := hY.out.bv1
          go_wp2_with fail
          go_meet
          exact Lib.hid (by rw [FN.out]; exact ⟨_, _, _, _, _, _, _, _, hY.out.set1 V.out⟩)
      case rest =>
        have FY := hcut
        obtain ⟨m1, b1, k1, d1, m2, b2, k2, d2, FZ⟩ := FY.out
        have hX := Lib.hid FZ
        have ND := Lib.hid FZ.nodup
        have hq := FZ.hq
        clear FX FY FZ FN SA
        go_wp2_with fail
        refine wp_region_vals [some (.agg #[.bool m1, .slice b1 k1 d1]), some (.agg #[.bool m2, .slice b2 k2 d2]), none, none]
          (fun Lz vz wy => Below w.heap.size w wy ∧ BigV wy m1 b1 k1 d1 N ∧ BigV wy m2 b2 k2 d2 D ∧ Tab wy [(w.heap.size, if Lz 2 = true then [.bool m1, .slice b1 k1 d1] else [.bool false, .slice none 0 0]), (w.heap.size + 1, if Lz 3 = true then [.bool m2, .slice b2 k2 d2] else [.bool false, .slice none 0 0]), (q, [.bool m1, .slice b1 k1 d1]), (q + 1, [.bool m2, .slice b2 k2 d2])])
          [some 35, some 36, none, none] (by kernel_rfl) (by kernel_rfl) (by kernel_rfl) (by kernel_rfl) (by kernel_rfl) (by kernel_rfl) ⟨hX.out.B.drew, hX.out.V1.later ((Below.refl _ _).drew), hX.out.V2.later ((Below.refl _ _).drew), hX.out.T.later ((Below.refl _ _).drew)⟩ (fun i o ho => ?_) (fun Lz vz wz hL hB => ?_)
        · match i, ho with
          | 0, ho =>
            obtain rfl := Option.some.inj ho
            intro Az Lz vz wy Kz Ez hB k
            have e7 : Az.eval (.tmp 7) = .pointer (some ⟨q, 0, none⟩) := Ez.out 7 (by kernel_rfl)
            have c0 := hB.2.2.2.cell 2 0 rfl rfl
            have c1 := hB.2.2.2.cell 2 1 rfl rfl
            exact wpo_val (v := .agg #[.bool m1, .slice b1 k1 d1]) (run_load e7 (by simp [go_sem, c0, c1])) (k _ _ rfl hB)
          | 1, ho =>
            obtain rfl := Option.some.inj ho
            intro Az Lz vz wy Kz Ez hB k
            have e8 : Az.eval (.tmp 8) = .pointer (some ⟨q + 1, 0, none⟩) := Ez.out 8 (by kernel_rfl)
            have c0 := hB.2.2.2.cell 3 0 rfl rfl
            have c1 := hB.2.2.2.cell 3 1 rfl rfl
            exact wpo_val (v := .agg #[.bool m2, .slice b2 k2 d2]) (run_load e8 (by simp [go_sem, c0, c1])) (k _ _ rfl hB)
          | 2, ho =>
            obtain rfl := Option.some.inj ho
            intro Az Lz vz wy Kz Ez hB k
            have z2 : Lz 2 = false := Ez.not
            have e2 : Az.eval (.tmp 2) = .pointer (some ⟨w.heap.size, 0, none⟩) := Ez.out 2 (by kernel_rfl)
            have e35 : Az.eval (.tmp 35) = .agg #[.bool m1, .slice b1 k1 d1] := Ez.dep 0 35 (by kernel_rfl) rfl
            obtain ⟨h1, h2, h3, h4⟩ := hB
            simp only [z2, Bool.false_eq_true, if_false] at h4
            have c0 := h4.cell 0 0 rfl rfl
            have c1 := h4.cell 0 1 rfl rfl
            have g0 := h4.froz 0 0 rfl rfl
            have g1 := h4.froz 0 1 rfl rfl
            have bv : BV wy w.heap.size false none 0 0 := ⟨c0, c1, g0, g1⟩
            refine wpo_skip (w' := (wy.setCell ⟨w.heap.size, 0, none⟩ (.bool m1)).setCell ⟨w.heap.size, 1, none⟩ (.slice b1 k1 d1)) (run_store e2 e35 (by simp [go_sem, c0, c1, g0, g1])) (k _ _ trivial ⟨(h1.setCell (by simp) _).setCell (by simp) _, h2.setBV bv _ _, h3.setBV bv _ _, ?_⟩)
            simp only [addL, if_true, show ((3 : Nat) = 2) = False by simp, if_false]
            exact (h4.set1 0 0 (.bool m1) rfl ND.out).set1 0 1 (.slice b1 k1 d1) rfl ND.out
          | 3, ho =>
            obtain rfl := Option.some.inj ho
            intro Az Lz vz wy Kz Ez hB k
            have z3 : Lz 3 = false := Ez.not
            have e3 : Az.eval (.tmp 3) = .pointer (some ⟨w.heap.size + 1, 0, none⟩) := Ez.out 3 (by kernel_rfl)
            have e36 : Az.eval (.tmp 36) = .agg #[.bool m2, .slice b2 k2 d2] := Ez.dep 1 36 (by kernel_rfl) rfl
            obtain ⟨h1, h2, h3, h4⟩ := hB
            simp only [z3, Bool.false_eq_true, if_false] at h4
            have c0 := h4.cell 1 0 rfl rfl
            have c1 := h4.cell 1 1 rfl rfl
            have g0 := h4.froz 1 0 rfl rfl
            have g1 := h4.froz 1 1 rfl rfl
            have bv : BV wy (w.heap.size + 1) false none 0 0 := ⟨c0, c1, g0, g1⟩
            have nd : (List.map Prod.fst [(w.heap.size, if Lz 2 = true then [.bool m1, .slice b1 k1 d1] else [Value.bool false, .slice none 0 0]), (w.heap.size + 1, [.bool false, .slice none 0 0]), (q, [.bool m1, .slice b1 k1 d1]), (q + 1, [.bool m2, .slice b2 k2 d2])]).Nodup := ND.out
            refine wpo_skip (w' := (wy.setCell ⟨w.heap.size + 1, 0, none⟩ (.bool m2)).setCell ⟨w.heap.size + 1, 1, none⟩ (.slice b2 k2 d2)) (run_store e3 e36 (by simp [go_sem, c0, c1, g0, g1])) (k _ _ trivial ⟨(h1.setCell (by simp) _).setCell (by simp) _, h2.setBV bv _ _, h3.setBV bv _ _, ?_⟩)
            simp only [addL, if_true, show ((2 : Nat) = 3) = False by simp, if_false]
            exact (h4.set1 1 0 (.bool m2) rfl nd).set1 1 1 (.slice b2 k2 d2) rfl nd
          | n + 4, ho => simp at ho
        · obtain ⟨h1, h2, h3, h4⟩ := hB
          simp only [hL 2 (by decide), hL 3 (by decide), if_true] at h4
          have r0 := h4.cell 0 0 rfl rfl
          have r1 := h4.cell 0 1 rfl rfl
          have r2 := h4.cell 1 0 rfl rfl
          have r3 := h4.cell 1 1 rfl rfl
          have K := Lib.hid h1
          have V1 := Lib.hid h2
          have V2 := Lib.hid h3
          clear h1 h2 h3 h4 hL hX ND
          simp only [puts2, mix, Act.put, List.setIfInBounds_toArray, List.set_cons_zero, List.set_cons_succ, Nat.zero_add, Nat.reduceAdd, List.getElem?_cons_zero, List.getElem?_cons_succ]
          go_wp2_with fail
          refine bodyPost_ret (v := .tuple #[.agg #[.bool m1, .slice b1 k1 d1], .agg #[.bool m2, .slice b2 k2 d2]]) (by simp [results, Tryd.results75, go_sem, r0, r1, r2, r3]) rfl ?_
          exact ⟨_, _, _, _, _, _, _, _, rfl, V1.out, V2.out, K.out⟩
end Go.Proofs.YtjemnjboopabpaaDoor
