/- The reference's fractions: Down of numbers not below 0, size, Common. -/
import Derived.Test.YtkohefgendcofaaBigI
import Derived.Test.YtkohefgendcofaaRatio
import Derived.WalkKit
import Derived.WalkSpells
import Derived.WalkLawsBesides
import Derived.Handy
import Derived.Lib.Hide
import Derived.Deep.QuietTactic
import Derived.BigQuiet
import Derived.LoopTactic
import Derived.RegionTactic
import Derived.BigRegion
import Derived.Deep.LoopGhost
import Derived.Deep.RegionHeld3
import Derived.Deep.RegionWith
import Derived.Outline
import Derived.Deep.DeepCutAuto
namespace Go.Proofs.Ytkohefgendcofaa
open Go.RowKit Go.Proofs.Big
set_option linter.unusedVariables false
set_option linter.unusedSimpArgs false
set_option maxRecDepth 100000
/-- a quotient is no greater, its product with the divisor neither -/
theorem quo_le {n m : Int} (n0 : 0 ≤ n) (m0 : 0 < m) : 0 ≤ n / m ∧ n / m ≤ n ∧ 0 ≤ n / m * m ∧ n / m * m ≤ n ∧ n - n / m * m = n % m := by
  have e := Int.mul_ediv_add_emod n m
  have r0 := Int.emod_nonneg n (show m ≠ 0 by omega)
  have q0 := Int.ediv_nonneg n0 (Int.le_of_lt m0)
  have c : n / m * m = m * (n / m) := Int.mul_comm _ _
  have p : 0 ≤ n / m * m := Int.mul_nonneg q0 (by omega)
  exact ⟨q0, Int.ediv_le_self m n0, p, by omega, by omega⟩
/-- Down of two numbers that are not below 0 -/
theorem bdown_nn (a b : Option Addr) (la ca lb cb : Nat) (n m : Int) (w : World) (ha : BigV w false a la ca n) (hb : BigV w false b lb cb m) (n0 : 0 ≤ n) (n1 : n < P 99) (m0 : 0 < m) (m1 : m < P 99) :
    Calls Try.prog 78 #[.agg #[.bool false, .slice a la ca], .agg #[.bool false, .slice b lb cb]] w (RetBig2 w (n / m) (n % m)) := by
  obtain ⟨q0, q1, p0, p1, er⟩ := quo_le n0 m0
  have s := (sm50 n0 n1).1
  refine bdown_any false false a b la ca lb cb n m (n / m) (n % m) (n / m) (n % m) w ha hb (by omega) n1 (by omega) m1 (by omega) (by rw [if_neg (by omega), if_neg (by omega)]) (by rw [if_neg (by omega), if_neg (by omega)]) (fun _ => rfl) (fun h => by simp at h) er.symm ?_ ?_ ?_
  all_goals (unfold Sm at s ⊢; omega)
theorem r2size_any (ng : Bool) (a : Option Addr) (la ca : Nat) (w : World) :
    Calls Try.prog 77 #[.agg #[.bool ng, .slice a la ca]] w fun e w' => e = .returned (.agg #[.bool false, .slice a la ca]) ∧ Below w.heap.size w w' := by
  go_enter Try.func77, Try.ntmps77
  go_wp2_with fail
  refine bodyPost_ret (v := .agg #[.bool false, .slice a la ca]) (by simp [results, Try.results77, go_sem]) rfl ⟨rfl, ?_⟩
  go_grown
/-- memory in the course of Common -/
structure ComW (w wr : World) (a : Option Addr) (la ca : Nat) (b : Option Addr) (lb cb : Nat) (x y : Int) : Prop where
  A : BV wr w.heap.size false a la ca
  B : BV wr (w.heap.size + 1) false b lb cb
  R : BV wr (w.heap.size + 1 + 1) false none 0 0
  An : BigV wr false a la ca x
  Bn : BigV wr false b lb cb y
  bel : Below w.heap.size w wr
theorem ComW.later {w wr wx : World} {a b : Option Addr} {la ca lb cb : Nat} {x y : Int} (h : ComW w wr a la ca b lb cb x y) (k : Below wr.heap.size wr wx) : ComW w wx a la ca b lb cb x y :=
  ⟨h.A.later k, h.B.later k, h.R.later k, h.An.later k, h.Bn.later k, h.bel.trans (k.mono h.bel.size)⟩
theorem ComW.swap {w wr : World} {a b r : Option Addr} {la ca lb cb lr cr : Nat} {x y z : Int} (h : ComW w wr a la ca b lb cb x y) (hz : BigV wr false r lr cr z) :
    ComW w ((((wr.setCell ⟨w.heap.size, 0, none⟩ (.bool false)).setCell ⟨w.heap.size, 1, none⟩ (.slice b lb cb)).setCell ⟨w.heap.size + 1, 0, none⟩ (.bool false)).setCell ⟨w.heap.size + 1, 1, none⟩ (.slice r lr cr)) b lb cb r lr cr y z := by
  have b1 := h.B.other (b' := w.heap.size) (by omega) (.bool false) (.slice b lb cb)
  refine ⟨(h.A.set _ _ _ _).other (by omega) _ _, b1.set _ _ _ _, (h.R.other (by omega) _ _).other (by omega) _ _, (h.Bn.setBV h.A _ _).setBV b1 _ _, (hz.setBV h.A _ _).setBV b1 _ _, ?_⟩
  exact (((h.bel.setCell (by show w.heap.size ≤ w.heap.size; omega) _).setCell (by show w.heap.size ≤ w.heap.size; omega) _).setCell (by show w.heap.size ≤ w.heap.size + 1; omega) _).setCell (by show w.heap.size ≤ w.heap.size + 1; omega) _
/-- what the numbers of Common are -/
structure ComN (n m x y : Int) : Prop where
  x0 : 0 ≤ x
  x1 : x < P 99
  y0 : 0 ≤ y
  y1 : y < P 99
  g : Int.gcd x y = Int.gcd n m
set_option maxHeartbeats 4000000 in
theorem common_any (a b : Option Addr) (la ca lb cb : Nat) (n m : Int) (w : World) (ha : BigV w false a la ca n) (hb : BigV w false b lb cb m) (n0 : 0 ≤ n) (n1 : n < P 99) (m0 : 0 ≤ m) (m1 : m < P 99) :
    Calls Try.prog 76 #[.agg #[.bool false, .slice a la ca], .agg #[.bool false, .slice b lb cb]] w (RetBig w ((Int.gcd n m : Nat) : Int)) := by
  have HA := Lib.hid ha
  have HB := Lib.hid hb
  have N0 := Lib.hid (show ComN n m n m from ⟨n0, n1, m0, m1, rfl⟩)
  clear ha hb n0 n1 m0 m1
  go_enter Try.func76, Try.ntmps76
  go_wp2_with fail
  go_loopg [] m.toNat (fun k wr => ∃ (a' b' : Option Addr) (la' ca' lb' cb' : Nat) (x y : Int), Hid (ComW w wr a' la' ca' b' lb' cb' x y) ∧ Hid (ComN n m x y) ∧ Hid (y ≤ k))
  case atStart =>
    refine ⟨a, b, la, ca, lb, cb, n, m, Lib.hid ?_, N0, Lib.hid (by have := N0.out.y0; omega)⟩
    have e1 := ((BV.new w false a la ca 29).alloc (.cells #[.bool false, .slice b lb cb] 29)).alloc (.cells #[.bool false, .slice none 0 0] 29)
    have e2 := (BV.new (w.alloc (.cells #[.bool false, .slice a la ca] 29)) false b lb cb 29).alloc (.cells #[.bool false, .slice none 0 0] 29)
    have e3 := BV.new ((w.alloc (.cells #[.bool false, .slice a la ca] 29)).alloc (.cells #[.bool false, .slice b lb cb] 29)) false none 0 0 29
    simp only [World.size_alloc] at e1 e2 e3
    exact ⟨e1, e2, e3, ((HA.out.alloc _).alloc _).alloc _, ((HB.out.alloc _).alloc _).alloc _, by go_grown⟩
  case round =>
    clear HA HB N0
    obtain ⟨a', b', la', ca', lb', cb', x, y, hW, hN, hk⟩ := hrel
    obtain ⟨p0, p1, p2, p3⟩ := hW.out.A
    obtain ⟨q0, q1, q2, q3⟩ := hW.out.B
    obtain ⟨r0, r1, r2, r3⟩ := hW.out.R
    have L0 := big_len0 hW.out.Bn
    by_cases yz : y = 0
    · have lz : ¬ 0 < (lb' : Int) := by have := L0.2 yz; omega
      have HG := Lib.hid (show x = ((Int.gcd n m : Nat) : Int) from by
        have e := hN.out.g
        rw [yz, Int.gcd_zero_right] at e
        have := hN.out.x0
        omega)
      clear L0 yz
      go_wp2_with fail
      refine bodyPost_ret (v := .agg #[.bool false, .slice a' la' ca']) (by simp [results, Try.results76, go_sem, *]) rfl ?_
      rw [← HG.out]
      exact RetBig.mk (hW.out.An.setBV hW.out.R _ _) ((hW.out.bel.setCell (by show w.heap.size ≤ w.heap.size + 1 + 1; omega) _).setCell (by show w.heap.size ≤ w.heap.size + 1 + 1; omega) _)
    · have lz : 0 < (lb' : Int) := by
        have : ¬ lb' = 0 := fun h => yz (L0.1 h)
        omega
      have yp : 0 < y := by have := hN.out.y0; omega
      have YP := Lib.hid yp
      clear L0 yz yp
      go_wp2_with fail
      refine (bdown_nn a' b' la' ca' lb' cb' x y _ hW.out.An hW.out.Bn hN.out.x0 hN.out.x1 YP.out hN.out.y1).mono ?_
      rintro e w1 ⟨nq, aq, lq, cq, nr, ar, lr, cr, rfl, hv1, hv2, hb1⟩
      have rm0 := Int.emod_nonneg x (show y ≠ 0 by have := YP.out; omega)
      have rm1 := Int.emod_lt_of_pos x YP.out
      obtain rfl : nr = false := by have := hv2.hng; rw [decide_eq_false (by omega)] at this; exact this
      have hW1 := Lib.hid (hW.out.later hb1)
      have W2 := Lib.hid ((hW1.out.later ((Below.refl _ _).alloc (Nat.le_refl _) (.cells #[.bool nq, .slice aq lq cq] 29))).later ((Below.refl _ _).alloc (Nat.le_refl _) (.cells #[.bool false, .slice ar lr cr] 29)))
      have V2 := Lib.hid ((hv2.alloc (.cells #[.bool nq, .slice aq lq cq] 29)).alloc (.cells #[.bool false, .slice ar lr cr] 29))
      have BR := Lib.hid (BV.new (w1.alloc (.cells #[.bool nq, .slice aq lq cq] 29)) false ar lr cr 29)
      have s1 := hW1.out.bel.size
      have lt1 := hW1.out.R.lt
      clear hv1 hv2 hb1 p0 p1 p2 p3 q0 q1 q2 q3 r0 r1 r2 r3
      obtain ⟨p0, p1, p2, p3⟩ := hW1.out.A
      obtain ⟨q0, q1, q2, q3⟩ := hW1.out.B
      have HR := Lib.hid (And.intro rm0 rm1)
      clear rm0 rm1
      go_wp2_with fail
      clear p0 p1 p2 p3 q0 q1 q2 q3
      obtain ⟨p0, p1, p2, p3⟩ := W2.out.A
      obtain ⟨q0, q1, q2, q3⟩ := W2.out.B
      obtain ⟨r0, r1, r2, r3⟩ := BR.out
      simp only [World.size_alloc] at r0 r1 r2 r3
      go_region
      all_goals
        go_wp2_with fail
        go_roundg (x % y).toNat
        case measure => have := HR.out; have := hk.out; omega
        case rel =>
          refine ⟨b', ar, lb', cb', lr, cr, y, x % y, Lib.hid ?_, Lib.hid ⟨hN.out.y0, hN.out.y1, HR.out.1, by have := HR.out.2; have := hN.out.y1; omega, ?_⟩, Lib.hid (by have := HR.out; omega)⟩
          · exact (W2.out.later (Below.drew (Below.refl _ _))).swap (V2.out.later (Below.drew (Below.refl _ _)))
          · rw [gcd_step x y hN.out.x0 YP.out]; exact hN.out.g
end Go.Proofs.Ytkohefgendcofaa
