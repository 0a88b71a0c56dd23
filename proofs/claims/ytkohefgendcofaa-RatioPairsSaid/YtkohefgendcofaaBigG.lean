/- The reference's big numbers: OfWide, divided. -/
import Derived.Test.YtkohefgendcofaaBigF
import Derived.WalkKit
import Derived.WalkSpells
import Derived.WalkLawsBesides
import Derived.Handy
import Derived.Lib.Hide
import Derived.Deep.QuietTactic
import Derived.BigQuiet
import Derived.LoopTactic
import Derived.Deep.LoopGhost
import Derived.Deep.RegionHeld3
import Derived.Deep.RegionWith
import Derived.Outline
import Derived.Deep.DeepCutAuto
namespace Go.Proofs.Ytkohefgendcofaa
open Go.RowKit Go.Proofs.Big
set_option linter.unusedVariables false
set_option maxRecDepth 100000
set_option linter.unusedSimpArgs false

theorem ofwide_any (h l : Int) (h0 : -9223372036854775808 ≤ h) (h1 : h ≤ 9223372036854775807) (l0 : 0 ≤ l) (l1 : l < 18446744073709551616) (w : World) :
    Calls Try.prog 13 #[.int .i64 h, .int .u64 l] w (RetBig w (h * 18446744073709551616 + l)) := by
  go_enter Try.func13, Try.ntmps13
  go_wp2_with fail
  refine (bof_any h h0 h1 _).mono ?_
  rintro e w1 ⟨ng1, a1, l1', c1, rfl, hv1, hb1⟩
  have B1 := Lib.hid ((BV.new w false none 0 0 29).later hb1)
  have V1 := Lib.hid hv1
  have K1 := Lib.hid (((Below.refl w.heap.size w).alloc (Nat.le_refl _) _).trans (hb1.mono (by simp)))
  clear hv1 hb1
  go_wp2_with fail
  refine (power_any 64 (by decide) _).mono ?_
  rintro e w2 ⟨ng2, a2, l2, c2, rfl, hv2, hb2⟩
  have B2 := Lib.hid (B1.out.later hb2)
  have V1' := Lib.hid (V1.out.later hb2)
  have V2 := Lib.hid hv2
  have K2 := Lib.hid (K1.out.trans (hb2.mono K1.out.size))
  clear hv2 hb2
  go_wp2_with fail
  refine (times_any ng1 ng2 a1 a2 l1' c1 l2 c2 h (2 ^ 64) _ V1'.out V2.out (Nat.le_trans (Sm.le V1'.out (sm_of _ (by omega) (by omega))) (by decide)) (Nat.le_trans (Sm.le V2.out (sm_of _ (by decide) (by decide))) (by decide))).mono ?_
  rintro e w3 ⟨ng3, a3, l3, c3, rfl, hv3, hb3⟩
  have B3 := Lib.hid (B2.out.later hb3)
  have V3 := Lib.hid hv3
  have K3 := Lib.hid (K2.out.trans (hb3.mono K2.out.size))
  clear hv3 hb3
  go_wp2_with fail
  refine (ofu_any l l0 l1 _).mono ?_
  rintro e w4 ⟨ng4, a4, l4, c4, rfl, hv4, hb4⟩
  have B4 := Lib.hid (B3.out.later hb4)
  have V3' := Lib.hid (V3.out.later hb4)
  have V4 := Lib.hid hv4
  have K4 := Lib.hid (K3.out.trans (hb4.mono K3.out.size))
  clear hv4 hb4
  go_wp2_with fail
  refine (plus_any ng3 ng4 a3 a4 l3 c3 l4 c4 (h * 2 ^ 64) l _ V3'.out V4.out (Nat.le_trans (Sm.le V3'.out (sm_of _ (by omega) (by omega))) (by decide)) (Nat.le_trans (Sm.le V4.out (sm_of _ (by omega) (by omega))) (by decide))).mono ?_
  rintro e w5 ⟨ng5, a5, l5, c5, rfl, hv5, hb5⟩
  have B5 := Lib.hid (B4.out.later hb5)
  have V5 := Lib.hid hv5
  have K5 := Lib.hid (K4.out.trans (hb5.mono K4.out.size))
  obtain ⟨k0, k1, k2, k3⟩ := B5.out
  clear hv5 hb5
  go_wp2_with fail
  refine bodyPost_ret (v := .agg #[.bool ng5, .slice a5 l5 c5]) (by simp [results, Try.results13, go_sem, k0, k1]) rfl ?_
  exact RetBig.mk (V5.out.setBV B5.out _ _) ((K5.out.setCell (Nat.le_refl _) _).setCell (Nat.le_refl _) _)

/-- what a call that hands back two big numbers ends in -/
def RetBig2 (w : World) (n m : Int) (e : Ending) (w' : World) : Prop := ∃ ng a l c mg b k d, e = .returned (.tuple #[.agg #[.bool ng, .slice a l c], .agg #[.bool mg, .slice b k d]]) ∧ BigV w' ng a l c n ∧ BigV w' mg b k d m ∧ Below w.heap.size w w'
/-- memory in the course of a long division -/
structure DivW (w wr : World) (a : Option Addr) (la ca : Nat) (b : Option Addr) (lb cb : Nat) (nq : Bool) (aq : Option Addr) (lq cq : Nat) (nr : Bool) (ar : Option Addr) (lr cr : Nat) (Q R : Int) : Prop where
  A : BV wr w.heap.size false a la ca
  B : BV wr (w.heap.size + 1) false b lb cb
  R1 : BV wr (w.heap.size + 1 + 1) false none 0 0
  R2 : BV wr (w.heap.size + 1 + 1 + 1) false none 0 0
  Qv : BV wr (w.heap.size + 1 + 1 + 1 + 1) nq aq lq cq
  Rv : BV wr (w.heap.size + 1 + 1 + 1 + 1 + 1) nr ar lr cr
  Qn : BigV wr nq aq lq cq Q
  Rn : BigV wr nr ar lr cr R
  bel : Below w.heap.size w wr
section
variable {w wr wx : World} {a b aq ar a' : Option Addr} {la ca lb cb lq cq lr cr l' c' : Nat} {nq nr n' : Bool} {Q R N : Int}
theorem DivW.later (h : DivW w wr a la ca b lb cb nq aq lq cq nr ar lr cr Q R) (k : Below wr.heap.size wr wx) : DivW w wx a la ca b lb cb nq aq lq cq nr ar lr cr Q R :=
  ⟨h.A.later k, h.B.later k, h.R1.later k, h.R2.later k, h.Qv.later k, h.Rv.later k, h.Qn.later k, h.Rn.later k, h.bel.trans (k.mono h.bel.size)⟩
theorem DivW.setQ (h : DivW w wr a la ca b lb cb nq aq lq cq nr ar lr cr Q R) (k : BigV wr n' a' l' c' N) :
    DivW w ((wr.setCell ⟨w.heap.size + 1 + 1 + 1 + 1, 0, none⟩ (.bool n')).setCell ⟨w.heap.size + 1 + 1 + 1 + 1, 1, none⟩ (.slice a' l' c')) a la ca b lb cb n' a' l' c' nr ar lr cr N R :=
  ⟨h.A.other (by omega) _ _, h.B.other (by omega) _ _, h.R1.other (by omega) _ _, h.R2.other (by omega) _ _, h.Qv.set _ _ _ _, h.Rv.other (by omega) _ _, k.setBV h.Qv _ _, h.Rn.setBV h.Qv _ _,
    (h.bel.setCell (by show w.heap.size ≤ w.heap.size + 1 + 1 + 1 + 1; omega) _).setCell (by show w.heap.size ≤ w.heap.size + 1 + 1 + 1 + 1; omega) _⟩
theorem DivW.setR (h : DivW w wr a la ca b lb cb nq aq lq cq nr ar lr cr Q R) (k : BigV wr n' a' l' c' N) :
    DivW w ((wr.setCell ⟨w.heap.size + 1 + 1 + 1 + 1 + 1, 0, none⟩ (.bool n')).setCell ⟨w.heap.size + 1 + 1 + 1 + 1 + 1, 1, none⟩ (.slice a' l' c')) a la ca b lb cb nq aq lq cq n' a' l' c' Q N :=
  ⟨h.A.other (by omega) _ _, h.B.other (by omega) _ _, h.R1.other (by omega) _ _, h.R2.other (by omega) _ _, h.Qv.other (by omega) _ _, h.Rv.set _ _ _ _, h.Qn.setBV h.Rv _ _, k.setBV h.Rv _ _,
    (h.bel.setCell (by show w.heap.size ≤ w.heap.size + 1 + 1 + 1 + 1 + 1; omega) _).setCell (by show w.heap.size ≤ w.heap.size + 1 + 1 + 1 + 1 + 1; omega) _⟩
end
end Go.Proofs.Ytkohefgendcofaa
