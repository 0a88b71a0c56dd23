/- The reference's big numbers: Plus, of two signs. -/
import Derived.Test.YtmelbgabiklojaaBigA
import Derived.WalkKit
import Derived.WalkSpells
import Derived.WalkLawsBesides
import Derived.Handy
import Derived.Lib.Hide
import Derived.Deep.QuietTactic
import Derived.BigQuiet
import Derived.LoopTactic
import Derived.Deep.LoopGhost
import Derived.Deep.RegionHeld3
import Derived.Deep.RegionWith
import Derived.Outline
import Derived.Deep.DeepCutAuto
import Derived.Laws.MakeOwn
namespace Go.Proofs.Ytmelbgabiklojaa
open Go.RowKit Go.Proofs.Big
set_option linter.unusedVariables false
set_option maxRecDepth 100000
set_option linter.unusedSimpArgs false


/-- the difference so far -/
structure DifTo (xs ys os : List Int) (i : Nat) (bw : Int) : Prop where
  len : os.length = i
  ok : Ok os
  dif : val os - P i * bw = val (xs.take i) - val (ys.take i)
theorem DifTo.step {xs ys os : List Int} {i : Nat} {bw t d bw' : Int} (h : DifTo xs ys os i bw) (hx : Ok xs) (hy : Ok ys) (c0 : 0 ≤ bw) (c1 : bw ≤ 1) (ht : t = bw + ys.getD i 0) (hd : d = xs.getD i 0 + 65536 * bw' - t) (h0 : 0 ≤ d) (h1 : d < 65536) :
    DifTo xs ys (os ++ [d]) (i + 1) bw' := by
  refine ⟨by simp [h.len], ok_snoc h.ok h0 h1, ?_⟩
  rw [val_snoc, h.len, val_take_all, val_take_all, P_succ, Int.mul_comm 65536, Int.mul_assoc]
  have k := h.dif
  have e : P i * d = P i * xs.getD i 0 + P i * (65536 * bw') - P i * bw - P i * ys.getD i 0 := by rw [hd, ht, Int.mul_sub, Int.mul_add, Int.mul_add]; omega
  omega
theorem DifTo.fin {xs ys os : List Int} {bw : Int} (h : DifTo xs ys os xs.length bw) (hl : ys.length ≤ xs.length) (c0 : 0 ≤ bw) (hv : val ys ≤ val xs) : val os = val xs - val ys := by
  have k := h.dif
  rw [List.take_of_length_le (Nat.le_refl _), List.take_of_length_le hl] at k
  have b := val_bd h.ok
  rw [h.len] at b
  by_cases z : bw = 0
  · subst z; rw [Int.mul_zero] at k; omega
  · have : P xs.length * 1 ≤ P xs.length * bw := Int.mul_le_mul_of_nonneg_left (by omega) (by have := P_pos xs.length; omega)
    omega
end Go.Proofs.Ytmelbgabiklojaa
/- The reference's big numbers: Times. -/
namespace Go.Proofs.Ytmelbgabiklojaa
open Go.RowKit Go.Proofs.Big
set_option linter.unusedVariables false
set_option maxRecDepth 100000
set_option linter.unusedSimpArgs false

theorem own_new (w : World) (n : Nat) (t : TypeId) : Own (w.alloc (.cells (madeCells #[.int .u64 0] n) t)) w.heap.size (List.replicate n 0) := by
  refine ⟨fun k hk => ?_, fun k hk => World.frozen?_alloc_at _ _ _ _ rfl⟩
  rw [List.length_replicate] at hk
  rw [World.cell?_alloc_at _ _ _ _ rfl, getD_zeros, madeCells]
  simp [hk, Nat.mod_one]
theorem own_later {w w' : World} {b : Nat} {os : List Int} (h : Own w b os) (hb : Below w.heap.size w w') : Own w' b os :=
  ⟨fun k hk => cell_later hb (h.cell k hk), fun k hk => (hb.frozen (p := ⟨b, k, none⟩) (World.block_lt_of_cell? w _ (h.cell k hk))).trans (h.froz k hk)⟩
/-- the product so far: i whole rows, k pieces of the next one -/
structure MulTo (xs ys os : List Int) (i k : Nat) (cy : Int) : Prop where
  len : os.length = xs.length + ys.length
  ok : Ok os
  val' : val os + P (i + k) * cy = val (xs.take i) * val ys + P i * (xs.getD i 0 * val (ys.take k))
  zero : ∀ j, i + ys.length ≤ j → os.getD j 0 = 0
theorem MulTo.step {xs ys os : List Int} {i k : Nat} {cy t : Int} (h : MulTo xs ys os i k cy) (hx : Ok xs) (hy : Ok ys) (hi : i < xs.length) (hk : k < ys.length) (c0 : 0 ≤ cy) (ht : t = os.getD (i + k) 0 + xs.getD i 0 * ys.getD k 0 + cy) (t0 : 0 ≤ t) :
    MulTo xs ys (os.set (i + k) (t % 65536)) i (k + 1) (t / 65536) := by
  have hl := h.len
  refine ⟨by rw [List.length_set, hl], ok_set h.ok _ _ (by omega) (by omega), ?_, fun j hj => ?_⟩
  · rw [val_set _ _ _ (by omega), val_take_succ ys k hk, ← Nat.add_assoc, P_succ, Int.mul_comm 65536, Int.mul_assoc]
    have v := h.val'
    have e1 : P (i + k) * (t % 65536 - os.getD (i + k) 0) + P (i + k) * (65536 * (t / 65536)) = P (i + k) * (xs.getD i 0 * ys.getD k 0) + P (i + k) * cy := by
      rw [← Int.mul_add, ← Int.mul_add]; congr 1; omega
    have e2 : P i * (xs.getD i 0 * (val (ys.take k) + P k * ys.getD k 0)) = P i * (xs.getD i 0 * val (ys.take k)) + P (i + k) * (xs.getD i 0 * ys.getD k 0) := by
      rw [Int.mul_add, Int.mul_add, P_add]; congr 1
      rw [Int.mul_left_comm (xs.getD i 0), Int.mul_assoc]
    omega
  · rw [getD_set _ _ _ _ (by omega), if_neg (by omega)]; exact h.zero j hj
theorem MulTo.row {xs ys os : List Int} {i : Nat} {cy : Int} (h : MulTo xs ys os i ys.length cy) (hi : i < xs.length) (c0 : 0 ≤ cy) (c1 : cy < 65536) :
    MulTo xs ys (os.set (i + ys.length) cy) (i + 1) 0 0 := by
  have hl := h.len
  have hz := h.zero (i + ys.length) (Nat.le_refl _)
  refine ⟨by rw [List.length_set, hl], ok_set h.ok _ _ c0 c1, ?_, fun j hj => ?_⟩
  · have v := h.val'
    rw [List.take_of_length_le (Nat.le_refl _)] at v
    rw [val_set _ _ _ (by omega), hz, val_take_succ xs i hi, Int.sub_zero, Int.mul_zero, Int.add_zero, Int.add_mul, Int.mul_assoc (P i)]
    simp [val]
    exact v
  · rw [getD_set _ _ _ _ (by omega), if_neg (by omega)]; exact h.zero j (by omega)
theorem mul_small {x y c o : Int} (x0 : 0 ≤ x) (x1 : x < 65536) (y0 : 0 ≤ y) (y1 : y < 65536) : 0 ≤ x * y ∧ x * y ≤ 4294836225 := by
  have h1 : x * y ≤ 65535 * y := Int.mul_le_mul_of_nonneg_right (by omega) y0
  exact ⟨Int.mul_nonneg x0 y0, by omega⟩
end Go.Proofs.Ytmelbgabiklojaa
/- The reference's big numbers: Of, Power, OfWide. -/
namespace Go.Proofs.Ytmelbgabiklojaa
open Go.RowKit Go.Proofs.Big
set_option linter.unusedVariables false
set_option maxRecDepth 100000
set_option linter.unusedSimpArgs false

/-- numbers of at most 100 pieces -/
def Sm (n : Int) : Prop := -P 100 < n ∧ n < P 100
theorem Sm.le {w : World} {ng : Bool} {a : Option Addr} {l c : Nat} {n : Int} (h : BigV w ng a l c n) (s : Sm n) : l ≤ 100 := h.len 100 s.1 s.2
theorem P_num (k : Nat) : P k = 65536 ^ k := rfl
theorem sm_of (n : Int) (h0 : -115792089237316195423570985008687907853269984665640564039457584007913129639936 ≤ n) (h1 : n ≤ 115792089237316195423570985008687907853269984665640564039457584007913129639936) : Sm n := by
  have p : P 17 ≤ P 100 := P_mono (by decide)
  have e : P 17 = 7588550360256754183279148073529370729071901715047420004889892225542594864082845696 := by unfold P; rfl
  unfold Sm; omega

theorem below_undrew {B : Nat} {w w' : World} (h : Below B w.drew w') : Below B w w' := (Below.drew (Below.refl _ _)).trans h
theorem pow_sm (i : Nat) (h : i ≤ 1500) : (1 : Int) ≤ 2 ^ i ∧ Sm (2 ^ i) := by
  have h1 : (0 : Int) < 2 ^ i := Int.pow_pos (by decide)
  have h2 : (2 : Int) ^ i < P 100 := by
    have e : P 100 = 2 ^ (16 * 100) := by unfold P; rw [Int.pow_mul]; rfl
    have c : ∀ k : Nat, (2 : Int) ^ k = ((2 ^ k : Nat) : Int) := fun k => (Int.natCast_pow 2 k).symm
    obtain ⟨m, hm⟩ : ∃ m, m = 16 * 100 := ⟨_, rfl⟩
    rw [← hm] at e
    rw [e, c i, c m]
    exact Int.ofNat_lt.2 (Nat.pow_lt_pow_right (show 1 < 2 by decide) (show i < m by omega))
  exact ⟨by omega, by unfold Sm; omega⟩
end Go.Proofs.Ytmelbgabiklojaa
/- The reference's big numbers: what a long division keeps. -/
namespace Go.Proofs.Ytmelbgabiklojaa
open Go.RowKit Go.Proofs.Big
set_option linter.unusedVariables false
set_option maxRecDepth 100000
set_option linter.unusedSimpArgs false

/-- what a call that hands back two big numbers ends in -/
def RetBig2 (w : World) (n m : Int) (e : Ending) (w' : World) : Prop := ∃ ng a l c mg b k d, e = .returned (.tuple #[.agg #[.bool ng, .slice a l c], .agg #[.bool mg, .slice b k d]]) ∧ BigV w' ng a l c n ∧ BigV w' mg b k d m ∧ Below w.heap.size w w'
/-- memory in the course of a long division -/
structure DivW (w wr : World) (a : Option Addr) (la ca : Nat) (b : Option Addr) (lb cb : Nat) (nq : Bool) (aq : Option Addr) (lq cq : Nat) (nr : Bool) (ar : Option Addr) (lr cr : Nat) (Q R : Int) : Prop where
  A : BV wr w.heap.size false a la ca
  B : BV wr (w.heap.size + 1) false b lb cb
  R1 : BV wr (w.heap.size + 1 + 1) false none 0 0
  R2 : BV wr (w.heap.size + 1 + 1 + 1) false none 0 0
  Qv : BV wr (w.heap.size + 1 + 1 + 1 + 1) nq aq lq cq
  Rv : BV wr (w.heap.size + 1 + 1 + 1 + 1 + 1) nr ar lr cr
  Qn : BigV wr nq aq lq cq Q
  Rn : BigV wr nr ar lr cr R
  bel : Below w.heap.size w wr
section
variable {w wr wx : World} {a b aq ar a' : Option Addr} {la ca lb cb lq cq lr cr l' c' : Nat} {nq nr n' : Bool} {Q R N : Int}
theorem DivW.later (h : DivW w wr a la ca b lb cb nq aq lq cq nr ar lr cr Q R) (k : Below wr.heap.size wr wx) : DivW w wx a la ca b lb cb nq aq lq cq nr ar lr cr Q R :=
  ⟨h.A.later k, h.B.later k, h.R1.later k, h.R2.later k, h.Qv.later k, h.Rv.later k, h.Qn.later k, h.Rn.later k, h.bel.trans (k.mono h.bel.size)⟩
theorem DivW.setQ (h : DivW w wr a la ca b lb cb nq aq lq cq nr ar lr cr Q R) (k : BigV wr n' a' l' c' N) :
    DivW w ((wr.setCell ⟨w.heap.size + 1 + 1 + 1 + 1, 0, none⟩ (.bool n')).setCell ⟨w.heap.size + 1 + 1 + 1 + 1, 1, none⟩ (.slice a' l' c')) a la ca b lb cb n' a' l' c' nr ar lr cr N R :=
  ⟨h.A.other (by omega) _ _, h.B.other (by omega) _ _, h.R1.other (by omega) _ _, h.R2.other (by omega) _ _, h.Qv.set _ _ _ _, h.Rv.other (by omega) _ _, k.setBV h.Qv _ _, h.Rn.setBV h.Qv _ _,
    (h.bel.setCell (by show w.heap.size ≤ w.heap.size + 1 + 1 + 1 + 1; omega) _).setCell (by show w.heap.size ≤ w.heap.size + 1 + 1 + 1 + 1; omega) _⟩
theorem DivW.setR (h : DivW w wr a la ca b lb cb nq aq lq cq nr ar lr cr Q R) (k : BigV wr n' a' l' c' N) :
    DivW w ((wr.setCell ⟨w.heap.size + 1 + 1 + 1 + 1 + 1, 0, none⟩ (.bool n')).setCell ⟨w.heap.size + 1 + 1 + 1 + 1 + 1, 1, none⟩ (.slice a' l' c')) a la ca b lb cb nq aq lq cq n' a' l' c' Q N :=
  ⟨h.A.other (by omega) _ _, h.B.other (by omega) _ _, h.R1.other (by omega) _ _, h.R2.other (by omega) _ _, h.Qv.other (by omega) _ _, h.Rv.set _ _ _ _, h.Qn.setBV h.Rv _ _, k.setBV h.Rv _ _,
    (h.bel.setCell (by show w.heap.size ≤ w.heap.size + 1 + 1 + 1 + 1 + 1; omega) _).setCell (by show w.heap.size ≤ w.heap.size + 1 + 1 + 1 + 1 + 1; omega) _⟩
end
end Go.Proofs.Ytmelbgabiklojaa
