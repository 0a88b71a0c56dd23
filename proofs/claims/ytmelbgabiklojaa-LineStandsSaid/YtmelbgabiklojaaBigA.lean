/- The reference's big numbers: sizes, trim, OfU, Minus, Cmp. -/
import Derived.Test.YtmelbgabiklojaaWideC
import Derived.Test.YtmelbgabiklojaaBig
import Derived.WalkKit
import Derived.WalkSpells
import Derived.WalkLawsBesides
import Derived.Handy
import Derived.Lib.Hide
import Derived.Deep.QuietTactic
import Derived.BigQuiet
import Derived.LoopTactic
import Derived.Deep.LoopGhost
import Derived.Deep.RegionHeld3
import Derived.Deep.RegionWith
import Derived.Outline
import Derived.Deep.DeepCutAuto
namespace Go.Proofs.Ytmelbgabiklojaa
open Go.RowKit Go.Proofs.Big
set_option linter.unusedVariables false
set_option maxRecDepth 100000
set_option linter.unusedSimpArgs false

theorem Try.info23 : (Try.prog.info? 82).map (fun i => (i.zero, i.size, i.bytes)) = some (some (.int .u64 0), 1, 8) := by kernel_rfl
theorem canon_snoc {xs : List Int} {x : Int} (h : x ≠ 0) : Canon (xs ++ [x]) := by
  right
  rw [List.length_append, List.getD_eq_getElem?_getD]
  simpa using h
end Go.Proofs.Ytmelbgabiklojaa
/- The reference's big numbers: Minus, Cmp, Plus. -/
namespace Go.Proofs.Ytmelbgabiklojaa
open Go.RowKit Go.Proofs.Big
set_option linter.unusedVariables false
set_option maxRecDepth 100000
set_option linter.unusedSimpArgs false

end Go.Proofs.Ytmelbgabiklojaa
/- The reference's big numbers: Plus. -/
namespace Go.Proofs.Ytmelbgabiklojaa
open Go.RowKit Go.Proofs.Big
set_option linter.unusedVariables false
set_option maxRecDepth 100000
set_option linter.unusedSimpArgs false


theorem val_take_all (xs : List Int) (k : Nat) : val (xs.take (k + 1)) = val (xs.take k) + P k * xs.getD k 0 := by
  by_cases h : k < xs.length
  · exact val_take_succ xs k h
  · rw [List.take_of_length_le (by omega), List.take_of_length_le (by omega), List.getD_eq_getElem?_getD, List.getElem?_eq_none (by omega)]
    simp
theorem bv_grown {wr w1 : World} {base : Nat} {e : TypeId} {sz : Nat} {v : Value} {n : Nat} {xs : List Value} {o : Obj} (hown : wr.ownsRow base e sz v n xs) (hgrow : (wr.alloc o).grownBy w1 v.ownBlock) (hB : base ≤ wr.heap.size) {b : Nat} (hb : b < base)
    {ng : Bool} {a : Option Addr} {l c : Nat} (h : BV wr b ng a l c) : BV w1 b ng a l c := by
  obtain ⟨g, f⟩ := grown_keeps hown hgrow hB hb
  exact ⟨g _ _ h.c0, g _ _ h.c1, (f 0).trans h.f0, (f 1).trans h.f1⟩
theorem getD_out {xs : List Int} {k : Nat} (h : ¬ k < xs.length) : xs.getD k 0 = 0 := by
  rw [List.getD_eq_getElem?_getD, List.getElem?_eq_none (by omega)]; rfl
/-- the sum so far -/
structure SumTo (xs ys os : List Int) (i M : Nat) (cy : Int) : Prop where
  len : os.length = i
  ok : Ok os
  sum : val os + P i * cy = val (xs.take i) + val (ys.take i)
  top : M < i → cy = 0
theorem SumTo.step {xs ys os : List Int} {i M : Nat} {cy s : Int} (h : SumTo xs ys os i M cy) (hx : Ok xs) (hy : Ok ys) (lx : xs.length ≤ M) (ly : ys.length ≤ M) (c0 : 0 ≤ cy) (c1 : cy ≤ 1) (hs : s = cy + xs.getD i 0 + ys.getD i 0) :
    SumTo xs ys (os ++ [s % 65536]) (i + 1) M (s / 65536) ∧ 0 ≤ s / 65536 ∧ s / 65536 ≤ 1 := by
  have g1 := getD_ok hx i
  have g2 := getD_ok hy i
  refine ⟨⟨by simp [h.len], ok_snoc h.ok (by omega) (by omega), ?_, fun t => ?_⟩, by omega, by omega⟩
  · rw [val_snoc, h.len, val_take_all, val_take_all, P_succ, Int.mul_comm 65536, Int.mul_assoc]
    have k := h.sum
    have : P i * (s % 65536) + P i * (65536 * (s / 65536)) = P i * s := by rw [← Int.mul_add]; congr 1; omega
    have e : P i * s = P i * cy + P i * xs.getD i 0 + P i * ys.getD i 0 := by rw [hs, Int.mul_add, Int.mul_add]
    omega
  · have e1 : xs.getD i 0 = 0 := getD_out (by omega)
    have e2 : ys.getD i 0 = 0 := getD_out (by omega)
    omega
end Go.Proofs.Ytmelbgabiklojaa
