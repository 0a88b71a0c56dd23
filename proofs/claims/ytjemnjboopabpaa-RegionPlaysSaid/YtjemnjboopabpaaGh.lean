/- Package region: Or, And, Minus; has; one rectangle. Made by gen/regops.py. -/
import Derived.Test.YtjemnjboopabpaaGg
import Derived.Test.YtjemnjboopabpaaRectB
import Derived.WalkKit
import Derived.WalkSpells
import Derived.WalkLawsBesides
import Derived.Handy
import Derived.Lib.Hide
import Derived.Deep.QuietTactic
import Derived.BigQuiet
import Derived.LoopTactic
import Derived.Deep.RegionHeld3
import Derived.Deep.RegionWith
import Derived.Outline
import Derived.Deep.DeepCutAuto
namespace Go.Proofs.Ytjemnjboopabpaa
open Go.RowKit Go.Proofs.Reg Go.Proofs.Big Go.Proofs.Bands
set_option linter.unusedVariables false
set_option linter.unusedSimpArgs false
set_option maxRecDepth 100000
/-- a value is a region -/
structure Rg (w : World) (v : Value) (l : List Bd) : Prop where
  bs : ∃ u, v = .agg #[u] ∧ BS w u l
  wf : Wf l
  inr : InR l
theorem Rg.later {w w' : World} {v : Value} {l : List Bd} (h : Rg w v l) (hb : Below w.heap.size w w') : Rg w' v l := by
  obtain ⟨⟨u, e, b⟩, c, d⟩ := h
  exact ⟨⟨u, e, b.later hb⟩, c, d⟩
theorem Rg.nil (w : World) : Rg w (.agg #[.slice none 0 0]) [] := ⟨⟨_, rfl, BS.nil w⟩, trivial, fun d m => by simp at m⟩
/-- what two regions together are -/
def TwoR (w : World) (la lb : List Bd) (keep : Bool → Bool → Bool) (e : Ending) (w' : World) : Prop := ∃ v l, e = .returned v ∧ Rg w' v l ∧ (∀ x y, hasP l x y = keep (hasP la x y) (hasP lb x y)) ∧ Below w.heap.size w w'
set_option maxHeartbeats 1000000 in
theorem gor_any (va vb : Value) (la lb : List Bd) (w : World) (ha : Rg w va la) (hb : Rg w vb lb) : Calls Try.prog 15 #[va, vb] w (TwoR w la lb orB) := by
  have HA := Lib.hid ha
  have HB := Lib.hid hb
  obtain ⟨⟨_, rfl, ba⟩, _, _⟩ := ha
  obtain ⟨⟨_, rfl, bb⟩, _, _⟩ := hb
  have BA := Lib.hid ba
  have BB := Lib.hid bb
  obtain ⟨a, na, ca, xa, rfl, _, rfl, _⟩ := ba
  obtain ⟨b, nb, cb, xb, rfl, _, rfl, _⟩ := bb
  go_enter Try.func15, Try.ntmps15
  go_wp2_with fail
  refine (combine_any _ _ kp_or _ _ la lb _ (BA.out.later ?_) (BB.out.later ?_) HA.out.wf HB.out.wf HA.out.inr HB.out.inr).mono ?_
  · go_grown
  · go_grown
  rintro _ w1 ⟨v, l, rfl, bs, wf, ir, hp, hb⟩
  have BL0 := Lib.hid (show Below w.heap.size w w1 from bel_tr0 (by go_grown) hb)
  have CR : Hid (w1.heap[w.heap.size + 1 + 1]? = some (.cells #[.slice none 0 0] 26 (0, 0))) := Lib.hid (by
    rw [hb.block (w.heap.size + 1 + 1) (by simp)]
    have e : w.heap.size + 1 + 1 = ((w.alloc (Obj.cells #[.slice a la.length ca] 26)).alloc (Obj.cells #[.slice b lb.length cb] 26)).heap.size := by simp
    rw [e]
    exact heap_alloc_new _ _)
  have hc : w1.cell? ⟨w.heap.size + 1 + 1, 0, none⟩ = some (.slice none 0 0) := by simp [World.cell?, CR.out]
  have hf : w1.frozen? ⟨w.heap.size + 1 + 1, 0, none⟩ = false := by simp [World.frozen?, CR.out]
  have FIN : Hid (∀ u, TwoR w la lb orB (.returned (.agg #[v])) (w1.setCell ⟨w.heap.size + 1 + 1, 0, none⟩ u)) := Lib.hid (fun u =>
    ⟨_, l, rfl, ⟨⟨_, rfl, bs.setR CR.out hc u⟩, wf, ir⟩, hp, BL0.out.setCell (by show w.heap.size ≤ w.heap.size + 1 + 1; omega) u⟩)
  have lt2 := World.block_lt_of_cell? w1 _ hc
  obtain ⟨a', n', c', xs', rfl, _, rfl, _⟩ := bs
  clear hp hb wf ir
  go_wp2_with fail
  refine bodyPost_ret (v := .agg #[.slice a' l.length c']) (by simp [results, Try.results15, go_sem, hc]) rfl ?_
  exact FIN.out _
set_option maxHeartbeats 1000000 in
theorem gand_any (va vb : Value) (la lb : List Bd) (w : World) (ha : Rg w va la) (hb : Rg w vb lb) : Calls Try.prog 12 #[va, vb] w (TwoR w la lb andB) := by
  have HA := Lib.hid ha
  have HB := Lib.hid hb
  obtain ⟨⟨_, rfl, ba⟩, _, _⟩ := ha
  obtain ⟨⟨_, rfl, bb⟩, _, _⟩ := hb
  have BA := Lib.hid ba
  have BB := Lib.hid bb
  obtain ⟨a, na, ca, xa, rfl, _, rfl, _⟩ := ba
  obtain ⟨b, nb, cb, xb, rfl, _, rfl, _⟩ := bb
  go_enter Try.func12, Try.ntmps12
  go_wp2_with fail
  refine (combine_any _ _ kp_and _ _ la lb _ (BA.out.later ?_) (BB.out.later ?_) HA.out.wf HB.out.wf HA.out.inr HB.out.inr).mono ?_
  · go_grown
  · go_grown
  rintro _ w1 ⟨v, l, rfl, bs, wf, ir, hp, hb⟩
  have BL0 := Lib.hid (show Below w.heap.size w w1 from bel_tr0 (by go_grown) hb)
  have CR : Hid (w1.heap[w.heap.size + 1 + 1]? = some (.cells #[.slice none 0 0] 26 (0, 0))) := Lib.hid (by
    rw [hb.block (w.heap.size + 1 + 1) (by simp)]
    have e : w.heap.size + 1 + 1 = ((w.alloc (Obj.cells #[.slice a la.length ca] 26)).alloc (Obj.cells #[.slice b lb.length cb] 26)).heap.size := by simp
    rw [e]
    exact heap_alloc_new _ _)
  have hc : w1.cell? ⟨w.heap.size + 1 + 1, 0, none⟩ = some (.slice none 0 0) := by simp [World.cell?, CR.out]
  have hf : w1.frozen? ⟨w.heap.size + 1 + 1, 0, none⟩ = false := by simp [World.frozen?, CR.out]
  have FIN : Hid (∀ u, TwoR w la lb andB (.returned (.agg #[v])) (w1.setCell ⟨w.heap.size + 1 + 1, 0, none⟩ u)) := Lib.hid (fun u =>
    ⟨_, l, rfl, ⟨⟨_, rfl, bs.setR CR.out hc u⟩, wf, ir⟩, hp, BL0.out.setCell (by show w.heap.size ≤ w.heap.size + 1 + 1; omega) u⟩)
  have lt2 := World.block_lt_of_cell? w1 _ hc
  obtain ⟨a', n', c', xs', rfl, _, rfl, _⟩ := bs
  clear hp hb wf ir
  go_wp2_with fail
  refine bodyPost_ret (v := .agg #[.slice a' l.length c']) (by simp [results, Try.results12, go_sem, hc]) rfl ?_
  exact FIN.out _
set_option maxHeartbeats 1000000 in
theorem gminus_any (va vb : Value) (la lb : List Bd) (w : World) (ha : Rg w va la) (hb : Rg w vb lb) : Calls Try.prog 8 #[va, vb] w (TwoR w la lb minusB) := by
  have HA := Lib.hid ha
  have HB := Lib.hid hb
  obtain ⟨⟨_, rfl, ba⟩, _, _⟩ := ha
  obtain ⟨⟨_, rfl, bb⟩, _, _⟩ := hb
  have BA := Lib.hid ba
  have BB := Lib.hid bb
  obtain ⟨a, na, ca, xa, rfl, _, rfl, _⟩ := ba
  obtain ⟨b, nb, cb, xb, rfl, _, rfl, _⟩ := bb
  go_enter Try.func8, Try.ntmps8
  go_wp2_with fail
  refine (combine_any _ _ kp_minus _ _ la lb _ (BA.out.later ?_) (BB.out.later ?_) HA.out.wf HB.out.wf HA.out.inr HB.out.inr).mono ?_
  · go_grown
  · go_grown
  rintro _ w1 ⟨v, l, rfl, bs, wf, ir, hp, hb⟩
  have BL0 := Lib.hid (show Below w.heap.size w w1 from bel_tr0 (by go_grown) hb)
  have CR : Hid (w1.heap[w.heap.size + 1 + 1]? = some (.cells #[.slice none 0 0] 26 (0, 0))) := Lib.hid (by
    rw [hb.block (w.heap.size + 1 + 1) (by simp)]
    have e : w.heap.size + 1 + 1 = ((w.alloc (Obj.cells #[.slice a la.length ca] 26)).alloc (Obj.cells #[.slice b lb.length cb] 26)).heap.size := by simp
    rw [e]
    exact heap_alloc_new _ _)
  have hc : w1.cell? ⟨w.heap.size + 1 + 1, 0, none⟩ = some (.slice none 0 0) := by simp [World.cell?, CR.out]
  have hf : w1.frozen? ⟨w.heap.size + 1 + 1, 0, none⟩ = false := by simp [World.frozen?, CR.out]
  have FIN : Hid (∀ u, TwoR w la lb minusB (.returned (.agg #[v])) (w1.setCell ⟨w.heap.size + 1 + 1, 0, none⟩ u)) := Lib.hid (fun u =>
    ⟨_, l, rfl, ⟨⟨_, rfl, bs.setR CR.out hc u⟩, wf, ir⟩, hp, BL0.out.setCell (by show w.heap.size ≤ w.heap.size + 1 + 1; omega) u⟩)
  have lt2 := World.block_lt_of_cell? w1 _ hc
  obtain ⟨a', n', c', xs', rfl, _, rfl, _⟩ := bs
  clear hp hb wf ir
  go_wp2_with fail
  refine bodyPost_ret (v := .agg #[.slice a' l.length c']) (by simp [results, Try.results8, go_sem, hc]) rfl ?_
  exact FIN.out _
end Go.Proofs.Ytjemnjboopabpaa
