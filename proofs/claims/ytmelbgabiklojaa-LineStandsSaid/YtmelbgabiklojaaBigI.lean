/- The reference's big numbers: Down. -/
import Derived.Test.YtmelbgabiklojaaBigH
import Derived.Test.YtmelbgabiklojaaWideE
import Derived.WalkKit
import Derived.WalkSpells
import Derived.WalkLawsBesides
import Derived.Handy
import Derived.Lib.Hide
import Derived.Deep.QuietTactic
import Derived.BigQuiet
import Derived.LoopTactic
import Derived.Deep.LoopGhost
import Derived.Deep.RegionHeld3
import Derived.Deep.RegionWith
import Derived.Outline
import Derived.Deep.DeepCutAuto
namespace Go.Proofs.Ytmelbgabiklojaa
open Go.RowKit Go.Proofs.Big
set_option linter.unusedVariables false
set_option maxRecDepth 100000
set_option linter.unusedSimpArgs false

theorem big_abs {w : World} {ng : Bool} {a : Option Addr} {l c : Nat} {n : Int} (h : BigV w ng a l c n) : BigV w false a l c (if n < 0 then -n else n) := by
  obtain ⟨xs, r, o, cn, v⟩ := h.rd
  have e : ¬ (if n < 0 then -n else n) < 0 := by split <;> omega
  exact ⟨⟨xs, r, o, cn, by rw [v, if_neg e]⟩, by rw [decide_eq_false e]⟩
theorem big_len0 {w : World} {ng : Bool} {a : Option Addr} {l c : Nat} {n : Int} (h : BigV w ng a l c n) : (l = 0 ↔ n = 0) := by
  obtain ⟨xs, r, o, cn, v⟩ := h.rd
  have e := val_zero_iff o cn
  have hl := r.hlen
  rw [v] at e
  constructor
  · intro h0
    have : xs = [] := List.length_eq_zero_iff.1 (by omega)
    have := e.2 this
    split at this <;> omega
  · intro h0
    have := e.1 (by rw [if_neg (by omega)]; exact h0)
    rw [this] at hl; simpa using hl.symm
/-- memory in the course of Down -/
structure DownW (w wr : World) (g : Nat) (ng : Bool) (a : Option Addr) (la ca : Nat) (mg : Bool) (b : Option Addr) (lb cb : Nat) (nq : Bool) (aq : Option Addr) (lq cq : Nat) (n m Q : Int) : Prop where
  A : BV wr w.heap.size ng a la ca
  B : BV wr (w.heap.size + 1) mg b lb cb
  R1 : BV wr (w.heap.size + 1 + 1) false none 0 0
  R2 : BV wr (w.heap.size + 1 + 1 + 1) false none 0 0
  Qv : BV wr g nq aq lq cq
  An : BigV wr ng a la ca n
  Bn : BigV wr mg b lb cb m
  Qn : BigV wr nq aq lq cq Q
  hg : w.heap.size + 1 + 1 + 1 < g
  bel : Below w.heap.size w wr
section
variable {w wr wx : World} {g : Nat} {a b aq a' : Option Addr} {la ca lb cb lq cq l' c' : Nat} {ng mg nq n' : Bool} {n m Q N : Int}
theorem DownW.later (h : DownW w wr g ng a la ca mg b lb cb nq aq lq cq n m Q) (k : Below wr.heap.size wr wx) : DownW w wx g ng a la ca mg b lb cb nq aq lq cq n m Q :=
  ⟨h.A.later k, h.B.later k, h.R1.later k, h.R2.later k, h.Qv.later k, h.An.later k, h.Bn.later k, h.Qn.later k, h.hg, h.bel.trans (k.mono h.bel.size)⟩
theorem DownW.setQ (h : DownW w wr g ng a la ca mg b lb cb nq aq lq cq n m Q) (k : BigV wr n' a' l' c' N) :
    DownW w ((wr.setCell ⟨g, 0, none⟩ (.bool n')).setCell ⟨g, 1, none⟩ (.slice a' l' c')) g ng a la ca mg b lb cb n' a' l' c' n m N := by
  have hg := h.hg
  exact ⟨h.A.other (by omega) _ _, h.B.other (by omega) _ _, h.R1.other (by omega) _ _, h.R2.other (by omega) _ _, h.Qv.set _ _ _ _, h.An.setBV h.Qv _ _, h.Bn.setBV h.Qv _ _, k.setBV h.Qv _ _, h.hg,
    (h.bel.setCell (by show w.heap.size ≤ g; omega) _).setCell (by show w.heap.size ≤ g; omega) _⟩
theorem DownW.six1 (h : DownW w wr g ng a la ca mg b lb cb nq aq lq cq n m Q) (x y : Value) : (fun w' : World => w'.cell? ⟨g, 0, none⟩ = some (.bool nq) ∧ w'.cell? ⟨g, 1, none⟩ = some (.slice aq lq cq) ∧ w'.cell? ⟨w.heap.size, 0, none⟩ = some (.bool ng) ∧ w'.cell? ⟨w.heap.size, 1, none⟩ = some (.slice a la ca) ∧ w'.cell? ⟨w.heap.size + 1, 0, none⟩ = some (.bool mg) ∧ w'.cell? ⟨w.heap.size + 1, 1, none⟩ = some (.slice b lb cb)) ((wr.setCell ⟨w.heap.size + 1 + 1, 0, none⟩ x).setCell ⟨w.heap.size + 1 + 1, 1, none⟩ y) := by
  have hg := h.hg
  have q := h.Qv.other (b' := w.heap.size + 1 + 1) (by omega) x y
  have p := h.A.other (b' := w.heap.size + 1 + 1) (by omega) x y
  have r := h.B.other (b' := w.heap.size + 1 + 1) (by omega) x y
  exact ⟨q.c0, q.c1, p.c0, p.c1, r.c0, r.c1⟩
theorem DownW.six2 (h : DownW w wr g ng a la ca mg b lb cb nq aq lq cq n m Q) (x y x' y' : Value) : (fun w' : World => w'.cell? ⟨g, 0, none⟩ = some (.bool nq) ∧ w'.cell? ⟨g, 1, none⟩ = some (.slice aq lq cq) ∧ w'.cell? ⟨w.heap.size, 0, none⟩ = some (.bool ng) ∧ w'.cell? ⟨w.heap.size, 1, none⟩ = some (.slice a la ca) ∧ w'.cell? ⟨w.heap.size + 1, 0, none⟩ = some (.bool mg) ∧ w'.cell? ⟨w.heap.size + 1, 1, none⟩ = some (.slice b lb cb)) ((((wr.setCell ⟨w.heap.size + 1 + 1, 0, none⟩ x).setCell ⟨w.heap.size + 1 + 1, 1, none⟩ y).setCell ⟨w.heap.size + 1 + 1 + 1, 0, none⟩ x').setCell ⟨w.heap.size + 1 + 1 + 1, 1, none⟩ y') := by
  have hg := h.hg
  have q := (h.Qv.other (b' := w.heap.size + 1 + 1) (by omega) x y).other (b' := w.heap.size + 1 + 1 + 1) (by omega) x' y'
  have p := (h.A.other (b' := w.heap.size + 1 + 1) (by omega) x y).other (b' := w.heap.size + 1 + 1 + 1) (by omega) x' y'
  have r := (h.B.other (b' := w.heap.size + 1 + 1) (by omega) x y).other (b' := w.heap.size + 1 + 1 + 1) (by omega) x' y'
  exact ⟨q.c0, q.c1, p.c0, p.c1, r.c0, r.c1⟩
end
theorem one_big (w : World) (t : TypeId) : BigV (w.alloc (.cells #[.int .u64 1] t)) true (some ⟨w.heap.size, 0, none⟩) 1 1 (-1) := by
  refine ⟨⟨[1], ⟨rfl, by decide, fun _ => ⟨w.heap.size, 0, rfl, ?_⟩⟩, fun x hx => ?_, .inr (by simp), by simp [val]⟩, by simp⟩
  · intro k hk
    obtain rfl : k = 0 := by omega
    simp [go_sem]
  · simp at hx; omega
end Go.Proofs.Ytmelbgabiklojaa
