/- Package share: the closure of Split, and Split. -/
import Derived.Test.YtjemnjboopabpaaShareB
import Derived.WalkKit
import Derived.WalkSpells
import Derived.WalkLawsBesides
import Derived.Handy
import Derived.Lib.Hide
import Derived.Deep.QuietTactic
import Derived.BigQuiet
import Derived.LoopTactic
import Derived.Defers
import Derived.Recover
import Derived.Outline
namespace Go.Proofs.Ytjemnjboopabpaa
open Go.RowKit Go.Proofs.Reg
set_option linter.unusedVariables false
set_option linter.unusedSimpArgs false
set_option maxRecDepth 100000
/-- a length, and weights that sum to no more than there may be -/
def okT (T : Int) : Prop := -17592186044416 ≤ T ∧ T ≤ 17592186044416
def okS (xs : List Int) : Prop := xs.sum ≤ 4611686018427387904
theorem OwnI.other {w : World} {b : Nat} {os : List Int} (h : OwnI w b os) {q : Addr} (hq : q.block ≠ b) (v : Value) : OwnI (w.setCell q v) b os :=
  ⟨fun j hj => by rw [World.cell?_setCell_other (h := fun x => hq (by rw [x]))]; exact h.cell j hj, fun j hj => by simpa [go_sem] using h.froz j hj, by simpa using h.lt⟩
/-- what Split answers -/
def SplR (w : World) (len : Nat) (T : Int) (xs : List Int) (e : Ending) (w' : World) : Prop :=
  Below w.heap.size w w' ∧ ((1024 < len ∧ e = .returned (.tuple #[.slice none 0 0, .int .i64 8])) ∨ (len ≤ 1024 ∧ negB xs = true ∧ e = .returned (.tuple #[.slice none 0 0, .int .i64 1])) ∨
    (len ≤ 1024 ∧ negB xs = false ∧ okT T ∧ okS xs ∧ ∃ b, e = .returned (.tuple #[.slice (some ⟨b, 0, none⟩) len len, .int .i64 0]) ∧ w.heap.size ≤ b ∧ OwnI w' b (parts5 T xs)) ∨
    (len ≤ 1024 ∧ negB xs = false ∧ ¬ (okT T ∧ okS xs) ∧ e = .returned (.tuple #[.slice none 0 0, .int .i64 2])))
theorem neg_false {xs : List Int} (h : negB xs = false) : ∀ x ∈ xs, 0 ≤ x := fun x m => by
  unfold negB at h
  rw [List.any_eq_false] at h
  have := h x m
  simpa using this
end Go.Proofs.Ytjemnjboopabpaa
