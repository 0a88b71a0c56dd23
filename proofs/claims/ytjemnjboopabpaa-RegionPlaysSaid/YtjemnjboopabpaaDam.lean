/- Package damage: what it keeps. -/
import Derived.Test.YtjemnjboopabpaaFar4
import Derived.WalkKit
import Derived.WalkSpells
import Derived.WalkLawsBesides
import Derived.Handy
import Derived.Lib.Hide
import Derived.Outline
import Derived.Deep.QuietTactic
import Derived.BigQuiet
import Derived.LoopTactic
import Derived.Deep.RegionHeld3
import Derived.Deep.RegionWith
import Derived.Deep.DeepCutAuto
namespace Go.Proofs.Ytjemnjboopabpaa
open Go.RowKit Go.Proofs.Reg Go.Proofs.Big Go.Proofs.Bands
set_option linter.unusedVariables false
set_option linter.unusedSimpArgs false
set_option maxRecDepth 100000
/-- of the operations of a region those of whose values a lasting property is known -/
def Exs (ks : List Nat) (Ks : Nat → Value → World → Prop) (L : Nat → Bool) (vz : Nat → Value) (w : World) : Prop := ∀ i ∈ ks, L i = true → Ks i (vz i) w
theorem Exs.start (ks : List Nat) (Ks : Nat → Value → World → Prop) (vz : Nat → Value) (w : World) : Exs ks Ks (fun _ => false) vz w := fun _ _ h => by cases h
theorem Exs.later {ks : List Nat} {Ks : Nat → Value → World → Prop} {L : Nat → Bool} {vz : Nat → Value} {w w' : World} (h : Exs ks Ks L vz w) (hp : ∀ (i : Nat) (v : Value) (w w' : World), Ks i v w → Below w.heap.size w w' → Ks i v w') (hb : Below w.heap.size w w') : Exs ks Ks L vz w' := fun i m l => hp i _ w w' (h i m l) hb
theorem Exs.other {ks : List Nat} {Ks : Nat → Value → World → Prop} {L : Nat → Bool} {vz : Nat → Value} {w : World} (h : Exs ks Ks L vz w) (j : Nat) (v : Value) (hj : j ∉ ks) : Exs ks Ks (addL L j) (upd vz j v) w := fun i m l => by
  have ne : i ≠ j := fun e => hj (e ▸ m)
  have := h i m (by simpa [addL, ne] using l)
  simpa [upd, ne] using this
theorem Exs.add {ks : List Nat} {Ks : Nat → Value → World → Prop} {L : Nat → Bool} {vz : Nat → Value} {w : World} (h : Exs ks Ks L vz w) (j : Nat) (v : Value) (hr : Ks j v w) : Exs ks Ks (addL L j) (upd vz j v) w := fun i m l => by
  by_cases e : i = j
  · subst e
    simpa [upd] using hr
  · have := h i m (by simpa [addL, e] using l)
    simpa [upd, e] using this
theorem run_nilCheck {A : Act} {w : World} {P : Program} {p : Operand} {q : Addr} {ty : TypeId} {x : Option Tmp} {ps : String} {af : Array Edge} {gd : Option (Nat × Bool)} (e : A.eval p = .pointer (some q)) :
    (execOp A.eval ⟨x, .nilCheck p, ty, ps, af, gd⟩).run P w = .ok (.value (.pointer (some q))) w := by
  simp only [execOp, e]
  simp [go_sem]
theorem run_lenA {A : Act} {w : World} {p : Operand} {v : Value} {n : Nat} {ty : TypeId} {x : Option Tmp} {ps : String} {af : Array Edge} {gd : Option (Nat × Bool)} (e : A.eval p = v) (h : ∃ a c, v = .slice a n c) :
    (execOp A.eval ⟨x, .call ⟨.builtin .len, #[p], #[77]⟩, ty, ps, af, gd⟩).run Try.prog w = .ok (.value (.int .i64 n)) w := by
  obtain ⟨a, c, rfl⟩ := h
  exact run_lenR e
theorem heap_set3 {w : World} {b : Nat} {x y z : Value} {t : TypeId} {fz : Nat × Nat} (hk : w.heap[b]? = some (.cells #[x, y, z] t fz)) (u : Value) : (w.setCell ⟨b, 1, none⟩ u).heap[b]? = some (.cells #[x, u, z] t fz) ∧ (w.setCell ⟨b, 2, none⟩ u).heap[b]? = some (.cells #[x, y, u] t fz) := by
  constructor <;> simp [World.setCell, Array.getElem?_modify, hk]
end Go.Proofs.Ytjemnjboopabpaa
/- Package damage: coarsening, joining, adding. Made by gen/dam.py. -/
namespace Go.Proofs.Ytjemnjboopabpaa
open Go.RowKit Go.Proofs.Reg Go.Proofs.Big Go.Proofs.Bands
set_option linter.unusedVariables false
set_option linter.unusedSimpArgs false
set_option maxRecDepth 100000
theorem hl_ok4 {P : Int → Int → Bool} {q : Q4} (h : Hl P q) : Ok4 q := by
  rcases h with ⟨e, _⟩ | ⟨f, _⟩
  · exact .inl e
  · exact .inr f
end Go.Proofs.Ytjemnjboopabpaa
