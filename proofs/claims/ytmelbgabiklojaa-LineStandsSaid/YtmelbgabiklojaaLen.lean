/- The reference's lengths: Length, Told, Part. -/
import Derived.Test.YtmelbgabiklojaaRefD
import Derived.Test.YtmelbgabiklojaaRegC
import Derived.Test.YtmelbgabiklojaaKit3
import Derived.Test.YtmelbgabiklojaaWideE
import Derived.WalkKit
import Derived.WalkSpells
import Derived.WalkLawsBesides
import Derived.Handy
import Derived.Lib.Hide
import Derived.Deep.QuietTactic
import Derived.BigQuiet
import Derived.LoopTactic
import Derived.RegionTactic
import Derived.BigRegion
import Derived.Deep.RegionHeld3
import Derived.Deep.RegionWith
import Derived.Outline
import Derived.Deep.DeepCutAuto
namespace Go.Proofs.Ytmelbgabiklojaa
open Go.RowKit Go.Proofs.Big Go.Proofs.Reg
set_option linter.unusedVariables false
set_option linter.unusedSimpArgs false
set_option maxRecDepth 100000
section
variable {ops : Array Oper} {a0 : Act} {w0 : World} {kind : Nat → Kind} {o : Oper}
theorem ok_bigG {N : Int} {f : FuncId} {xs : Array Operand} {ts : Array TypeId} {x : Option Tmp} {ty : TypeId} {ps : String} {af : Array Edge} {gd : Option (Nat × Bool)} (hcf : ∀ (args : Array Value) (w : World), (callFunc f args).run Try.prog w = .ok (.enter f args) w)
    (h : ∀ A L val w, Env ops a0 A L val → (∀ d, depB ⟨x, .call ⟨.value (.func f), xs, ts⟩, ty, ps, af, gd⟩ d = true → L d = true ∧ Fact kind w0 L val w d) → Below w0.heap.size w0 w → Calls Try.prog f (xs.map A.eval) w (RetBig w N)) :
    OpOk Try.prog ops a0 w0 kind ⟨x, .call ⟨.value (.func f), xs, ts⟩, ty, ps, af, gd⟩ (bigK N) := by
  refine ⟨fun v w w' h hb => bigC_later h hb, fun v w q n a l c n' a' l' c' h hq => bigC_put h hq, fun A L val w env facts hb => ⟨f, _, ?_, (h A L val w env facts hb).mono ?_⟩⟩
  · have e : A.eval (.func f) = .func (.func f) #[] #[] := rfl
    simp only [execOp, resolve, e]
    simp [go_sem, hcf]
  rintro e w' ⟨n, a, l, c, rfl, hv, hb'⟩
  exact ⟨_, rfl, ⟨n, a, l, c, rfl, hv⟩, hb'⟩
theorem ok_leqZ {j : Nat} {t : Tmp} {r : Int} {b : Bool} {x : Option Tmp} {ty : TypeId} {ps : String} {af : Array Edge} {gd : Option (Nat × Bool)} (hj : dstAt ops j = some t) (hd : depB ⟨x, .binOp .leq 3 (.tmp t) (.const (.int .i64 0)) 3, ty, ps, af, gd⟩ j = true) (hk : kind j = keptK (.int .i64 r)) (hb : decide (r ≤ 0) = b) :
    OpOk Try.prog ops a0 w0 kind ⟨x, .binOp .leq 3 (.tmp t) (.const (.int .i64 0)) 3, ty, ps, af, gd⟩ (constK (.bool b)) := by
  subst hb
  refine ok_const fun A L val w env facts hb => ?_
  have e1 := dep_kept env facts j t _ hd hj hk
  have e2 : A.eval (.const (.int .i64 0)) = .int .i64 0 := rfl
  simp only [execOp, e1, e2]
  simp [go_sem]
theorem ok_geqZ {j : Nat} {t : Tmp} {r : Int} {b : Bool} {x : Option Tmp} {ty : TypeId} {ps : String} {af : Array Edge} {gd : Option (Nat × Bool)} (hj : dstAt ops j = some t) (hd : depB ⟨x, .binOp .geq 3 (.tmp t) (.const (.int .i64 0)) 3, ty, ps, af, gd⟩ j = true) (hk : kind j = keptK (.int .i64 r)) (hb : decide (0 ≤ r) = b) :
    OpOk Try.prog ops a0 w0 kind ⟨x, .binOp .geq 3 (.tmp t) (.const (.int .i64 0)) 3, ty, ps, af, gd⟩ (constK (.bool b)) := by
  subst hb
  refine ok_const fun A L val w env facts hb => ?_
  have e1 := dep_kept env facts j t _ hd hj hk
  have e2 : A.eval (.const (.int .i64 0)) = .int .i64 0 := rfl
  simp only [execOp, e1, e2]
  simp [go_sem]
end
theorem cmpI_leq (n m : Int) : decide (cmpI n m ≤ 0) = decide (n ≤ m) := by
  unfold cmpI
  by_cases h : n ≤ m
  · rw [decide_eq_true h]; apply decide_eq_true; split <;> (try split) <;> omega
  · rw [decide_eq_false h]; apply decide_eq_false; split <;> (try split) <;> omega
theorem cmpI_geq (n m : Int) : decide (0 ≤ cmpI n m) = decide (m ≤ n) := by
  unfold cmpI
  by_cases h : m ≤ n
  · rw [decide_eq_true h]; apply decide_eq_true; split <;> (try split) <;> omega
  · rw [decide_eq_false h]; apply decide_eq_false; split <;> (try split) <;> omega
def lenB (n : Int) : Bool := decide (n ≤ 17592186044416) && decide (-17592186044416 ≤ n)
/-- a whole number as a length: it, the error's number -/
def Tl (n v er : Int) : Prop := (lenB n = true ∧ v = n ∧ er = 0) ∨ (lenB n = false ∧ v = 0 ∧ er = 2)
theorem tl_ex (n : Int) : ∃ v er, Tl n v er := by
  cases h : lenB n
  · exact ⟨0, 2, .inr ⟨h, rfl, rfl⟩⟩
  · exact ⟨n, 0, .inl ⟨h, rfl, rfl⟩⟩
theorem lenB_true {n : Int} (h : lenB n = true) : -17592186044416 ≤ n ∧ n ≤ 17592186044416 := by
  unfold lenB at h
  rw [Bool.and_eq_true] at h
  exact ⟨of_decide_eq_true h.2, of_decide_eq_true h.1⟩
theorem lenB_false {n : Int} (h : lenB n = false) : ¬ (-17592186044416 ≤ n ∧ n ≤ 17592186044416) := fun c => by
  unfold lenB at h
  rw [decide_eq_true c.1, decide_eq_true c.2] at h
  cases h
end Go.Proofs.Ytmelbgabiklojaa
