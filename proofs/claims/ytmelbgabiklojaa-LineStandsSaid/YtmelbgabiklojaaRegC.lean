/- More operations of regions: fields and cells of wide numbers, constants, guards. -/
import Derived.Test.YtmelbgabiklojaaReg
import Derived.Test.YtmelbgabiklojaaRefA
import Derived.Test.YtmelbgabiklojaaKit3
import Derived.WalkKit
import Derived.WalkSpells
import Derived.WalkLawsBesides
import Derived.Handy
import Derived.Lib.Hide
namespace Go.Proofs.Ytmelbgabiklojaa
open Go.RowKit Go.Proofs.Big Go.Proofs.Reg
set_option linter.unusedVariables false
set_option linter.unusedSimpArgs false
set_option maxRecDepth 100000
section
variable {ops : Array Oper} {a0 : Act} {w0 : World} {kind : Nat → Kind} {o : Oper}
/-- an operation that yields one value, whatever else -/
theorem ok_const {c : Value} (h : ∀ A L val w, Env ops a0 A L val → (∀ d, depB o d = true → L d = true ∧ Fact kind w0 L val w d) → Below w0.heap.size w0 w → (execOp A.eval o).run Try.prog w = .ok (.value c) w) :
    OpOk Try.prog ops a0 w0 kind o (constK c) := ⟨fun val val' x h hr => hr, fun A L val w env facts hb => ⟨c, rfl, h A L val w env facts hb⟩⟩
theorem ok_field0 {t : Tmp} {q : Nat} {x : Option Tmp} {ty : TypeId} {ps : String} {af : Array Edge} {gd : Option (Nat × Bool)} (ht : (ops.all fun o => o.dst != some t) = true) (he : a0.eval (.tmp t) = .pointer (some ⟨q, 0, none⟩)) :
    OpOk Try.prog ops a0 w0 kind ⟨x, .fieldAddr 84 (.tmp t) 0, ty, ps, af, gd⟩ (constK (.pointer (some ⟨q, 0, none⟩))) := by
  refine ok_const fun A L val w env facts hb => ?_
  have e1 := env.out t ht
  rw [he] at e1
  simp only [execOp, e1]
  simp [go_sem]
theorem ok_field1 {t : Tmp} {q : Nat} {x : Option Tmp} {ty : TypeId} {ps : String} {af : Array Edge} {gd : Option (Nat × Bool)} (ht : (ops.all fun o => o.dst != some t) = true) (he : a0.eval (.tmp t) = .pointer (some ⟨q, 0, none⟩)) :
    OpOk Try.prog ops a0 w0 kind ⟨x, .fieldAddr 84 (.tmp t) 1, ty, ps, af, gd⟩ (constK (.pointer (some ⟨q, 1, none⟩))) := by
  refine ok_const fun A L val w env facts hb => ?_
  have e1 := env.out t ht
  rw [he] at e1
  simp only [execOp, e1]
  simp [go_sem]
theorem ok_cell64 {j : Nat} {t : Tmp} {p : Addr} {v : Value} {x : Option Tmp} {ty : TypeId} {ps : String} {af : Array Edge} {gd : Option (Nat × Bool)} (hj : dstAt ops j = some t) (hd : depB ⟨x, .load 2 (.tmp t), ty, ps, af, gd⟩ j = true) (hk : kind j = constK (.pointer (some p))) (hc : w0.cell? p = some v) :
    OpOk Try.prog ops a0 w0 kind ⟨x, .load 2 (.tmp t), ty, ps, af, gd⟩ (constK v) := by
  refine ok_const fun A L val w env facts hb => ?_
  have e1 := dep_const env facts j t _ hd hj hk
  have c := cell_later hb hc
  simp only [execOp, e1]
  simp [go_sem, c]
theorem ok_cellu64 {j : Nat} {t : Tmp} {p : Addr} {v : Value} {x : Option Tmp} {ty : TypeId} {ps : String} {af : Array Edge} {gd : Option (Nat × Bool)} (hj : dstAt ops j = some t) (hd : depB ⟨x, .load 82 (.tmp t), ty, ps, af, gd⟩ j = true) (hk : kind j = constK (.pointer (some p))) (hc : w0.cell? p = some v) :
    OpOk Try.prog ops a0 w0 kind ⟨x, .load 82 (.tmp t), ty, ps, af, gd⟩ (constK v) := by
  refine ok_const fun A L val w env facts hb => ?_
  have e1 := dep_const env facts j t _ hd hj hk
  have c := cell_later hb hc
  simp only [execOp, e1]
  simp [go_sem, c]
/-- a wide number's box -/
theorem ok_loadW {t : Tmp} {q : Nat} {h l : Int} {x : Option Tmp} {ty : TypeId} {ps : String} {af : Array Edge} {gd : Option (Nat × Bool)} (ht : (ops.all fun o => o.dst != some t) = true) (he : a0.eval (.tmp t) = .pointer (some ⟨q, 0, none⟩)) (hq : WV w0 q h l) :
    OpOk Try.prog ops a0 w0 kind ⟨x, .load 84 (.tmp t), ty, ps, af, gd⟩ (constK (.agg #[.int .i64 h, .int .u64 l])) := by
  refine ok_const fun A L val w env facts hb => ?_
  have e1 := env.out t ht
  rw [he] at e1
  obtain ⟨c0, c1⟩ := hq.later hb
  simp only [execOp, e1]
  simp [go_sem, c0, c1]
theorem ok_argG {t : Tmp} {c : Value} {x : Option Tmp} {ty : TypeId} {ps : String} {af : Array Edge} {gd : Option (Nat × Bool)} (ht : (ops.all fun o => o.dst != some t) = true) (he : a0.eval (.tmp t) = c) :
    OpOk Try.prog ops a0 w0 kind ⟨x, .move (.tmp t), ty, ps, af, gd⟩ (constK c) := by
  refine ok_const fun A L val w env facts hb => ?_
  have e1 := env.out t ht
  rw [he] at e1
  rw [← e1]
  rfl
theorem ok_moveC {j : Nat} {t : Tmp} {c : Value} {x : Option Tmp} {ty : TypeId} {ps : String} {af : Array Edge} {gd : Option (Nat × Bool)} (hj : dstAt ops j = some t) (hd : depB ⟨x, .move (.tmp t), ty, ps, af, gd⟩ j = true) (hk : kind j = constK c) :
    OpOk Try.prog ops a0 w0 kind ⟨x, .move (.tmp t), ty, ps, af, gd⟩ (constK c) := by
  refine ok_const fun A L val w env facts hb => ?_
  rw [← dep_const env facts j t _ hd hj hk]
  rfl
theorem ok_assignC {j : Nat} {t : Tmp} {c : Value} {x : Option Tmp} {ty : TypeId} {ps : String} {af : Array Edge} {gd : Option (Nat × Bool)} (hj : dstAt ops j = some t) (hd : depB ⟨x, .assign (.tmp t), ty, ps, af, gd⟩ j = true) (hk : kind j = constK c) :
    OpOk Try.prog ops a0 w0 kind ⟨x, .assign (.tmp t), ty, ps, af, gd⟩ (constK c) := by
  refine ok_const fun A L val w env facts hb => ?_
  rw [← dep_const env facts j t _ hd hj hk]
  rfl
/-- '&&': the first one, and the second one where it is asked -/
theorem ok_and {j k : Nat} {t u : Tmp} {b : Bool} {c : Value} {x : Option Tmp} {ty : TypeId} {ps : String} {af : Array Edge} {gd : Option (Nat × Bool)} (hj : dstAt ops j = some t) (hd : depB ⟨x, .pick (.tmp t) (.tmp u) (.const (.bool false)), ty, ps, af, gd⟩ j = true) (hk : kind j = constK (.bool b))
    (hj' : dstAt ops k = some u) (hd' : depB ⟨x, .pick (.tmp t) (.tmp u) (.const (.bool false)), ty, ps, af, gd⟩ k = true) (hk' : kind k = constK c) {r : Value} (hr : (if b then c else .bool false) = r) :
    OpOk Try.prog ops a0 w0 kind ⟨x, .pick (.tmp t) (.tmp u) (.const (.bool false)), ty, ps, af, gd⟩ (constK r) := by
  subst hr
  refine ok_const fun A L val w env facts hb => ?_
  have e1 := dep_const env facts j t _ hd hj hk
  have e2 := dep_const env facts k u _ hd' hj' hk'
  have e3 : A.eval (.const (.bool false)) = .bool false := rfl
  simp only [execOp, e1, e2, e3]
  cases b <;> simp [go_sem]
theorem ok_or {j k : Nat} {t u : Tmp} {b : Bool} {c : Value} {x : Option Tmp} {ty : TypeId} {ps : String} {af : Array Edge} {gd : Option (Nat × Bool)} (hj : dstAt ops j = some t) (hd : depB ⟨x, .pick (.tmp t) (.const (.bool true)) (.tmp u), ty, ps, af, gd⟩ j = true) (hk : kind j = constK (.bool b))
    (hj' : dstAt ops k = some u) (hd' : depB ⟨x, .pick (.tmp t) (.const (.bool true)) (.tmp u), ty, ps, af, gd⟩ k = true) (hk' : kind k = constK c) {r : Value} (hr : (if b then .bool true else c) = r) :
    OpOk Try.prog ops a0 w0 kind ⟨x, .pick (.tmp t) (.const (.bool true)) (.tmp u), ty, ps, af, gd⟩ (constK r) := by
  subst hr
  refine ok_const fun A L val w env facts hb => ?_
  have e1 := dep_const env facts j t _ hd hj hk
  have e2 := dep_const env facts k u _ hd' hj' hk'
  have e3 : A.eval (.const (.bool true)) = .bool true := rfl
  simp only [execOp, e1, e2, e3]
  cases b <;> simp [go_sem]
/-- a call that hands back one value -/
theorem ok_keptG {v : Value} {f : FuncId} {xs : Array Operand} {ts : Array TypeId} {x : Option Tmp} {ty : TypeId} {ps : String} {af : Array Edge} {gd : Option (Nat × Bool)} (hcf : ∀ (args : Array Value) (w : World), (callFunc f args).run Try.prog w = .ok (.enter f args) w)
    (h : ∀ A L val w, Env ops a0 A L val → (∀ d, depB ⟨x, .call ⟨.value (.func f), xs, ts⟩, ty, ps, af, gd⟩ d = true → L d = true ∧ Fact kind w0 L val w d) → Below w0.heap.size w0 w → Calls Try.prog f (xs.map A.eval) w fun e w' => e = .returned v ∧ Below w.heap.size w w') :
    OpOk Try.prog ops a0 w0 kind ⟨x, .call ⟨.value (.func f), xs, ts⟩, ty, ps, af, gd⟩ (keptK v) := by
  refine ⟨fun v w w' h hb => h, fun v w q n a l c n' a' l' c' h hq => h, fun A L val w env facts hb => ⟨f, _, ?_, (h A L val w env facts hb).mono ?_⟩⟩
  · have e : A.eval (.func f) = .func (.func f) #[] #[] := rfl
    simp only [execOp, resolve, e]
    simp [go_sem, hcf]
  rintro e w' ⟨rfl, hb'⟩
  exact ⟨_, rfl, rfl, hb'⟩
/-- two ints that two calls hand back, the same one -/
theorem ok_eqK {j k : Nat} {t u : Tmp} {r : Int} {x : Option Tmp} {ty : TypeId} {ps : String} {af : Array Edge} {gd : Option (Nat × Bool)} (hj : dstAt ops j = some t) (hd : depB ⟨x, .binOp .eql 3 (.tmp t) (.tmp u) 3, ty, ps, af, gd⟩ j = true) (hk : kind j = keptK (.int .i64 r))
    (hj' : dstAt ops k = some u) (hd' : depB ⟨x, .binOp .eql 3 (.tmp t) (.tmp u) 3, ty, ps, af, gd⟩ k = true) (hk' : kind k = keptK (.int .i64 r)) :
    OpOk Try.prog ops a0 w0 kind ⟨x, .binOp .eql 3 (.tmp t) (.tmp u) 3, ty, ps, af, gd⟩ (constK (.bool true)) := by
  refine ok_const fun A L val w env facts hb => ?_
  have e1 := dep_kept env facts j t _ hd hj hk
  have e2 := dep_kept env facts k u _ hd' hj' hk'
  simp only [execOp, e1, e2]
  simp [go_sem]
theorem ok_eqZ {j k : Nat} {t u : Tmp} {x : Option Tmp} {ty : TypeId} {ps : String} {af : Array Edge} {gd : Option (Nat × Bool)} (hj : dstAt ops j = some t) (hd : depB ⟨x, .binOp .eql 84 (.tmp t) (.tmp u) 84, ty, ps, af, gd⟩ j = true) (hk : kind j = constK (.agg #[.int .i64 0, .int .u64 0]))
    (hj' : dstAt ops k = some u) (hd' : depB ⟨x, .binOp .eql 84 (.tmp t) (.tmp u) 84, ty, ps, af, gd⟩ k = true) (hk' : kind k = constK (.agg #[.int .i64 0, .int .u64 0])) :
    OpOk Try.prog ops a0 w0 kind ⟨x, .binOp .eql 84 (.tmp t) (.tmp u) 84, ty, ps, af, gd⟩ (constK (.bool true)) := by
  refine ok_const fun A L val w env facts hb => ?_
  have e1 := dep_const env facts j t _ hd hj hk
  have e2 := dep_const env facts k u _ hd' hj' hk'
  simp only [execOp, e1, e2]
  first | (simp [go_sem]; done) | rfl | (show _ = _; kernel_rfl)
/-! ### guards -/
theorem st_plain {k : Kind} (h : OpOk Try.prog ops a0 w0 kind o k) (hg : o.guard = none) : StepOk Try.prog ops a0 w0 kind o k := .inl ⟨h, .inl hg⟩
theorem st_run {k : Kind} {g : Nat} {want : Bool} {t : Tmp} (h : OpOk Try.prog ops a0 w0 kind o k) (hg : o.guard = some (g, want)) (hd : depB o g = true) (hj : dstAt ops g = some t) (hk : kind g = constK (.bool want)) : StepOk Try.prog ops a0 w0 kind o k :=
  .inl ⟨h, .inr ⟨g, want, t, hg, hd, hj, fun L val w f => by unfold Fact at f; rw [hk] at f; exact f⟩⟩
theorem st_skip {g : Nat} {want : Bool} {t : Tmp} (hg : o.guard = some (g, want)) (hd : depB o g = true) (hj : dstAt ops g = some t) (hk : kind g = constK (.bool (!want))) : StepOk Try.prog ops a0 w0 kind o (constK undef) :=
  .inr ⟨g, want, t, hg, hd, hj, fun L val w f => by unfold Fact at f; rw [hk] at f; exact f, _, rfl, fun val val' x h hr => hr, fun val => rfl⟩
end
end Go.Proofs.Ytmelbgabiklojaa
