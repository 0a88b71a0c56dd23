/- Calls in a region. -/
import Derived.Test.YtmelbgabiklojaaProg
import Derived.Test.YtmelbgabiklojaaRegM
import Derived.WalkKit
import Derived.WalkSpells
import Derived.WalkLawsBesides
import Derived.Handy
import Derived.Lib.Hide
namespace Go.Proofs.Ytmelbgabiklojaa
open Go.RowKit Go.Proofs.Reg
set_option linter.unusedVariables false
set_option linter.unusedSimpArgs false
theorem bel_new (w : World) (o : Obj) : Below w.heap.size w (w.alloc o) := (Below.refl _ _).alloc (Nat.le_refl _) o
theorem bel_tr {B : Nat} {w w1 w2 : World} (h : Below B w w1) (k : Below w1.heap.size w1 w2) (hB : B ≤ w1.heap.size) : Below B w w2 := h.trans (k.mono hB)
theorem bel_tr0 {w w1 w2 : World} (h : Below w.heap.size w w1) (k : Below w1.heap.size w1 w2) : Below w.heap.size w w2 := h.trans (k.mono h.size)
theorem run_callW {f : FuncId} {xs : Array Operand} {ts : Array TypeId} {x : Option Tmp} {ty : TypeId} {ps : String} {af : Array Edge} {gd : Option (Nat × Bool)} {A : Act} {w : World} (hcf : ∀ (args : Array Value) (w : World), (callFunc f args).run Try.prog w = .ok (.enter f args) w) :
    (execOp A.eval ⟨x, .call ⟨.value (.func f), xs, ts⟩, ty, ps, af, gd⟩).run Try.prog w = .ok (.enter f (xs.map A.eval)) w := by
  have e : A.eval (.func f) = .func (.func f) #[] #[] := rfl
  simp only [execOp, resolve, e]
  simp [go_sem, hcf]
section
variable {P : Program} {A : Act} {w w' : World} {x : Option Tmp} {ty : TypeId} {ps : String} {af : Array Edge} {gd : Option (Nat × Bool)} {p q r : Operand} {u v c d : Value} {t t' : TypeId}
theorem eval_const {A : Act} {v : Value} : A.eval (.const v) = v := rfl
theorem run_move (e : A.eval p = u) : (execOp A.eval ⟨x, .move p, ty, ps, af, gd⟩).run P w = .ok (.value u) w := by rw [← e]; rfl
theorem run_assign (e : A.eval p = u) : (execOp A.eval ⟨x, .assign p, ty, ps, af, gd⟩).run P w = .ok (.value u) w := by rw [← e]; rfl
theorem run_pickT (e : A.eval p = .bool true) (f : A.eval q = u) : (execOp A.eval ⟨x, .pick p q r, ty, ps, af, gd⟩).run P w = .ok (.value u) w := by
  simp only [execOp, e, f]; simp [go_sem]
theorem run_pickF (e : A.eval p = .bool false) (f : A.eval r = u) : (execOp A.eval ⟨x, .pick p q r, ty, ps, af, gd⟩).run P w = .ok (.value u) w := by
  simp only [execOp, e, f]; simp [go_sem]
theorem run_then {s : Sem Value} (h : s.run P w = .ok v w') : (do pure (Next.value (← s)) : Sem Next).run P w = .ok (.value v) w' := by
  rw [Sem.run_bind, h]; rfl
theorem run_thenU {s : Sem Unit} (h : s.run P w = .ok () w') : (do s; pure Next.skip : Sem Next).run P w = .ok .skip w' := by
  rw [Sem.run_bind, h]; rfl
theorem run_guard {s : Sem Unit} {r : Sem Value} (g : s.run P w = .ok () w) (h : r.run P w = .ok v w') : (do s; r : Sem Value).run P w = .ok v w' := by
  rw [Sem.run_bind, g]; exact h
theorem run_load (e : A.eval p = u) (h : (Instr.loadAt t u).run P w = .ok v w') : (execOp A.eval ⟨x, .load t p, ty, ps, af, gd⟩).run P w = .ok (.value v) w' := by
  simp only [execOp, e]; exact run_then h
theorem run_field {f : Nat} (e : A.eval p = u) (h : (Instr.fieldAt t u f).run P w = .ok v w') : (execOp A.eval ⟨x, .fieldAddr t p f, ty, ps, af, gd⟩).run P w = .ok (.value v) w' := by
  simp only [execOp, e]; exact run_then h
theorem run_index (e : A.eval p = u) (f : A.eval q = c) (h : (Instr.indexAt t u c).run P w = .ok v w') : (execOp A.eval ⟨x, .indexAddr t p q, ty, ps, af, gd⟩).run P w = .ok (.value v) w' := by
  simp only [execOp, e, f]; exact run_then h
theorem run_bin {op : BinOp} (e : A.eval p = u) (f : A.eval q = c) (g : (eqGuard op t p q u c).run P w = .ok () w) (h : (binOp op t u c).run P w = .ok v w') : (execOp A.eval ⟨x, .binOp op t p q t', ty, ps, af, gd⟩).run P w = .ok (.value v) w' := by
  simp only [execOp, e, f]; exact run_then (run_guard g h)
theorem run_un {op : UnOp} (e : A.eval p = u) (h : (Op.unary op u).run P w = .ok v w') : (execOp A.eval ⟨x, .unOp op t p, ty, ps, af, gd⟩).run P w = .ok (.value v) w' := by
  simp only [execOp, e]; exact run_then h
theorem run_conv (e : A.eval p = u) (h : (convert t t' u).run P w = .ok v w') : (execOp A.eval ⟨x, .convert t t' p, ty, ps, af, gd⟩).run P w = .ok (.value v) w' := by
  simp only [execOp, e]; exact run_then h
theorem run_build {l : Array (Nat × Operand)} {l' : Array (Nat × Value)} (e : (l.map fun (i, x) => (i, A.eval x)) = l') (h : (Instr.build t l').run P w = .ok v w') : (execOp A.eval ⟨x, .build t l, ty, ps, af, gd⟩).run P w = .ok (.value v) w' := by
  simp only [execOp, e]; exact run_then h
theorem run_ext {i : Nat} (e : A.eval p = u) (h : (Instr.extract u i).run P w = .ok v w') : (execOp A.eval ⟨x, .extract p i, ty, ps, af, gd⟩).run P w = .ok (.value v) w' := by
  simp only [execOp, e]; exact run_then h
theorem run_store (e : A.eval p = u) (f : A.eval q = v) (h : (Instr.storeAt t u v).run P w = .ok () w') : (execOp A.eval ⟨x, .store t p q, ty, ps, af, gd⟩).run P w = .ok .skip w' := by
  simp only [execOp, e, f]; exact run_thenU h
theorem run_alloc (h : (Instr.alloc t true (.tuple #[])).run P w = .ok v w') : (execOp A.eval ⟨x, .alloc t, ty, ps, af, gd⟩).run P w = .ok (.value v) w' := by
  simp only [execOp]; exact run_then h
theorem run_box (e : A.eval p = u) (h : (Instr.box t u).run P w = .ok v w') : (execOp A.eval ⟨x, .box t p, ty, ps, af, gd⟩).run P w = .ok (.value v) w' := by
  simp only [execOp, e]; exact run_then h
end
end Go.Proofs.Ytmelbgabiklojaa
