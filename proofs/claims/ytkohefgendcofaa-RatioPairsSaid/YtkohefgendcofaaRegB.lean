/- The operations of a region on big numbers: each by its kind. -/
import Derived.Test.YtkohefgendcofaaReg
import Derived.Test.YtkohefgendcofaaRefA
import Derived.WalkKit
import Derived.WalkSpells
import Derived.WalkLawsBesides
import Derived.Handy
import Derived.Lib.Hide
namespace Go.Proofs.Ytkohefgendcofaa
open Go.RowKit Go.Proofs.Big Go.Proofs.Reg
set_option linter.unusedVariables false
set_option linter.unusedSimpArgs false
set_option maxRecDepth 100000
def IsBig (v : Value) : Prop := ∃ n a l c, v = .agg #[.bool n, .slice a l c]
def IsPair (v : Value) : Prop := ∃ n a l c n' a' l' c', v = .tuple #[.agg #[.bool n, .slice a l c], .agg #[.bool n', .slice a' l' c']]
def constK (c : Value) : Kind := .pure fun _ v => v = c
def moveK (j : Nat) : Kind := .pure fun val v => v = val j ∧ IsPair v
def fstK (j : Nat) : Kind := .pure fun val v => IsBig v ∧ ∃ q, val j = .tuple #[v, q]
def sndK (j : Nat) : Kind := .pure fun val v => IsBig v ∧ ∃ q, val j = .tuple #[q, v]
def BigC (N : Int) (v : Value) (w : World) : Prop := ∃ n a l c, v = .agg #[.bool n, .slice a l c] ∧ BigV w n a l c N
def PairC (N M : Int) (v : Value) (w : World) : Prop := ∃ n a l c n' a' l' c', v = .tuple #[.agg #[.bool n, .slice a l c], .agg #[.bool n', .slice a' l' c']] ∧ BigV w n a l c N ∧ BigV w n' a' l' c' M
def bigK (N : Int) : Kind := .call (BigC N)
def pairK (N M : Int) : Kind := .call (PairC N M)
def keptK (c : Value) : Kind := .call fun v _ => v = c
section
variable {ops : Array Oper} {a0 : Act} {w0 : World} {kind : Nat → Kind} {o : Oper}
theorem ok_move {j : Nat} {t : Tmp} {x : Option Tmp} {ty : TypeId} {ps : String} {af : Array Edge} {N M : Int} (hj : dstAt ops j = some t) (hd : depB ⟨x, .move (.tmp t), ty, ps, af, none⟩ j = true) (hk : kind j = pairK N M) :
    OpOk Try.prog ops a0 w0 kind ⟨x, .move (.tmp t), ty, ps, af, none⟩ (moveK j) := by
  refine ⟨fun val val' x h hr => ⟨hr.1.trans (h j hd), hr.2⟩, fun A L val w env facts hb => ?_⟩
  obtain ⟨l, F⟩ := facts j hd
  unfold Fact at F
  rw [hk] at F
  obtain ⟨n, a, l', c, n', a', l'', c', e, _, _⟩ := F
  exact ⟨val j, ⟨rfl, n, a, l', c, n', a', l'', c', e⟩, by rw [← env.dep j t l hj]; rfl⟩
theorem ok_fst {j : Nat} {t : Tmp} {x : Option Tmp} {ty : TypeId} {ps : String} {af : Array Edge} {m : Nat} (hj : dstAt ops j = some t) (hd : depB ⟨x, .extract (.tmp t) 0, ty, ps, af, none⟩ j = true) (hk : kind j = moveK m) :
    OpOk Try.prog ops a0 w0 kind ⟨x, .extract (.tmp t) 0, ty, ps, af, none⟩ (fstK j) := by
  refine ⟨fun val val' x h hr => ⟨hr.1, by obtain ⟨q, e⟩ := hr.2; exact ⟨q, by rw [← h j hd]; exact e⟩⟩, fun A L val w env facts hb => ?_⟩
  obtain ⟨l, F⟩ := facts j hd
  unfold Fact at F
  rw [hk] at F
  obtain ⟨_, n, a, l', c, n', a', l'', c', e⟩ := F
  have e1 := env.dep j t l hj
  rw [e] at e1
  exact ⟨.agg #[.bool n, .slice a l' c], ⟨⟨n, a, l', c, rfl⟩, _, e⟩, by simp only [execOp, e1]; simp [go_sem]⟩
theorem ok_snd {j : Nat} {t : Tmp} {x : Option Tmp} {ty : TypeId} {ps : String} {af : Array Edge} {m : Nat} (hj : dstAt ops j = some t) (hd : depB ⟨x, .extract (.tmp t) 1, ty, ps, af, none⟩ j = true) (hk : kind j = moveK m) :
    OpOk Try.prog ops a0 w0 kind ⟨x, .extract (.tmp t) 1, ty, ps, af, none⟩ (sndK j) := by
  refine ⟨fun val val' x h hr => ⟨hr.1, by obtain ⟨q, e⟩ := hr.2; exact ⟨q, by rw [← h j hd]; exact e⟩⟩, fun A L val w env facts hb => ?_⟩
  obtain ⟨l, F⟩ := facts j hd
  unfold Fact at F
  rw [hk] at F
  obtain ⟨_, n, a, l', c, n', a', l'', c', e⟩ := F
  have e1 := env.dep j t l hj
  rw [e] at e1
  exact ⟨.agg #[.bool n', .slice a' l'' c'], ⟨⟨n', a', l'', c', rfl⟩, _, e⟩, by simp only [execOp, e1]; simp [go_sem]⟩
/-- a slot of the frame that the region begins in -/
theorem ok_arg {t : Tmp} {c : Value} {x : Option Tmp} {ty : TypeId} {ps : String} {af : Array Edge} (ht : (ops.all fun o => o.dst != some t) = true) (he : a0.eval (.tmp t) = c) :
    OpOk Try.prog ops a0 w0 kind ⟨x, .move (.tmp t), ty, ps, af, none⟩ (constK c) := by
  refine ⟨fun val val' x h hr => hr, fun A L val w env facts hb => ⟨_, rfl, ?_⟩⟩
  have e1 := env.out t ht
  rw [he] at e1
  rw [← e1]
  rfl
/-- a box of the world that the region begins in -/
theorem ok_load {t : Tmp} {q : Nat} {n : Bool} {a : Option Addr} {l c : Nat} {x : Option Tmp} {ty : TypeId} {ps : String} {af : Array Edge} (ht : (ops.all fun o => o.dst != some t) = true) (he : a0.eval (.tmp t) = .pointer (some ⟨q, 0, none⟩)) (hq : BV w0 q n a l c) :
    OpOk Try.prog ops a0 w0 kind ⟨x, .load 29 (.tmp t), ty, ps, af, none⟩ (constK (.agg #[.bool n, .slice a l c])) := by
  refine ⟨fun val val' x h hr => hr, fun A L val w env facts hb => ⟨_, rfl, ?_⟩⟩
  have e1 := env.out t ht
  rw [he] at e1
  obtain ⟨c0, c1, _, _⟩ := hq.later hb
  simp only [execOp, e1]
  simp [go_sem, c0, c1]
theorem ok_box {x : Option Tmp} {ty : TypeId} {ps : String} {af : Array Edge} {st src : Nat} : OpOk Try.prog ops a0 w0 kind ⟨x, .alloc 29, ty, ps, af, none⟩ (.box 29 st src) := by
  intro A w
  simp [execOp, go_sem]
theorem ok_put {al src : Nat} {t u : Tmp} {x : Option Tmp} {ty : TypeId} {ps : String} {af : Array Edge} (ha : dstAt ops al = some t) (hs : dstAt ops src = some u) (d1 : depB ⟨x, .store 29 (.tmp t) (.tmp u), ty, ps, af, none⟩ al = true) (d2 : depB ⟨x, .store 29 (.tmp t) (.tmp u), ty, ps, af, none⟩ src = true)
    (hform : ∀ L val w, Fact kind w0 L val w src → IsBig (val src)) :
    OpOk Try.prog ops a0 w0 kind ⟨x, .store 29 (.tmp t) (.tmp u), ty, ps, af, none⟩ (.put al src) := by
  refine ⟨d1, d2, hform, fun A L val w q n a l c n' a' l' c' env lal lsrc hq hv B => ?_⟩
  have e1 := env.dep al t lal ha
  have e2 := env.dep src u lsrc hs
  rw [hq] at e1
  rw [hv] at e2
  obtain ⟨c0, c1, c2, c3⟩ := B
  simp only [execOp, e1, e2]
  simp [go_sem, c0, c1, c2, c3, Reg.stored]
theorem bigC_later {N : Int} {v : Value} {w w' : World} (h : BigC N v w) (hb : Below w.heap.size w w') : BigC N v w' := by
  obtain ⟨n, a, l, c, e, b⟩ := h
  exact ⟨n, a, l, c, e, b.later hb⟩
theorem pairC_later {N M : Int} {v : Value} {w w' : World} (h : PairC N M v w) (hb : Below w.heap.size w w') : PairC N M v w' := by
  obtain ⟨n, a, l, c, n', a', l', c', e, b, b'⟩ := h
  exact ⟨n, a, l, c, n', a', l', c', e, b.later hb, b'.later hb⟩
theorem bigC_put {N : Int} {v : Value} {w : World} {q : Nat} {n : Bool} {a : Option Addr} {l c : Nat} {n' : Bool} {a' : Option Addr} {l' c' : Nat} (h : BigC N v w) (hq : BV w q n a l c) : BigC N v (Reg.stored w q n' a' l' c') := by
  obtain ⟨n, a, l, c, e, b⟩ := h
  exact ⟨n, a, l, c, e, b.setBV hq _ _⟩
theorem pairC_put {N M : Int} {v : Value} {w : World} {q : Nat} {n : Bool} {a : Option Addr} {l c : Nat} {n' : Bool} {a' : Option Addr} {l' c' : Nat} (h : PairC N M v w) (hq : BV w q n a l c) : PairC N M v (Reg.stored w q n' a' l' c') := by
  obtain ⟨n1, a1, l1, c1, n2, a2, l2, c2, e, b, b'⟩ := h
  exact ⟨n1, a1, l1, c1, n2, a2, l2, c2, e, b.setBV hq _ _, b'.setBV hq _ _⟩
theorem run_call {f : FuncId} {xs : Array Operand} {ts : Array TypeId} {x : Option Tmp} {ty : TypeId} {ps : String} {af : Array Edge} {A : Act} {w : World} (hcf : ∀ (args : Array Value) (w : World), (callFunc f args).run Try.prog w = .ok (.enter f args) w) :
    (execOp A.eval ⟨x, .call ⟨.value (.func f), xs, ts⟩, ty, ps, af, none⟩).run Try.prog w = .ok (.enter f (xs.map A.eval)) w := by
  have e : A.eval (.func f) = .func (.func f) #[] #[] := rfl
  simp only [execOp, resolve, e]
  simp [go_sem, hcf]
/-- a call that hands back a big number -/
theorem ok_big {N : Int} {f : FuncId} {xs : Array Operand} {ts : Array TypeId} {x : Option Tmp} {ty : TypeId} {ps : String} {af : Array Edge} (hcf : ∀ (args : Array Value) (w : World), (callFunc f args).run Try.prog w = .ok (.enter f args) w)
    (h : ∀ A L val w, Env ops a0 A L val → (∀ d, depB ⟨x, .call ⟨.value (.func f), xs, ts⟩, ty, ps, af, none⟩ d = true → L d = true ∧ Fact kind w0 L val w d) → Below w0.heap.size w0 w → Calls Try.prog f (xs.map A.eval) w (RetBig w N)) :
    OpOk Try.prog ops a0 w0 kind ⟨x, .call ⟨.value (.func f), xs, ts⟩, ty, ps, af, none⟩ (bigK N) := by
  refine ⟨fun v w w' h hb => bigC_later h hb, fun v w q n a l c n' a' l' c' h hq => bigC_put h hq, fun A L val w env facts hb => ⟨f, _, run_call hcf, (h A L val w env facts hb).mono ?_⟩⟩
  rintro e w' ⟨n, a, l, c, rfl, hv, hb'⟩
  exact ⟨_, rfl, ⟨n, a, l, c, rfl, hv⟩, hb'⟩
theorem ok_pair {N M : Int} {f : FuncId} {xs : Array Operand} {ts : Array TypeId} {x : Option Tmp} {ty : TypeId} {ps : String} {af : Array Edge} (hcf : ∀ (args : Array Value) (w : World), (callFunc f args).run Try.prog w = .ok (.enter f args) w)
    (h : ∀ A L val w, Env ops a0 A L val → (∀ d, depB ⟨x, .call ⟨.value (.func f), xs, ts⟩, ty, ps, af, none⟩ d = true → L d = true ∧ Fact kind w0 L val w d) → Below w0.heap.size w0 w → Calls Try.prog f (xs.map A.eval) w (RetBig2 w N M)) :
    OpOk Try.prog ops a0 w0 kind ⟨x, .call ⟨.value (.func f), xs, ts⟩, ty, ps, af, none⟩ (pairK N M) := by
  refine ⟨fun v w w' h hb => pairC_later h hb, fun v w q n a l c n' a' l' c' h hq => pairC_put h hq, fun A L val w env facts hb => ⟨f, _, run_call hcf, (h A L val w env facts hb).mono ?_⟩⟩
  rintro e w' ⟨n, a, l, c, n', a', l', c', rfl, hv, hv', hb'⟩
  exact ⟨_, rfl, ⟨n, a, l, c, n', a', l', c', rfl, hv, hv'⟩, hb'⟩
theorem ok_kept {v : Value} {f : FuncId} {xs : Array Operand} {ts : Array TypeId} {x : Option Tmp} {ty : TypeId} {ps : String} {af : Array Edge} (hcf : ∀ (args : Array Value) (w : World), (callFunc f args).run Try.prog w = .ok (.enter f args) w)
    (h : ∀ A L val w, Env ops a0 A L val → (∀ d, depB ⟨x, .call ⟨.value (.func f), xs, ts⟩, ty, ps, af, none⟩ d = true → L d = true ∧ Fact kind w0 L val w d) → Below w0.heap.size w0 w → Calls Try.prog f (xs.map A.eval) w fun e w' => e = .returned v ∧ Below w.heap.size w w') :
    OpOk Try.prog ops a0 w0 kind ⟨x, .call ⟨.value (.func f), xs, ts⟩, ty, ps, af, none⟩ (keptK v) := by
  refine ⟨fun v w w' h hb => h, fun v w q n a l c n' a' l' c' h hq => h, fun A L val w env facts hb => ⟨f, _, run_call hcf, (h A L val w env facts hb).mono ?_⟩⟩
  rintro e w' ⟨rfl, hb'⟩
  exact ⟨_, rfl, rfl, hb'⟩
theorem map1 (f : Operand → Value) (x : Operand) : #[x].map f = #[f x] := by simp
theorem map2 (f : Operand → Value) (x y : Operand) : #[x, y].map f = #[f x, f y] := by simp
theorem map3 (f : Operand → Value) (x y z : Operand) : #[x, y, z].map f = #[f x, f y, f z] := by simp
/-- what a call finds in an argument's slot -/
theorem dep_const {A : Act} {L : Nat → Bool} {val : Nat → Value} {w : World} (env : Env ops a0 A L val) (facts : ∀ d, depB o d = true → L d = true ∧ Fact kind w0 L val w d) (j : Nat) (t : Tmp) (c : Value) (hd : depB o j = true) (hj : dstAt ops j = some t) (hk : kind j = constK c) : A.eval (.tmp t) = c := by
  obtain ⟨l, F⟩ := facts j hd
  unfold Fact at F
  rw [hk] at F
  rw [env.dep j t l hj]
  exact F
theorem dep_kept {A : Act} {L : Nat → Bool} {val : Nat → Value} {w : World} (env : Env ops a0 A L val) (facts : ∀ d, depB o d = true → L d = true ∧ Fact kind w0 L val w d) (j : Nat) (t : Tmp) (c : Value) (hd : depB o j = true) (hj : dstAt ops j = some t) (hk : kind j = keptK c) : A.eval (.tmp t) = c := by
  obtain ⟨l, F⟩ := facts j hd
  unfold Fact at F
  rw [hk] at F
  rw [env.dep j t l hj]
  exact F
theorem dep_big {A : Act} {L : Nat → Bool} {val : Nat → Value} {w : World} (env : Env ops a0 A L val) (facts : ∀ d, depB o d = true → L d = true ∧ Fact kind w0 L val w d) (j : Nat) (t : Tmp) (N : Int) (hd : depB o j = true) (hj : dstAt ops j = some t) (hk : kind j = bigK N) : ∃ n a l c, A.eval (.tmp t) = .agg #[.bool n, .slice a l c] ∧ BigV w n a l c N := by
  obtain ⟨l, F⟩ := facts j hd
  unfold Fact at F
  rw [hk] at F
  rw [env.dep j t l hj]
  exact F
end
end Go.Proofs.Ytkohefgendcofaa
