/- The reference's fractions: Down of numbers not below 0, size, Common. -/
import Derived.Test.YtmelbgabiklojaaBigI
import Derived.Test.YtmelbgabiklojaaRatio
import Derived.Test.YtmelbgabiklojaaReg
import Derived.WalkKit
import Derived.WalkSpells
import Derived.WalkLawsBesides
import Derived.Handy
import Derived.Lib.Hide
import Derived.Deep.QuietTactic
import Derived.BigQuiet
import Derived.LoopTactic
import Derived.RegionTactic
import Derived.BigRegion
import Derived.Deep.LoopGhost
import Derived.Deep.RegionHeld3
import Derived.Deep.RegionWith
import Derived.Outline
import Derived.Deep.DeepCutAuto
namespace Go.Proofs.Ytmelbgabiklojaa
open Go.RowKit Go.Proofs.Big
set_option linter.unusedVariables false
set_option linter.unusedSimpArgs false
set_option maxRecDepth 100000
/-- a quotient is no greater, its product with the divisor neither -/
theorem quo_le {n m : Int} (n0 : 0 ≤ n) (m0 : 0 < m) : 0 ≤ n / m ∧ n / m ≤ n ∧ 0 ≤ n / m * m ∧ n / m * m ≤ n ∧ n - n / m * m = n % m := by
  have e := Int.mul_ediv_add_emod n m
  have r0 := Int.emod_nonneg n (show m ≠ 0 by omega)
  have q0 := Int.ediv_nonneg n0 (Int.le_of_lt m0)
  have c : n / m * m = m * (n / m) := Int.mul_comm _ _
  have p : 0 ≤ n / m * m := Int.mul_nonneg q0 (by omega)
  exact ⟨q0, Int.ediv_le_self m n0, p, by omega, by omega⟩
/-- memory in the course of Common -/
structure ComW (w wr : World) (a : Option Addr) (la ca : Nat) (b : Option Addr) (lb cb : Nat) (x y : Int) : Prop where
  A : BV wr w.heap.size false a la ca
  B : BV wr (w.heap.size + 1) false b lb cb
  R : BV wr (w.heap.size + 1 + 1) false none 0 0
  An : BigV wr false a la ca x
  Bn : BigV wr false b lb cb y
  bel : Below w.heap.size w wr
theorem ComW.later {w wr wx : World} {a b : Option Addr} {la ca lb cb : Nat} {x y : Int} (h : ComW w wr a la ca b lb cb x y) (k : Below wr.heap.size wr wx) : ComW w wx a la ca b lb cb x y :=
  ⟨h.A.later k, h.B.later k, h.R.later k, h.An.later k, h.Bn.later k, h.bel.trans (k.mono h.bel.size)⟩
theorem ComW.swap {w wr : World} {a b r : Option Addr} {la ca lb cb lr cr : Nat} {x y z : Int} (h : ComW w wr a la ca b lb cb x y) (hz : BigV wr false r lr cr z) :
    ComW w ((((wr.setCell ⟨w.heap.size, 0, none⟩ (.bool false)).setCell ⟨w.heap.size, 1, none⟩ (.slice b lb cb)).setCell ⟨w.heap.size + 1, 0, none⟩ (.bool false)).setCell ⟨w.heap.size + 1, 1, none⟩ (.slice r lr cr)) b lb cb r lr cr y z := by
  have b1 := h.B.other (b' := w.heap.size) (by omega) (.bool false) (.slice b lb cb)
  refine ⟨(h.A.set _ _ _ _).other (by omega) _ _, b1.set _ _ _ _, (h.R.other (by omega) _ _).other (by omega) _ _, (h.Bn.setBV h.A _ _).setBV b1 _ _, (hz.setBV h.A _ _).setBV b1 _ _, ?_⟩
  exact (((h.bel.setCell (by show w.heap.size ≤ w.heap.size; omega) _).setCell (by show w.heap.size ≤ w.heap.size; omega) _).setCell (by show w.heap.size ≤ w.heap.size + 1; omega) _).setCell (by show w.heap.size ≤ w.heap.size + 1; omega) _
/-- what the numbers of Common are -/
structure ComN (n m x y : Int) : Prop where
  x0 : 0 ≤ x
  x1 : x < P 99
  y0 : 0 ≤ y
  y1 : y < P 99
  g : Int.gcd x y = Int.gcd n m
end Go.Proofs.Ytmelbgabiklojaa
/- The operations of a region on big numbers: each by its kind. -/
namespace Go.Proofs.Ytmelbgabiklojaa
open Go.RowKit Go.Proofs.Big Go.Proofs.Reg
set_option linter.unusedVariables false
set_option linter.unusedSimpArgs false
set_option maxRecDepth 100000
def IsBig (v : Value) : Prop := ∃ n a l c, v = .agg #[.bool n, .slice a l c]
def IsPair (v : Value) : Prop := ∃ n a l c n' a' l' c', v = .tuple #[.agg #[.bool n, .slice a l c], .agg #[.bool n', .slice a' l' c']]
def constK (c : Value) : Kind := .pure fun _ v => v = c
def moveK (j : Nat) : Kind := .pure fun val v => v = val j ∧ IsPair v
def fstK (j : Nat) : Kind := .pure fun val v => IsBig v ∧ ∃ q, val j = .tuple #[v, q]
def sndK (j : Nat) : Kind := .pure fun val v => IsBig v ∧ ∃ q, val j = .tuple #[q, v]
def BigC (N : Int) (v : Value) (w : World) : Prop := ∃ n a l c, v = .agg #[.bool n, .slice a l c] ∧ BigV w n a l c N
def PairC (N M : Int) (v : Value) (w : World) : Prop := ∃ n a l c n' a' l' c', v = .tuple #[.agg #[.bool n, .slice a l c], .agg #[.bool n', .slice a' l' c']] ∧ BigV w n a l c N ∧ BigV w n' a' l' c' M
def bigK (N : Int) : Kind := .call (BigC N)
def pairK (N M : Int) : Kind := .call (PairC N M)
def keptK (c : Value) : Kind := .call fun v _ => v = c
section
variable {ops : Array Oper} {a0 : Act} {w0 : World} {kind : Nat → Kind} {o : Oper}
theorem ok_move {j : Nat} {t : Tmp} {x : Option Tmp} {ty : TypeId} {ps : String} {af : Array Edge} {N M : Int} (hj : dstAt ops j = some t) (hd : depB ⟨x, .move (.tmp t), ty, ps, af, none⟩ j = true) (hk : kind j = pairK N M) :
    OpOk Try.prog ops a0 w0 kind ⟨x, .move (.tmp t), ty, ps, af, none⟩ (moveK j) := by
  refine ⟨fun val val' x h hr => ⟨hr.1.trans (h j hd), hr.2⟩, fun A L val w env facts hb => ?_⟩
  obtain ⟨l, F⟩ := facts j hd
  unfold Fact at F
  rw [hk] at F
  obtain ⟨n, a, l', c, n', a', l'', c', e, _, _⟩ := F
  exact ⟨val j, ⟨rfl, n, a, l', c, n', a', l'', c', e⟩, by rw [← env.dep j t l hj]; rfl⟩
theorem ok_fst {j : Nat} {t : Tmp} {x : Option Tmp} {ty : TypeId} {ps : String} {af : Array Edge} {m : Nat} (hj : dstAt ops j = some t) (hd : depB ⟨x, .extract (.tmp t) 0, ty, ps, af, none⟩ j = true) (hk : kind j = moveK m) :
    OpOk Try.prog ops a0 w0 kind ⟨x, .extract (.tmp t) 0, ty, ps, af, none⟩ (fstK j) := by
  refine ⟨fun val val' x h hr => ⟨hr.1, by obtain ⟨q, e⟩ := hr.2; exact ⟨q, by rw [← h j hd]; exact e⟩⟩, fun A L val w env facts hb => ?_⟩
  obtain ⟨l, F⟩ := facts j hd
  unfold Fact at F
  rw [hk] at F
  obtain ⟨_, n, a, l', c, n', a', l'', c', e⟩ := F
  have e1 := env.dep j t l hj
  rw [e] at e1
  exact ⟨.agg #[.bool n, .slice a l' c], ⟨⟨n, a, l', c, rfl⟩, _, e⟩, by simp only [execOp, e1]; simp [go_sem]⟩
theorem ok_snd {j : Nat} {t : Tmp} {x : Option Tmp} {ty : TypeId} {ps : String} {af : Array Edge} {m : Nat} (hj : dstAt ops j = some t) (hd : depB ⟨x, .extract (.tmp t) 1, ty, ps, af, none⟩ j = true) (hk : kind j = moveK m) :
    OpOk Try.prog ops a0 w0 kind ⟨x, .extract (.tmp t) 1, ty, ps, af, none⟩ (sndK j) := by
  refine ⟨fun val val' x h hr => ⟨hr.1, by obtain ⟨q, e⟩ := hr.2; exact ⟨q, by rw [← h j hd]; exact e⟩⟩, fun A L val w env facts hb => ?_⟩
  obtain ⟨l, F⟩ := facts j hd
  unfold Fact at F
  rw [hk] at F
  obtain ⟨_, n, a, l', c, n', a', l'', c', e⟩ := F
  have e1 := env.dep j t l hj
  rw [e] at e1
  exact ⟨.agg #[.bool n', .slice a' l'' c'], ⟨⟨n', a', l'', c', rfl⟩, _, e⟩, by simp only [execOp, e1]; simp [go_sem]⟩
/-- a slot of the frame that the region begins in -/
theorem ok_arg {t : Tmp} {c : Value} {x : Option Tmp} {ty : TypeId} {ps : String} {af : Array Edge} (ht : (ops.all fun o => o.dst != some t) = true) (he : a0.eval (.tmp t) = c) :
    OpOk Try.prog ops a0 w0 kind ⟨x, .move (.tmp t), ty, ps, af, none⟩ (constK c) := by
  refine ⟨fun val val' x h hr => hr, fun A L val w env facts hb => ⟨_, rfl, ?_⟩⟩
  have e1 := env.out t ht
  rw [he] at e1
  rw [← e1]
  rfl
theorem bigC_later {N : Int} {v : Value} {w w' : World} (h : BigC N v w) (hb : Below w.heap.size w w') : BigC N v w' := by
  obtain ⟨n, a, l, c, e, b⟩ := h
  exact ⟨n, a, l, c, e, b.later hb⟩
theorem pairC_later {N M : Int} {v : Value} {w w' : World} (h : PairC N M v w) (hb : Below w.heap.size w w') : PairC N M v w' := by
  obtain ⟨n, a, l, c, n', a', l', c', e, b, b'⟩ := h
  exact ⟨n, a, l, c, n', a', l', c', e, b.later hb, b'.later hb⟩
theorem bigC_put {N : Int} {v : Value} {w : World} {q : Nat} {n : Bool} {a : Option Addr} {l c : Nat} {n' : Bool} {a' : Option Addr} {l' c' : Nat} (h : BigC N v w) (hq : BV w q n a l c) : BigC N v (Reg.stored w q n' a' l' c') := by
  obtain ⟨n, a, l, c, e, b⟩ := h
  exact ⟨n, a, l, c, e, b.setBV hq _ _⟩
theorem pairC_put {N M : Int} {v : Value} {w : World} {q : Nat} {n : Bool} {a : Option Addr} {l c : Nat} {n' : Bool} {a' : Option Addr} {l' c' : Nat} (h : PairC N M v w) (hq : BV w q n a l c) : PairC N M v (Reg.stored w q n' a' l' c') := by
  obtain ⟨n1, a1, l1, c1, n2, a2, l2, c2, e, b, b'⟩ := h
  exact ⟨n1, a1, l1, c1, n2, a2, l2, c2, e, b.setBV hq _ _, b'.setBV hq _ _⟩
theorem run_call {f : FuncId} {xs : Array Operand} {ts : Array TypeId} {x : Option Tmp} {ty : TypeId} {ps : String} {af : Array Edge} {A : Act} {w : World} (hcf : ∀ (args : Array Value) (w : World), (callFunc f args).run Try.prog w = .ok (.enter f args) w) :
    (execOp A.eval ⟨x, .call ⟨.value (.func f), xs, ts⟩, ty, ps, af, none⟩).run Try.prog w = .ok (.enter f (xs.map A.eval)) w := by
  have e : A.eval (.func f) = .func (.func f) #[] #[] := rfl
  simp only [execOp, resolve, e]
  simp [go_sem, hcf]
/-- a call that hands back a big number -/
theorem ok_big {N : Int} {f : FuncId} {xs : Array Operand} {ts : Array TypeId} {x : Option Tmp} {ty : TypeId} {ps : String} {af : Array Edge} (hcf : ∀ (args : Array Value) (w : World), (callFunc f args).run Try.prog w = .ok (.enter f args) w)
    (h : ∀ A L val w, Env ops a0 A L val → (∀ d, depB ⟨x, .call ⟨.value (.func f), xs, ts⟩, ty, ps, af, none⟩ d = true → L d = true ∧ Fact kind w0 L val w d) → Below w0.heap.size w0 w → Calls Try.prog f (xs.map A.eval) w (RetBig w N)) :
    OpOk Try.prog ops a0 w0 kind ⟨x, .call ⟨.value (.func f), xs, ts⟩, ty, ps, af, none⟩ (bigK N) := by
  refine ⟨fun v w w' h hb => bigC_later h hb, fun v w q n a l c n' a' l' c' h hq => bigC_put h hq, fun A L val w env facts hb => ⟨f, _, run_call hcf, (h A L val w env facts hb).mono ?_⟩⟩
  rintro e w' ⟨n, a, l, c, rfl, hv, hb'⟩
  exact ⟨_, rfl, ⟨n, a, l, c, rfl, hv⟩, hb'⟩
theorem ok_pair {N M : Int} {f : FuncId} {xs : Array Operand} {ts : Array TypeId} {x : Option Tmp} {ty : TypeId} {ps : String} {af : Array Edge} (hcf : ∀ (args : Array Value) (w : World), (callFunc f args).run Try.prog w = .ok (.enter f args) w)
    (h : ∀ A L val w, Env ops a0 A L val → (∀ d, depB ⟨x, .call ⟨.value (.func f), xs, ts⟩, ty, ps, af, none⟩ d = true → L d = true ∧ Fact kind w0 L val w d) → Below w0.heap.size w0 w → Calls Try.prog f (xs.map A.eval) w (RetBig2 w N M)) :
    OpOk Try.prog ops a0 w0 kind ⟨x, .call ⟨.value (.func f), xs, ts⟩, ty, ps, af, none⟩ (pairK N M) := by
  refine ⟨fun v w w' h hb => pairC_later h hb, fun v w q n a l c n' a' l' c' h hq => pairC_put h hq, fun A L val w env facts hb => ⟨f, _, run_call hcf, (h A L val w env facts hb).mono ?_⟩⟩
  rintro e w' ⟨n, a, l, c, n', a', l', c', rfl, hv, hv', hb'⟩
  exact ⟨_, rfl, ⟨n, a, l, c, n', a', l', c', rfl, hv, hv'⟩, hb'⟩
theorem ok_kept {v : Value} {f : FuncId} {xs : Array Operand} {ts : Array TypeId} {x : Option Tmp} {ty : TypeId} {ps : String} {af : Array Edge} (hcf : ∀ (args : Array Value) (w : World), (callFunc f args).run Try.prog w = .ok (.enter f args) w)
    (h : ∀ A L val w, Env ops a0 A L val → (∀ d, depB ⟨x, .call ⟨.value (.func f), xs, ts⟩, ty, ps, af, none⟩ d = true → L d = true ∧ Fact kind w0 L val w d) → Below w0.heap.size w0 w → Calls Try.prog f (xs.map A.eval) w fun e w' => e = .returned v ∧ Below w.heap.size w w') :
    OpOk Try.prog ops a0 w0 kind ⟨x, .call ⟨.value (.func f), xs, ts⟩, ty, ps, af, none⟩ (keptK v) := by
  refine ⟨fun v w w' h hb => h, fun v w q n a l c n' a' l' c' h hq => h, fun A L val w env facts hb => ⟨f, _, run_call hcf, (h A L val w env facts hb).mono ?_⟩⟩
  rintro e w' ⟨rfl, hb'⟩
  exact ⟨_, rfl, rfl, hb'⟩
theorem map1 (f : Operand → Value) (x : Operand) : #[x].map f = #[f x] := by simp
theorem map2 (f : Operand → Value) (x y : Operand) : #[x, y].map f = #[f x, f y] := by simp
theorem map3 (f : Operand → Value) (x y z : Operand) : #[x, y, z].map f = #[f x, f y, f z] := by simp
/-- what a call finds in an argument's slot -/
theorem dep_const {A : Act} {L : Nat → Bool} {val : Nat → Value} {w : World} (env : Env ops a0 A L val) (facts : ∀ d, depB o d = true → L d = true ∧ Fact kind w0 L val w d) (j : Nat) (t : Tmp) (c : Value) (hd : depB o j = true) (hj : dstAt ops j = some t) (hk : kind j = constK c) : A.eval (.tmp t) = c := by
  obtain ⟨l, F⟩ := facts j hd
  unfold Fact at F
  rw [hk] at F
  rw [env.dep j t l hj]
  exact F
theorem dep_kept {A : Act} {L : Nat → Bool} {val : Nat → Value} {w : World} (env : Env ops a0 A L val) (facts : ∀ d, depB o d = true → L d = true ∧ Fact kind w0 L val w d) (j : Nat) (t : Tmp) (c : Value) (hd : depB o j = true) (hj : dstAt ops j = some t) (hk : kind j = keptK c) : A.eval (.tmp t) = c := by
  obtain ⟨l, F⟩ := facts j hd
  unfold Fact at F
  rw [hk] at F
  rw [env.dep j t l hj]
  exact F
theorem dep_big {A : Act} {L : Nat → Bool} {val : Nat → Value} {w : World} (env : Env ops a0 A L val) (facts : ∀ d, depB o d = true → L d = true ∧ Fact kind w0 L val w d) (j : Nat) (t : Tmp) (N : Int) (hd : depB o j = true) (hj : dstAt ops j = some t) (hk : kind j = bigK N) : ∃ n a l c, A.eval (.tmp t) = .agg #[.bool n, .slice a l c] ∧ BigV w n a l c N := by
  obtain ⟨l, F⟩ := facts j hd
  unfold Fact at F
  rw [hk] at F
  rw [env.dep j t l hj]
  exact F
end
end Go.Proofs.Ytmelbgabiklojaa
/- The reference's fractions: Lowest. -/
namespace Go.Proofs.Ytmelbgabiklojaa
open Go.RowKit Go.Proofs.Big Go.Proofs.Reg
set_option linter.unusedVariables false
set_option linter.unusedSimpArgs false
set_option maxRecDepth 100000
theorem bel_alloc {w wx : World} (h : Below w.heap.size w wx) (o : Obj) : Below w.heap.size w (wx.alloc o) := h.alloc h.size o
theorem bel_trans' {w wx wy : World} (h : Below w.heap.size w wx) (k : Below wx.heap.size wx wy) : Below w.heap.size w wy := h.trans (k.mono h.size)
/-- memory in the course of Lowest -/
structure LowW (w wr : World) (ng : Bool) (a : Option Addr) (la ca : Nat) (mg : Bool) (b : Option Addr) (lb cb : Nat) (n m : Int) : Prop where
  A : BV wr w.heap.size ng a la ca
  B : BV wr (w.heap.size + 1) mg b lb cb
  R1 : BV wr (w.heap.size + 1 + 1) false none 0 0
  R2 : BV wr (w.heap.size + 1 + 1 + 1) false none 0 0
  An : BigV wr ng a la ca n
  Bn : BigV wr mg b lb cb m
  bel : Below w.heap.size w wr
theorem LowW.later {w wr wx : World} {a b : Option Addr} {la ca lb cb : Nat} {ng mg : Bool} {n m : Int} (h : LowW w wr ng a la ca mg b lb cb n m) (k : Below wr.heap.size wr wx) : LowW w wx ng a la ca mg b lb cb n m :=
  ⟨h.A.later k, h.B.later k, h.R1.later k, h.R2.later k, h.An.later k, h.Bn.later k, h.bel.trans (k.mono h.bel.size)⟩
/-- and a box with a number that is not below 0 -/
structure LowC (w wr : World) (ng : Bool) (a : Option Addr) (la ca : Nat) (mg : Bool) (b : Option Addr) (lb cb : Nat) (n m : Int) (q : Nat) (ac : Option Addr) (lc cc : Nat) (g : Int) : Prop where
  L : LowW w wr ng a la ca mg b lb cb n m
  C : BV wr q false ac lc cc
  Cn : BigV wr false ac lc cc g
  hq : w.heap.size + 1 + 1 + 1 < q
theorem LowC.later {w wr wx : World} {a b ac : Option Addr} {la ca lb cb lc cc q : Nat} {ng mg : Bool} {n m g : Int} (h : LowC w wr ng a la ca mg b lb cb n m q ac lc cc g) (k : Below wr.heap.size wr wx) : LowC w wx ng a la ca mg b lb cb n m q ac lc cc g :=
  ⟨h.L.later k, h.C.later k, h.Cn.later k, h.hq⟩
theorem LowW.put {w wr : World} {a b : Option Addr} {la ca lb cb p : Nat} {ng mg n1 : Bool} {a1 : Option Addr} {l1 c1 : Nat} {n m : Int} (h : LowW w wr ng a la ca mg b lb cb n m) (hq : BV wr p n1 a1 l1 c1) (hp : w.heap.size + 1 + 1 + 1 < p) (x y : Value) :
    LowW w ((wr.setCell ⟨p, 0, none⟩ x).setCell ⟨p, 1, none⟩ y) ng a la ca mg b lb cb n m :=
  ⟨h.A.other (by omega) _ _, h.B.other (by omega) _ _, h.R1.other (by omega) _ _, h.R2.other (by omega) _ _, h.An.setBV hq _ _, h.Bn.setBV hq _ _, (h.bel.setCell (by show w.heap.size ≤ p; omega) _).setCell (by show w.heap.size ≤ p; omega) _⟩
/-- what the numbers of Lowest are -/
structure LowN (n m : Int) : Prop where
  n0 : -P 99 < n
  n1 : n < P 99
  m0 : -P 99 < m
  m1 : m < P 99
  mz : m ≠ 0
theorem LowN.abs {n m : Int} (h : LowN n m) : 0 ≤ (if n < 0 then -n else n) ∧ (if n < 0 then -n else n) < P 99 ∧ 0 < (if m < 0 then -m else m) ∧ (if m < 0 then -m else m) < P 99 := by
  have := h.n0; have := h.n1; have := h.m0; have := h.m1; have := h.mz
  refine ⟨?_, ?_, ?_, ?_⟩ <;> split <;> omega
theorem pair_fst {N M : Int} {v3 v4 v5 : Value} {w : World} (h : PairC N M v3 w) (e : v4 = v3) (h5 : ∃ q, v4 = .tuple #[v5, q]) : BigC N v5 w := by
  obtain ⟨n, a, l, c, n', a', l', c', e3, b, b'⟩ := h
  obtain ⟨q, e5⟩ := h5
  rw [e, e3] at e5
  simp only [Value.tuple.injEq, Array.mk.injEq, List.cons.injEq, and_true] at e5
  exact ⟨n, a, l, c, e5.1.symm, b⟩
theorem pair_snd {N M : Int} {v3 v4 v5 : Value} {w : World} (h : PairC N M v3 w) (e : v4 = v3) (h5 : ∃ q, v4 = .tuple #[q, v5]) : BigC M v5 w := by
  obtain ⟨n, a, l, c, n', a', l', c', e3, b, b'⟩ := h
  obtain ⟨q, e5⟩ := h5
  rw [e, e3] at e5
  simp only [Value.tuple.injEq, Array.mk.injEq, List.cons.injEq, and_true] at e5
  exact ⟨n', a', l', c', e5.2.symm, b'⟩
/-- a box with a big number -/
structure BN (w : World) (q : Nat) (n : Bool) (a : Option Addr) (l c : Nat) (N : Int) : Prop where
  B : BV w q n a l c
  V : BigV w n a l c N
theorem BN.later {w w' : World} {q : Nat} {n : Bool} {a : Option Addr} {l c : Nat} {N : Int} (h : BN w q n a l c N) (k : Below w.heap.size w w') : BN w' q n a l c N := ⟨h.B.later k, h.V.later k⟩
theorem BN.of {w : World} {q : Nat} {v : Value} {N : Int} (h : BoxAt w q v) (k : BigC N v w) : ∃ n a l c, v = .agg #[.bool n, .slice a l c] ∧ BN w q n a l c N := by
  obtain ⟨n, a, l, c, e, b⟩ := h
  obtain ⟨n', a', l', c', e', b'⟩ := k
  rw [e] at e'
  simp only [Value.agg.injEq, Array.mk.injEq, List.cons.injEq, Value.bool.injEq, Value.slice.injEq, and_true] at e'
  obtain ⟨rfl, rfl, rfl, rfl⟩ := e'
  exact ⟨_, _, _, _, e, b, b'⟩
theorem BN.nonneg {w : World} {q : Nat} {n : Bool} {a : Option Addr} {l c : Nat} {N : Int} (h : BN w q n a l c N) (h0 : 0 ≤ N) : n = false := by
  have := h.V.hng
  rw [decide_eq_false (by omega)] at this
  exact this
end Go.Proofs.Ytmelbgabiklojaa
