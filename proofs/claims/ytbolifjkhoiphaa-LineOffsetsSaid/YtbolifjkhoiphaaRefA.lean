/- The reference's fractions: Down of numbers not below 0, size, Common. -/
import Derived.Test.YtbolifjkhoiphaaBigI
import Derived.Test.YtbolifjkhoiphaaRatio
import Derived.Test.YtbolifjkhoiphaaReg
import Derived.WalkKit
import Derived.WalkSpells
import Derived.WalkLawsBesides
import Derived.Handy
import Derived.Lib.Hide
import Derived.Deep.QuietTactic
import Derived.BigQuiet
import Derived.LoopTactic
import Derived.RegionTactic
import Derived.BigRegion
import Derived.Deep.LoopGhost
import Derived.Deep.RegionHeld3
import Derived.Deep.RegionWith
import Derived.Outline
import Derived.Deep.DeepCutAuto
namespace Go.Proofs.Ytbolifjkhoiphaa
open Go.RowKit Go.Proofs.Big
set_option linter.unusedVariables false
set_option linter.unusedSimpArgs false
set_option maxRecDepth 100000
/-- a quotient is no greater, its product with the divisor neither -/
theorem quo_le {n m : Int} (n0 : 0 ≤ n) (m0 : 0 < m) : 0 ≤ n / m ∧ n / m ≤ n ∧ 0 ≤ n / m * m ∧ n / m * m ≤ n ∧ n - n / m * m = n % m := by
  have e := Int.mul_ediv_add_emod n m
  have r0 := Int.emod_nonneg n (show m ≠ 0 by omega)
  have q0 := Int.ediv_nonneg n0 (Int.le_of_lt m0)
  have c : n / m * m = m * (n / m) := Int.mul_comm _ _
  have p : 0 ≤ n / m * m := Int.mul_nonneg q0 (by omega)
  exact ⟨q0, Int.ediv_le_self m n0, p, by omega, by omega⟩
/-- Down of two numbers that are not below 0 -/
theorem bdown_nn (a b : Option Addr) (la ca lb cb : Nat) (n m : Int) (w : World) (ha : BigV w false a la ca n) (hb : BigV w false b lb cb m) (n0 : 0 ≤ n) (n1 : n < P 99) (m0 : 0 < m) (m1 : m < P 99) :
    Calls Try.prog 89 #[.agg #[.bool false, .slice a la ca], .agg #[.bool false, .slice b lb cb]] w (RetBig2 w (n / m) (n % m)) := by
  obtain ⟨q0, q1, p0, p1, er⟩ := quo_le n0 m0
  have s := (sm50 n0 n1).1
  refine bdown_any false false a b la ca lb cb n m (n / m) (n % m) (n / m) (n % m) w ha hb (by omega) n1 (by omega) m1 (by omega) (by rw [if_neg (by omega), if_neg (by omega)]) (by rw [if_neg (by omega), if_neg (by omega)]) (fun _ => rfl) (fun h => by simp at h) er.symm ?_ ?_ ?_
  all_goals (unfold Sm at s ⊢; omega)
theorem r2size_any (ng : Bool) (a : Option Addr) (la ca : Nat) (w : World) :
    Calls Try.prog 105 #[.agg #[.bool ng, .slice a la ca]] w fun e w' => e = .returned (.agg #[.bool false, .slice a la ca]) ∧ Below w.heap.size w w' := by
  go_enter Try.func105, Try.ntmps105
  go_wp2_with fail
  refine bodyPost_ret (v := .agg #[.bool false, .slice a la ca]) (by simp [results, Try.results105, go_sem]) rfl ⟨rfl, ?_⟩
  go_grown
/-- memory in the course of Common -/
structure ComW (w wr : World) (a : Option Addr) (la ca : Nat) (b : Option Addr) (lb cb : Nat) (x y : Int) : Prop where
  A : BV wr w.heap.size false a la ca
  B : BV wr (w.heap.size + 1) false b lb cb
  R : BV wr (w.heap.size + 1 + 1) false none 0 0
  An : BigV wr false a la ca x
  Bn : BigV wr false b lb cb y
  bel : Below w.heap.size w wr
theorem ComW.later {w wr wx : World} {a b : Option Addr} {la ca lb cb : Nat} {x y : Int} (h : ComW w wr a la ca b lb cb x y) (k : Below wr.heap.size wr wx) : ComW w wx a la ca b lb cb x y :=
  ⟨h.A.later k, h.B.later k, h.R.later k, h.An.later k, h.Bn.later k, h.bel.trans (k.mono h.bel.size)⟩
theorem ComW.swap {w wr : World} {a b r : Option Addr} {la ca lb cb lr cr : Nat} {x y z : Int} (h : ComW w wr a la ca b lb cb x y) (hz : BigV wr false r lr cr z) :
    ComW w ((((wr.setCell ⟨w.heap.size, 0, none⟩ (.bool false)).setCell ⟨w.heap.size, 1, none⟩ (.slice b lb cb)).setCell ⟨w.heap.size + 1, 0, none⟩ (.bool false)).setCell ⟨w.heap.size + 1, 1, none⟩ (.slice r lr cr)) b lb cb r lr cr y z := by
  have b1 := h.B.other (b' := w.heap.size) (by omega) (.bool false) (.slice b lb cb)
  refine ⟨(h.A.set _ _ _ _).other (by omega) _ _, b1.set _ _ _ _, (h.R.other (by omega) _ _).other (by omega) _ _, (h.Bn.setBV h.A _ _).setBV b1 _ _, (hz.setBV h.A _ _).setBV b1 _ _, ?_⟩
  exact (((h.bel.setCell (by show w.heap.size ≤ w.heap.size; omega) _).setCell (by show w.heap.size ≤ w.heap.size; omega) _).setCell (by show w.heap.size ≤ w.heap.size + 1; omega) _).setCell (by show w.heap.size ≤ w.heap.size + 1; omega) _
/-- what the numbers of Common are -/
structure ComN (n m x y : Int) : Prop where
  x0 : 0 ≤ x
  x1 : x < P 99
  y0 : 0 ≤ y
  y1 : y < P 99
  g : Int.gcd x y = Int.gcd n m
set_option maxHeartbeats 4000000 in
theorem common_any (a b : Option Addr) (la ca lb cb : Nat) (n m : Int) (w : World) (ha : BigV w false a la ca n) (hb : BigV w false b lb cb m) (n0 : 0 ≤ n) (n1 : n < P 99) (m0 : 0 ≤ m) (m1 : m < P 99) :
    Calls Try.prog 104 #[.agg #[.bool false, .slice a la ca], .agg #[.bool false, .slice b lb cb]] w (RetBig w ((Int.gcd n m : Nat) : Int)) := by
  have HA := Lib.hid ha
  have HB := Lib.hid hb
  have N0 := Lib.hid (show ComN n m n m from ⟨n0, n1, m0, m1, rfl⟩)
  clear ha hb n0 n1 m0 m1
  go_enter Try.func104, Try.ntmps104
  go_wp2_with fail
  go_loopg [] m.toNat (fun k wr => ∃ (a' b' : Option Addr) (la' ca' lb' cb' : Nat) (x y : Int), Hid (ComW w wr a' la' ca' b' lb' cb' x y) ∧ Hid (ComN n m x y) ∧ Hid (y ≤ k))
  case atStart =>
    refine ⟨a, b, la, ca, lb, cb, n, m, Lib.hid ?_, N0, Lib.hid (by have := N0.out.y0; omega)⟩
    have e1 := ((BV.new w false a la ca 112).alloc (.cells #[.bool false, .slice b lb cb] 112)).alloc (.cells #[.bool false, .slice none 0 0] 112)
    have e2 := (BV.new (w.alloc (.cells #[.bool false, .slice a la ca] 112)) false b lb cb 112).alloc (.cells #[.bool false, .slice none 0 0] 112)
    have e3 := BV.new ((w.alloc (.cells #[.bool false, .slice a la ca] 112)).alloc (.cells #[.bool false, .slice b lb cb] 112)) false none 0 0 112
    simp only [World.size_alloc] at e1 e2 e3
    exact ⟨e1, e2, e3, ((HA.out.alloc _).alloc _).alloc _, ((HB.out.alloc _).alloc _).alloc _, by go_grown⟩
  case round =>
    clear HA HB N0
    obtain ⟨a', b', la', ca', lb', cb', x, y, hW, hN, hk⟩ := hrel
    obtain ⟨p0, p1, p2, p3⟩ := hW.out.A
    obtain ⟨q0, q1, q2, q3⟩ := hW.out.B
    obtain ⟨r0, r1, r2, r3⟩ := hW.out.R
    have L0 := big_len0 hW.out.Bn
    by_cases yz : y = 0
    · have lz : ¬ 0 < (lb' : Int) := by have := L0.2 yz; omega
      have HG := Lib.hid (show x = ((Int.gcd n m : Nat) : Int) from by
        have e := hN.out.g
        rw [yz, Int.gcd_zero_right] at e
        have := hN.out.x0
        omega)
      clear L0 yz
      go_wp2_with fail
      refine bodyPost_ret (v := .agg #[.bool false, .slice a' la' ca']) (by simp [results, Try.results104, go_sem, *]) rfl ?_
      rw [← HG.out]
      exact RetBig.mk (hW.out.An.setBV hW.out.R _ _) ((hW.out.bel.setCell (by show w.heap.size ≤ w.heap.size + 1 + 1; omega) _).setCell (by show w.heap.size ≤ w.heap.size + 1 + 1; omega) _)
    · have lz : 0 < (lb' : Int) := by
        have : ¬ lb' = 0 := fun h => yz (L0.1 h)
        omega
      have yp : 0 < y := by have := hN.out.y0; omega
      have YP := Lib.hid yp
      clear L0 yz yp
      go_wp2_with fail
      refine (bdown_nn a' b' la' ca' lb' cb' x y _ hW.out.An hW.out.Bn hN.out.x0 hN.out.x1 YP.out hN.out.y1).mono ?_
      rintro e w1 ⟨nq, aq, lq, cq, nr, ar, lr, cr, rfl, hv1, hv2, hb1⟩
      have rm0 := Int.emod_nonneg x (show y ≠ 0 by have := YP.out; omega)
      have rm1 := Int.emod_lt_of_pos x YP.out
      obtain rfl : nr = false := by have := hv2.hng; rw [decide_eq_false (by omega)] at this; exact this
      have hW1 := Lib.hid (hW.out.later hb1)
      have W2 := Lib.hid ((hW1.out.later ((Below.refl _ _).alloc (Nat.le_refl _) (.cells #[.bool nq, .slice aq lq cq] 112))).later ((Below.refl _ _).alloc (Nat.le_refl _) (.cells #[.bool false, .slice ar lr cr] 112)))
      have V2 := Lib.hid ((hv2.alloc (.cells #[.bool nq, .slice aq lq cq] 112)).alloc (.cells #[.bool false, .slice ar lr cr] 112))
      have BR := Lib.hid (BV.new (w1.alloc (.cells #[.bool nq, .slice aq lq cq] 112)) false ar lr cr 112)
      have s1 := hW1.out.bel.size
      have lt1 := hW1.out.R.lt
      clear hv1 hv2 hb1 p0 p1 p2 p3 q0 q1 q2 q3 r0 r1 r2 r3
      obtain ⟨p0, p1, p2, p3⟩ := hW1.out.A
      obtain ⟨q0, q1, q2, q3⟩ := hW1.out.B
      have HR := Lib.hid (And.intro rm0 rm1)
      clear rm0 rm1
      go_wp2_with fail
      clear p0 p1 p2 p3 q0 q1 q2 q3
      obtain ⟨p0, p1, p2, p3⟩ := W2.out.A
      obtain ⟨q0, q1, q2, q3⟩ := W2.out.B
      obtain ⟨r0, r1, r2, r3⟩ := BR.out
      simp only [World.size_alloc] at r0 r1 r2 r3
      go_region
      all_goals
        go_wp2_with fail
        go_roundg (x % y).toNat
        case measure => have := HR.out; have := hk.out; omega
        case rel =>
          refine ⟨b', ar, lb', cb', lr, cr, y, x % y, Lib.hid ?_, Lib.hid ⟨hN.out.y0, hN.out.y1, HR.out.1, by have := HR.out.2; have := hN.out.y1; omega, ?_⟩, Lib.hid (by have := HR.out; omega)⟩
          · exact (W2.out.later (Below.drew (Below.refl _ _))).swap (V2.out.later (Below.drew (Below.refl _ _)))
          · rw [gcd_step x y hN.out.x0 YP.out]; exact hN.out.g
end Go.Proofs.Ytbolifjkhoiphaa
/- The operations of a region on big numbers: each by its kind. -/
namespace Go.Proofs.Ytbolifjkhoiphaa
open Go.RowKit Go.Proofs.Big Go.Proofs.Reg
set_option linter.unusedVariables false
set_option linter.unusedSimpArgs false
set_option maxRecDepth 100000
def IsBig (v : Value) : Prop := ∃ n a l c, v = .agg #[.bool n, .slice a l c]
def IsPair (v : Value) : Prop := ∃ n a l c n' a' l' c', v = .tuple #[.agg #[.bool n, .slice a l c], .agg #[.bool n', .slice a' l' c']]
def constK (c : Value) : Kind := .pure fun _ v => v = c
def moveK (j : Nat) : Kind := .pure fun val v => v = val j ∧ IsPair v
def fstK (j : Nat) : Kind := .pure fun val v => IsBig v ∧ ∃ q, val j = .tuple #[v, q]
def sndK (j : Nat) : Kind := .pure fun val v => IsBig v ∧ ∃ q, val j = .tuple #[q, v]
def BigC (N : Int) (v : Value) (w : World) : Prop := ∃ n a l c, v = .agg #[.bool n, .slice a l c] ∧ BigV w n a l c N
def PairC (N M : Int) (v : Value) (w : World) : Prop := ∃ n a l c n' a' l' c', v = .tuple #[.agg #[.bool n, .slice a l c], .agg #[.bool n', .slice a' l' c']] ∧ BigV w n a l c N ∧ BigV w n' a' l' c' M
def bigK (N : Int) : Kind := .call (BigC N)
def pairK (N M : Int) : Kind := .call (PairC N M)
def keptK (c : Value) : Kind := .call fun v _ => v = c
section
variable {ops : Array Oper} {a0 : Act} {w0 : World} {kind : Nat → Kind} {o : Oper}
theorem ok_move {j : Nat} {t : Tmp} {x : Option Tmp} {ty : TypeId} {ps : String} {af : Array Edge} {N M : Int} (hj : dstAt ops j = some t) (hd : depB ⟨x, .move (.tmp t), ty, ps, af, none⟩ j = true) (hk : kind j = pairK N M) :
    OpOk Try.prog ops a0 w0 kind ⟨x, .move (.tmp t), ty, ps, af, none⟩ (moveK j) := by
  refine ⟨fun val val' x h hr => ⟨hr.1.trans (h j hd), hr.2⟩, fun A L val w env facts hb => ?_⟩
  obtain ⟨l, F⟩ := facts j hd
  unfold Fact at F
  rw [hk] at F
  obtain ⟨n, a, l', c, n', a', l'', c', e, _, _⟩ := F
  exact ⟨val j, ⟨rfl, n, a, l', c, n', a', l'', c', e⟩, by rw [← env.dep j t l hj]; rfl⟩
theorem ok_fst {j : Nat} {t : Tmp} {x : Option Tmp} {ty : TypeId} {ps : String} {af : Array Edge} {m : Nat} (hj : dstAt ops j = some t) (hd : depB ⟨x, .extract (.tmp t) 0, ty, ps, af, none⟩ j = true) (hk : kind j = moveK m) :
    OpOk Try.prog ops a0 w0 kind ⟨x, .extract (.tmp t) 0, ty, ps, af, none⟩ (fstK j) := by
  refine ⟨fun val val' x h hr => ⟨hr.1, by obtain ⟨q, e⟩ := hr.2; exact ⟨q, by rw [← h j hd]; exact e⟩⟩, fun A L val w env facts hb => ?_⟩
  obtain ⟨l, F⟩ := facts j hd
  unfold Fact at F
  rw [hk] at F
  obtain ⟨_, n, a, l', c, n', a', l'', c', e⟩ := F
  have e1 := env.dep j t l hj
  rw [e] at e1
  exact ⟨.agg #[.bool n, .slice a l' c], ⟨⟨n, a, l', c, rfl⟩, _, e⟩, by simp only [execOp, e1]; simp [go_sem]⟩
theorem ok_snd {j : Nat} {t : Tmp} {x : Option Tmp} {ty : TypeId} {ps : String} {af : Array Edge} {m : Nat} (hj : dstAt ops j = some t) (hd : depB ⟨x, .extract (.tmp t) 1, ty, ps, af, none⟩ j = true) (hk : kind j = moveK m) :
    OpOk Try.prog ops a0 w0 kind ⟨x, .extract (.tmp t) 1, ty, ps, af, none⟩ (sndK j) := by
  refine ⟨fun val val' x h hr => ⟨hr.1, by obtain ⟨q, e⟩ := hr.2; exact ⟨q, by rw [← h j hd]; exact e⟩⟩, fun A L val w env facts hb => ?_⟩
  obtain ⟨l, F⟩ := facts j hd
  unfold Fact at F
  rw [hk] at F
  obtain ⟨_, n, a, l', c, n', a', l'', c', e⟩ := F
  have e1 := env.dep j t l hj
  rw [e] at e1
  exact ⟨.agg #[.bool n', .slice a' l'' c'], ⟨⟨n', a', l'', c', rfl⟩, _, e⟩, by simp only [execOp, e1]; simp [go_sem]⟩
/-- a slot of the frame that the region begins in -/
theorem ok_arg {t : Tmp} {c : Value} {x : Option Tmp} {ty : TypeId} {ps : String} {af : Array Edge} (ht : (ops.all fun o => o.dst != some t) = true) (he : a0.eval (.tmp t) = c) :
    OpOk Try.prog ops a0 w0 kind ⟨x, .move (.tmp t), ty, ps, af, none⟩ (constK c) := by
  refine ⟨fun val val' x h hr => hr, fun A L val w env facts hb => ⟨_, rfl, ?_⟩⟩
  have e1 := env.out t ht
  rw [he] at e1
  rw [← e1]
  rfl
/-- a box of the world that the region begins in -/
theorem ok_load {t : Tmp} {q : Nat} {n : Bool} {a : Option Addr} {l c : Nat} {x : Option Tmp} {ty : TypeId} {ps : String} {af : Array Edge} (ht : (ops.all fun o => o.dst != some t) = true) (he : a0.eval (.tmp t) = .pointer (some ⟨q, 0, none⟩)) (hq : BV w0 q n a l c) :
    OpOk Try.prog ops a0 w0 kind ⟨x, .load 112 (.tmp t), ty, ps, af, none⟩ (constK (.agg #[.bool n, .slice a l c])) := by
  refine ⟨fun val val' x h hr => hr, fun A L val w env facts hb => ⟨_, rfl, ?_⟩⟩
  have e1 := env.out t ht
  rw [he] at e1
  obtain ⟨c0, c1, _, _⟩ := hq.later hb
  simp only [execOp, e1]
  simp [go_sem, c0, c1]
theorem ok_box {x : Option Tmp} {ty : TypeId} {ps : String} {af : Array Edge} {st src : Nat} : OpOk Try.prog ops a0 w0 kind ⟨x, .alloc 112, ty, ps, af, none⟩ (.box 112 st src) := by
  intro A w
  simp [execOp, go_sem]
theorem ok_put {al src : Nat} {t u : Tmp} {x : Option Tmp} {ty : TypeId} {ps : String} {af : Array Edge} (ha : dstAt ops al = some t) (hs : dstAt ops src = some u) (d1 : depB ⟨x, .store 112 (.tmp t) (.tmp u), ty, ps, af, none⟩ al = true) (d2 : depB ⟨x, .store 112 (.tmp t) (.tmp u), ty, ps, af, none⟩ src = true)
    (hform : ∀ L val w, Fact kind w0 L val w src → IsBig (val src)) :
    OpOk Try.prog ops a0 w0 kind ⟨x, .store 112 (.tmp t) (.tmp u), ty, ps, af, none⟩ (.put al src) := by
  refine ⟨d1, d2, hform, fun A L val w q n a l c n' a' l' c' env lal lsrc hq hv B => ?_⟩
  have e1 := env.dep al t lal ha
  have e2 := env.dep src u lsrc hs
  rw [hq] at e1
  rw [hv] at e2
  obtain ⟨c0, c1, c2, c3⟩ := B
  simp only [execOp, e1, e2]
  simp [go_sem, c0, c1, c2, c3, Reg.stored]
theorem bigC_later {N : Int} {v : Value} {w w' : World} (h : BigC N v w) (hb : Below w.heap.size w w') : BigC N v w' := by
  obtain ⟨n, a, l, c, e, b⟩ := h
  exact ⟨n, a, l, c, e, b.later hb⟩
theorem pairC_later {N M : Int} {v : Value} {w w' : World} (h : PairC N M v w) (hb : Below w.heap.size w w') : PairC N M v w' := by
  obtain ⟨n, a, l, c, n', a', l', c', e, b, b'⟩ := h
  exact ⟨n, a, l, c, n', a', l', c', e, b.later hb, b'.later hb⟩
theorem bigC_put {N : Int} {v : Value} {w : World} {q : Nat} {n : Bool} {a : Option Addr} {l c : Nat} {n' : Bool} {a' : Option Addr} {l' c' : Nat} (h : BigC N v w) (hq : BV w q n a l c) : BigC N v (Reg.stored w q n' a' l' c') := by
  obtain ⟨n, a, l, c, e, b⟩ := h
  exact ⟨n, a, l, c, e, b.setBV hq _ _⟩
theorem pairC_put {N M : Int} {v : Value} {w : World} {q : Nat} {n : Bool} {a : Option Addr} {l c : Nat} {n' : Bool} {a' : Option Addr} {l' c' : Nat} (h : PairC N M v w) (hq : BV w q n a l c) : PairC N M v (Reg.stored w q n' a' l' c') := by
  obtain ⟨n1, a1, l1, c1, n2, a2, l2, c2, e, b, b'⟩ := h
  exact ⟨n1, a1, l1, c1, n2, a2, l2, c2, e, b.setBV hq _ _, b'.setBV hq _ _⟩
theorem run_call {f : FuncId} {xs : Array Operand} {ts : Array TypeId} {x : Option Tmp} {ty : TypeId} {ps : String} {af : Array Edge} {A : Act} {w : World} (hcf : ∀ (args : Array Value) (w : World), (callFunc f args).run Try.prog w = .ok (.enter f args) w) :
    (execOp A.eval ⟨x, .call ⟨.value (.func f), xs, ts⟩, ty, ps, af, none⟩).run Try.prog w = .ok (.enter f (xs.map A.eval)) w := by
  have e : A.eval (.func f) = .func (.func f) #[] #[] := rfl
  simp only [execOp, resolve, e]
  simp [go_sem, hcf]
/-- a call that hands back a big number -/
theorem ok_big {N : Int} {f : FuncId} {xs : Array Operand} {ts : Array TypeId} {x : Option Tmp} {ty : TypeId} {ps : String} {af : Array Edge} (hcf : ∀ (args : Array Value) (w : World), (callFunc f args).run Try.prog w = .ok (.enter f args) w)
    (h : ∀ A L val w, Env ops a0 A L val → (∀ d, depB ⟨x, .call ⟨.value (.func f), xs, ts⟩, ty, ps, af, none⟩ d = true → L d = true ∧ Fact kind w0 L val w d) → Below w0.heap.size w0 w → Calls Try.prog f (xs.map A.eval) w (RetBig w N)) :
    OpOk Try.prog ops a0 w0 kind ⟨x, .call ⟨.value (.func f), xs, ts⟩, ty, ps, af, none⟩ (bigK N) := by
  refine ⟨fun v w w' h hb => bigC_later h hb, fun v w q n a l c n' a' l' c' h hq => bigC_put h hq, fun A L val w env facts hb => ⟨f, _, run_call hcf, (h A L val w env facts hb).mono ?_⟩⟩
  rintro e w' ⟨n, a, l, c, rfl, hv, hb'⟩
  exact ⟨_, rfl, ⟨n, a, l, c, rfl, hv⟩, hb'⟩
theorem ok_pair {N M : Int} {f : FuncId} {xs : Array Operand} {ts : Array TypeId} {x : Option Tmp} {ty : TypeId} {ps : String} {af : Array Edge} (hcf : ∀ (args : Array Value) (w : World), (callFunc f args).run Try.prog w = .ok (.enter f args) w)
    (h : ∀ A L val w, Env ops a0 A L val → (∀ d, depB ⟨x, .call ⟨.value (.func f), xs, ts⟩, ty, ps, af, none⟩ d = true → L d = true ∧ Fact kind w0 L val w d) → Below w0.heap.size w0 w → Calls Try.prog f (xs.map A.eval) w (RetBig2 w N M)) :
    OpOk Try.prog ops a0 w0 kind ⟨x, .call ⟨.value (.func f), xs, ts⟩, ty, ps, af, none⟩ (pairK N M) := by
  refine ⟨fun v w w' h hb => pairC_later h hb, fun v w q n a l c n' a' l' c' h hq => pairC_put h hq, fun A L val w env facts hb => ⟨f, _, run_call hcf, (h A L val w env facts hb).mono ?_⟩⟩
  rintro e w' ⟨n, a, l, c, n', a', l', c', rfl, hv, hv', hb'⟩
  exact ⟨_, rfl, ⟨n, a, l, c, n', a', l', c', rfl, hv, hv'⟩, hb'⟩
theorem ok_kept {v : Value} {f : FuncId} {xs : Array Operand} {ts : Array TypeId} {x : Option Tmp} {ty : TypeId} {ps : String} {af : Array Edge} (hcf : ∀ (args : Array Value) (w : World), (callFunc f args).run Try.prog w = .ok (.enter f args) w)
    (h : ∀ A L val w, Env ops a0 A L val → (∀ d, depB ⟨x, .call ⟨.value (.func f), xs, ts⟩, ty, ps, af, none⟩ d = true → L d = true ∧ Fact kind w0 L val w d) → Below w0.heap.size w0 w → Calls Try.prog f (xs.map A.eval) w fun e w' => e = .returned v ∧ Below w.heap.size w w') :
    OpOk Try.prog ops a0 w0 kind ⟨x, .call ⟨.value (.func f), xs, ts⟩, ty, ps, af, none⟩ (keptK v) := by
  refine ⟨fun v w w' h hb => h, fun v w q n a l c n' a' l' c' h hq => h, fun A L val w env facts hb => ⟨f, _, run_call hcf, (h A L val w env facts hb).mono ?_⟩⟩
  rintro e w' ⟨rfl, hb'⟩
  exact ⟨_, rfl, rfl, hb'⟩
theorem map1 (f : Operand → Value) (x : Operand) : #[x].map f = #[f x] := by simp
theorem map2 (f : Operand → Value) (x y : Operand) : #[x, y].map f = #[f x, f y] := by simp
theorem map3 (f : Operand → Value) (x y z : Operand) : #[x, y, z].map f = #[f x, f y, f z] := by simp
/-- what a call finds in an argument's slot -/
theorem dep_const {A : Act} {L : Nat → Bool} {val : Nat → Value} {w : World} (env : Env ops a0 A L val) (facts : ∀ d, depB o d = true → L d = true ∧ Fact kind w0 L val w d) (j : Nat) (t : Tmp) (c : Value) (hd : depB o j = true) (hj : dstAt ops j = some t) (hk : kind j = constK c) : A.eval (.tmp t) = c := by
  obtain ⟨l, F⟩ := facts j hd
  unfold Fact at F
  rw [hk] at F
  rw [env.dep j t l hj]
  exact F
theorem dep_kept {A : Act} {L : Nat → Bool} {val : Nat → Value} {w : World} (env : Env ops a0 A L val) (facts : ∀ d, depB o d = true → L d = true ∧ Fact kind w0 L val w d) (j : Nat) (t : Tmp) (c : Value) (hd : depB o j = true) (hj : dstAt ops j = some t) (hk : kind j = keptK c) : A.eval (.tmp t) = c := by
  obtain ⟨l, F⟩ := facts j hd
  unfold Fact at F
  rw [hk] at F
  rw [env.dep j t l hj]
  exact F
theorem dep_big {A : Act} {L : Nat → Bool} {val : Nat → Value} {w : World} (env : Env ops a0 A L val) (facts : ∀ d, depB o d = true → L d = true ∧ Fact kind w0 L val w d) (j : Nat) (t : Tmp) (N : Int) (hd : depB o j = true) (hj : dstAt ops j = some t) (hk : kind j = bigK N) : ∃ n a l c, A.eval (.tmp t) = .agg #[.bool n, .slice a l c] ∧ BigV w n a l c N := by
  obtain ⟨l, F⟩ := facts j hd
  unfold Fact at F
  rw [hk] at F
  rw [env.dep j t l hj]
  exact F
end
end Go.Proofs.Ytbolifjkhoiphaa
/- The reference's fractions: Lowest. -/
namespace Go.Proofs.Ytbolifjkhoiphaa
open Go.RowKit Go.Proofs.Big Go.Proofs.Reg
set_option linter.unusedVariables false
set_option linter.unusedSimpArgs false
set_option maxRecDepth 100000
theorem bel_alloc {w wx : World} (h : Below w.heap.size w wx) (o : Obj) : Below w.heap.size w (wx.alloc o) := h.alloc h.size o
theorem bel_trans' {w wx wy : World} (h : Below w.heap.size w wx) (k : Below wx.heap.size wx wy) : Below w.heap.size w wy := h.trans (k.mono h.size)
/-- memory in the course of Lowest -/
structure LowW (w wr : World) (ng : Bool) (a : Option Addr) (la ca : Nat) (mg : Bool) (b : Option Addr) (lb cb : Nat) (n m : Int) : Prop where
  A : BV wr w.heap.size ng a la ca
  B : BV wr (w.heap.size + 1) mg b lb cb
  R1 : BV wr (w.heap.size + 1 + 1) false none 0 0
  R2 : BV wr (w.heap.size + 1 + 1 + 1) false none 0 0
  An : BigV wr ng a la ca n
  Bn : BigV wr mg b lb cb m
  bel : Below w.heap.size w wr
theorem LowW.later {w wr wx : World} {a b : Option Addr} {la ca lb cb : Nat} {ng mg : Bool} {n m : Int} (h : LowW w wr ng a la ca mg b lb cb n m) (k : Below wr.heap.size wr wx) : LowW w wx ng a la ca mg b lb cb n m :=
  ⟨h.A.later k, h.B.later k, h.R1.later k, h.R2.later k, h.An.later k, h.Bn.later k, h.bel.trans (k.mono h.bel.size)⟩
/-- and a box with a number that is not below 0 -/
structure LowC (w wr : World) (ng : Bool) (a : Option Addr) (la ca : Nat) (mg : Bool) (b : Option Addr) (lb cb : Nat) (n m : Int) (q : Nat) (ac : Option Addr) (lc cc : Nat) (g : Int) : Prop where
  L : LowW w wr ng a la ca mg b lb cb n m
  C : BV wr q false ac lc cc
  Cn : BigV wr false ac lc cc g
  hq : w.heap.size + 1 + 1 + 1 < q
theorem LowC.later {w wr wx : World} {a b ac : Option Addr} {la ca lb cb lc cc q : Nat} {ng mg : Bool} {n m g : Int} (h : LowC w wr ng a la ca mg b lb cb n m q ac lc cc g) (k : Below wr.heap.size wr wx) : LowC w wx ng a la ca mg b lb cb n m q ac lc cc g :=
  ⟨h.L.later k, h.C.later k, h.Cn.later k, h.hq⟩
theorem LowW.put {w wr : World} {a b : Option Addr} {la ca lb cb p : Nat} {ng mg n1 : Bool} {a1 : Option Addr} {l1 c1 : Nat} {n m : Int} (h : LowW w wr ng a la ca mg b lb cb n m) (hq : BV wr p n1 a1 l1 c1) (hp : w.heap.size + 1 + 1 + 1 < p) (x y : Value) :
    LowW w ((wr.setCell ⟨p, 0, none⟩ x).setCell ⟨p, 1, none⟩ y) ng a la ca mg b lb cb n m :=
  ⟨h.A.other (by omega) _ _, h.B.other (by omega) _ _, h.R1.other (by omega) _ _, h.R2.other (by omega) _ _, h.An.setBV hq _ _, h.Bn.setBV hq _ _, (h.bel.setCell (by show w.heap.size ≤ p; omega) _).setCell (by show w.heap.size ≤ p; omega) _⟩
/-- what the numbers of Lowest are -/
structure LowN (n m : Int) : Prop where
  n0 : -P 99 < n
  n1 : n < P 99
  m0 : -P 99 < m
  m1 : m < P 99
  mz : m ≠ 0
theorem LowN.abs {n m : Int} (h : LowN n m) : 0 ≤ (if n < 0 then -n else n) ∧ (if n < 0 then -n else n) < P 99 ∧ 0 < (if m < 0 then -m else m) ∧ (if m < 0 then -m else m) < P 99 := by
  have := h.n0; have := h.n1; have := h.m0; have := h.m1; have := h.mz
  refine ⟨?_, ?_, ?_, ?_⟩ <;> split <;> omega
theorem pair_fst {N M : Int} {v3 v4 v5 : Value} {w : World} (h : PairC N M v3 w) (e : v4 = v3) (h5 : ∃ q, v4 = .tuple #[v5, q]) : BigC N v5 w := by
  obtain ⟨n, a, l, c, n', a', l', c', e3, b, b'⟩ := h
  obtain ⟨q, e5⟩ := h5
  rw [e, e3] at e5
  simp only [Value.tuple.injEq, Array.mk.injEq, List.cons.injEq, and_true] at e5
  exact ⟨n, a, l, c, e5.1.symm, b⟩
theorem pair_snd {N M : Int} {v3 v4 v5 : Value} {w : World} (h : PairC N M v3 w) (e : v4 = v3) (h5 : ∃ q, v4 = .tuple #[q, v5]) : BigC M v5 w := by
  obtain ⟨n, a, l, c, n', a', l', c', e3, b, b'⟩ := h
  obtain ⟨q, e5⟩ := h5
  rw [e, e3] at e5
  simp only [Value.tuple.injEq, Array.mk.injEq, List.cons.injEq, and_true] at e5
  exact ⟨n', a', l', c', e5.2.symm, b'⟩
/-- a box with a big number -/
structure BN (w : World) (q : Nat) (n : Bool) (a : Option Addr) (l c : Nat) (N : Int) : Prop where
  B : BV w q n a l c
  V : BigV w n a l c N
theorem BN.later {w w' : World} {q : Nat} {n : Bool} {a : Option Addr} {l c : Nat} {N : Int} (h : BN w q n a l c N) (k : Below w.heap.size w w') : BN w' q n a l c N := ⟨h.B.later k, h.V.later k⟩
theorem BN.of {w : World} {q : Nat} {v : Value} {N : Int} (h : BoxAt w q v) (k : BigC N v w) : ∃ n a l c, v = .agg #[.bool n, .slice a l c] ∧ BN w q n a l c N := by
  obtain ⟨n, a, l, c, e, b⟩ := h
  obtain ⟨n', a', l', c', e', b'⟩ := k
  rw [e] at e'
  simp only [Value.agg.injEq, Array.mk.injEq, List.cons.injEq, Value.bool.injEq, Value.slice.injEq, and_true] at e'
  obtain ⟨rfl, rfl, rfl, rfl⟩ := e'
  exact ⟨_, _, _, _, e, b, b'⟩
theorem BN.nonneg {w : World} {q : Nat} {n : Bool} {a : Option Addr} {l c : Nat} {N : Int} (h : BN w q n a l c N) (h0 : 0 ≤ N) : n = false := by
  have := h.V.hng
  rw [decide_eq_false (by omega)] at this
  exact this
set_option maxHeartbeats 4000000 in
theorem lowest_any (ng mg : Bool) (a b : Option Addr) (la ca lb cb : Nat) (n m : Int) (w : World) (ha : BigV w ng a la ca n) (hb : BigV w mg b lb cb m) (hN : Hid (LowN n m)) :
    Calls Try.prog 91 #[.agg #[.bool ng, .slice a la ca], .agg #[.bool mg, .slice b lb cb]] w
      (RetBig2 w (if (ng != mg) then -((if n < 0 then -n else n) / ((Int.gcd n m : Nat) : Int)) else (if n < 0 then -n else n) / ((Int.gcd n m : Nat) : Int)) ((if m < 0 then -m else m) / ((Int.gcd n m : Nat) : Int))) := by
  obtain ⟨x, hx⟩ : ∃ x, x = (if n < 0 then -n else n) := ⟨_, rfl⟩
  obtain ⟨y, hy⟩ : ∃ y, y = (if m < 0 then -m else m) := ⟨_, rfl⟩
  have NA := Lib.hid hN.out.abs
  have HGA := Lib.hid (gcd_abs n m)
  rw [← hx, ← hy] at NA HGA
  rw [← hx, ← hy]
  obtain ⟨g, hg⟩ : ∃ g, g = ((Int.gcd n m : Nat) : Int) := ⟨_, rfl⟩
  rw [← hg]
  have HG := Lib.hid (show ((Int.gcd x y : Nat) : Int) = g from by rw [HGA.out, hg])
  obtain ⟨R, hR⟩ : ∃ R, R = (if (ng != mg) = true then -(x / g) else x / g) := ⟨_, rfl⟩
  rw [← hR]
  have HR := Lib.hid hR
  clear hR
  have HX := Lib.hid hx
  have HY := Lib.hid hy
  have H0 := Lib.hid (show LowW w ((((w.alloc (.cells #[.bool ng, .slice a la ca] 112)).alloc (.cells #[.bool mg, .slice b lb cb] 112)).alloc (.cells #[.bool false, .slice none 0 0] 112)).alloc (.cells #[.bool false, .slice none 0 0] 112)) ng a la ca mg b lb cb n m from by
    have e1 := (((BV.new w ng a la ca 112).alloc (.cells #[.bool mg, .slice b lb cb] 112)).alloc (.cells #[.bool false, .slice none 0 0] 112)).alloc (.cells #[.bool false, .slice none 0 0] 112)
    have e2 := ((BV.new (w.alloc (.cells #[.bool ng, .slice a la ca] 112)) mg b lb cb 112).alloc (.cells #[.bool false, .slice none 0 0] 112)).alloc (.cells #[.bool false, .slice none 0 0] 112)
    have e3 := (BV.new ((w.alloc (.cells #[.bool ng, .slice a la ca] 112)).alloc (.cells #[.bool mg, .slice b lb cb] 112)) false none 0 0 112).alloc (.cells #[.bool false, .slice none 0 0] 112)
    have e4 := BV.new (((w.alloc (.cells #[.bool ng, .slice a la ca] 112)).alloc (.cells #[.bool mg, .slice b lb cb] 112)).alloc (.cells #[.bool false, .slice none 0 0] 112)) false none 0 0 112
    simp only [World.size_alloc] at e1 e2 e3 e4
    exact ⟨e1, e2, e3, e4, (((ha.alloc _).alloc _).alloc _).alloc _, (((hb.alloc _).alloc _).alloc _).alloc _, by go_grown⟩)
  have Z0 : Hid ((((((w.alloc (.cells #[.bool ng, .slice a la ca] 112)).alloc (.cells #[.bool mg, .slice b lb cb] 112)).alloc (.cells #[.bool false, .slice none 0 0] 112)).alloc (.cells #[.bool false, .slice none 0 0] 112))).heap.size = w.heap.size + 1 + 1 + 1 + 1) := Lib.hid (by simp)
  clear ha hb hN hx hy hg
  go_enter Try.func91, Try.ntmps91
  go_upto_region 1 with fail
  obtain ⟨wr, hwr⟩ : ∃ wr, wr = ((((w.alloc (.cells #[.bool ng, .slice a la ca] 112)).alloc (.cells #[.bool mg, .slice b lb cb] 112)).alloc (.cells #[.bool false, .slice none 0 0] 112)).alloc (.cells #[.bool false, .slice none 0 0] 112)) := ⟨_, rfl⟩
  rw [← hwr] at H0 Z0 ⊢
  clear hwr
  have bA := H0.out.A
  have bB := H0.out.B
  refine wp_region_kinds [constK (.agg #[.bool ng, .slice a la ca]), keptK (.agg #[.bool false, .slice a la ca]), constK (.agg #[.bool mg, .slice b lb cb]), keptK (.agg #[.bool false, .slice b lb cb]), bigK g, .box 112 6 4, .put 5 4] [some 11, some 12, some 13, some 14, some 15, some 6, none] (by kernel_rfl) (by kernel_rfl) (by kernel_rfl) (by kernel_rfl) (by kernel_rfl) (by kernel_rfl) (by kernel_rfl) (fun i o ho => ?_) (fun val w1 hf hne hb => ?_)
  · match i, ho with
    | 0, ho =>
      obtain rfl := Option.some.inj ho
      exact ok_load (by kernel_rfl) rfl bA
    | 1, ho =>
      obtain rfl := Option.some.inj ho
      refine ok_kept (fun _ _ => by kernel_rfl) fun A L val w env facts hb => ?_
      rw [map1, dep_const env facts 0 11 _ (by kernel_rfl) rfl rfl]
      exact r2size_any _ _ _ _ _
    | 2, ho =>
      obtain rfl := Option.some.inj ho
      exact ok_load (by kernel_rfl) rfl bB
    | 3, ho =>
      obtain rfl := Option.some.inj ho
      refine ok_kept (fun _ _ => by kernel_rfl) fun A L val w env facts hb => ?_
      rw [map1, dep_const env facts 2 13 _ (by kernel_rfl) rfl rfl]
      exact r2size_any _ _ _ _ _
    | 4, ho =>
      obtain rfl := Option.some.inj ho
      refine ok_big (fun _ _ => by kernel_rfl) fun A L val w env facts hb => ?_
      rw [map2, dep_kept env facts 1 12 _ (by kernel_rfl) rfl rfl, dep_kept env facts 3 14 _ (by kernel_rfl) rfl rfl, ← HG.out]
      have h1 := big_abs ((H0.out.later hb).An)
      have h2 := big_abs ((H0.out.later hb).Bn)
      rw [← HX.out] at h1
      rw [← HY.out] at h2
      exact common_any a b la ca lb cb x y _ h1 h2 NA.out.1 NA.out.2.1 (Int.le_of_lt NA.out.2.2.1) NA.out.2.2.2
    | 5, ho =>
      obtain rfl := Option.some.inj ho
      exact ok_box
    | 6, ho =>
      obtain rfl := Option.some.inj ho
      refine ok_put rfl rfl (by kernel_rfl) (by kernel_rfl) (fun L val w h => ?_)
      obtain ⟨n, a, l, c, e, _⟩ : BigC g (val 4) w := h
      exact ⟨n, a, l, c, e⟩
    | n + 7, ho => simp at ho
  have F4 : BigC g (val 4) w1 := hf 4 (by decide)
  obtain ⟨q, e5, q0, q1, B5⟩ : ∃ q, val 5 = .pointer (some ⟨q, 0, none⟩) ∧ wr.heap.size ≤ q ∧ q < w1.heap.size ∧ BoxAt w1 q (val 4) := hf 5 (by decide)
  obtain ⟨nc, ac, lc, cc, e4, C1⟩ := BN.of B5 F4
  obtain rfl := C1.nonneg (by have := HG.out; omega)
  have GB := Lib.hid (show g < P 99 from by
    have h1 := Int.gcd_dvd_right (a := x) (b := y)
    have h2 := Int.le_of_dvd NA.out.2.2.1 h1
    have := HG.out
    have := NA.out.2.2.2
    omega)
  have GP := Lib.hid (show 0 < g from by
    have : 0 < Int.gcd x y := Int.gcd_pos_of_ne_zero_right x (by have := NA.out.2.2.1; omega)
    have := HG.out
    omega)
  have H1 := Lib.hid (H0.out.later hb)
  have HC1 := Lib.hid C1
  have Q1 := Lib.hid (show w.heap.size + 1 + 1 + 1 < q from by have := Z0.out; omega)
  simp only [puts2, Act.put, List.setIfInBounds_toArray, List.set_cons_zero, List.set_cons_succ, Nat.zero_add, Nat.reduceAdd]
  rw [e5]
  clear hf hne hb F4 B5 C1 e4 e5 q0 q1 bA bB H0 Z0
  go_wp2_with fail
  refine wp_region_kinds [constK (.agg #[.bool ng, .slice a la ca]), keptK (.agg #[.bool false, .slice a la ca]), constK (.agg #[.bool false, .slice ac lc cc]), pairK (x / g) (x % g), moveK 3, fstK 4, sndK 4, .box 112 9 5, .box 112 10 6, .put 7 5, .put 8 6]
    [some 17, some 18, some 19, some 20, some 16, some 21, some 22, some 7, some 8, none, none] (by kernel_rfl) (by kernel_rfl) (by kernel_rfl) (by kernel_rfl) (by kernel_rfl) (by kernel_rfl) (by kernel_rfl) (fun i o ho => ?_) (fun val2 w2 hf hne hb => ?_)
  · match i, ho with
    | 0, ho =>
      obtain rfl := Option.some.inj ho
      exact ok_load (by kernel_rfl) rfl H1.out.A
    | 1, ho =>
      obtain rfl := Option.some.inj ho
      refine ok_kept (fun _ _ => by kernel_rfl) fun A L val w env facts hb => ?_
      rw [map1, dep_const env facts 0 17 _ (by kernel_rfl) rfl rfl]
      exact r2size_any _ _ _ _ _
    | 2, ho =>
      obtain rfl := Option.some.inj ho
      exact ok_load (by kernel_rfl) rfl HC1.out.B
    | 3, ho =>
      obtain rfl := Option.some.inj ho
      refine ok_pair (fun _ _ => by kernel_rfl) fun A L val w env facts hb => ?_
      rw [map2, dep_kept env facts 1 18 _ (by kernel_rfl) rfl rfl, dep_const env facts 2 19 _ (by kernel_rfl) rfl rfl]
      have h1 := big_abs ((H1.out.later hb).An)
      rw [← HX.out] at h1
      exact bdown_nn _ ac _ _ lc cc x g _ h1 (HC1.out.later hb).V NA.out.1 NA.out.2.1 GP.out GB.out
    | 4, ho =>
      obtain rfl := Option.some.inj ho
      exact ok_move rfl (by kernel_rfl) rfl
    | 5, ho =>
      obtain rfl := Option.some.inj ho
      exact ok_fst rfl (by kernel_rfl) rfl
    | 6, ho =>
      obtain rfl := Option.some.inj ho
      exact ok_snd rfl (by kernel_rfl) rfl
    | 7, ho =>
      obtain rfl := Option.some.inj ho
      exact ok_box
    | 8, ho =>
      obtain rfl := Option.some.inj ho
      exact ok_box
    | 9, ho =>
      obtain rfl := Option.some.inj ho
      exact ok_put rfl rfl (by kernel_rfl) (by kernel_rfl) (fun L val w h => (h : IsBig (val 5) ∧ _).1)
    | 10, ho =>
      obtain rfl := Option.some.inj ho
      exact ok_put rfl rfl (by kernel_rfl) (by kernel_rfl) (fun L val w h => (h : IsBig (val 6) ∧ _).1)
    | n + 11, ho => simp at ho
  have F3 : PairC (x / g) (x % g) (val2 3) w2 := hf 3 (by decide)
  have F4 : val2 4 = val2 3 ∧ _ := hf 4 (by decide)
  have F5 : _ ∧ ∃ q, val2 4 = .tuple #[val2 5, q] := hf 5 (by decide)
  obtain ⟨q2, e7, q0, q1, B7⟩ : ∃ q, val2 7 = .pointer (some ⟨q, 0, none⟩) ∧ w1.heap.size ≤ q ∧ q < w2.heap.size ∧ BoxAt w2 q (val2 5) := hf 7 (by decide)
  obtain ⟨n2, a2, l2, c2, e5, C2⟩ := BN.of B7 (pair_fst F3 F4.1 F5.2)
  have H2 := Lib.hid (H1.out.later hb)
  have HC2 := Lib.hid (HC1.out.later hb)
  have D2 := Lib.hid C2
  have Q2 := Lib.hid (show w1.heap.size ≤ q2 from q0)
  have Q0 := Lib.hid HC1.out.B.lt
  simp only [puts2, Act.put, List.setIfInBounds_toArray, List.set_cons_zero, List.set_cons_succ, Nat.zero_add, Nat.reduceAdd]
  rw [e7]
  clear hf hne hb F3 F4 F5 B7 C2 e7 e5 q0 q1 H1 HC1
  go_wp2_with fail
  refine wp_region_kinds [constK (.agg #[.bool mg, .slice b lb cb]), keptK (.agg #[.bool false, .slice b lb cb]), constK (.agg #[.bool false, .slice ac lc cc]), pairK (y / g) (y % g), moveK 3, fstK 4, sndK 4, .box 112 9 5, .box 112 10 6, .put 7 5, .put 8 6]
    [some 24, some 25, some 26, some 27, some 23, some 28, some 29, some 9, some 10, none, none] (by kernel_rfl) (by kernel_rfl) (by kernel_rfl) (by kernel_rfl) (by kernel_rfl) (by kernel_rfl) (by kernel_rfl) (fun i o ho => ?_) (fun val3 w3 hf hne hb => ?_)
  · match i, ho with
    | 0, ho =>
      obtain rfl := Option.some.inj ho
      exact ok_load (by kernel_rfl) rfl H2.out.B
    | 1, ho =>
      obtain rfl := Option.some.inj ho
      refine ok_kept (fun _ _ => by kernel_rfl) fun A L val w env facts hb => ?_
      rw [map1, dep_const env facts 0 24 _ (by kernel_rfl) rfl rfl]
      exact r2size_any _ _ _ _ _
    | 2, ho =>
      obtain rfl := Option.some.inj ho
      exact ok_load (by kernel_rfl) rfl HC2.out.B
    | 3, ho =>
      obtain rfl := Option.some.inj ho
      refine ok_pair (fun _ _ => by kernel_rfl) fun A L val w env facts hb => ?_
      rw [map2, dep_kept env facts 1 25 _ (by kernel_rfl) rfl rfl, dep_const env facts 2 26 _ (by kernel_rfl) rfl rfl]
      have h1 := big_abs ((H2.out.later hb).Bn)
      rw [← HY.out] at h1
      exact bdown_nn _ ac _ _ lc cc y g _ h1 (HC2.out.later hb).V (Int.le_of_lt NA.out.2.2.1) NA.out.2.2.2 GP.out GB.out
    | 4, ho =>
      obtain rfl := Option.some.inj ho
      exact ok_move rfl (by kernel_rfl) rfl
    | 5, ho =>
      obtain rfl := Option.some.inj ho
      exact ok_fst rfl (by kernel_rfl) rfl
    | 6, ho =>
      obtain rfl := Option.some.inj ho
      exact ok_snd rfl (by kernel_rfl) rfl
    | 7, ho =>
      obtain rfl := Option.some.inj ho
      exact ok_box
    | 8, ho =>
      obtain rfl := Option.some.inj ho
      exact ok_box
    | 9, ho =>
      obtain rfl := Option.some.inj ho
      exact ok_put rfl rfl (by kernel_rfl) (by kernel_rfl) (fun L val w h => (h : IsBig (val 5) ∧ _).1)
    | 10, ho =>
      obtain rfl := Option.some.inj ho
      exact ok_put rfl rfl (by kernel_rfl) (by kernel_rfl) (fun L val w h => (h : IsBig (val 6) ∧ _).1)
    | n + 11, ho => simp at ho
  have F3 : PairC (y / g) (y % g) (val3 3) w3 := hf 3 (by decide)
  have F4 : val3 4 = val3 3 ∧ _ := hf 4 (by decide)
  have F5 : _ ∧ ∃ q, val3 4 = .tuple #[val3 5, q] := hf 5 (by decide)
  obtain ⟨q3, e7, q0, q1, B7⟩ : ∃ q, val3 7 = .pointer (some ⟨q, 0, none⟩) ∧ w2.heap.size ≤ q ∧ q < w3.heap.size ∧ BoxAt w3 q (val3 5) := hf 7 (by decide)
  obtain ⟨n3, a3, l3, c3, e5, C3⟩ := BN.of B7 (pair_fst F3 F4.1 F5.2)
  have H3 := Lib.hid (H2.out.later hb)
  have D3 := Lib.hid (D2.out.later hb)
  have E3 := Lib.hid C3
  have Q3 := Lib.hid (show w2.heap.size ≤ q3 from q0)
  have LT := Lib.hid D2.out.B.lt
  simp only [puts2, Act.put, List.setIfInBounds_toArray, List.set_cons_zero, List.set_cons_succ, Nat.zero_add, Nat.reduceAdd]
  rw [e7]
  clear hf hne hb F3 F4 F5 B7 C3 e7 e5 q0 q1 H2 D2 HC2
  have ne23 := Lib.hid (show q2 < q3 from by have := LT.out; have := Q3.out; omega)
  have LQ := Lib.hid (show w.heap.size + 1 + 1 + 1 < q2 from by
    have := Q1.out; have := Q2.out; have := Q0.out; omega)
  obtain ⟨p0, p1, _, _⟩ := H3.out.A
  obtain ⟨p2, p3, _, _⟩ := H3.out.B
  by_cases hs : (ng != mg) = true
  · have HRR := Lib.hid (show R = -(x / g) from by rw [HR.out, if_pos hs])
    have hs' : (!ng == mg) = true := by cases ng <;> cases mg <;> simp at hs ⊢
    obtain ⟨k0, k1, k2, k3⟩ := D3.out.B
    go_wp2_with fail
    refine (minus_any n2 a2 l2 c2 (x / g) _ D3.out.V (Nat.le_trans (D3.out.V.len 99 (by have := quo_le NA.out.1 GP.out; have := P_pos 99; omega) (by have := quo_le NA.out.1 GP.out; have := NA.out.2.1; omega)) (by decide))).mono ?_
    rintro e w5 ⟨n4, a4, l4, c4, rfl, hv5, hb5⟩
    have D5 := Lib.hid (D3.out.B.later hb5)
    have H4 := Lib.hid ((H3.out.later hb5).put D5.out LQ.out (.bool n4) (.slice a4 l4 c4))
    have D4 := Lib.hid (show BN _ q2 n4 a4 l4 c4 (-(x / g)) from ⟨D5.out.set n4 a4 l4 c4, hv5.setBV D5.out (.bool n4) (.slice a4 l4 c4)⟩)
    have E4 := Lib.hid (show BN _ q3 n3 a3 l3 c3 (y / g) from ⟨((E3.out.later hb5).B).other (by have := ne23.out; omega) (.bool n4) (.slice a4 l4 c4), (E3.out.later hb5).V.setBV D5.out (.bool n4) (.slice a4 l4 c4)⟩)
    clear hv5 hb5 k0 k1 k2 k3 p0 p1 p2 p3 H3 D3 E3
    obtain ⟨k0, k1, k2, k3⟩ := D5.out
    go_wp2_with fail
    clear k0 k1 k2 k3
    obtain ⟨r0, r1, r2, r3⟩ := H4.out.R1
    obtain ⟨r4, r5, r6, r7⟩ := H4.out.R2
    obtain ⟨d0, d1, d2, d3⟩ := D4.out.B
    obtain ⟨g0, g1, g2, g3⟩ := E4.out.B
    have x1 : ¬ w.heap.size + 1 + 1 = q3 := by have := LQ.out; have := ne23.out; omega
    have x2 : ¬ w.heap.size + 1 + 1 + 1 = q3 := by have := LQ.out; have := ne23.out; omega
    have x3 : ¬ w.heap.size + 1 + 1 = q2 := by have := LQ.out; omega
    have x4 : ¬ w.heap.size + 1 + 1 + 1 = q2 := by have := LQ.out; omega
    go_wp2_with fail
    go_region
    all_goals
      go_wp2_with fail
      refine bodyPost_ret (v := .tuple #[.agg #[.bool n4, .slice a4 l4 c4], .agg #[.bool n3, .slice a3 l3 c3]]) (by simp [results, Try.results91, go_sem, *]) rfl ?_
      have v1 := D4.out.V.setBV H4.out.R1 (.bool n4) (.slice a4 l4 c4)
      have v2 := E4.out.V.setBV H4.out.R1 (.bool n4) (.slice a4 l4 c4)
      have rr := H4.out.R2.other (b' := w.heap.size + 1 + 1) (by omega) (.bool n4) (.slice a4 l4 c4)
      have dr : ∀ wx : World, Below wx.heap.size wx wx.drew := fun wx => Below.drew (Below.refl _ _)
      rw [HRR.out]
      exact ⟨n4, a4, l4, c4, n3, a3, l3, c3, rfl, (v1.setBV rr _ _).later (dr _), (v2.setBV rr _ _).later (dr _), Below.drew ((((H4.out.bel.setCell (by show w.heap.size ≤ w.heap.size + 1 + 1; omega) _).setCell (by show w.heap.size ≤ w.heap.size + 1 + 1; omega) _).setCell (by show w.heap.size ≤ w.heap.size + 1 + 1 + 1; omega) _).setCell (by show w.heap.size ≤ w.heap.size + 1 + 1 + 1; omega) _)⟩
  · have HRR := Lib.hid (show R = x / g from by rw [HR.out, if_neg hs])
    have hs' : (!ng == mg) = false := by cases ng <;> cases mg <;> simp at hs ⊢
    have H4 := H3
    have D4 := D3
    have E4 := E3
    obtain ⟨n4, hn4⟩ : ∃ n4, n4 = n2 := ⟨_, rfl⟩
    obtain ⟨a4, ha4⟩ : ∃ a4, a4 = a2 := ⟨_, rfl⟩
    obtain ⟨l4, hl4⟩ : ∃ l4, l4 = l2 := ⟨_, rfl⟩
    obtain ⟨c4, hc4⟩ : ∃ c4, c4 = c2 := ⟨_, rfl⟩
    subst hn4 ha4 hl4 hc4
    go_wp2_with fail
    clear p0 p1 p2 p3
    obtain ⟨r0, r1, r2, r3⟩ := H4.out.R1
    obtain ⟨r4, r5, r6, r7⟩ := H4.out.R2
    obtain ⟨d0, d1, d2, d3⟩ := D4.out.B
    obtain ⟨g0, g1, g2, g3⟩ := E4.out.B
    have x1 : ¬ w.heap.size + 1 + 1 = q3 := by have := LQ.out; have := ne23.out; omega
    have x2 : ¬ w.heap.size + 1 + 1 + 1 = q3 := by have := LQ.out; have := ne23.out; omega
    have x3 : ¬ w.heap.size + 1 + 1 = q2 := by have := LQ.out; omega
    have x4 : ¬ w.heap.size + 1 + 1 + 1 = q2 := by have := LQ.out; omega
    go_wp2_with fail
    go_region
    all_goals
      go_wp2_with fail
      refine bodyPost_ret (v := .tuple #[.agg #[.bool n4, .slice a4 l4 c4], .agg #[.bool n3, .slice a3 l3 c3]]) (by simp [results, Try.results91, go_sem, *]) rfl ?_
      have v1 := D4.out.V.setBV H4.out.R1 (.bool n4) (.slice a4 l4 c4)
      have v2 := E4.out.V.setBV H4.out.R1 (.bool n4) (.slice a4 l4 c4)
      have rr := H4.out.R2.other (b' := w.heap.size + 1 + 1) (by omega) (.bool n4) (.slice a4 l4 c4)
      have dr : ∀ wx : World, Below wx.heap.size wx wx.drew := fun wx => Below.drew (Below.refl _ _)
      rw [HRR.out]
      exact ⟨n4, a4, l4, c4, n3, a3, l3, c3, rfl, (v1.setBV rr _ _).later (dr _), (v2.setBV rr _ _).later (dr _), Below.drew ((((H4.out.bel.setCell (by show w.heap.size ≤ w.heap.size + 1 + 1; omega) _).setCell (by show w.heap.size ≤ w.heap.size + 1 + 1; omega) _).setCell (by show w.heap.size ≤ w.heap.size + 1 + 1 + 1; omega) _).setCell (by show w.heap.size ≤ w.heap.size + 1 + 1 + 1; omega) _)⟩
end Go.Proofs.Ytbolifjkhoiphaa
