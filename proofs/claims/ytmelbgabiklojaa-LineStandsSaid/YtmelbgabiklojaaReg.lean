/- A region that draws its order, whose operations are of four kinds: one that yields a value, a call that lays only new blocks, a new box for a big number, a store into such a box: what holds behind it, whatever the order; without going through the orders. No program in sight. -/
import Derived.Test.YtmelbgabiklojaaBig
import Derived.Orders
import Derived.RegionTactic
namespace Go.Proofs.Reg
open Go.RowKit Go.Proofs.Big
set_option linter.unusedVariables false
set_option linter.unusedSimpArgs false

def dstAt (ops : Array Oper) (j : Nat) : Option Tmp := (ops[j]?).bind (·.dst)
/-- the frame behind the operations that have come up -/
def puts (ops : Array Oper) (L : Nat → Bool) (val : Nat → Value) : List Nat → Act → Act
  | [], a => a
  | j :: js, a => puts ops L val js (if L j then a.put (dstAt ops j) (val j) else a)
def addL (L : Nat → Bool) (i : Nat) : Nat → Bool := fun j => if j = i then true else L j
def upd (val : Nat → Value) (i : Nat) (v : Value) : Nat → Value := fun j => if j = i then v else val j
def Apart (ops : Array Oper) : Prop := ∀ j k d, j ≠ k → dstAt ops j = some d → dstAt ops k ≠ some d
def apartB (ops : Array Oper) : Bool := (List.range ops.size).all fun j => (List.range ops.size).all fun k => j == k || dstAt ops j == none || dstAt ops j != dstAt ops k
theorem apart_of {ops : Array Oper} (h : apartB ops = true) : Apart ops := by
  intro j k d hjk hj hk
  have lt : ∀ {i d}, dstAt ops i = some d → i < ops.size := by
    intro i d hi
    unfold dstAt at hi
    cases ho : ops[i]? with
    | none => rw [ho] at hi; cases hi
    | some o => exact (Array.getElem?_eq_some_iff.1 ho).1
  unfold apartB at h
  rw [List.all_eq_true] at h
  have h1 := h j (List.mem_range.2 (lt hj))
  rw [List.all_eq_true] at h1
  have h2 := h1 k (List.mem_range.2 (lt hk))
  rw [hj, hk] at h2
  simp [hjk] at h2
def inB (ops : Array Oper) (n : Nat) : Bool := ops.all fun o => match o.dst with
  | some d => decide (d < n)
  | none => true
theorem in_of {ops : Array Oper} {n : Nat} (h : inB ops n = true) (j : Nat) (d : Tmp) (hj : dstAt ops j = some d) : d < n := by
  unfold dstAt at hj
  cases ho : ops[j]? with
  | none => rw [ho] at hj; cases hj
  | some o =>
    rw [ho] at hj
    have := (Array.all_eq_true_iff_forall_mem.1 h) o (Array.mem_of_getElem? ho)
    simp only [Option.bind_some] at hj
    rw [hj] at this
    simpa using this
theorem put_size (a : Act) (d : Option Tmp) (v : Value) : (a.put d v).tmps.size = a.tmps.size := by
  cases d <;> simp [Act.put]
theorem puts_congr {ops : Array Oper} {L L' : Nat → Bool} {val val' : Nat → Value} : ∀ (js : List Nat) (a : Act), (∀ j ∈ js, L j = L' j ∧ (L j = true → val j = val' j)) → puts ops L val js a = puts ops L' val' js a
  | [], a, _ => rfl
  | j :: js, a, h => by
    have h1 := h j (by simp)
    simp only [puts]
    rw [← h1.1]
    by_cases c : L j = true
    · simp only [c, if_true]
      rw [h1.2 c]
      exact puts_congr js _ (fun k hk => h k (by simp [hk]))
    · simp only [c]
      exact puts_congr js _ (fun k hk => h k (by simp [hk]))
theorem puts_put {ops : Array Oper} {L : Nat → Bool} {val : Nat → Value} {d : Option Tmp} {v : Value} : ∀ (js : List Nat) (a : Act), (∀ j ∈ js, ∀ x, d = some x → dstAt ops j ≠ some x) → puts ops L val js (a.put d v) = (puts ops L val js a).put d v
  | [], a, _ => rfl
  | j :: js, a, h => by
    simp only [puts]
    by_cases c : L j = true
    · simp only [c, if_true]
      rw [Act.put_comm a v (val j) (h j (by simp))]
      exact puts_put js _ (fun k hk => h k (by simp [hk]))
    · simp only [c]
      exact puts_put js _ (fun k hk => h k (by simp [hk]))
theorem puts_add {ops : Array Oper} (hA : Apart ops) {L : Nat → Bool} {val : Nat → Value} {i : Nat} {v : Value} (hi : L i = false) : ∀ (js : List Nat) (a : Act), js.Nodup → i ∈ js →
    puts ops (addL L i) (upd val i v) js a = (puts ops L val js a).put (dstAt ops i) v
  | [], a, _, h => by cases h
  | j :: js, a, hn, h => by
    rw [List.nodup_cons] at hn
    simp only [puts]
    by_cases c : j = i
    · subst c
      rw [show addL L j j = true by simp [addL], show upd val j v j = v by simp [upd], hi]
      simp only [if_true, Bool.false_eq_true, if_false]
      rw [puts_put]
      · rw [puts_congr (L := addL L j) (L' := L) (val := upd val j v) (val' := val)]
        intro k hk
        have : k ≠ j := fun e => hn.1 (e ▸ hk)
        simp [addL, upd, this]
      · intro k hk x hx
        exact hA j k x (fun e => hn.1 (e ▸ hk)) hx
    · have hm : i ∈ js := by
        rcases List.mem_cons.1 h with e | e
        · exact absurd e.symm c
        · exact e
      rw [show addL L i j = L j by simp [addL, c], show upd val i v j = val j by simp [upd, c]]
      exact puts_add hA hi js _ hn.2 hm
theorem eval_out {ops : Array Oper} {L : Nat → Bool} {val : Nat → Value} {t : Tmp} : ∀ (js : List Nat) (a : Act), (∀ j ∈ js, dstAt ops j ≠ some t) → (puts ops L val js a).eval (.tmp t) = a.eval (.tmp t)
  | [], a, _ => rfl
  | j :: js, a, h => by
    simp only [puts]
    rw [eval_out js _ (fun k hk => h k (by simp [hk]))]
    by_cases c : L j = true
    · simp only [c, if_true]
      exact Act.eval_put (fun d hd e => h j (by simp) (by rw [hd]; injection e with e; rw [e]))
    · simp only [c]; rfl
theorem eval_in {ops : Array Oper} (hA : Apart ops) {L : Nat → Bool} {val : Nat → Value} {i : Nat} {d : Tmp} (hi : L i = true) (hd : dstAt ops i = some d) : ∀ (js : List Nat) (a : Act), js.Nodup → i ∈ js → d < a.tmps.size → (puts ops L val js a).eval (.tmp d) = val i
  | [], a, _, h, _ => by cases h
  | j :: js, a, hn, h, hs => by
    rw [List.nodup_cons] at hn
    simp only [puts]
    by_cases c : j = i
    · subst c
      simp only [hi, if_true]
      rw [eval_out js _ (fun k hk => hA j k d (fun e => hn.1 (e ▸ hk)) hd), hd]
      simp [Act.put, Act.eval, hs]
    · have hm : i ∈ js := by
        rcases List.mem_cons.1 h with e | e
        · exact absurd e.symm c
        · exact e
      refine eval_in hA hi hd js _ hn.2 hm ?_
      split
      · rw [put_size]; exact hs
      · exact hs

/-- a big number's box holds a value -/
def BoxAt (w : World) (q : Nat) (v : Value) : Prop := ∃ n a l c, v = .agg #[.bool n, .slice a l c] ∧ BV w q n a l c
def nought : Value := .agg #[.bool false, .slice none 0 0]
def stored (w : World) (q : Nat) (n : Bool) (a : Option Addr) (l c : Nat) : World := (w.setCell ⟨q, 0, none⟩ (.bool n)).setCell ⟨q, 1, none⟩ (.slice a l c)

inductive Kind
  | pure (R : (Nat → Value) → Value → Prop)
  | call (C : Value → World → Prop)
  | box (t : TypeId) (st src : Nat)
  | put (al src : Nat)

/-- what holds of an operation that has come up -/
def Fact (kind : Nat → Kind) (w0 : World) (L : Nat → Bool) (val : Nat → Value) (w : World) (j : Nat) : Prop :=
  match kind j with
  | .pure R => R val (val j)
  | .call C => C (val j) w
  | .box _ st src => ∃ q, val j = .pointer (some ⟨q, 0, none⟩) ∧ w0.heap.size ≤ q ∧ q < w.heap.size ∧ BoxAt w q (if L st then val src else nought)
  | .put _ _ => True
def depB (o : Oper) (d : Nat) : Bool := o.after.any fun e => Region.binds .any e && e.on == d
structure Env (ops : Array Oper) (a0 A : Act) (L : Nat → Bool) (val : Nat → Value) : Prop where
  dep : ∀ j d, L j = true → dstAt ops j = some d → A.eval (.tmp d) = val j
  out : ∀ t, (ops.all fun o => o.dst != some t) = true → A.eval (.tmp t) = a0.eval (.tmp t)
/-- what is asked of each operation -/
def OpOk (P : Program) (ops : Array Oper) (a0 : Act) (w0 : World) (kind : Nat → Kind) (o : Oper) : Kind → Prop
  | .pure R => (∀ val val' x, (∀ d, depB o d = true → val d = val' d) → R val x → R val' x) ∧
      ∀ A L val w, Env ops a0 A L val → (∀ d, depB o d = true → L d = true ∧ Fact kind w0 L val w d) → Below w0.heap.size w0 w → ∃ v, R val v ∧ (execOp A.eval o).run P w = .ok (.value v) w
  | .call C => (∀ v w w', C v w → Below w.heap.size w w' → C v w') ∧ (∀ v w q n a l c n' a' l' c', C v w → BV w q n a l c → C v (stored w q n' a' l' c')) ∧
      ∀ A L val w, Env ops a0 A L val → (∀ d, depB o d = true → L d = true ∧ Fact kind w0 L val w d) → Below w0.heap.size w0 w →
        ∃ f args, (execOp A.eval o).run P w = .ok (.enter f args) w ∧ Calls P f args w fun e w' => ∃ v, e = .returned v ∧ C v w' ∧ Below w.heap.size w w'
  | .box t st src => ∀ (A : Act) (w : World), (execOp A.eval o).run P w = .ok (.value (.pointer (some ⟨w.heap.size, 0, none⟩))) (w.alloc (.cells #[.bool false, .slice none 0 0] t))
  | .put al src => depB o al = true ∧ depB o src = true ∧ (∀ L val w, Fact kind w0 L val w src → ∃ n a l c, val src = .agg #[.bool n, .slice a l c]) ∧
      ∀ A L val w q n a l c n' a' l' c', Env ops a0 A L val → L al = true → L src = true → val al = .pointer (some ⟨q, 0, none⟩) → val src = .agg #[.bool n, .slice a l c] → BV w q n' a' l' c' →
        (execOp A.eval o).run P w = .ok .skip (stored w q n a l c)
structure Inv (ops : Array Oper) (kind : Nat → Kind) (w0 : World) (L : Nat → Bool) (val : Nat → Value) (w : World) : Prop where
  lt : ∀ j, L j = true → j < ops.size
  fact : ∀ j, L j = true → Fact kind w0 L val w j
  closed : ∀ j o, L j = true → ops[j]? = some o → ∀ d, depB o d = true → L d = true
  ne : ∀ j k t st src t' st' src', j ≠ k → L j = true → L k = true → kind j = .box t st src → kind k = .box t' st' src' → val j ≠ val k
  bel : Below w0.heap.size w0 w
/-- kinds of one another: whose box a store is -/
def Pairs (ops : Array Oper) (kind : Nat → Kind) : Prop := (∀ j t st src, kind j = .box t st src → kind st = .put j src ∧ st < ops.size) ∧ (∀ i al src, kind i = .put al src → ∃ t, kind al = .box t i src)

def boxOf : Kind → Option (Nat × Nat)
  | .box _ st src => some (st, src)
  | _ => none
def putOf : Kind → Option (Nat × Nat)
  | .put al src => some (al, src)
  | _ => none
/-- the kinds of a list; what stands behind it is of no account -/
def kinds (ks : List Kind) (j : Nat) : Kind := ks.getD j (.pure fun _ _ => True)
def pairsB (ks : List Kind) (n : Nat) : Bool := ((List.range ks.length).all fun j => match boxOf (kinds ks j) with
  | some (st, src) => decide (st < n) && (putOf (kinds ks st) == some (j, src))
  | none => true) && ((List.range ks.length).all fun i => match putOf (kinds ks i) with
  | some (al, src) => boxOf (kinds ks al) == some (i, src)
  | none => true)
theorem kinds_lt {ks : List Kind} {j : Nat} (h : ¬ j < ks.length) : kinds ks j = .pure fun _ _ => True := by
  unfold kinds
  rw [List.getD_eq_getElem?_getD, List.getElem?_eq_none (by omega)]
  rfl
theorem boxOf_some {k : Kind} {st src : Nat} (h : boxOf k = some (st, src)) : ∃ t, k = .box t st src := by
  cases k <;> simp [boxOf] at h
  obtain ⟨rfl, rfl⟩ := h
  exact ⟨_, rfl⟩
theorem putOf_some {k : Kind} {al src : Nat} (h : putOf k = some (al, src)) : k = .put al src := by
  cases k <;> simp [putOf] at h
  obtain ⟨rfl, rfl⟩ := h
  rfl
theorem pairs_of {ops : Array Oper} {ks : List Kind} (h : pairsB ks ops.size = true) : Pairs ops (kinds ks) := by
  unfold pairsB at h
  rw [Bool.and_eq_true, List.all_eq_true, List.all_eq_true] at h
  obtain ⟨h1, h2⟩ := h
  refine ⟨fun j t st src hk => ?_, fun i al src hk => ?_⟩
  · have hj : j < ks.length := by
      by_cases c : j < ks.length
      · exact c
      · rw [kinds_lt c] at hk; cases hk
    have := h1 j (List.mem_range.2 hj)
    rw [hk] at this
    simp only [boxOf, Bool.and_eq_true, decide_eq_true_eq, beq_iff_eq] at this
    exact ⟨putOf_some this.2, this.1⟩
  · have hi : i < ks.length := by
      by_cases c : i < ks.length
      · exact c
      · rw [kinds_lt c] at hk; cases hk
    have := h2 i (List.mem_range.2 hi)
    rw [hk] at this
    simp only [putOf, beq_iff_eq] at this
    exact boxOf_some this
section
variable {P : Program} {ops : Array Oper} {Q : Exit → Act → World → Prop} {a0 : Act} {w0 : World} {kind : Nat → Kind}

theorem boxAt_later {w w' : World} {q : Nat} {v : Value} (h : BoxAt w q v) (hb : Below w.heap.size w w') : BoxAt w' q v := by
  obtain ⟨n, a, l, c, e, b⟩ := h
  exact ⟨n, a, l, c, e, b.later hb⟩
theorem boxAt_other {w : World} {q p : Nat} {v : Value} (h : BoxAt w q v) (hp : q ≠ p) (n : Bool) (a : Option Addr) (l c : Nat) : BoxAt (stored w p n a l c) q v := by
  obtain ⟨n1, a1, l1, c1, e, b⟩ := h
  exact ⟨n1, a1, l1, c1, e, b.other hp _ _⟩
theorem depB_ne {o : Oper} {L : Nat → Bool} {i d : Nat} (h : ∀ d, depB o d = true → L d = true) (hi : L i = false) (hd : depB o d = true) : d ≠ i := fun e => by
  have := h d hd
  rw [e, hi] at this
  cases this

/-- the step of an operation whose world lays only new blocks on top -/
theorem inv_step {L : Nat → Bool} {val : Nat → Value} {w w' : World} {i : Nat} {o : Oper} {v : Value} (hJ : Inv ops kind w0 L val w) (ok : ∀ i o, ops[i]? = some o → OpOk P ops a0 w0 kind o (kind i)) (ho : ops[i]? = some o)
    (hi : L i = false) (hd : ∀ d, depB o d = true → L d = true) (hb : Below w.heap.size w w') (hp : Pairs ops kind) (hnp : ∀ al src, kind i ≠ .put al src)
    (hf : Fact kind w0 (addL L i) (upd val i v) w' i) (hne : ∀ t st src, kind i = .box t st src → v = .pointer (some ⟨w.heap.size, 0, none⟩)) : Inv ops kind w0 (addL L i) (upd val i v) w' := by
  have old : ∀ j, addL L i j = true → j ≠ i → L j = true := fun j h c => by simpa [addL, c] using h
  have vne : ∀ j, j ≠ i → upd val i v j = val j := fun j c => by simp [upd, c]
  have ilt : i < ops.size := (Array.getElem?_eq_some_iff.1 ho).1
  refine ⟨fun j h => ?_, fun j h => ?_, fun j oj h hoj d hdj => ?_, fun j k t st src t' st' src' hjk hj hk kj kk => ?_, ?_⟩
  · by_cases c : j = i
    · rw [c]; exact ilt
    · exact hJ.lt j (old j h c)
  · by_cases c : j = i
    · rw [c]; exact hf
    · have hj := old j h c
      have F := hJ.fact j hj
      have olt := hJ.lt j hj
      obtain ⟨oj, hoj⟩ : ∃ oj, ops[j]? = some oj := ⟨ops[j], Array.getElem?_eq_getElem olt⟩
      have O := ok j oj hoj
      unfold Fact at F ⊢
      split at F
      · rename_i R hk
        rw [hk] at O
        rw [vne j c]
        exact O.1 val _ _ (fun d hd' => (vne d (depB_ne (hJ.closed j oj hj hoj) hi hd')).symm) F
      · rename_i C hk
        rw [hk] at O
        rw [vne j c]
        exact O.1 _ _ _ F hb
      · rename_i t st src hk
        rw [vne j c]
        obtain ⟨q, e1, e2, e3, e4⟩ := F
        refine ⟨q, e1, e2, Nat.lt_of_lt_of_le e3 hb.size, ?_⟩
        have hst : st ≠ i := fun e => hnp j src (by rw [← e]; exact (hp.1 j t st src hk).1)
        rw [show addL L i st = L st by simp [addL, hst]]
        by_cases cs : L st = true
        · rw [if_pos cs] at e4 ⊢
          have hsrc : src ≠ i := by
            have k1 := (hp.1 j t st src hk).1
            obtain ⟨ost, host⟩ : ∃ ox, ops[st]? = some ox := ⟨ops[st]'(hJ.lt st cs), Array.getElem?_eq_getElem _⟩
            have O2 := ok st ost host
            rw [k1] at O2
            exact depB_ne (hJ.closed st ost cs host) hi O2.2.1
          rw [vne src hsrc]
          exact boxAt_later e4 hb
        · rw [if_neg cs] at e4 ⊢
          exact boxAt_later e4 hb
      · trivial
  · by_cases c : j = i
    · rw [c] at hoj
      obtain rfl : o = oj := by rw [ho] at hoj; exact Option.some.inj hoj
      have := hd d hdj
      simp [addL, this]
    · have := hJ.closed j oj (old j h c) hoj d hdj
      simp [addL, this]
  · have key : ∀ m t st src, m ≠ i → L m = true → kind m = .box t st src → val m ≠ .pointer (some ⟨w.heap.size, 0, none⟩) := fun m t st src c hm km e => by
      have F := hJ.fact m hm
      unfold Fact at F
      rw [km] at F
      obtain ⟨q, e1, e2, e3, e4⟩ := F
      rw [e1] at e
      simp only [Value.pointer.injEq, Option.some.injEq, Addr.mk.injEq] at e
      omega
    by_cases cj : j = i
    · by_cases ck : k = i
      · exact absurd (cj.trans ck.symm) hjk
      · rw [vne k ck, cj, show upd val i v i = v by simp [upd], hne t st src (by rw [← cj]; exact kj)]
        exact (key k t' st' src' ck (old k hk ck) kk).symm
    · by_cases ck : k = i
      · rw [vne j cj, ck, show upd val i v i = v by simp [upd], hne t' st' src' (by rw [← ck]; exact kk)]
        exact key j t st src cj (old j hj cj) kj
      · rw [vne j cj, vne k ck]
        exact hJ.ne j k t st src t' st' src' hjk (old j hj cj) (old k hk ck) kj kk
  · exact hJ.bel.trans (hb.mono hJ.bel.size)
/-- the step of a store -/
theorem inv_put {L : Nat → Bool} {val : Nat → Value} {w : World} {i al src : Nat} {o : Oper} {q : Nat} {n : Bool} {a : Option Addr} {l c : Nat} (hJ : Inv ops kind w0 L val w) (ok : ∀ i o, ops[i]? = some o → OpOk P ops a0 w0 kind o (kind i)) (ho : ops[i]? = some o)
    (hi : L i = false) (hd : ∀ d, depB o d = true → L d = true) (hp : Pairs ops kind) (hk : kind i = .put al src) (hq : val al = .pointer (some ⟨q, 0, none⟩)) (hv : val src = .agg #[.bool n, .slice a l c]) :
    Inv ops kind w0 (addL L i) (upd val i undef) (stored w q n a l c) := by
  have old : ∀ j, addL L i j = true → j ≠ i → L j = true := fun j h c => by simpa [addL, c] using h
  have vne : ∀ j, j ≠ i → upd val i undef j = val j := fun j c => by simp [upd, c]
  have ilt : i < ops.size := (Array.getElem?_eq_some_iff.1 ho).1
  have O := ok i o ho
  rw [hk] at O
  have lal := hd al O.1
  have lsrc := hd src O.2.1
  obtain ⟨t0, kal⟩ := hp.2 i al src hk
  have FA := hJ.fact al lal
  unfold Fact at FA
  rw [kal] at FA
  obtain ⟨q', g1, g2, g3, g4⟩ := FA
  obtain rfl : q = q' := by
    rw [hq] at g1
    simpa using g1
  obtain ⟨n', a', l', c', _, B⟩ := g4
  refine ⟨fun j h => ?_, fun j h => ?_, fun j oj h hoj d hdj => ?_, fun j k t st src1 t' st' src' hjk hj hk' kj kk => ?_, ?_⟩
  · by_cases c : j = i
    · rw [c]; exact ilt
    · exact hJ.lt j (old j h c)
  · by_cases cj : j = i
    · unfold Fact
      rw [cj, hk]; trivial
    · have hj := old j h cj
      have F := hJ.fact j hj
      have olt := hJ.lt j hj
      obtain ⟨oj, hoj⟩ : ∃ oj, ops[j]? = some oj := ⟨ops[j], Array.getElem?_eq_getElem olt⟩
      have Oj := ok j oj hoj
      unfold Fact at F ⊢
      split at F
      · rename_i R hkj
        rw [hkj] at Oj
        rw [vne j cj]
        exact Oj.1 val _ _ (fun d hd' => (vne d (depB_ne (hJ.closed j oj hj hoj) hi hd')).symm) F
      · rename_i C hkj
        rw [hkj] at Oj
        rw [vne j cj]
        exact Oj.2.1 _ _ _ _ _ _ _ _ _ _ _ F B
      · rename_i t st src1 hkj
        rw [vne j cj]
        obtain ⟨p, e1, e2, e3, e4⟩ := F
        refine ⟨p, e1, e2, by simpa [stored] using e3, ?_⟩
        by_cases cs : st = i
        · have k1 := (hp.1 j t st src1 hkj).1
          rw [cs, hk] at k1
          obtain ⟨rfl, rfl⟩ := Kind.put.inj k1
          rw [cs, show addL L i i = true by simp [addL], if_pos rfl]
          have hs : src ≠ i := fun e => by rw [e, hi] at lsrc; cases lsrc
          rw [vne src hs, hv]
          obtain rfl : p = q := by
            rw [e1] at hq
            simpa using hq
          exact ⟨n, a, l, c, rfl, B.set _ _ _ _⟩
        · rw [show addL L i st = L st by simp [addL, cs]]
          have hjal : j ≠ al := fun e => cs (by
            rw [e, kal] at hkj
            have := Kind.box.inj hkj
            exact this.2.1.symm)
          have hpq : p ≠ q := fun e => hJ.ne j al _ _ _ _ _ _ hjal hj lal hkj kal (by rw [e1, hq, e])
          by_cases cl : L st = true
          · rw [if_pos cl] at e4 ⊢
            have hsrc : src1 ≠ i := by
              have k1 := (hp.1 j t st src1 hkj).1
              obtain ⟨ost, host⟩ : ∃ ox, ops[st]? = some ox := ⟨ops[st]'(hJ.lt st cl), Array.getElem?_eq_getElem _⟩
              have O2 := ok st ost host
              rw [k1] at O2
              exact depB_ne (hJ.closed st ost cl host) hi O2.2.1
            rw [vne src1 hsrc]
            exact boxAt_other e4 hpq _ _ _ _
          · rw [if_neg cl] at e4 ⊢
            exact boxAt_other e4 hpq _ _ _ _
      · trivial
  · by_cases c : j = i
    · rw [c] at hoj
      obtain rfl : o = oj := by rw [ho] at hoj; exact Option.some.inj hoj
      have := hd d hdj
      simp [addL, this]
    · have := hJ.closed j oj (old j h c) hoj d hdj
      simp [addL, this]
  · have nj : j ≠ i := fun e => by rw [e, hk] at kj; cases kj
    have nk : k ≠ i := fun e => by rw [e, hk] at kk; cases kk
    rw [vne j nj, vne k nk]
    exact hJ.ne j k t st src1 t' st' src' hjk (old j hj nj) (old k hk' nk) kj kk
  · exact (hJ.bel.setCell (p := ⟨q, 0, none⟩) g2 _).setCell (p := ⟨q, 1, none⟩) g2 _

theorem count_set {listed : Array Bool} {i : Nat} (hi : listed.getD i true = false) : ((listed.setIfInBounds i true).toList.countP fun b => !b) + 1 = listed.toList.countP fun b => !b := by
  have hlt : i < listed.size := by
    rcases Nat.lt_or_ge i listed.size with h | h
    · exact h
    · simp [Array.getElem?_eq_none h] at hi
  have hv : listed.toList[i]'(by simpa using hlt) = false := by
    simpa [hlt] using hi
  rw [Array.toList_setIfInBounds]
  have := List.countP_set (p := fun b => !b) (l := listed.toList) (i := i) (a := true) (by simpa using hlt)
  have pos : 0 < listed.toList.countP fun b => !b := by
    rw [List.countP_pos_iff]
    exact ⟨false, by rw [← hv]; exact List.getElem_mem _, rfl⟩
  have h1 : (if (!listed.toList[i]'(by simpa using hlt)) = true then 1 else 0) = 1 := by rw [hv]; rfl
  have h2 : (if (!true) = true then 1 else 0) = 0 := rfl
  rw [h1, h2] at this
  omega
/-- each operation waits for earlier ones only -/
def upB (ops : Array Oper) : Bool := (List.range ops.size).all fun j => match ops[j]? with
  | some o => o.after.all fun e => !Region.binds .any e || decide (e.on < j)
  | none => true
theorem ready_nil {ops : Array Oper} (hup : upB ops = true) {listed : Array Bool} (hs : listed.size = ops.size) (h : Region.ready .any ops listed = []) : ∀ j, j < ops.size → listed.getD j false = true := by
  intro j
  induction j using Nat.strongRecOn with
  | _ j ih =>
    intro hj
    have hl : j < listed.size := by omega
    by_cases c : listed.getD j true = false
    · have hr : j ∈ Region.ready .any ops listed := by
        refine mem_ready.2 ⟨c, ops[j], Array.getElem?_eq_getElem hj, fun e he hb => ?_⟩
        have u := (List.all_eq_true.1 hup) j (List.mem_range.2 hj)
        rw [Array.getElem?_eq_getElem hj] at u
        have u2 := (Array.all_eq_true_iff_forall_mem.1 u) e he
        simp only [hb, Bool.not_true, Bool.false_or, decide_eq_true_eq] at u2
        exact ih e.on u2 (by omega)
      rw [h] at hr
      cases hr
    · simpa [hl] using c
theorem region_any (hup : upB ops = true) (hdist : apartB ops = true) (hsz : inB ops a0.tmps.size = true) (hg : (ops.all fun o => o.guard.isNone) = true) (hp : Pairs ops kind)
    (ok : ∀ i o, ops[i]? = some o → OpOk P ops a0 w0 kind o (kind i))
    (fin : ∀ val w, (∀ j, j < ops.size → Fact kind w0 (fun _ => true) val w j) → (∀ j k t st src t' st' src', j ≠ k → kind j = .box t st src → kind k = .box t' st' src' → val j ≠ val k) → Below w0.heap.size w0 w →
      Q .normal (puts ops (fun _ => true) val (List.range ops.size) a0) w) :
    ∀ (fuel : Nat) (listed : Array Bool) (val : Nat → Value) (w : World), listed.size = ops.size → (listed.toList.countP fun b => !b) = fuel → Inv ops kind w0 (fun j => listed.getD j false) val w →
      wpAny P .any ops Q fuel listed (puts ops (fun j => listed.getD j false) val (List.range ops.size) a0) w := by
  have done : ∀ (listed : Array Bool) (val : Nat → Value) (w : World), listed.size = ops.size → Inv ops kind w0 (fun j => listed.getD j false) val w → (listed.toList.countP fun b => !b) = 0 →
      Q .normal (puts ops (fun j => listed.getD j false) val (List.range ops.size) a0) w := by
    intro listed val w hs hJ h0
    have all : ∀ j, j < ops.size → listed.getD j false = true := by
      intro j hj
      rw [List.countP_eq_zero] at h0
      have hl : j < listed.size := by omega
      have := h0 listed[j] (by simp)
      simpa [hl] using this
    rw [puts_congr (L' := fun _ => true) (val' := val) _ _ (fun j hj => ⟨all j (List.mem_range.1 hj), fun _ => rfl⟩)]
    have le : ∀ (v : Nat → Value) j, (if listed.getD j false = true then v j else nought) = if j < ops.size then v j else (if listed.getD j false = true then v j else nought) := fun v j => by
      by_cases h : j < ops.size
      · rw [if_pos h, if_pos (all j h)]
      · rw [if_neg h]
    refine fin val w (fun j hj => ?_) (fun j k t st src t' st' src' hjk kj kk => ?_) hJ.bel
    · have F := hJ.fact j (all j hj)
      unfold Fact at F ⊢
      split at F
      · exact F
      · exact F
      · rename_i t st src hk
        obtain ⟨q, e1, e2, e3, e4⟩ := F
        refine ⟨q, e1, e2, e3, ?_⟩
        rw [if_pos (all st (hp.1 j t st src hk).2)] at e4
        exact e4
      · trivial
    · by_cases lj : j < ops.size
      · by_cases lk : k < ops.size
        · exact hJ.ne j k t st src t' st' src' hjk (all j lj) (all k lk) kj kk
        · have O := (hp.1 k t' st' src' kk).1
          have st_lt := (hp.1 k t' st' src' kk).2
          have O2 := ok st' _ (Array.getElem?_eq_getElem st_lt)
          rw [O] at O2
          exact absurd (hJ.lt k (hJ.closed st' _ (all st' st_lt) (Array.getElem?_eq_getElem st_lt) k O2.1)) lk
      · have O := (hp.1 j t st src kj).1
        have st_lt := (hp.1 j t st src kj).2
        have O2 := ok st _ (Array.getElem?_eq_getElem st_lt)
        rw [O] at O2
        exact absurd (hJ.lt j (hJ.closed st _ (all st st_lt) (Array.getElem?_eq_getElem st_lt) j O2.1)) lj
  have hA := apart_of hdist
  have unready : ∀ (listed : Array Bool), listed.size = ops.size → (listed.toList.countP fun b => !b) = 0 → Region.ready .any ops listed = [] := by
    intro listed hs h0
    rw [List.eq_nil_iff_forall_not_mem]
    intro j hj
    have := (mem_ready.1 hj).1
    rw [List.countP_eq_zero] at h0
    rcases Nat.lt_or_ge j listed.size with h | h
    · have := h0 listed[j] (by simp)
      simp [h] at *
      simp_all
    · simp [Array.getElem?_eq_none h] at this
  intro fuel
  induction fuel with
  | zero => exact fun listed val w hs h0 hJ => ⟨unready listed hs h0, done listed val w hs hJ h0⟩
  | succ fuel ih =>
    intro listed val w hs hc hJ
    refine ⟨fun h => ?_, fun i hi => ?_⟩
    · have all := ready_nil hup hs h
      exfalso
      have : (listed.toList.countP fun b => !b) = 0 := by
        rw [List.countP_eq_zero]
        intro b hb
        obtain ⟨j, hj, e⟩ := List.mem_iff_getElem.1 hb
        have hj' : j < listed.size := by simpa using hj
        have := all j (by omega)
        simp only [Array.getElem_toList] at e
        simp [hj'] at this
        rw [← e, this]
        simp
      omega
    · obtain ⟨hun, o, ho, hall⟩ := mem_ready.1 hi
      have hlt : i < ops.size := (Array.getElem?_eq_some_iff.1 ho).1
      have hi0 : listed.getD i false = false := by
        have hl : i < listed.size := by omega
        simpa [hl] using hun
      have hd : ∀ d, depB o d = true → listed.getD d false = true := by
        intro d hdd
        unfold depB at hdd
        rw [Array.any_eq_true] at hdd
        obtain ⟨k, hk, he⟩ := hdd
        simp only [Bool.and_eq_true, beq_iff_eq] at he
        have := hall _ (Array.getElem_mem hk) he.1
        rw [he.2] at this
        exact this
      have hL : (fun j => (listed.setIfInBounds i true).getD j false) = addL (fun j => listed.getD j false) i := by
        funext j
        by_cases c : j = i
        · subst c
          have hl : j < listed.size := by omega
          simp [addL, hl]
        · rw [getD_set_ne false (Ne.symm c)]
          simp [addL, c]
      have next : ∀ v w', Inv ops kind w0 (addL (fun j => listed.getD j false) i) (upd val i v) w' →
          wpAny P .any ops Q fuel (listed.setIfInBounds i true) ((puts ops (fun j => listed.getD j false) val (List.range ops.size) a0).put o.dst v) w' := by
        intro v w' hJ'
        have := ih (listed.setIfInBounds i true) (upd val i v) w' (by simpa using hs) (by have := count_set hun; omega) (by rw [hL]; exact hJ')
        rw [hL, puts_add hA hi0 _ _ List.nodup_range (List.mem_range.2 hlt)] at this
        rw [show o.dst = dstAt ops i by unfold dstAt; rw [ho]; rfl]
        exact this
      have env : Env ops a0 (puts ops (fun j => listed.getD j false) val (List.range ops.size) a0) (fun j => listed.getD j false) val := by
        refine ⟨fun j d hj hd => ?_, fun t ht => ?_⟩
        · exact eval_in hA hj hd _ _ List.nodup_range (List.mem_range.2 (hJ.lt j hj)) (in_of hsz j d hd)
        · refine eval_out _ _ (fun j hj e => ?_)
          unfold dstAt at e
          cases hoj : ops[j]? with
          | none => rw [hoj] at e; cases e
          | some oj =>
            rw [hoj] at e
            simp only [Option.bind_some] at e
            have := (Array.all_eq_true_iff_forall_mem.1 ht) oj (Array.mem_of_getElem? hoj)
            rw [e] at this
            simp at this
      have facts : ∀ d, depB o d = true → listed.getD d false = true ∧ Fact kind w0 (fun j => listed.getD j false) val w d := fun d hdd => ⟨hd d hdd, hJ.fact d (hd d hdd)⟩
      have O := ok i o ho
      have wanted : ∀ y, Region.wanted o y = true := by
        intro y
        have := (Array.all_eq_true_iff_forall_mem.1 hg) o (Array.mem_of_getElem? ho)
        unfold Region.wanted
        cases hgd : o.guard with
        | none => rfl
        | some g => rw [hgd] at this; cases this
      unfold wpOp
      rw [ho]
      show if Region.wanted o _ = true then _ else _
      rw [if_pos (wanted _)]
      refine .inl ?_
      unfold Oper.wp
      generalize hk : kind i = ki at O
      cases ki with
      | pure R =>
        obtain ⟨v, hR, hrun⟩ := O.2 _ _ _ _ env facts hJ.bel
        rw [hrun]
        refine next v w (inv_step hJ ok ho hi0 hd (Below.refl _ _) hp (fun al src e => by rw [hk] at e; cases e) ?_ (fun t st src e => by rw [hk] at e; cases e))
        unfold Fact
        rw [hk]
        show R _ (upd val i v i)
        rw [show upd val i v i = v by simp [upd]]
        exact O.1 val _ v (fun d hdd => by simp [upd, depB_ne hd hi0 hdd]) hR
      | call C =>
        obtain ⟨f, args, hrun, hC⟩ := O.2.2 _ _ _ _ env facts hJ.bel
        rw [hrun]
        refine Calls.mono hC ?_
        rintro e w' ⟨v, rfl, hv, hb⟩
        refine next v w' (inv_step hJ ok ho hi0 hd hb hp (fun al src e => by rw [hk] at e; cases e) ?_ (fun t st src e => by rw [hk] at e; cases e))
        unfold Fact
        rw [hk]
        show C (upd val i v i) w'
        rw [show upd val i v i = v by simp [upd]]
        exact hv
      | box t st src =>
        rw [O _ w]
        have hb : Below w.heap.size w (w.alloc (.cells #[.bool false, .slice none 0 0] t)) := (Below.refl _ _).alloc (Nat.le_refl _) _
        refine next _ _ (inv_step hJ ok ho hi0 hd hb hp (fun al src e => by rw [hk] at e; cases e) ?_ (fun t' st' src' e => rfl))
        unfold Fact
        rw [hk]
        refine ⟨w.heap.size, by simp [upd], hJ.bel.size, by simp, ?_⟩
        have nst : ¬ addL (fun j => listed.getD j false) i st = true := by
          intro h
          have hsi : st ≠ i := fun e => by
            have := (hp.1 i t st src hk).1
            rw [e, hk] at this; cases this
          have h' : listed.getD st false = true := by simpa [addL, hsi] using h
          have slt := (hp.1 i t st src hk).2
          have O2 := ok st _ (Array.getElem?_eq_getElem slt)
          rw [(hp.1 i t st src hk).1] at O2
          have := hJ.closed st _ h' (Array.getElem?_eq_getElem slt) i O2.1
          rw [hi0] at this; cases this
        rw [if_neg nst]
        exact ⟨false, none, 0, 0, rfl, BV.new w false none 0 0 t⟩
      | put al src =>
        obtain ⟨d1, d2, hform, hrun⟩ := O
        obtain ⟨n, a, l, c, hv⟩ := hform _ _ _ (hJ.fact src (hd src d2))
        obtain ⟨t0, kal⟩ := hp.2 i al src hk
        have FA := hJ.fact al (hd al d1)
        unfold Fact at FA
        rw [kal] at FA
        obtain ⟨q, g1, g2, g3, n', a', l', c', _, B⟩ := FA
        rw [hrun _ _ _ _ _ _ _ _ _ _ _ _ _ env (hd al d1) (hd src d2) g1 hv B]
        exact next undef _ (inv_put hJ ok ho hi0 hd hp hk g1 hv)
def puts2 : List (Option Tmp) → (Nat → Value) → Nat → Act → Act
  | [], val, k, a => a
  | d :: ds, val, k, a => puts2 ds val (k + 1) (a.put d (val k))
theorem puts_puts2 (ops : Array Oper) (val : Nat → Value) : ∀ (ds : List (Option Tmp)) (k : Nat) (a : Act), (∀ j, j < ds.length → dstAt ops (k + j) = ds.getD j none) → puts ops (fun _ => true) val (List.range' k ds.length) a = puts2 ds val k a
  | [], k, a, h => rfl
  | d :: ds, k, a, h => by
    rw [List.length_cons, List.range'_succ]
    simp only [puts, puts2, if_true]
    have h0 := h 0 (by simp)
    rw [Nat.add_zero] at h0
    rw [h0]
    exact puts_puts2 ops val ds (k + 1) _ (fun j hj => by
      have := h (j + 1) (by simpa using hj)
      rw [show k + 1 + j = k + (j + 1) by omega, this]
      simp)
theorem puts_of {ops : Array Oper} {ds : List (Option Tmp)} (h : ops.toList.map (·.dst) = ds) (val : Nat → Value) (a : Act) : puts ops (fun _ => true) val (List.range ops.size) a = puts2 ds val 0 a := by
  have hl : ops.size = ds.length := by rw [← h]; simp
  rw [List.range_eq_range', hl]
  refine puts_puts2 ops val ds 0 a (fun j hj => ?_)
  rw [Nat.zero_add, ← h]
  unfold dstAt
  rw [List.getD_eq_getElem?_getD, List.getElem?_map, Array.getElem?_toList]
  cases ops[j]? <;> rfl
/-- **A region, whatever its order.** -/
theorem wp_region_kinds (ks : List Kind) (ds : List (Option Tmp)) {id : Nat} (hds : ops.toList.map (·.dst) = ds) (hm : P.follows .mixedOrders = true) (hup : upB ops = true) (hdist : apartB ops = true) (hsz : inB ops a0.tmps.size = true) (hg : (ops.all fun o => o.guard.isNone) = true) (hpb : pairsB ks ops.size = true)
    (ok : ∀ i o, ops[i]? = some o → OpOk P ops a0 w0 (kinds ks) o (kinds ks i))
    (fin : ∀ val w, (∀ j, j < ops.size → Fact (kinds ks) w0 (fun _ => true) val w j) → (∀ j k t st src t' st' src', j ≠ k → kinds ks j = .box t st src → kinds ks k = .box t' st' src' → val j ≠ val k) → Below w0.heap.size w0 w →
      Q .normal (puts2 ds val 0 a0) w) : (Code.region id ops true).wp P Q a0 w0 := by
  have hp := pairs_of hpb
  refine wp_region_any hm ?_
  have h0 : (fun j => (Array.replicate ops.size false).getD j false) = fun _ => false := by
    funext j
    by_cases h : j < ops.size <;> simp [h]
  have := region_any (P := P) (Q := Q) (a0 := a0) (w0 := w0) (kind := kinds ks) hup hdist hsz hg hp ok (fun val w hf hne hb => by rw [puts_of hds]; exact fin val w hf hne hb) ops.size (Array.replicate ops.size false) (fun _ => undef) { w0 with drawn := w0.drawn + 1 } (by simp) (by simp [List.countP_replicate])
    (by rw [h0]; exact ⟨fun j h => by simp at h, fun j h => by simp at h, fun j o h => by simp at h, fun j k t st src t' st' src' _ h => by simp at h, Below.drew (Below.refl _ _)⟩)
  rw [h0] at this
  have e : ∀ (js : List Nat) (a : Act), puts ops (fun _ => false) (fun _ => undef) js a = a := by
    intro js
    induction js with
    | nil => intro a; rfl
    | cons j js ih => intro a; simp only [puts]; exact ih a
  rw [e] at this
  exact this
end
end Go.Proofs.Reg
/- Regions that draw their order, with guarded operations ('&&', '||') whose guards are known: as XReg, an operation that isn't wanted yields nothing. No program in sight. -/
namespace Go.Proofs.Reg
open Go.RowKit Go.Proofs.Big
set_option linter.unusedVariables false
set_option linter.unusedSimpArgs false
/-- what a kind asks so that the facts of others stay -/
def Stab (o : Oper) : Kind → Prop
  | .pure R => ∀ val val' x, (∀ d, depB o d = true → val d = val' d) → R val x → R val' x
  | .call C => (∀ v w w', C v w → Below w.heap.size w w' → C v w') ∧ (∀ v w q n a l c n' a' l' c', C v w → BV w q n a l c → C v (stored w q n' a' l' c'))
  | .box _ _ _ => True
  | .put al src => depB o al = true ∧ depB o src = true
theorem stab_of {P : Program} {ops : Array Oper} {a0 : Act} {w0 : World} {kind : Nat → Kind} {o : Oper} {k : Kind} (h : OpOk P ops a0 w0 kind o k) : Stab o k := by
  cases k with
  | pure R => exact h.1
  | call C => exact ⟨h.1, h.2.1⟩
  | box t st src => trivial
  | put al src => exact ⟨h.1, h.2.1⟩
/-- an operation that comes up: it runs, or it isn't wanted -/
def StepOk (P : Program) (ops : Array Oper) (a0 : Act) (w0 : World) (kind : Nat → Kind) (o : Oper) (k : Kind) : Prop :=
  (OpOk P ops a0 w0 kind o k ∧ (o.guard = none ∨ ∃ g want t, o.guard = some (g, want) ∧ depB o g = true ∧ dstAt ops g = some t ∧ ∀ L val w, Fact kind w0 L val w g → val g = .bool want)) ∨
  (∃ g want t, o.guard = some (g, want) ∧ depB o g = true ∧ dstAt ops g = some t ∧ (∀ L val w, Fact kind w0 L val w g → val g = .bool (!want)) ∧ ∃ R, k = .pure R ∧ (∀ val val' x, (∀ d, depB o d = true → val d = val' d) → R val x → R val' x) ∧ ∀ val, R val undef)
theorem StepOk.stab {P : Program} {ops : Array Oper} {a0 : Act} {w0 : World} {kind : Nat → Kind} {o : Oper} {k : Kind} (h : StepOk P ops a0 w0 kind o k) : Stab o k := by
  rcases h with ⟨h, _⟩ | ⟨g, want, t, _, _, _, _, R, rfl, h, _⟩
  · exact stab_of h
  · exact h
section
variable {P : Program} {ops : Array Oper} {Q : Exit → Act → World → Prop} {a0 : Act} {w0 : World} {kind : Nat → Kind}
theorem puts_size {ops : Array Oper} {L : Nat → Bool} {val : Nat → Value} : ∀ (js : List Nat) (a : Act), (puts ops L val js a).tmps.size = a.tmps.size
  | [], a => rfl
  | j :: js, a => by
    simp only [puts]
    rw [puts_size js]
    split
    · exact put_size _ _ _
    · rfl
/-- the step of an operation whose world lays only new blocks on top -/
theorem inv_step_g {L : Nat → Bool} {val : Nat → Value} {w w' : World} {i : Nat} {o : Oper} {v : Value} (hJ : Inv ops kind w0 L val w) (ok : ∀ i o, ops[i]? = some o → Stab o (kind i)) (ho : ops[i]? = some o)
    (hi : L i = false) (hd : ∀ d, depB o d = true → L d = true) (hb : Below w.heap.size w w') (hp : Pairs ops kind) (hnp : ∀ al src, kind i ≠ .put al src)
    (hf : Fact kind w0 (addL L i) (upd val i v) w' i) (hne : ∀ t st src, kind i = .box t st src → v = .pointer (some ⟨w.heap.size, 0, none⟩)) : Inv ops kind w0 (addL L i) (upd val i v) w' := by
  have old : ∀ j, addL L i j = true → j ≠ i → L j = true := fun j h c => by simpa [addL, c] using h
  have vne : ∀ j, j ≠ i → upd val i v j = val j := fun j c => by simp [upd, c]
  have ilt : i < ops.size := (Array.getElem?_eq_some_iff.1 ho).1
  refine ⟨fun j h => ?_, fun j h => ?_, fun j oj h hoj d hdj => ?_, fun j k t st src t' st' src' hjk hj hk kj kk => ?_, ?_⟩
  · by_cases c : j = i
    · rw [c]; exact ilt
    · exact hJ.lt j (old j h c)
  · by_cases c : j = i
    · rw [c]; exact hf
    · have hj := old j h c
      have F := hJ.fact j hj
      have olt := hJ.lt j hj
      obtain ⟨oj, hoj⟩ : ∃ oj, ops[j]? = some oj := ⟨ops[j], Array.getElem?_eq_getElem olt⟩
      have O := ok j oj hoj
      unfold Fact at F ⊢
      split at F
      · rename_i R hk
        rw [hk] at O
        rw [vne j c]
        exact O val _ _ (fun d hd' => (vne d (depB_ne (hJ.closed j oj hj hoj) hi hd')).symm) F
      · rename_i C hk
        rw [hk] at O
        rw [vne j c]
        exact O.1 _ _ _ F hb
      · rename_i t st src hk
        rw [vne j c]
        obtain ⟨q, e1, e2, e3, e4⟩ := F
        refine ⟨q, e1, e2, Nat.lt_of_lt_of_le e3 hb.size, ?_⟩
        have hst : st ≠ i := fun e => hnp j src (by rw [← e]; exact (hp.1 j t st src hk).1)
        rw [show addL L i st = L st by simp [addL, hst]]
        by_cases cs : L st = true
        · rw [if_pos cs] at e4 ⊢
          have hsrc : src ≠ i := by
            have k1 := (hp.1 j t st src hk).1
            obtain ⟨ost, host⟩ : ∃ ox, ops[st]? = some ox := ⟨ops[st]'(hJ.lt st cs), Array.getElem?_eq_getElem _⟩
            have O2 := ok st ost host
            rw [k1] at O2
            exact depB_ne (hJ.closed st ost cs host) hi O2.2
          rw [vne src hsrc]
          exact boxAt_later e4 hb
        · rw [if_neg cs] at e4 ⊢
          exact boxAt_later e4 hb
      · trivial
  · by_cases c : j = i
    · rw [c] at hoj
      obtain rfl : o = oj := by rw [ho] at hoj; exact Option.some.inj hoj
      have := hd d hdj
      simp [addL, this]
    · have := hJ.closed j oj (old j h c) hoj d hdj
      simp [addL, this]
  · have key : ∀ m t st src, m ≠ i → L m = true → kind m = .box t st src → val m ≠ .pointer (some ⟨w.heap.size, 0, none⟩) := fun m t st src c hm km e => by
      have F := hJ.fact m hm
      unfold Fact at F
      rw [km] at F
      obtain ⟨q, e1, e2, e3, e4⟩ := F
      rw [e1] at e
      simp only [Value.pointer.injEq, Option.some.injEq, Addr.mk.injEq] at e
      omega
    by_cases cj : j = i
    · by_cases ck : k = i
      · exact absurd (cj.trans ck.symm) hjk
      · rw [vne k ck, cj, show upd val i v i = v by simp [upd], hne t st src (by rw [← cj]; exact kj)]
        exact (key k t' st' src' ck (old k hk ck) kk).symm
    · by_cases ck : k = i
      · rw [vne j cj, ck, show upd val i v i = v by simp [upd], hne t' st' src' (by rw [← ck]; exact kk)]
        exact key j t st src cj (old j hj cj) kj
      · rw [vne j cj, vne k ck]
        exact hJ.ne j k t st src t' st' src' hjk (old j hj cj) (old k hk ck) kj kk
  · exact hJ.bel.trans (hb.mono hJ.bel.size)
/-- the step of a store -/
theorem inv_put_g {L : Nat → Bool} {val : Nat → Value} {w : World} {i al src : Nat} {o : Oper} {q : Nat} {n : Bool} {a : Option Addr} {l c : Nat} (hJ : Inv ops kind w0 L val w) (ok : ∀ i o, ops[i]? = some o → Stab o (kind i)) (ho : ops[i]? = some o)
    (hi : L i = false) (hd : ∀ d, depB o d = true → L d = true) (hp : Pairs ops kind) (hk : kind i = .put al src) (hq : val al = .pointer (some ⟨q, 0, none⟩)) (hv : val src = .agg #[.bool n, .slice a l c]) :
    Inv ops kind w0 (addL L i) (upd val i undef) (stored w q n a l c) := by
  have old : ∀ j, addL L i j = true → j ≠ i → L j = true := fun j h c => by simpa [addL, c] using h
  have vne : ∀ j, j ≠ i → upd val i undef j = val j := fun j c => by simp [upd, c]
  have ilt : i < ops.size := (Array.getElem?_eq_some_iff.1 ho).1
  have O := ok i o ho
  rw [hk] at O
  have lal := hd al O.1
  have lsrc := hd src O.2
  obtain ⟨t0, kal⟩ := hp.2 i al src hk
  have FA := hJ.fact al lal
  unfold Fact at FA
  rw [kal] at FA
  obtain ⟨q', g1, g2, g3, g4⟩ := FA
  obtain rfl : q = q' := by
    rw [hq] at g1
    simpa using g1
  obtain ⟨n', a', l', c', _, B⟩ := g4
  refine ⟨fun j h => ?_, fun j h => ?_, fun j oj h hoj d hdj => ?_, fun j k t st src1 t' st' src' hjk hj hk' kj kk => ?_, ?_⟩
  · by_cases c : j = i
    · rw [c]; exact ilt
    · exact hJ.lt j (old j h c)
  · by_cases cj : j = i
    · unfold Fact
      rw [cj, hk]; trivial
    · have hj := old j h cj
      have F := hJ.fact j hj
      have olt := hJ.lt j hj
      obtain ⟨oj, hoj⟩ : ∃ oj, ops[j]? = some oj := ⟨ops[j], Array.getElem?_eq_getElem olt⟩
      have Oj := ok j oj hoj
      unfold Fact at F ⊢
      split at F
      · rename_i R hkj
        rw [hkj] at Oj
        rw [vne j cj]
        exact Oj val _ _ (fun d hd' => (vne d (depB_ne (hJ.closed j oj hj hoj) hi hd')).symm) F
      · rename_i C hkj
        rw [hkj] at Oj
        rw [vne j cj]
        exact Oj.2 _ _ _ _ _ _ _ _ _ _ _ F B
      · rename_i t st src1 hkj
        rw [vne j cj]
        obtain ⟨p, e1, e2, e3, e4⟩ := F
        refine ⟨p, e1, e2, by simpa [stored] using e3, ?_⟩
        by_cases cs : st = i
        · have k1 := (hp.1 j t st src1 hkj).1
          rw [cs, hk] at k1
          obtain ⟨rfl, rfl⟩ := Kind.put.inj k1
          rw [cs, show addL L i i = true by simp [addL], if_pos rfl]
          have hs : src ≠ i := fun e => by rw [e, hi] at lsrc; cases lsrc
          rw [vne src hs, hv]
          obtain rfl : p = q := by
            rw [e1] at hq
            simpa using hq
          exact ⟨n, a, l, c, rfl, B.set _ _ _ _⟩
        · rw [show addL L i st = L st by simp [addL, cs]]
          have hjal : j ≠ al := fun e => cs (by
            rw [e, kal] at hkj
            have := Kind.box.inj hkj
            exact this.2.1.symm)
          have hpq : p ≠ q := fun e => hJ.ne j al _ _ _ _ _ _ hjal hj lal hkj kal (by rw [e1, hq, e])
          by_cases cl : L st = true
          · rw [if_pos cl] at e4 ⊢
            have hsrc : src1 ≠ i := by
              have k1 := (hp.1 j t st src1 hkj).1
              obtain ⟨ost, host⟩ : ∃ ox, ops[st]? = some ox := ⟨ops[st]'(hJ.lt st cl), Array.getElem?_eq_getElem _⟩
              have O2 := ok st ost host
              rw [k1] at O2
              exact depB_ne (hJ.closed st ost cl host) hi O2.2
            rw [vne src1 hsrc]
            exact boxAt_other e4 hpq _ _ _ _
          · rw [if_neg cl] at e4 ⊢
            exact boxAt_other e4 hpq _ _ _ _
      · trivial
  · by_cases c : j = i
    · rw [c] at hoj
      obtain rfl : o = oj := by rw [ho] at hoj; exact Option.some.inj hoj
      have := hd d hdj
      simp [addL, this]
    · have := hJ.closed j oj (old j h c) hoj d hdj
      simp [addL, this]
  · have nj : j ≠ i := fun e => by rw [e, hk] at kj; cases kj
    have nk : k ≠ i := fun e => by rw [e, hk] at kk; cases kk
    rw [vne j nj, vne k nk]
    exact hJ.ne j k t st src1 t' st' src' hjk (old j hj nj) (old k hk' nk) kj kk
  · exact (hJ.bel.setCell (p := ⟨q, 0, none⟩) g2 _).setCell (p := ⟨q, 1, none⟩) g2 _

theorem region_any_g (hup : upB ops = true) (hdist : apartB ops = true) (hsz : inB ops a0.tmps.size = true) (hp : Pairs ops kind)
    (so : ∀ i o, ops[i]? = some o → StepOk P ops a0 w0 kind o (kind i))
    (fin : ∀ val w, (∀ j, j < ops.size → Fact kind w0 (fun _ => true) val w j) → (∀ j k t st src t' st' src', j ≠ k → kind j = .box t st src → kind k = .box t' st' src' → val j ≠ val k) → Below w0.heap.size w0 w →
      Q .normal (puts ops (fun _ => true) val (List.range ops.size) a0) w) :
    ∀ (fuel : Nat) (listed : Array Bool) (val : Nat → Value) (w : World), listed.size = ops.size → (listed.toList.countP fun b => !b) = fuel → Inv ops kind w0 (fun j => listed.getD j false) val w →
      wpAny P .any ops Q fuel listed (puts ops (fun j => listed.getD j false) val (List.range ops.size) a0) w := by
  have ok : ∀ i o, ops[i]? = some o → Stab o (kind i) := fun i o h => (so i o h).stab
  have done : ∀ (listed : Array Bool) (val : Nat → Value) (w : World), listed.size = ops.size → Inv ops kind w0 (fun j => listed.getD j false) val w → (listed.toList.countP fun b => !b) = 0 →
      Q .normal (puts ops (fun j => listed.getD j false) val (List.range ops.size) a0) w := by
    intro listed val w hs hJ h0
    have all : ∀ j, j < ops.size → listed.getD j false = true := by
      intro j hj
      rw [List.countP_eq_zero] at h0
      have hl : j < listed.size := by omega
      have := h0 listed[j] (by simp)
      simpa [hl] using this
    rw [puts_congr (L' := fun _ => true) (val' := val) _ _ (fun j hj => ⟨all j (List.mem_range.1 hj), fun _ => rfl⟩)]
    have le : ∀ (v : Nat → Value) j, (if listed.getD j false = true then v j else nought) = if j < ops.size then v j else (if listed.getD j false = true then v j else nought) := fun v j => by
      by_cases h : j < ops.size
      · rw [if_pos h, if_pos (all j h)]
      · rw [if_neg h]
    refine fin val w (fun j hj => ?_) (fun j k t st src t' st' src' hjk kj kk => ?_) hJ.bel
    · have F := hJ.fact j (all j hj)
      unfold Fact at F ⊢
      split at F
      · exact F
      · exact F
      · rename_i t st src hk
        obtain ⟨q, e1, e2, e3, e4⟩ := F
        refine ⟨q, e1, e2, e3, ?_⟩
        rw [if_pos (all st (hp.1 j t st src hk).2)] at e4
        exact e4
      · trivial
    · by_cases lj : j < ops.size
      · by_cases lk : k < ops.size
        · exact hJ.ne j k t st src t' st' src' hjk (all j lj) (all k lk) kj kk
        · have O := (hp.1 k t' st' src' kk).1
          have st_lt := (hp.1 k t' st' src' kk).2
          have O2 := ok st' _ (Array.getElem?_eq_getElem st_lt)
          rw [O] at O2
          exact absurd (hJ.lt k (hJ.closed st' _ (all st' st_lt) (Array.getElem?_eq_getElem st_lt) k O2.1)) lk
      · have O := (hp.1 j t st src kj).1
        have st_lt := (hp.1 j t st src kj).2
        have O2 := ok st _ (Array.getElem?_eq_getElem st_lt)
        rw [O] at O2
        exact absurd (hJ.lt j (hJ.closed st _ (all st st_lt) (Array.getElem?_eq_getElem st_lt) j O2.1)) lj
  have hA := apart_of hdist
  have unready : ∀ (listed : Array Bool), listed.size = ops.size → (listed.toList.countP fun b => !b) = 0 → Region.ready .any ops listed = [] := by
    intro listed hs h0
    rw [List.eq_nil_iff_forall_not_mem]
    intro j hj
    have := (mem_ready.1 hj).1
    rw [List.countP_eq_zero] at h0
    rcases Nat.lt_or_ge j listed.size with h | h
    · have := h0 listed[j] (by simp)
      simp [h] at *
      simp_all
    · simp [Array.getElem?_eq_none h] at this
  intro fuel
  induction fuel with
  | zero => exact fun listed val w hs h0 hJ => ⟨unready listed hs h0, done listed val w hs hJ h0⟩
  | succ fuel ih =>
    intro listed val w hs hc hJ
    refine ⟨fun h => ?_, fun i hi => ?_⟩
    · have all := ready_nil hup hs h
      exfalso
      have : (listed.toList.countP fun b => !b) = 0 := by
        rw [List.countP_eq_zero]
        intro b hb
        obtain ⟨j, hj, e⟩ := List.mem_iff_getElem.1 hb
        have hj' : j < listed.size := by simpa using hj
        have := all j (by omega)
        simp only [Array.getElem_toList] at e
        simp [hj'] at this
        rw [← e, this]
        simp
      omega
    · obtain ⟨hun, o, ho, hall⟩ := mem_ready.1 hi
      have hlt : i < ops.size := (Array.getElem?_eq_some_iff.1 ho).1
      have hi0 : listed.getD i false = false := by
        have hl : i < listed.size := by omega
        simpa [hl] using hun
      have hd : ∀ d, depB o d = true → listed.getD d false = true := by
        intro d hdd
        unfold depB at hdd
        rw [Array.any_eq_true] at hdd
        obtain ⟨k, hk, he⟩ := hdd
        simp only [Bool.and_eq_true, beq_iff_eq] at he
        have := hall _ (Array.getElem_mem hk) he.1
        rw [he.2] at this
        exact this
      have hL : (fun j => (listed.setIfInBounds i true).getD j false) = addL (fun j => listed.getD j false) i := by
        funext j
        by_cases c : j = i
        · subst c
          have hl : j < listed.size := by omega
          simp [addL, hl]
        · rw [getD_set_ne false (Ne.symm c)]
          simp [addL, c]
      have next : ∀ v w', Inv ops kind w0 (addL (fun j => listed.getD j false) i) (upd val i v) w' →
          wpAny P .any ops Q fuel (listed.setIfInBounds i true) ((puts ops (fun j => listed.getD j false) val (List.range ops.size) a0).put o.dst v) w' := by
        intro v w' hJ'
        have := ih (listed.setIfInBounds i true) (upd val i v) w' (by simpa using hs) (by have := count_set hun; omega) (by rw [hL]; exact hJ')
        rw [hL, puts_add hA hi0 _ _ List.nodup_range (List.mem_range.2 hlt)] at this
        rw [show o.dst = dstAt ops i by unfold dstAt; rw [ho]; rfl]
        exact this
      have env : Env ops a0 (puts ops (fun j => listed.getD j false) val (List.range ops.size) a0) (fun j => listed.getD j false) val := by
        refine ⟨fun j d hj hd => ?_, fun t ht => ?_⟩
        · exact eval_in hA hj hd _ _ List.nodup_range (List.mem_range.2 (hJ.lt j hj)) (in_of hsz j d hd)
        · refine eval_out _ _ (fun j hj e => ?_)
          unfold dstAt at e
          cases hoj : ops[j]? with
          | none => rw [hoj] at e; cases e
          | some oj =>
            rw [hoj] at e
            simp only [Option.bind_some] at e
            have := (Array.all_eq_true_iff_forall_mem.1 ht) oj (Array.mem_of_getElem? hoj)
            rw [e] at this
            simp at this
      have facts : ∀ d, depB o d = true → listed.getD d false = true ∧ Fact kind w0 (fun j => listed.getD j false) val w d := fun d hdd => ⟨hd d hdd, hJ.fact d (hd d hdd)⟩
      unfold wpOp
      rw [ho]
      show if Region.wanted o _ = true then _ else _
      have hy : ∀ g t b, dstAt ops g = some t → depB o g = true → val g = .bool b → yielded ops (puts ops (fun j => listed.getD j false) val (List.range ops.size) a0).tmps g = some b := by
        intro g t b hdst hdg hv
        have e1 := env.dep g t (hd g hdg) hdst
        have tl : t < (puts ops (fun j => listed.getD j false) val (List.range ops.size) a0).tmps.size := by rw [puts_size]; exact in_of hsz g t hdst
        have e2 : (puts ops (fun j => listed.getD j false) val (List.range ops.size) a0).tmps[t]? = some (val g) := by
          rw [← e1]
          show _ = some (Array.getD _ t undef)
          rw [Array.getElem?_eq_getElem tl, Array.getD, dif_pos tl]
          rfl
        unfold yielded
        rw [show (ops[g]?).bind (·.dst) = some t from hdst]
        simp only [Option.bind_some]
        rw [e2, hv]
      rcases so i o ho with ⟨O, hgd⟩ | ⟨g, want, t, hgs, hdg, hdst, hval, R, hk, hcong, hR⟩
      case inr =>
        have hv := hval _ _ _ (hJ.fact g (hd g hdg))
        rw [if_neg (by unfold Region.wanted; rw [hgs]; show ¬ (yielded ops _ g == some want) = true; rw [hy g t _ hdst hdg hv]; simp)]
        have hn := next undef w (inv_step_g hJ ok ho hi0 hd (Below.refl _ _) hp (fun al src e => by rw [hk] at e; cases e) (by
          unfold Fact
          rw [hk]
          show R _ (upd val i undef i)
          rw [show upd val i undef i = undef by simp [upd]]
          exact hR _) (fun t st src e => by rw [hk] at e; cases e))
        exact hn
      case inl =>
      rw [if_pos (by
        unfold Region.wanted
        rcases hgd with h | ⟨g, want, t, hgs, hdg, hdst, hval⟩
        · rw [h]
        · rw [hgs]
          show (yielded ops _ g == some want) = true
          rw [hy g t _ hdst hdg (hval _ _ _ (hJ.fact g (hd g hdg)))]
          simp)]
      refine .inl ?_
      unfold Oper.wp
      generalize hk : kind i = ki at O
      cases ki with
      | pure R =>
        obtain ⟨v, hR, hrun⟩ := O.2 _ _ _ _ env facts hJ.bel
        rw [hrun]
        refine next v w (inv_step_g hJ ok ho hi0 hd (Below.refl _ _) hp (fun al src e => by rw [hk] at e; cases e) ?_ (fun t st src e => by rw [hk] at e; cases e))
        unfold Fact
        rw [hk]
        show R _ (upd val i v i)
        rw [show upd val i v i = v by simp [upd]]
        exact O.1 val _ v (fun d hdd => by simp [upd, depB_ne hd hi0 hdd]) hR
      | call C =>
        obtain ⟨f, args, hrun, hC⟩ := O.2.2 _ _ _ _ env facts hJ.bel
        rw [hrun]
        refine Calls.mono hC ?_
        rintro e w' ⟨v, rfl, hv, hb⟩
        refine next v w' (inv_step_g hJ ok ho hi0 hd hb hp (fun al src e => by rw [hk] at e; cases e) ?_ (fun t st src e => by rw [hk] at e; cases e))
        unfold Fact
        rw [hk]
        show C (upd val i v i) w'
        rw [show upd val i v i = v by simp [upd]]
        exact hv
      | box t st src =>
        rw [O _ w]
        have hb : Below w.heap.size w (w.alloc (.cells #[.bool false, .slice none 0 0] t)) := (Below.refl _ _).alloc (Nat.le_refl _) _
        refine next _ _ (inv_step_g hJ ok ho hi0 hd hb hp (fun al src e => by rw [hk] at e; cases e) ?_ (fun t' st' src' e => rfl))
        unfold Fact
        rw [hk]
        refine ⟨w.heap.size, by simp [upd], hJ.bel.size, by simp, ?_⟩
        have nst : ¬ addL (fun j => listed.getD j false) i st = true := by
          intro h
          have hsi : st ≠ i := fun e => by
            have := (hp.1 i t st src hk).1
            rw [e, hk] at this; cases this
          have h' : listed.getD st false = true := by simpa [addL, hsi] using h
          have slt := (hp.1 i t st src hk).2
          have O2 := ok st _ (Array.getElem?_eq_getElem slt)
          rw [(hp.1 i t st src hk).1] at O2
          have := hJ.closed st _ h' (Array.getElem?_eq_getElem slt) i O2.1
          rw [hi0] at this; cases this
        rw [if_neg nst]
        exact ⟨false, none, 0, 0, rfl, BV.new w false none 0 0 t⟩
      | put al src =>
        obtain ⟨d1, d2, hform, hrun⟩ := O
        obtain ⟨n, a, l, c, hv⟩ := hform _ _ _ (hJ.fact src (hd src d2))
        obtain ⟨t0, kal⟩ := hp.2 i al src hk
        have FA := hJ.fact al (hd al d1)
        unfold Fact at FA
        rw [kal] at FA
        obtain ⟨q, g1, g2, g3, n', a', l', c', _, B⟩ := FA
        rw [hrun _ _ _ _ _ _ _ _ _ _ _ _ _ env (hd al d1) (hd src d2) g1 hv B]
        exact next undef _ (inv_put_g hJ ok ho hi0 hd hp hk g1 hv)
/-- **A region with guards, whatever its order.** -/
theorem wp_region_guarded (ks : List Kind) (ds : List (Option Tmp)) {id : Nat} (hds : ops.toList.map (·.dst) = ds) (hm : P.follows .mixedOrders = true) (hup : upB ops = true) (hdist : apartB ops = true) (hsz : inB ops a0.tmps.size = true) (hpb : pairsB ks ops.size = true)
    (ok : ∀ i o, ops[i]? = some o → StepOk P ops a0 w0 (kinds ks) o (kinds ks i))
    (fin : ∀ val w, (∀ j, j < ops.size → Fact (kinds ks) w0 (fun _ => true) val w j) → (∀ j k t st src t' st' src', j ≠ k → kinds ks j = .box t st src → kinds ks k = .box t' st' src' → val j ≠ val k) → Below w0.heap.size w0 w →
      Q .normal (puts2 ds val 0 a0) w) : (Code.region id ops true).wp P Q a0 w0 := by
  have hp := pairs_of hpb
  refine wp_region_any hm ?_
  have h0 : (fun j => (Array.replicate ops.size false).getD j false) = fun _ => false := by
    funext j
    by_cases h : j < ops.size <;> simp [h]
  have := region_any_g (P := P) (Q := Q) (a0 := a0) (w0 := w0) (kind := kinds ks) hup hdist hsz hp ok (fun val w hf hne hb => by rw [puts_of hds]; exact fin val w hf hne hb) ops.size (Array.replicate ops.size false) (fun _ => undef) { w0 with drawn := w0.drawn + 1 } (by simp) (by simp [List.countP_replicate])
    (by rw [h0]; exact ⟨fun j h => by simp at h, fun j h => by simp at h, fun j o h => by simp at h, fun j k t st src t' st' src' _ h => by simp at h, Below.drew (Below.refl _ _)⟩)
  rw [h0] at this
  have e : ∀ (js : List Nat) (a : Act), puts ops (fun _ => false) (fun _ => undef) js a = a := by
    intro js
    induction js with
    | nil => intro a; rfl
    | cons j js ih => intro a; simp only [puts]; exact ih a
  rw [e] at this
  exact this
end
end Go.Proofs.Reg
