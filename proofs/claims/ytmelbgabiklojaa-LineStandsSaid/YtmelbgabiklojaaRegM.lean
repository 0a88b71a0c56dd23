/- A region that draws its order, walked by an invariant over the set of the operations that have come up: whatever they do, as long as each step keeps it. No program in sight. -/
import Derived.Test.YtmelbgabiklojaaReg
import Derived.WalkKit
import Derived.WalkSpells
import Derived.Handy
namespace Go.Proofs.Reg
open Go.RowKit Go.Proofs.Big
set_option linter.unusedVariables false
set_option linter.unusedSimpArgs false
abbrev Memo := (Nat → Bool) → (Nat → Value) → World → Prop
section
variable {P : Program} {ops : Array Oper} {Q : Exit → Act → World → Prop} {a0 : Act}
/-- one operation's step -/
def Step (P : Program) (ops : Array Oper) (Q : Exit → Act → World → Prop) (a0 : Act) (M : Memo) (i : Nat) (o : Oper) : Prop :=
  ∀ (A : Act) (L : Nat → Bool) (val : Nat → Value) (w : World) (K : Act → World → Prop), Env ops a0 A L val → A.defers = a0.defers → (∀ t, (∀ j, dstAt ops j = some t → L j = false) → A.eval (.tmp t) = a0.eval (.tmp t)) → L i = false → (∀ d, depB o d = true → L d = true) → M L val w →
    (∀ v w', M (addL L i) (upd val i v) w' → K (A.put o.dst v) w') →
    match o.guard with
    | none => o.wp P A w K Q
    | some (g, want) => ∃ b t, dstAt ops g = some t ∧ depB o g = true ∧ val g = .bool b ∧ if b = want then o.wp P A w K Q else M (addL L i) (upd val i undef) w
theorem puts_defers {ops : Array Oper} {L : Nat → Bool} {val : Nat → Value} : ∀ (js : List Nat) (a : Act), (puts ops L val js a).defers = a.defers
  | [], a => rfl
  | j :: js, a => by
    simp only [puts]
    rw [puts_defers js]
    split
    · cases dstAt ops j <;> simp [Act.put]
    · rfl
theorem puts_keep {ops : Array Oper} {L : Nat → Bool} {val : Nat → Value} {t : Tmp} : ∀ (js : List Nat) (a : Act), (∀ j, dstAt ops j = some t → L j = false) → (puts ops L val js a).eval (.tmp t) = a.eval (.tmp t)
  | [], a, _ => rfl
  | j :: js, a, h => by
    simp only [puts]
    rw [puts_keep js _ h]
    by_cases c : L j = true
    · simp only [c, if_true]
      exact Act.eval_put (fun d hd e => by
        have := h j (by rw [hd]; injection e with e; rw [e])
        rw [c] at this; cases this)
    · simp only [c]; rfl
theorem region_any_m (M : Memo) (hup : upB ops = true) (hdist : apartB ops = true) (hsz : inB ops a0.tmps.size = true)
    (so : ∀ i o, ops[i]? = some o → Step P ops Q a0 M i o)
    (fin : ∀ L val w, (∀ j, j < ops.size → L j = true) → M L val w → Q .normal (puts ops (fun _ => true) val (List.range ops.size) a0) w) :
    ∀ (fuel : Nat) (listed : Array Bool) (val : Nat → Value) (w : World), listed.size = ops.size → (listed.toList.countP fun b => !b) = fuel → M (fun j => listed.getD j false) val w →
      wpAny P .any ops Q fuel listed (puts ops (fun j => listed.getD j false) val (List.range ops.size) a0) w := by
  have all0 : ∀ (listed : Array Bool), listed.size = ops.size → (listed.toList.countP fun b => !b) = 0 → ∀ j, j < ops.size → listed.getD j false = true := by
    intro listed hs h0 j hj
    rw [List.countP_eq_zero] at h0
    have hl : j < listed.size := by omega
    have := h0 listed[j] (by simp)
    simpa [hl] using this
  have hA := apart_of hdist
  have unready : ∀ (listed : Array Bool), listed.size = ops.size → (listed.toList.countP fun b => !b) = 0 → Region.ready .any ops listed = [] := by
    intro listed hs h0
    rw [List.eq_nil_iff_forall_not_mem]
    intro j hj
    have := (mem_ready.1 hj).1
    rw [List.countP_eq_zero] at h0
    rcases Nat.lt_or_ge j listed.size with h | h
    · have := h0 listed[j] (by simp)
      simp [h] at *
      simp_all
    · simp [Array.getElem?_eq_none h] at this
  intro fuel
  induction fuel with
  | zero =>
    intro listed val w hs h0 hM
    refine ⟨unready listed hs h0, ?_⟩
    have all := all0 listed hs h0
    rw [puts_congr (L' := fun _ => true) (val' := val) _ _ (fun j hj => ⟨all j (List.mem_range.1 hj), fun _ => rfl⟩)]
    exact fin _ val w all hM
  | succ fuel ih =>
    intro listed val w hs hc hM
    refine ⟨fun h => ?_, fun i hi => ?_⟩
    · have all := ready_nil hup hs h
      exfalso
      have : (listed.toList.countP fun b => !b) = 0 := by
        rw [List.countP_eq_zero]
        intro b hb
        obtain ⟨j, hj, e⟩ := List.mem_iff_getElem.1 hb
        have hj' : j < listed.size := by simpa using hj
        have := all j (by omega)
        simp only [Array.getElem_toList] at e
        simp [hj'] at this
        rw [← e, this]
        simp
      omega
    · obtain ⟨hun, o, ho, hall⟩ := mem_ready.1 hi
      have hlt : i < ops.size := (Array.getElem?_eq_some_iff.1 ho).1
      have hi0 : listed.getD i false = false := by
        have hl : i < listed.size := by omega
        simpa [hl] using hun
      have hd : ∀ d, depB o d = true → listed.getD d false = true := by
        intro d hdd
        unfold depB at hdd
        rw [Array.any_eq_true] at hdd
        obtain ⟨k, hk, he⟩ := hdd
        simp only [Bool.and_eq_true, beq_iff_eq] at he
        have := hall _ (Array.getElem_mem hk) he.1
        rw [he.2] at this
        exact this
      have hL : (fun j => (listed.setIfInBounds i true).getD j false) = addL (fun j => listed.getD j false) i := by
        funext j
        by_cases c : j = i
        · subst c
          have hl : j < listed.size := by omega
          simp [addL, hl]
        · rw [getD_set_ne false (Ne.symm c)]
          simp [addL, c]
      have next : ∀ v w', M (addL (fun j => listed.getD j false) i) (upd val i v) w' →
          wpAny P .any ops Q fuel (listed.setIfInBounds i true) ((puts ops (fun j => listed.getD j false) val (List.range ops.size) a0).put o.dst v) w' := by
        intro v w' hM'
        have := ih (listed.setIfInBounds i true) (upd val i v) w' (by simpa using hs) (by have := count_set hun; omega) (by rw [hL]; exact hM')
        rw [hL, puts_add hA hi0 _ _ List.nodup_range (List.mem_range.2 hlt)] at this
        rw [show o.dst = dstAt ops i by unfold dstAt; rw [ho]; rfl]
        exact this
      have lt : ∀ j, listed.getD j false = true → j < ops.size := by
        intro j hj
        rcases Nat.lt_or_ge j listed.size with h | h
        · omega
        · simp [Array.getElem?_eq_none h] at hj
      have env : Env ops a0 (puts ops (fun j => listed.getD j false) val (List.range ops.size) a0) (fun j => listed.getD j false) val := by
        refine ⟨fun j d hj hd => ?_, fun t ht => ?_⟩
        · exact eval_in hA hj hd _ _ List.nodup_range (List.mem_range.2 (lt j hj)) (in_of hsz j d hd)
        · refine eval_out _ _ (fun j hj e => ?_)
          unfold dstAt at e
          cases hoj : ops[j]? with
          | none => rw [hoj] at e; cases e
          | some oj =>
            rw [hoj] at e
            simp only [Option.bind_some] at e
            have := (Array.all_eq_true_iff_forall_mem.1 ht) oj (Array.mem_of_getElem? hoj)
            rw [e] at this
            simp at this
      have hy : ∀ g t b, dstAt ops g = some t → depB o g = true → val g = .bool b → yielded ops (puts ops (fun j => listed.getD j false) val (List.range ops.size) a0).tmps g = some b := by
        intro g t b hdst hdg hv
        have e1 := env.dep g t (hd g hdg) hdst
        have tl : t < (puts ops (fun j => listed.getD j false) val (List.range ops.size) a0).tmps.size := by rw [puts_size]; exact in_of hsz g t hdst
        have e2 : (puts ops (fun j => listed.getD j false) val (List.range ops.size) a0).tmps[t]? = some (val g) := by
          rw [← e1]
          show _ = some (Array.getD _ t undef)
          rw [Array.getElem?_eq_getElem tl, Array.getD, dif_pos tl]
          rfl
        unfold yielded
        rw [show (ops[g]?).bind (·.dst) = some t from hdst]
        simp only [Option.bind_some]
        rw [e2, hv]
      have S := so i o ho _ _ _ _ _ env (puts_defers _ _) (fun t ht => puts_keep _ _ ht) hi0 hd hM next
      unfold wpOp
      rw [ho]
      show if Region.wanted o _ = true then _ else _
      cases hg : o.guard with
      | none =>
        rw [hg] at S
        rw [if_pos (by unfold Region.wanted; rw [hg])]
        exact .inl S
      | some gw =>
        obtain ⟨g, want⟩ := gw
        rw [hg] at S
        obtain ⟨b, t, s1, s2, s3, s4⟩ := S
        by_cases c : b = want
        · rw [if_pos c] at s4
          rw [if_pos (by
            unfold Region.wanted
            rw [hg]
            show (yielded ops _ g == some want) = true
            rw [hy g t _ s1 s2 s3, c]
            simp)]
          exact .inl s4
        · rw [if_neg c] at s4
          rw [if_neg (by
            unfold Region.wanted
            rw [hg]
            show ¬ (yielded ops _ g == some want) = true
            rw [hy g t _ s1 s2 s3]
            simpa using c)]
          exact next _ _ s4
/-- **A region by an invariant.** -/
theorem wp_region_memo (M : Memo) (ds : List (Option Tmp)) {id : Nat} {w0 : World} (hds : ops.toList.map (·.dst) = ds) (hm : P.follows .mixedOrders = true) (hup : upB ops = true) (hdist : apartB ops = true) (hsz : inB ops a0.tmps.size = true)
    (h0 : M (fun _ => false) (fun _ => undef) w0.drew)
    (so : ∀ i o, ops[i]? = some o → Step P ops Q a0 M i o)
    (fin : ∀ L val w, (∀ j, j < ops.size → L j = true) → M L val w → Q .normal (puts2 ds val 0 a0) w) : (Code.region id ops true).wp P Q a0 w0 := by
  refine wp_region_any hm ?_
  have hL : (fun j => (Array.replicate ops.size false).getD j false) = fun _ => false := by
    funext j
    by_cases h : j < ops.size <;> simp [h]
  have := region_any_m (P := P) (Q := Q) (a0 := a0) M hup hdist hsz so (fun L val w hl hb => by rw [puts_of hds]; exact fin L val w hl hb) ops.size (Array.replicate ops.size false) (fun _ => undef) { w0 with drawn := w0.drawn + 1 } (by simp) (by simp [List.countP_replicate])
    (by rw [hL]; exact h0)
  rw [hL] at this
  have e : ∀ (js : List Nat) (a : Act), puts ops (fun _ => false) (fun _ => undef) js a = a := by
    intro js
    induction js with
    | nil => intro a; rfl
    | cons j js ih => intro a; simp only [puts]; exact ih a
  rw [e] at this
  exact this
/-- an operation that yields a value and leaves the memory be, or writes it -/
theorem wpo_val {o : Oper} {A : Act} {w w' : World} {K : Act → World → Prop} {v : Value} (h : (execOp A.eval o).run P w = .ok (.value v) w') (k : K (A.put o.dst v) w') : o.wp P A w K Q := by
  unfold Oper.wp
  rw [h]
  exact k
theorem wpo_skip {o : Oper} {A : Act} {w w' : World} {K : Act → World → Prop} (h : (execOp A.eval o).run P w = .ok .skip w') (k : K (A.put o.dst undef) w') : o.wp P A w K Q := by
  unfold Oper.wp
  rw [h]
  exact k
theorem wpo_call {o : Oper} {A : Act} {w : World} {K : Act → World → Prop} {f : FuncId} {args : Array Value} {R : Ending → World → Prop} (h : (execOp A.eval o).run P w = .ok (.enter f args) w) (hc : Calls P f args w R)
    (k : ∀ e w', R e w' → ∃ v, e = .returned v ∧ K (A.put o.dst v) w') : o.wp P A w K Q := by
  unfold Oper.wp
  rw [h]
  refine Calls.mono hc ?_
  intro e w' hr
  obtain ⟨v, rfl, kk⟩ := k e w' hr
  exact kk
/-- a call that may give up -/
theorem wpo_call_p {o : Oper} {A : Act} {w : World} {K : Act → World → Prop} {f : FuncId} {args : Array Value} {R : Ending → World → Prop} (h : (execOp A.eval o).run P w = .ok (.enter f args) w) (hc : Calls P f args w R)
    (k : ∀ e w', R e w' → (∃ v, e = .returned v ∧ K (A.put o.dst v) w') ∨ ∃ ch, e = .panicked ch ∧ Q (.panic ch) A w') : o.wp P A w K Q := by
  unfold Oper.wp
  rw [h]
  refine Calls.mono hc ?_
  intro e w' hr
  rcases k e w' hr with ⟨v, rfl, kk⟩ | ⟨ch, rfl, kk⟩
  · exact kk
  · exact kk
end
end Go.Proofs.Reg
/- A region that draws its order, whose operations' values are known beforehand (all but those of new boxes), with memory told by a table of boxes. No program in sight. -/
namespace Go.Proofs.Reg
open Go.RowKit
set_option linter.unusedVariables false
set_option linter.unusedSimpArgs false
/-- boxes: where each lies, what its cells hold -/
def Tab (w : World) (l : List (Nat × List Value)) : Prop :=
  ∀ (k b : Nat) (vs : List Value), l[k]? = some (b, vs) → ∀ (i : Nat) (v : Value), vs[i]? = some v → w.cell? ⟨b, i, none⟩ = some v ∧ w.frozen? ⟨b, i, none⟩ = false
theorem Tab.cell {w : World} {l : List (Nat × List Value)} (h : Tab w l) (k i : Nat) {b : Nat} {vs : List Value} {v : Value} (hk : l[k]? = some (b, vs)) (hi : vs[i]? = some v) : w.cell? ⟨b, i, none⟩ = some v := (h k b vs hk i v hi).1
theorem Tab.froz {w : World} {l : List (Nat × List Value)} (h : Tab w l) (k i : Nat) {b : Nat} {vs : List Value} {v : Value} (hk : l[k]? = some (b, vs)) (hi : vs[i]? = some v) : w.frozen? ⟨b, i, none⟩ = false := (h k b vs hk i v hi).2
theorem Tab.lt {w : World} {l : List (Nat × List Value)} (h : Tab w l) (k : Nat) {b : Nat} {v : Value} {vs : List Value} (hk : l[k]? = some (b, v :: vs)) : b < w.heap.size := World.block_lt_of_cell? w _ (h.cell k 0 hk rfl)
theorem Tab.later {w w' : World} {l : List (Nat × List Value)} (h : Tab w l) (hb : Below w.heap.size w w') : Tab w' l := fun k b vs hk i v hi => by
  obtain ⟨c, f⟩ := h k b vs hk i v hi
  exact ⟨cell_later hb c, (hb.frozen (p := ⟨b, i, none⟩) (World.block_lt_of_cell? w _ c)).trans f⟩
theorem Tab.alloc {w : World} {l : List (Nat × List Value)} (h : Tab w l) (o : Obj) : Tab (w.alloc o) l := h.later ((Below.refl _ _).alloc (Nat.le_refl _) o)
theorem Tab.nil (w : World) : Tab w [] := fun k b vs hk => by simp at hk
theorem Tab.cons {w : World} {l : List (Nat × List Value)} {b : Nat} {vs : List Value} (h : Tab w l) (hb : ∀ (i : Nat) (v : Value), vs[i]? = some v → w.cell? ⟨b, i, none⟩ = some v ∧ w.frozen? ⟨b, i, none⟩ = false) : Tab w ((b, vs) :: l) := fun k b' vs' hk i v hi => by
  cases k with
  | zero =>
    simp only [List.getElem?_cons_zero, Option.some.injEq, Prod.mk.injEq] at hk
    obtain ⟨rfl, rfl⟩ := hk
    exact hb i v hi
  | succ k => exact h k b' vs' (by simpa using hk) i v hi
/-- a new box -/
theorem Tab.new {w : World} {l : List (Nat × List Value)} (h : Tab w l) (cs : List Value) (t : TypeId) : Tab (w.alloc (.cells cs.toArray t)) ((w.heap.size, cs) :: l) := by
  refine (h.alloc _).cons fun i v hi => ?_
  have hl : i < cs.length := by
    rcases Nat.lt_or_ge i cs.length with c | c
    · exact c
    · rw [List.getElem?_eq_none c] at hi; cases hi
  constructor
  · simp [go_sem, hi]
  · simp [go_sem, hi, hl]
theorem Tab.new' {w : World} {l : List (Nat × List Value)} (h : Tab w l) {b : Nat} (cs : List Value) (t : TypeId) (hb : b = w.heap.size) : Tab (w.alloc (.cells cs.toArray t)) ((b, cs) :: l) := by
  subst hb
  exact h.new cs t
/-- a store into one cell -/
theorem Tab.set {w : World} {l : List (Nat × List Value)} (h : Tab w l) (k i : Nat) {b : Nat} {vs : List Value} (u : Value) (hk : l[k]? = some (b, vs)) (hn : ∀ j b' vs', l[j]? = some (b', vs') → j ≠ k → b' ≠ b) : Tab (w.setCell ⟨b, i, none⟩ u) (l.set k (b, vs.set i u)) := fun j b' vs' hj i' v' hi' => by
  by_cases e : j = k
  · subst e
    have hjl : j < l.length := by
      rcases Nat.lt_or_ge j l.length with c | c
      · exact c
      · rw [List.getElem?_eq_none c] at hk; cases hk
    rw [List.getElem?_set_self hjl] at hj
    simp only [Option.some.injEq, Prod.mk.injEq] at hj
    obtain ⟨rfl, rfl⟩ := hj
    by_cases ei : i' = i
    · subst ei
      have hil : i' < vs.length := by
        rcases Nat.lt_or_ge i' vs.length with c | c
        · exact c
        · rw [List.getElem?_eq_none (by simpa using c)] at hi'; cases hi'
      rw [List.getElem?_set_self hil] at hi'
      obtain rfl := Option.some.inj hi'
      obtain ⟨c, f⟩ := h j b vs hk i' _ (List.getElem?_eq_getElem hil)
      exact ⟨by simp [go_sem, c], by simp [go_sem, f]⟩
    · rw [List.getElem?_set_ne (Ne.symm ei)] at hi'
      obtain ⟨c, f⟩ := h j b vs hk i' v' hi'
      exact ⟨by rw [World.cell?_setCell_other (h := fun x => by injection x with _ x; omega)]; exact c, by simp [go_sem, f]⟩
  · rw [List.getElem?_set_ne (Ne.symm e)] at hj
    obtain ⟨c, f⟩ := h j b' vs' hj i' v' hi'
    have := hn j b' vs' hj e
    exact ⟨by rw [World.cell?_setCell_other (h := fun x => by injection x with x; omega)]; exact c, by simp [go_sem, f]⟩
theorem nodup_inj {α : Type} : ∀ {l : List α}, l.Nodup → ∀ {i j : Nat} {a : α}, l[i]? = some a → l[j]? = some a → i = j
  | [], _, i, j, a, h, _ => by simp at h
  | x :: xs, hn, i, j, a, h, k => by
    rw [List.nodup_cons] at hn
    cases i with
    | zero =>
      cases j with
      | zero => rfl
      | succ j =>
        simp only [List.getElem?_cons_zero, Option.some.injEq] at h
        simp only [List.getElem?_cons_succ] at k
        exact absurd (List.mem_of_getElem? k) (by rw [← h]; exact hn.1)
    | succ i =>
      cases j with
      | zero =>
        simp only [List.getElem?_cons_zero, Option.some.injEq] at k
        simp only [List.getElem?_cons_succ] at h
        exact absurd (List.mem_of_getElem? h) (by rw [← k]; exact hn.1)
      | succ j =>
        simp only [List.getElem?_cons_succ] at h k
        rw [nodup_inj hn.2 h k]
theorem Tab.set1 {w : World} {l : List (Nat × List Value)} (h : Tab w l) (k i : Nat) {b : Nat} {vs : List Value} (u : Value) (hk : l[k]? = some (b, vs)) (hn : (l.map Prod.fst).Nodup) : Tab (w.setCell ⟨b, i, none⟩ u) (l.set k (b, vs.set i u)) :=
  h.set k i u hk fun j b' vs' hj e hb => e (by
    have h1 : (l.map Prod.fst)[j]? = some b' := by rw [List.getElem?_map, hj]; rfl
    have h2 : (l.map Prod.fst)[k]? = some b := by rw [List.getElem?_map, hk]; rfl
    rw [hb] at h1
    exact nodup_inj hn h1 h2)
abbrev Known := List (Option Value)
def mix (vs : Known) (val : Nat → Value) (j : Nat) : Value := match vs[j]? with
  | some (some v) => v
  | _ => val j
/-- what is known of a guard -/
def grd (vs : Known) (o : Oper) : Option Bool := match o.guard with
  | none => some true
  | some (g, want) => match vs[g]? with
    | some (some (.bool b)) => some (b == want)
    | _ => none
def grdAll (ops : Array Oper) : Bool := ops.all fun o => match o.guard with
  | none => true
  | some (g, _) => depB o g && (dstAt ops g).isSome
/-- what an operation finds -/
structure EnvV (ops : Array Oper) (a0 A : Act) (vs : Known) (L : Nat → Bool) (val : Nat → Value) (i : Nat) (o : Oper) : Prop where
  dep : ∀ j t, depB o j = true → dstAt ops j = some t → A.eval (.tmp t) = mix vs val j
  out : ∀ t, (ops.all fun o => o.dst != some t) = true → A.eval (.tmp t) = a0.eval (.tmp t)
  had : ∀ d, depB o d = true → L d = true
  not : L i = false
  late : ∀ s o', ops[s]? = some o' → depB o' i = true → L s = false
  defs : A.defers = a0.defers
  keep : ∀ t, (∀ j, dstAt ops j = some t → L j = false) → A.eval (.tmp t) = a0.eval (.tmp t)
theorem EnvV.keep1 {ops : Array Oper} {a0 A : Act} {vs : Known} {L : Nat → Bool} {val : Nat → Value} {i : Nat} {o : Oper} (E : EnvV ops a0 A vs L val i o) (t : Tmp) (s : Nat) (hs : L s = false) (h : ((List.range ops.size).all fun j => j == s || dstAt ops j != some t) = true) : A.eval (.tmp t) = a0.eval (.tmp t) :=
  E.keep t fun j hj => by
    by_cases c : j < ops.size
    · have := List.all_eq_true.1 h j (List.mem_range.2 c)
      rcases Bool.or_eq_true_iff.1 this with h1 | h1
      · rw [beq_iff_eq.1 h1]; exact hs
      · rw [hj] at h1; simp at h1
    · have : dstAt ops j = none := by unfold dstAt; rw [Array.getElem?_eq_none (by omega)]; rfl
      rw [this] at hj; cases hj
section
variable {P : Program} {ops : Array Oper} {Q : Exit → Act → World → Prop} {a0 : Act}
def StepV (P : Program) (ops : Array Oper) (Q : Exit → Act → World → Prop) (a0 : Act) (vs : Known) (B : Memo) (i : Nat) (o : Oper) : Prop :=
  match grd vs o with
  | some true => ∀ (A : Act) (L : Nat → Bool) (val : Nat → Value) (w : World) (K : Act → World → Prop), EnvV ops a0 A vs L val i o → B L val w →
      (∀ v w', (match vs[i]? with | some (some u) => v = u | _ => True) → B (addL L i) (upd val i v) w' → K (A.put o.dst v) w') → o.wp P A w K Q
  | some false => (match vs[i]? with | some (some u) => u = undef | _ => True) ∧ ∀ L val w, B L val w → B (addL L i) (upd val i undef) w
  | none => False
theorem wp_region_vals (vs : Known) (B : Memo) (ds : List (Option Tmp)) {id : Nat} {w0 : World} (hds : ops.toList.map (·.dst) = ds) (hm : P.follows .mixedOrders = true) (hup : upB ops = true) (hdist : apartB ops = true) (hsz : inB ops a0.tmps.size = true) (hg : grdAll ops = true)
    (h0 : B (fun _ => false) (fun _ => undef) w0.drew)
    (so : ∀ i o, ops[i]? = some o → StepV P ops Q a0 vs B i o)
    (fin : ∀ L val w, (∀ j, j < ops.size → L j = true) → B L val w → Q .normal (puts2 ds (mix vs val) 0 a0) w) : (Code.region id ops true).wp P Q a0 w0 := by
  let M : Memo := fun L val w => (∀ j, L j = true → j < ops.size) ∧ (∀ j v, L j = true → vs[j]? = some (some v) → val j = v) ∧ (∀ j o, L j = true → ops[j]? = some o → ∀ d, depB o d = true → L d = true) ∧ B L val w
  refine wp_region_memo M ds hds hm hup hdist hsz ⟨fun j h => (by cases h), fun j v h => (by cases h), fun j o h => (by cases h), h0⟩ (fun i o ho => ?_) (fun L val w hL hM => ?_)
  · intro A L val w K env hdf hkp hi hd hM k
    obtain ⟨m1, m2, m3, m4⟩ := hM
    have ilt : i < ops.size := (Array.getElem?_eq_some_iff.1 ho).1
    have mk : ∀ v w', (match vs[i]? with | some (some u) => v = u | _ => True) → B (addL L i) (upd val i v) w' → M (addL L i) (upd val i v) w' := by
      intro v w' hv hB
      refine ⟨fun j hj => ?_, fun j u hj hu => ?_, fun j oj hj hoj d hdj => ?_, hB⟩
      · by_cases c : j = i
        · rw [c]; exact ilt
        · exact m1 j (by simpa [addL, c] using hj)
      · by_cases c : j = i
        · subst c
          rw [hu] at hv
          simpa [upd] using hv
        · rw [show upd val i v j = val j by simp [upd, c]]
          exact m2 j u (by simpa [addL, c] using hj) hu
      · by_cases c : j = i
        · rw [c] at hoj
          obtain rfl : o = oj := by rw [ho] at hoj; exact Option.some.inj hoj
          have := hd d hdj
          simp [addL, this]
        · have := m3 j oj (by simpa [addL, c] using hj) hoj d hdj
          simp [addL, this]
    have E : EnvV ops a0 A vs L val i o := by
      refine ⟨fun j t hj ht => ?_, env.out, hd, hi, fun s o' hs hds' => ?_, hdf, hkp⟩
      · rw [env.dep j t (hd j hj) ht]
        unfold mix
        cases h : vs[j]? with
        | none => rfl
        | some u =>
          cases u with
          | none => rfl
          | some u => exact m2 j u (hd j hj) h
      · cases hc : L s with
        | false => rfl
        | true =>
          have := m3 s o' hc hs i hds'
          rw [hi] at this; cases this
    have S := so i o ho
    unfold StepV at S
    have G := (Array.all_eq_true_iff_forall_mem.1 hg) o (Array.mem_of_getElem? ho)
    unfold grd at S
    cases hgd : o.guard with
    | none =>
      rw [hgd] at S
      exact S A L val w K E m4 (fun v w' hv hB => k v w' (mk v w' hv hB))
    | some gw =>
      obtain ⟨g, want⟩ := gw
      rw [hgd] at S G
      simp only [Bool.and_eq_true] at G
      obtain ⟨G1, G2⟩ := G
      obtain ⟨t, ht⟩ := Option.isSome_iff_exists.1 G2
      simp only at S
      cases hv : vs[g]? with
      | none => rw [hv] at S; exact S.elim
      | some u =>
        rw [hv] at S
        cases u with
        | none => exact S.elim
        | some u =>
          cases u with
          | bool b =>
            have e := m2 g (.bool b) (hd g G1) hv
            refine ⟨b, t, ht, G1, e, ?_⟩
            simp only at S
            by_cases c : b = want
            · rw [if_pos c]
              have c2 : (b == want) = true := by simpa using c
              rw [c2] at S
              exact S A L val w K E m4 (fun v w' hv hB => k v w' (mk v w' hv hB))
            · rw [if_neg c]
              have c2 : (b == want) = false := by simpa using c
              rw [c2] at S
              obtain ⟨S1, S2⟩ := S
              refine mk undef w ?_ (S2 L val w m4)
              revert S1
              cases vs[i]? with
              | none => exact fun _ => trivial
              | some x =>
                cases x with
                | none => exact fun _ => trivial
                | some x => exact fun h => h.symm
          | _ => exact S.elim
  · obtain ⟨m1, m2, m3, m4⟩ := hM
    have := fin L val w hL m4
    have e : ∀ (ds' : List (Option Tmp)) (n : Nat) (a : Act), n + ds'.length = ops.size → puts2 ds' (mix vs val) n a = puts2 ds' val n a := by
      intro ds'
      induction ds' with
      | nil => intro n a _; rfl
      | cons d ds' ih =>
        intro n a hn
        have hn2 : n < ops.size := by simp only [List.length_cons] at hn; omega
        have : mix vs val n = val n := by
          unfold mix
          cases h : vs[n]? with
          | none => rfl
          | some u =>
            cases u with
            | none => rfl
            | some u => exact (m2 n u (hL n hn2) h).symm
        show puts2 ds' (mix vs val) (n + 1) (a.put d (mix vs val n)) = puts2 ds' val (n + 1) (a.put d (val n))
        rw [this]
        exact ih (n + 1) _ (by simp only [List.length_cons] at hn; omega)
    rw [e ds 0 a0 (by rw [← hds]; simp)] at this
    exact this
end
end Go.Proofs.Reg
