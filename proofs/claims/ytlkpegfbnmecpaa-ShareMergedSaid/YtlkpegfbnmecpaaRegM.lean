/- A region that draws its order, walked by an invariant over the set of the operations that have come up: whatever they do, as long as each step keeps it. No program in sight. -/
import Derived.Test.YtlkpegfbnmecpaaRegG
namespace Go.Proofs.Reg
open Go.RowKit Go.Proofs.Big
set_option linter.unusedVariables false
set_option linter.unusedSimpArgs false
abbrev Memo := (Nat → Bool) → (Nat → Value) → World → Prop
section
variable {P : Program} {ops : Array Oper} {Q : Exit → Act → World → Prop} {a0 : Act}
/-- one operation's step -/
def Step (P : Program) (ops : Array Oper) (Q : Exit → Act → World → Prop) (a0 : Act) (M : Memo) (i : Nat) (o : Oper) : Prop :=
  ∀ (A : Act) (L : Nat → Bool) (val : Nat → Value) (w : World) (K : Act → World → Prop), Env ops a0 A L val → A.defers = a0.defers → (∀ t, (∀ j, dstAt ops j = some t → L j = false) → A.eval (.tmp t) = a0.eval (.tmp t)) → L i = false → (∀ d, depB o d = true → L d = true) → M L val w →
    (∀ v w', M (addL L i) (upd val i v) w' → K (A.put o.dst v) w') →
    match o.guard with
    | none => o.wp P A w K Q
    | some (g, want) => ∃ b t, dstAt ops g = some t ∧ depB o g = true ∧ val g = .bool b ∧ if b = want then o.wp P A w K Q else M (addL L i) (upd val i undef) w
theorem puts_defers {ops : Array Oper} {L : Nat → Bool} {val : Nat → Value} : ∀ (js : List Nat) (a : Act), (puts ops L val js a).defers = a.defers
  | [], a => rfl
  | j :: js, a => by
    simp only [puts]
    rw [puts_defers js]
    split
    · cases dstAt ops j <;> simp [Act.put]
    · rfl
theorem puts_keep {ops : Array Oper} {L : Nat → Bool} {val : Nat → Value} {t : Tmp} : ∀ (js : List Nat) (a : Act), (∀ j, dstAt ops j = some t → L j = false) → (puts ops L val js a).eval (.tmp t) = a.eval (.tmp t)
  | [], a, _ => rfl
  | j :: js, a, h => by
    simp only [puts]
    rw [puts_keep js _ h]
    by_cases c : L j = true
    · simp only [c, if_true]
      exact Act.eval_put (fun d hd e => by
        have := h j (by rw [hd]; injection e with e; rw [e])
        rw [c] at this; cases this)
    · simp only [c]; rfl
theorem region_any_m (M : Memo) (hup : upB ops = true) (hdist : apartB ops = true) (hsz : inB ops a0.tmps.size = true)
    (so : ∀ i o, ops[i]? = some o → Step P ops Q a0 M i o)
    (fin : ∀ L val w, (∀ j, j < ops.size → L j = true) → M L val w → Q .normal (puts ops (fun _ => true) val (List.range ops.size) a0) w) :
    ∀ (fuel : Nat) (listed : Array Bool) (val : Nat → Value) (w : World), listed.size = ops.size → (listed.toList.countP fun b => !b) = fuel → M (fun j => listed.getD j false) val w →
      wpAny P .any ops Q fuel listed (puts ops (fun j => listed.getD j false) val (List.range ops.size) a0) w := by
  have all0 : ∀ (listed : Array Bool), listed.size = ops.size → (listed.toList.countP fun b => !b) = 0 → ∀ j, j < ops.size → listed.getD j false = true := by
    intro listed hs h0 j hj
    rw [List.countP_eq_zero] at h0
    have hl : j < listed.size := by omega
    have := h0 listed[j] (by simp)
    simpa [hl] using this
  have hA := apart_of hdist
  have unready : ∀ (listed : Array Bool), listed.size = ops.size → (listed.toList.countP fun b => !b) = 0 → Region.ready .any ops listed = [] := by
    intro listed hs h0
    rw [List.eq_nil_iff_forall_not_mem]
    intro j hj
    have := (mem_ready.1 hj).1
    rw [List.countP_eq_zero] at h0
    rcases Nat.lt_or_ge j listed.size with h | h
    · have := h0 listed[j] (by simp)
      simp [h] at *
      simp_all
    · simp [Array.getElem?_eq_none h] at this
  intro fuel
  induction fuel with
  | zero =>
    intro listed val w hs h0 hM
    refine ⟨unready listed hs h0, ?_⟩
    have all := all0 listed hs h0
    rw [puts_congr (L' := fun _ => true) (val' := val) _ _ (fun j hj => ⟨all j (List.mem_range.1 hj), fun _ => rfl⟩)]
    exact fin _ val w all hM
  | succ fuel ih =>
    intro listed val w hs hc hM
    refine ⟨fun h => ?_, fun i hi => ?_⟩
    · have all := ready_nil hup hs h
      exfalso
      have : (listed.toList.countP fun b => !b) = 0 := by
        rw [List.countP_eq_zero]
        intro b hb
        obtain ⟨j, hj, e⟩ := List.mem_iff_getElem.1 hb
        have hj' : j < listed.size := by simpa using hj
        have := all j (by omega)
        simp only [Array.getElem_toList] at e
        simp [hj'] at this
        rw [← e, this]
        simp
      omega
    · obtain ⟨hun, o, ho, hall⟩ := mem_ready.1 hi
      have hlt : i < ops.size := (Array.getElem?_eq_some_iff.1 ho).1
      have hi0 : listed.getD i false = false := by
        have hl : i < listed.size := by omega
        simpa [hl] using hun
      have hd : ∀ d, depB o d = true → listed.getD d false = true := by
        intro d hdd
        unfold depB at hdd
        rw [Array.any_eq_true] at hdd
        obtain ⟨k, hk, he⟩ := hdd
        simp only [Bool.and_eq_true, beq_iff_eq] at he
        have := hall _ (Array.getElem_mem hk) he.1
        rw [he.2] at this
        exact this
      have hL : (fun j => (listed.setIfInBounds i true).getD j false) = addL (fun j => listed.getD j false) i := by
        funext j
        by_cases c : j = i
        · subst c
          have hl : j < listed.size := by omega
          simp [addL, hl]
        · rw [getD_set_ne false (Ne.symm c)]
          simp [addL, c]
      have next : ∀ v w', M (addL (fun j => listed.getD j false) i) (upd val i v) w' →
          wpAny P .any ops Q fuel (listed.setIfInBounds i true) ((puts ops (fun j => listed.getD j false) val (List.range ops.size) a0).put o.dst v) w' := by
        intro v w' hM'
        have := ih (listed.setIfInBounds i true) (upd val i v) w' (by simpa using hs) (by have := count_set hun; omega) (by rw [hL]; exact hM')
        rw [hL, puts_add hA hi0 _ _ List.nodup_range (List.mem_range.2 hlt)] at this
        rw [show o.dst = dstAt ops i by unfold dstAt; rw [ho]; rfl]
        exact this
      have lt : ∀ j, listed.getD j false = true → j < ops.size := by
        intro j hj
        rcases Nat.lt_or_ge j listed.size with h | h
        · omega
        · simp [Array.getElem?_eq_none h] at hj
      have env : Env ops a0 (puts ops (fun j => listed.getD j false) val (List.range ops.size) a0) (fun j => listed.getD j false) val := by
        refine ⟨fun j d hj hd => ?_, fun t ht => ?_⟩
        · exact eval_in hA hj hd _ _ List.nodup_range (List.mem_range.2 (lt j hj)) (in_of hsz j d hd)
        · refine eval_out _ _ (fun j hj e => ?_)
          unfold dstAt at e
          cases hoj : ops[j]? with
          | none => rw [hoj] at e; cases e
          | some oj =>
            rw [hoj] at e
            simp only [Option.bind_some] at e
            have := (Array.all_eq_true_iff_forall_mem.1 ht) oj (Array.mem_of_getElem? hoj)
            rw [e] at this
            simp at this
      have hy : ∀ g t b, dstAt ops g = some t → depB o g = true → val g = .bool b → yielded ops (puts ops (fun j => listed.getD j false) val (List.range ops.size) a0).tmps g = some b := by
        intro g t b hdst hdg hv
        have e1 := env.dep g t (hd g hdg) hdst
        have tl : t < (puts ops (fun j => listed.getD j false) val (List.range ops.size) a0).tmps.size := by rw [puts_size]; exact in_of hsz g t hdst
        have e2 : (puts ops (fun j => listed.getD j false) val (List.range ops.size) a0).tmps[t]? = some (val g) := by
          rw [← e1]
          show _ = some (Array.getD _ t undef)
          rw [Array.getElem?_eq_getElem tl, Array.getD, dif_pos tl]
          rfl
        unfold yielded
        rw [show (ops[g]?).bind (·.dst) = some t from hdst]
        simp only [Option.bind_some]
        rw [e2, hv]
      have S := so i o ho _ _ _ _ _ env (puts_defers _ _) (fun t ht => puts_keep _ _ ht) hi0 hd hM next
      unfold wpOp
      rw [ho]
      show if Region.wanted o _ = true then _ else _
      cases hg : o.guard with
      | none =>
        rw [hg] at S
        rw [if_pos (by unfold Region.wanted; rw [hg])]
        exact .inl S
      | some gw =>
        obtain ⟨g, want⟩ := gw
        rw [hg] at S
        obtain ⟨b, t, s1, s2, s3, s4⟩ := S
        by_cases c : b = want
        · rw [if_pos c] at s4
          rw [if_pos (by
            unfold Region.wanted
            rw [hg]
            show (yielded ops _ g == some want) = true
            rw [hy g t _ s1 s2 s3, c]
            simp)]
          exact .inl s4
        · rw [if_neg c] at s4
          rw [if_neg (by
            unfold Region.wanted
            rw [hg]
            show ¬ (yielded ops _ g == some want) = true
            rw [hy g t _ s1 s2 s3]
            simpa using c)]
          exact next _ _ s4
/-- **A region by an invariant.** -/
theorem wp_region_memo (M : Memo) (ds : List (Option Tmp)) {id : Nat} {w0 : World} (hds : ops.toList.map (·.dst) = ds) (hm : P.follows .mixedOrders = true) (hup : upB ops = true) (hdist : apartB ops = true) (hsz : inB ops a0.tmps.size = true)
    (h0 : M (fun _ => false) (fun _ => undef) w0.drew)
    (so : ∀ i o, ops[i]? = some o → Step P ops Q a0 M i o)
    (fin : ∀ L val w, (∀ j, j < ops.size → L j = true) → M L val w → Q .normal (puts2 ds val 0 a0) w) : (Code.region id ops true).wp P Q a0 w0 := by
  refine wp_region_any hm ?_
  have hL : (fun j => (Array.replicate ops.size false).getD j false) = fun _ => false := by
    funext j
    by_cases h : j < ops.size <;> simp [h]
  have := region_any_m (P := P) (Q := Q) (a0 := a0) M hup hdist hsz so (fun L val w hl hb => by rw [puts_of hds]; exact fin L val w hl hb) ops.size (Array.replicate ops.size false) (fun _ => undef) { w0 with drawn := w0.drawn + 1 } (by simp) (by simp [List.countP_replicate])
    (by rw [hL]; exact h0)
  rw [hL] at this
  have e : ∀ (js : List Nat) (a : Act), puts ops (fun _ => false) (fun _ => undef) js a = a := by
    intro js
    induction js with
    | nil => intro a; rfl
    | cons j js ih => intro a; simp only [puts]; exact ih a
  rw [e] at this
  exact this
/-- an operation that yields a value and leaves the memory be, or writes it -/
theorem wpo_val {o : Oper} {A : Act} {w w' : World} {K : Act → World → Prop} {v : Value} (h : (execOp A.eval o).run P w = .ok (.value v) w') (k : K (A.put o.dst v) w') : o.wp P A w K Q := by
  unfold Oper.wp
  rw [h]
  exact k
theorem wpo_skip {o : Oper} {A : Act} {w w' : World} {K : Act → World → Prop} (h : (execOp A.eval o).run P w = .ok .skip w') (k : K (A.put o.dst undef) w') : o.wp P A w K Q := by
  unfold Oper.wp
  rw [h]
  exact k
theorem wpo_call {o : Oper} {A : Act} {w : World} {K : Act → World → Prop} {f : FuncId} {args : Array Value} {R : Ending → World → Prop} (h : (execOp A.eval o).run P w = .ok (.enter f args) w) (hc : Calls P f args w R)
    (k : ∀ e w', R e w' → ∃ v, e = .returned v ∧ K (A.put o.dst v) w') : o.wp P A w K Q := by
  unfold Oper.wp
  rw [h]
  refine Calls.mono hc ?_
  intro e w' hr
  obtain ⟨v, rfl, kk⟩ := k e w' hr
  exact kk
/-- a call that may give up -/
theorem wpo_call_p {o : Oper} {A : Act} {w : World} {K : Act → World → Prop} {f : FuncId} {args : Array Value} {R : Ending → World → Prop} (h : (execOp A.eval o).run P w = .ok (.enter f args) w) (hc : Calls P f args w R)
    (k : ∀ e w', R e w' → (∃ v, e = .returned v ∧ K (A.put o.dst v) w') ∨ ∃ ch, e = .panicked ch ∧ Q (.panic ch) A w') : o.wp P A w K Q := by
  unfold Oper.wp
  rw [h]
  refine Calls.mono hc ?_
  intro e w' hr
  rcases k e w' hr with ⟨v, rfl, kk⟩ | ⟨ch, rfl, kk⟩
  · exact kk
  · exact kk
end
end Go.Proofs.Reg
