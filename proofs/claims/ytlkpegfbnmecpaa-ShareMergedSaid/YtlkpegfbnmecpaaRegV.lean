/- A region that draws its order, whose operations' values are known beforehand (all but those of new boxes), with memory told by a table of boxes. No program in sight. -/
import Derived.Test.YtlkpegfbnmecpaaRegM
import Derived.WalkKit
import Derived.WalkSpells
import Derived.Handy
namespace Go.Proofs.Reg
open Go.RowKit
set_option linter.unusedVariables false
set_option linter.unusedSimpArgs false
/-- boxes: where each lies, what its cells hold -/
def Tab (w : World) (l : List (Nat × List Value)) : Prop :=
  ∀ (k b : Nat) (vs : List Value), l[k]? = some (b, vs) → ∀ (i : Nat) (v : Value), vs[i]? = some v → w.cell? ⟨b, i, none⟩ = some v ∧ w.frozen? ⟨b, i, none⟩ = false
theorem Tab.cell {w : World} {l : List (Nat × List Value)} (h : Tab w l) (k i : Nat) {b : Nat} {vs : List Value} {v : Value} (hk : l[k]? = some (b, vs)) (hi : vs[i]? = some v) : w.cell? ⟨b, i, none⟩ = some v := (h k b vs hk i v hi).1
theorem Tab.froz {w : World} {l : List (Nat × List Value)} (h : Tab w l) (k i : Nat) {b : Nat} {vs : List Value} {v : Value} (hk : l[k]? = some (b, vs)) (hi : vs[i]? = some v) : w.frozen? ⟨b, i, none⟩ = false := (h k b vs hk i v hi).2
theorem Tab.lt {w : World} {l : List (Nat × List Value)} (h : Tab w l) (k : Nat) {b : Nat} {v : Value} {vs : List Value} (hk : l[k]? = some (b, v :: vs)) : b < w.heap.size := World.block_lt_of_cell? w _ (h.cell k 0 hk rfl)
theorem Tab.later {w w' : World} {l : List (Nat × List Value)} (h : Tab w l) (hb : Below w.heap.size w w') : Tab w' l := fun k b vs hk i v hi => by
  obtain ⟨c, f⟩ := h k b vs hk i v hi
  exact ⟨cell_later hb c, (hb.frozen (p := ⟨b, i, none⟩) (World.block_lt_of_cell? w _ c)).trans f⟩
theorem Tab.alloc {w : World} {l : List (Nat × List Value)} (h : Tab w l) (o : Obj) : Tab (w.alloc o) l := h.later ((Below.refl _ _).alloc (Nat.le_refl _) o)
theorem Tab.nil (w : World) : Tab w [] := fun k b vs hk => by simp at hk
theorem Tab.cons {w : World} {l : List (Nat × List Value)} {b : Nat} {vs : List Value} (h : Tab w l) (hb : ∀ (i : Nat) (v : Value), vs[i]? = some v → w.cell? ⟨b, i, none⟩ = some v ∧ w.frozen? ⟨b, i, none⟩ = false) : Tab w ((b, vs) :: l) := fun k b' vs' hk i v hi => by
  cases k with
  | zero =>
    simp only [List.getElem?_cons_zero, Option.some.injEq, Prod.mk.injEq] at hk
    obtain ⟨rfl, rfl⟩ := hk
    exact hb i v hi
  | succ k => exact h k b' vs' (by simpa using hk) i v hi
/-- a new box -/
theorem Tab.new {w : World} {l : List (Nat × List Value)} (h : Tab w l) (cs : List Value) (t : TypeId) : Tab (w.alloc (.cells cs.toArray t)) ((w.heap.size, cs) :: l) := by
  refine (h.alloc _).cons fun i v hi => ?_
  have hl : i < cs.length := by
    rcases Nat.lt_or_ge i cs.length with c | c
    · exact c
    · rw [List.getElem?_eq_none c] at hi; cases hi
  constructor
  · simp [go_sem, hi]
  · simp [go_sem, hi, hl]
theorem Tab.new' {w : World} {l : List (Nat × List Value)} (h : Tab w l) {b : Nat} (cs : List Value) (t : TypeId) (hb : b = w.heap.size) : Tab (w.alloc (.cells cs.toArray t)) ((b, cs) :: l) := by
  subst hb
  exact h.new cs t
/-- a store into one cell -/
theorem Tab.set {w : World} {l : List (Nat × List Value)} (h : Tab w l) (k i : Nat) {b : Nat} {vs : List Value} (u : Value) (hk : l[k]? = some (b, vs)) (hn : ∀ j b' vs', l[j]? = some (b', vs') → j ≠ k → b' ≠ b) : Tab (w.setCell ⟨b, i, none⟩ u) (l.set k (b, vs.set i u)) := fun j b' vs' hj i' v' hi' => by
  by_cases e : j = k
  · subst e
    have hjl : j < l.length := by
      rcases Nat.lt_or_ge j l.length with c | c
      · exact c
      · rw [List.getElem?_eq_none c] at hk; cases hk
    rw [List.getElem?_set_self hjl] at hj
    simp only [Option.some.injEq, Prod.mk.injEq] at hj
    obtain ⟨rfl, rfl⟩ := hj
    by_cases ei : i' = i
    · subst ei
      have hil : i' < vs.length := by
        rcases Nat.lt_or_ge i' vs.length with c | c
        · exact c
        · rw [List.getElem?_eq_none (by simpa using c)] at hi'; cases hi'
      rw [List.getElem?_set_self hil] at hi'
      obtain rfl := Option.some.inj hi'
      obtain ⟨c, f⟩ := h j b vs hk i' _ (List.getElem?_eq_getElem hil)
      exact ⟨by simp [go_sem, c], by simp [go_sem, f]⟩
    · rw [List.getElem?_set_ne (Ne.symm ei)] at hi'
      obtain ⟨c, f⟩ := h j b vs hk i' v' hi'
      exact ⟨by rw [World.cell?_setCell_other (h := fun x => by injection x with _ x; omega)]; exact c, by simp [go_sem, f]⟩
  · rw [List.getElem?_set_ne (Ne.symm e)] at hj
    obtain ⟨c, f⟩ := h j b' vs' hj i' v' hi'
    have := hn j b' vs' hj e
    exact ⟨by rw [World.cell?_setCell_other (h := fun x => by injection x with x; omega)]; exact c, by simp [go_sem, f]⟩
theorem nodup_inj {α : Type} : ∀ {l : List α}, l.Nodup → ∀ {i j : Nat} {a : α}, l[i]? = some a → l[j]? = some a → i = j
  | [], _, i, j, a, h, _ => by simp at h
  | x :: xs, hn, i, j, a, h, k => by
    rw [List.nodup_cons] at hn
    cases i with
    | zero =>
      cases j with
      | zero => rfl
      | succ j =>
        simp only [List.getElem?_cons_zero, Option.some.injEq] at h
        simp only [List.getElem?_cons_succ] at k
        exact absurd (List.mem_of_getElem? k) (by rw [← h]; exact hn.1)
    | succ i =>
      cases j with
      | zero =>
        simp only [List.getElem?_cons_zero, Option.some.injEq] at k
        simp only [List.getElem?_cons_succ] at h
        exact absurd (List.mem_of_getElem? h) (by rw [← k]; exact hn.1)
      | succ j =>
        simp only [List.getElem?_cons_succ] at h k
        rw [nodup_inj hn.2 h k]
theorem Tab.set1 {w : World} {l : List (Nat × List Value)} (h : Tab w l) (k i : Nat) {b : Nat} {vs : List Value} (u : Value) (hk : l[k]? = some (b, vs)) (hn : (l.map Prod.fst).Nodup) : Tab (w.setCell ⟨b, i, none⟩ u) (l.set k (b, vs.set i u)) :=
  h.set k i u hk fun j b' vs' hj e hb => e (by
    have h1 : (l.map Prod.fst)[j]? = some b' := by rw [List.getElem?_map, hj]; rfl
    have h2 : (l.map Prod.fst)[k]? = some b := by rw [List.getElem?_map, hk]; rfl
    rw [hb] at h1
    exact nodup_inj hn h1 h2)
abbrev Known := List (Option Value)
def mix (vs : Known) (val : Nat → Value) (j : Nat) : Value := match vs[j]? with
  | some (some v) => v
  | _ => val j
/-- what is known of a guard -/
def grd (vs : Known) (o : Oper) : Option Bool := match o.guard with
  | none => some true
  | some (g, want) => match vs[g]? with
    | some (some (.bool b)) => some (b == want)
    | _ => none
def grdAll (ops : Array Oper) : Bool := ops.all fun o => match o.guard with
  | none => true
  | some (g, _) => depB o g && (dstAt ops g).isSome
/-- what an operation finds -/
structure EnvV (ops : Array Oper) (a0 A : Act) (vs : Known) (L : Nat → Bool) (val : Nat → Value) (i : Nat) (o : Oper) : Prop where
  dep : ∀ j t, depB o j = true → dstAt ops j = some t → A.eval (.tmp t) = mix vs val j
  out : ∀ t, (ops.all fun o => o.dst != some t) = true → A.eval (.tmp t) = a0.eval (.tmp t)
  had : ∀ d, depB o d = true → L d = true
  not : L i = false
  late : ∀ s o', ops[s]? = some o' → depB o' i = true → L s = false
  defs : A.defers = a0.defers
  keep : ∀ t, (∀ j, dstAt ops j = some t → L j = false) → A.eval (.tmp t) = a0.eval (.tmp t)
theorem EnvV.keep1 {ops : Array Oper} {a0 A : Act} {vs : Known} {L : Nat → Bool} {val : Nat → Value} {i : Nat} {o : Oper} (E : EnvV ops a0 A vs L val i o) (t : Tmp) (s : Nat) (hs : L s = false) (h : ((List.range ops.size).all fun j => j == s || dstAt ops j != some t) = true) : A.eval (.tmp t) = a0.eval (.tmp t) :=
  E.keep t fun j hj => by
    by_cases c : j < ops.size
    · have := List.all_eq_true.1 h j (List.mem_range.2 c)
      rcases Bool.or_eq_true_iff.1 this with h1 | h1
      · rw [beq_iff_eq.1 h1]; exact hs
      · rw [hj] at h1; simp at h1
    · have : dstAt ops j = none := by unfold dstAt; rw [Array.getElem?_eq_none (by omega)]; rfl
      rw [this] at hj; cases hj
section
variable {P : Program} {ops : Array Oper} {Q : Exit → Act → World → Prop} {a0 : Act}
def StepV (P : Program) (ops : Array Oper) (Q : Exit → Act → World → Prop) (a0 : Act) (vs : Known) (B : Memo) (i : Nat) (o : Oper) : Prop :=
  match grd vs o with
  | some true => ∀ (A : Act) (L : Nat → Bool) (val : Nat → Value) (w : World) (K : Act → World → Prop), EnvV ops a0 A vs L val i o → B L val w →
      (∀ v w', (match vs[i]? with | some (some u) => v = u | _ => True) → B (addL L i) (upd val i v) w' → K (A.put o.dst v) w') → o.wp P A w K Q
  | some false => (match vs[i]? with | some (some u) => u = undef | _ => True) ∧ ∀ L val w, B L val w → B (addL L i) (upd val i undef) w
  | none => False
theorem wp_region_vals (vs : Known) (B : Memo) (ds : List (Option Tmp)) {id : Nat} {w0 : World} (hds : ops.toList.map (·.dst) = ds) (hm : P.follows .mixedOrders = true) (hup : upB ops = true) (hdist : apartB ops = true) (hsz : inB ops a0.tmps.size = true) (hg : grdAll ops = true)
    (h0 : B (fun _ => false) (fun _ => undef) w0.drew)
    (so : ∀ i o, ops[i]? = some o → StepV P ops Q a0 vs B i o)
    (fin : ∀ L val w, (∀ j, j < ops.size → L j = true) → B L val w → Q .normal (puts2 ds (mix vs val) 0 a0) w) : (Code.region id ops true).wp P Q a0 w0 := by
  let M : Memo := fun L val w => (∀ j, L j = true → j < ops.size) ∧ (∀ j v, L j = true → vs[j]? = some (some v) → val j = v) ∧ (∀ j o, L j = true → ops[j]? = some o → ∀ d, depB o d = true → L d = true) ∧ B L val w
  refine wp_region_memo M ds hds hm hup hdist hsz ⟨fun j h => (by cases h), fun j v h => (by cases h), fun j o h => (by cases h), h0⟩ (fun i o ho => ?_) (fun L val w hL hM => ?_)
  · intro A L val w K env hdf hkp hi hd hM k
    obtain ⟨m1, m2, m3, m4⟩ := hM
    have ilt : i < ops.size := (Array.getElem?_eq_some_iff.1 ho).1
    have mk : ∀ v w', (match vs[i]? with | some (some u) => v = u | _ => True) → B (addL L i) (upd val i v) w' → M (addL L i) (upd val i v) w' := by
      intro v w' hv hB
      refine ⟨fun j hj => ?_, fun j u hj hu => ?_, fun j oj hj hoj d hdj => ?_, hB⟩
      · by_cases c : j = i
        · rw [c]; exact ilt
        · exact m1 j (by simpa [addL, c] using hj)
      · by_cases c : j = i
        · subst c
          rw [hu] at hv
          simpa [upd] using hv
        · rw [show upd val i v j = val j by simp [upd, c]]
          exact m2 j u (by simpa [addL, c] using hj) hu
      · by_cases c : j = i
        · rw [c] at hoj
          obtain rfl : o = oj := by rw [ho] at hoj; exact Option.some.inj hoj
          have := hd d hdj
          simp [addL, this]
        · have := m3 j oj (by simpa [addL, c] using hj) hoj d hdj
          simp [addL, this]
    have E : EnvV ops a0 A vs L val i o := by
      refine ⟨fun j t hj ht => ?_, env.out, hd, hi, fun s o' hs hds' => ?_, hdf, hkp⟩
      · rw [env.dep j t (hd j hj) ht]
        unfold mix
        cases h : vs[j]? with
        | none => rfl
        | some u =>
          cases u with
          | none => rfl
          | some u => exact m2 j u (hd j hj) h
      · cases hc : L s with
        | false => rfl
        | true =>
          have := m3 s o' hc hs i hds'
          rw [hi] at this; cases this
    have S := so i o ho
    unfold StepV at S
    have G := (Array.all_eq_true_iff_forall_mem.1 hg) o (Array.mem_of_getElem? ho)
    unfold grd at S
    cases hgd : o.guard with
    | none =>
      rw [hgd] at S
      exact S A L val w K E m4 (fun v w' hv hB => k v w' (mk v w' hv hB))
    | some gw =>
      obtain ⟨g, want⟩ := gw
      rw [hgd] at S G
      simp only [Bool.and_eq_true] at G
      obtain ⟨G1, G2⟩ := G
      obtain ⟨t, ht⟩ := Option.isSome_iff_exists.1 G2
      simp only at S
      cases hv : vs[g]? with
      | none => rw [hv] at S; exact S.elim
      | some u =>
        rw [hv] at S
        cases u with
        | none => exact S.elim
        | some u =>
          cases u with
          | bool b =>
            have e := m2 g (.bool b) (hd g G1) hv
            refine ⟨b, t, ht, G1, e, ?_⟩
            simp only at S
            by_cases c : b = want
            · rw [if_pos c]
              have c2 : (b == want) = true := by simpa using c
              rw [c2] at S
              exact S A L val w K E m4 (fun v w' hv hB => k v w' (mk v w' hv hB))
            · rw [if_neg c]
              have c2 : (b == want) = false := by simpa using c
              rw [c2] at S
              obtain ⟨S1, S2⟩ := S
              refine mk undef w ?_ (S2 L val w m4)
              revert S1
              cases vs[i]? with
              | none => exact fun _ => trivial
              | some x =>
                cases x with
                | none => exact fun _ => trivial
                | some x => exact fun h => h.symm
          | _ => exact S.elim
  · obtain ⟨m1, m2, m3, m4⟩ := hM
    have := fin L val w hL m4
    have e : ∀ (ds' : List (Option Tmp)) (n : Nat) (a : Act), n + ds'.length = ops.size → puts2 ds' (mix vs val) n a = puts2 ds' val n a := by
      intro ds'
      induction ds' with
      | nil => intro n a _; rfl
      | cons d ds' ih =>
        intro n a hn
        have hn2 : n < ops.size := by simp only [List.length_cons] at hn; omega
        have : mix vs val n = val n := by
          unfold mix
          cases h : vs[n]? with
          | none => rfl
          | some u =>
            cases u with
            | none => rfl
            | some u => exact (m2 n u (hL n hn2) h).symm
        show puts2 ds' (mix vs val) (n + 1) (a.put d (mix vs val n)) = puts2 ds' val (n + 1) (a.put d (val n))
        rw [this]
        exact ih (n + 1) _ (by simp only [List.length_cons] at hn; omega)
    rw [e ds 0 a0 (by rw [← hds]; simp)] at this
    exact this
end
end Go.Proofs.Reg
