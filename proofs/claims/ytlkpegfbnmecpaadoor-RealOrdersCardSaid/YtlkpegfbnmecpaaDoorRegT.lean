/- The same in the text's order: a region that does not draw, walked by an invariant; with known values. No program in sight. -/
import Derived.Test.YtlkpegfbnmecpaaDoorRegF
namespace Go.Proofs.Reg
open Go.RowKit Go.Proofs.Big
set_option linter.unusedVariables false
set_option linter.unusedSimpArgs false
section
variable {P : Program} {ops : Array Oper} {Q : Exit → Act → World → Prop} {a0 : Act}
theorem region_text_m (M : Memo) (hup : upB ops = true) (hdist : apartB ops = true) (hsz : inB ops a0.tmps.size = true)
    (so : ∀ i o, ops[i]? = some o → Step P ops Q a0 M i o)
    (fin : ∀ L val w, (∀ j, j < ops.size → L j = true) → M L val w → Q .normal (puts ops (fun _ => true) val (List.range ops.size) a0) w) :
    ∀ (k n : Nat) (val : Nat → Value) (w : World), n + k = ops.size → M (fun j => decide (j < n)) val w →
      wpOps P ops Q (List.range' n k) (puts ops (fun j => decide (j < n)) val (List.range ops.size) a0) w := by
  have hA := apart_of hdist
  intro k
  induction k with
  | zero =>
    intro n val w hn hM
    have all : ∀ j, j < ops.size → decide (j < n) = true := fun j hj => decide_eq_true (by omega)
    rw [puts_congr (L' := fun _ => true) (val' := val) _ _ (fun j hj => ⟨all j (List.mem_range.1 hj), fun _ => rfl⟩)]
    exact fin _ val w all hM
  | succ k ih =>
    intro i val w hn hM
    have hlt : i < ops.size := by omega
    have ho : ops[i]? = some ops[i] := Array.getElem?_eq_getElem hlt
    obtain ⟨o, hoe⟩ : ∃ o, ops[i] = o := ⟨_, rfl⟩
    rw [hoe] at ho
    have hi0 : decide (i < i) = false := decide_eq_false (by omega)
    have hd : ∀ d, depB o d = true → decide (d < i) = true := by
      intro d hdd
      unfold depB at hdd
      rw [Array.any_eq_true] at hdd
      obtain ⟨k', hk, he⟩ := hdd
      simp only [Bool.and_eq_true, beq_iff_eq] at he
      have u := (List.all_eq_true.1 hup) i (List.mem_range.2 hlt)
      rw [ho] at u
      have u2 := (Array.all_eq_true_iff_forall_mem.1 u) _ (Array.getElem_mem hk)
      simp only [he.1, Bool.not_true, Bool.false_or, decide_eq_true_eq] at u2
      rw [← he.2]
      exact decide_eq_true u2
    have hL : (fun j => decide (j < i + 1)) = addL (fun j => decide (j < i)) i := by
      funext j
      by_cases c : j = i
      · subst c; simp [addL]
      · simp only [addL, c, if_false]
        by_cases l : j < i
        · rw [decide_eq_true l, decide_eq_true (by omega)]
        · rw [decide_eq_false l, decide_eq_false (by omega)]
    have next : ∀ v w', M (addL (fun j => decide (j < i)) i) (upd val i v) w' →
        wpOps P ops Q (List.range' (i + 1) k) ((puts ops (fun j => decide (j < i)) val (List.range ops.size) a0).put o.dst v) w' := by
      intro v w' hM'
      have := ih (i + 1) (upd val i v) w' (by omega) (by rw [hL]; exact hM')
      rw [hL, puts_add hA hi0 _ _ List.nodup_range (List.mem_range.2 hlt)] at this
      rw [show o.dst = dstAt ops i by unfold dstAt; rw [ho]; rfl]
      exact this
    have env : Env ops a0 (puts ops (fun j => decide (j < i)) val (List.range ops.size) a0) (fun j => decide (j < i)) val := by
      refine ⟨fun j d hj hd => ?_, fun t ht => ?_⟩
      · exact eval_in hA hj hd _ _ List.nodup_range (List.mem_range.2 (by have := of_decide_eq_true hj; omega)) (in_of hsz j d hd)
      · refine eval_out _ _ (fun j hj e => ?_)
        unfold dstAt at e
        cases hoj : ops[j]? with
        | none => rw [hoj] at e; cases e
        | some oj =>
          rw [hoj] at e
          simp only [Option.bind_some] at e
          have := (Array.all_eq_true_iff_forall_mem.1 ht) oj (Array.mem_of_getElem? hoj)
          rw [e] at this
          simp at this
    have hy : ∀ g t b, dstAt ops g = some t → depB o g = true → val g = .bool b → yielded ops (puts ops (fun j => decide (j < i)) val (List.range ops.size) a0).tmps g = some b := by
      intro g t b hdst hdg hv
      have e1 := env.dep g t (hd g hdg) hdst
      have tl : t < (puts ops (fun j => decide (j < i)) val (List.range ops.size) a0).tmps.size := by rw [puts_size]; exact in_of hsz g t hdst
      have e2 : (puts ops (fun j => decide (j < i)) val (List.range ops.size) a0).tmps[t]? = some (val g) := by
        rw [← e1]
        show _ = some (Array.getD _ t undef)
        rw [Array.getElem?_eq_getElem tl, Array.getD, dif_pos tl]
        rfl
      unfold yielded
      rw [show (ops[g]?).bind (·.dst) = some t from hdst]
      simp only [Option.bind_some]
      rw [e2, hv]
    have S := so i o ho _ _ _ _ _ env hi0 hd hM next
    rw [List.range'_succ]
    unfold wpOps
    rw [ho]
    show if Region.wanted o _ = true then _ else _
    cases hg : o.guard with
    | none =>
      rw [hg] at S
      rw [if_pos (by unfold Region.wanted; rw [hg])]
      exact .inl S
    | some gw =>
      obtain ⟨g, want⟩ := gw
      rw [hg] at S
      obtain ⟨b, t, s1, s2, s3, s4⟩ := S
      by_cases c : b = want
      · rw [if_pos c] at s4
        rw [if_pos (by
          unfold Region.wanted
          rw [hg]
          show (yielded ops _ g == some want) = true
          rw [hy g t _ s1 s2 s3, c]
          simp)]
        exact .inl s4
      · rw [if_neg c] at s4
        rw [if_neg (by
          unfold Region.wanted
          rw [hg]
          show ¬ (yielded ops _ g == some want) = true
          rw [hy g t _ s1 s2 s3]
          simpa using c)]
        exact next _ _ s4
theorem wp_region_memo_t (M : Memo) (ds : List (Option Tmp)) {id : Nat} {w0 : World} (hds : ops.toList.map (·.dst) = ds) (hup : upB ops = true) (hdist : apartB ops = true) (hsz : inB ops a0.tmps.size = true)
    (h0 : M (fun _ => false) (fun _ => undef) w0)
    (so : ∀ i o, ops[i]? = some o → Step P ops Q a0 M i o)
    (fin : ∀ L val w, (∀ j, j < ops.size → L j = true) → M L val w → Q .normal (puts2 ds val 0 a0) w) : (Code.region id ops false).wp P Q a0 w0 := by
  refine wp_region ?_
  have hL : (fun j : Nat => decide (j < 0)) = fun _ => false := by
    funext j
    simp
  have := region_text_m (P := P) (Q := Q) (a0 := a0) M hup hdist hsz so (fun L val w hl hb => by rw [puts_of hds]; exact fin L val w hl hb) ops.size 0 (fun _ => undef) w0 (by omega) (by rw [hL]; exact h0)
  rw [hL] at this
  have e : ∀ (js : List Nat) (a : Act), puts ops (fun _ => false) (fun _ => undef) js a = a := by
    intro js
    induction js with
    | nil => intro a; rfl
    | cons j js ih => intro a; simp only [puts]; exact ih a
  rw [e] at this
  rw [List.range_eq_range']
  exact this
theorem wp_region_vals_t (vs : Known) (B : Memo) (ds : List (Option Tmp)) {id : Nat} {w0 : World} (hds : ops.toList.map (·.dst) = ds) (hup : upB ops = true) (hdist : apartB ops = true) (hsz : inB ops a0.tmps.size = true) (hg : grdAll ops = true)
    (h0 : B (fun _ => false) (fun _ => undef) w0)
    (so : ∀ i o, ops[i]? = some o → StepV P ops Q a0 vs B i o)
    (fin : ∀ L val w, (∀ j, j < ops.size → L j = true) → B L val w → Q .normal (puts2 ds (mix vs val) 0 a0) w) : (Code.region id ops false).wp P Q a0 w0 := by
  let M : Memo := fun L val w => (∀ j, L j = true → j < ops.size) ∧ (∀ j v, L j = true → vs[j]? = some (some v) → val j = v) ∧ (∀ j o, L j = true → ops[j]? = some o → ∀ d, depB o d = true → L d = true) ∧ B L val w
  refine wp_region_memo_t M ds hds hup hdist hsz ⟨fun j h => (by cases h), fun j v h => (by cases h), fun j o h => (by cases h), h0⟩ (fun i o ho => ?_) (fun L val w hL hM => ?_)
  · intro A L val w K env hi hd hM k
    obtain ⟨m1, m2, m3, m4⟩ := hM
    have ilt : i < ops.size := (Array.getElem?_eq_some_iff.1 ho).1
    have mk : ∀ v w', (match vs[i]? with | some (some u) => v = u | _ => True) → B (addL L i) (upd val i v) w' → M (addL L i) (upd val i v) w' := by
      intro v w' hv hB
      refine ⟨fun j hj => ?_, fun j u hj hu => ?_, fun j oj hj hoj d hdj => ?_, hB⟩
      · by_cases c : j = i
        · rw [c]; exact ilt
        · exact m1 j (by simpa [addL, c] using hj)
      · by_cases c : j = i
        · subst c
          rw [hu] at hv
          simpa [upd] using hv
        · rw [show upd val i v j = val j by simp [upd, c]]
          exact m2 j u (by simpa [addL, c] using hj) hu
      · by_cases c : j = i
        · rw [c] at hoj
          obtain rfl : o = oj := by rw [ho] at hoj; exact Option.some.inj hoj
          have := hd d hdj
          simp [addL, this]
        · have := m3 j oj (by simpa [addL, c] using hj) hoj d hdj
          simp [addL, this]
    have E : EnvV ops a0 A vs L val i o := by
      refine ⟨fun j t hj ht => ?_, env.out, hd, hi, fun s o' hs hds' => ?_⟩
      · rw [env.dep j t (hd j hj) ht]
        unfold mix
        cases h : vs[j]? with
        | none => rfl
        | some u =>
          cases u with
          | none => rfl
          | some u => exact m2 j u (hd j hj) h
      · cases hc : L s with
        | false => rfl
        | true =>
          have := m3 s o' hc hs i hds'
          rw [hi] at this; cases this
    have S := so i o ho
    unfold StepV at S
    have G := (Array.all_eq_true_iff_forall_mem.1 hg) o (Array.mem_of_getElem? ho)
    unfold grd at S
    cases hgd : o.guard with
    | none =>
      rw [hgd] at S
      exact S A L val w K E m4 (fun v w' hv hB => k v w' (mk v w' hv hB))
    | some gw =>
      obtain ⟨g, want⟩ := gw
      rw [hgd] at S G
      simp only [Bool.and_eq_true] at G
      obtain ⟨G1, G2⟩ := G
      obtain ⟨t, ht⟩ := Option.isSome_iff_exists.1 G2
      simp only at S
      cases hv : vs[g]? with
      | none => rw [hv] at S; exact S.elim
      | some u =>
        rw [hv] at S
        cases u with
        | none => exact S.elim
        | some u =>
          cases u with
          | bool b =>
            have e := m2 g (.bool b) (hd g G1) hv
            refine ⟨b, t, ht, G1, e, ?_⟩
            simp only at S
            by_cases c : b = want
            · rw [if_pos c]
              have c2 : (b == want) = true := by simpa using c
              rw [c2] at S
              exact S A L val w K E m4 (fun v w' hv hB => k v w' (mk v w' hv hB))
            · rw [if_neg c]
              have c2 : (b == want) = false := by simpa using c
              rw [c2] at S
              obtain ⟨S1, S2⟩ := S
              refine mk undef w ?_ (S2 L val w m4)
              revert S1
              cases vs[i]? with
              | none => exact fun _ => trivial
              | some x =>
                cases x with
                | none => exact fun _ => trivial
                | some x => exact fun h => h.symm
          | _ => exact S.elim
  · obtain ⟨m1, m2, m3, m4⟩ := hM
    have := fin L val w hL m4
    have e : ∀ (ds' : List (Option Tmp)) (n : Nat) (a : Act), n + ds'.length = ops.size → puts2 ds' (mix vs val) n a = puts2 ds' val n a := by
      intro ds'
      induction ds' with
      | nil => intro n a _; rfl
      | cons d ds' ih =>
        intro n a hn
        have hn2 : n < ops.size := by simp only [List.length_cons] at hn; omega
        have : mix vs val n = val n := by
          unfold mix
          cases h : vs[n]? with
          | none => rfl
          | some u =>
            cases u with
            | none => rfl
            | some u => exact (m2 n u (hL n hn2) h).symm
        show puts2 ds' (mix vs val) (n + 1) (a.put d (mix vs val n)) = puts2 ds' val (n + 1) (a.put d (val n))
        rw [this]
        exact ih (n + 1) _ (by simp only [List.length_cons] at hn; omega)
    rw [e ds 0 a0 (by rw [← hds]; simp)] at this
    exact this
end
end Go.Proofs.Reg
