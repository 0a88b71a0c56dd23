/- Sets of pixels as bands: rows of edges, one list for one set. Program-free. -/
import Derived.Handy
namespace Go.Proofs.Bands
set_option linter.unusedVariables false
set_option linter.unusedSimpArgs false
/-- how many edges lie at x or before it -/
def cntB (es : List Int) (x : Int) : Nat := (es.filter fun e => decide (e ≤ x)).length
/-- inside a run -/
def inE (es : List Int) (x : Int) : Bool := cntB es x % 2 == 1
def Asc (es : List Int) : Prop := es.Pairwise (· < ·)
theorem cnt_nil (x : Int) : cntB [] x = 0 := rfl
theorem inE_nil (x : Int) : inE [] x = false := rfl
theorem cnt_cons (e : Int) (es : List Int) (x : Int) : cntB (e :: es) x = (if e ≤ x then 1 else 0) + cntB es x := by
  unfold cntB
  rw [List.filter_cons]
  by_cases c : e ≤ x
  · rw [decide_eq_true c, if_pos rfl, if_pos c, List.length_cons]; omega
  · rw [decide_eq_false c, if_neg (by decide), if_neg c]; omega
theorem cnt_append (a b : List Int) (x : Int) : cntB (a ++ b) x = cntB a x + cntB b x := by
  unfold cntB
  rw [List.filter_append, List.length_append]
theorem cnt_all {es : List Int} {x : Int} (h : ∀ e ∈ es, e ≤ x) : cntB es x = es.length := by
  unfold cntB
  rw [List.filter_eq_self.2 fun e m => decide_eq_true (h e m)]
theorem cnt_none {es : List Int} {x : Int} (h : ∀ e ∈ es, x < e) : cntB es x = 0 := by
  unfold cntB
  rw [List.filter_eq_nil_iff.2 fun e m => by have := h e m; simp; omega]
  rfl
theorem cnt_at {es : List Int} {x : Int} (i : Nat) (hi : i ≤ es.length) (h0 : ∀ p, p < i → es.getD p 0 ≤ x) (h1 : ∀ p, i ≤ p → p < es.length → x < es.getD p 0) : cntB es x = i := by
  rw [← List.take_append_drop i es, cnt_append, cnt_all, cnt_none]
  · rw [List.length_take]; omega
  · intro e m
    obtain ⟨p, hp, rfl⟩ := List.mem_iff_getElem.1 m
    rw [List.length_drop] at hp
    have := h1 (i + p) (by omega) (by omega)
    rw [List.getD_eq_getElem?_getD, List.getElem?_eq_getElem (by omega)] at this
    rw [List.getElem_drop]
    exact this
  · intro e m
    obtain ⟨p, hp, rfl⟩ := List.mem_iff_getElem.1 m
    rw [List.length_take] at hp
    have := h0 p (by omega)
    rw [List.getD_eq_getElem?_getD, List.getElem?_eq_getElem (by omega)] at this
    rw [List.getElem_take]
    exact this
theorem asc_get {es : List Int} (h : Asc es) {p q : Nat} (hpq : p < q) (hq : q < es.length) : es.getD p 0 < es.getD q 0 := by
  have := List.pairwise_iff_getElem.1 h p q (by omega) hq hpq
  rw [List.getD_eq_getElem?_getD, List.getD_eq_getElem?_getD, List.getElem?_eq_getElem (by omega), List.getElem?_eq_getElem hq]
  exact this
theorem asc_snoc {es : List Int} {x : Int} (h : Asc es) (hx : ∀ e ∈ es, e < x) : Asc (es ++ [x]) := by
  unfold Asc
  rw [List.pairwise_append]
  exact ⟨h, List.pairwise_singleton _ _, fun a ha b hb => by rw [List.mem_singleton] at hb; subst hb; exact hx a ha⟩
/-- one list for one row -/
theorem row_one {a b : List Int} (ha : Asc a) (hb : Asc b) (h : ∀ x, inE a x = inE b x) : a = b := by
  induction a generalizing b with
  | nil =>
    cases b with
    | nil => rfl
    | cons e b =>
      have h1 := h e
      have c : cntB (e :: b) e = 1 := by
        rw [cnt_cons, if_pos (Int.le_refl e), cnt_none]
        intro y m; exact (List.pairwise_cons.1 hb).1 y m
      unfold inE at h1
      rw [c, cnt_nil] at h1
      cases h1
  | cons d a ih =>
    cases b with
    | nil =>
      have h1 := h d
      have c : cntB (d :: a) d = 1 := by
        rw [cnt_cons, if_pos (Int.le_refl d), cnt_none]
        intro y m; exact (List.pairwise_cons.1 ha).1 y m
      unfold inE at h1
      rw [c, cnt_nil] at h1
      cases h1
    | cons e b =>
      obtain ⟨a1, a2⟩ := List.pairwise_cons.1 ha
      obtain ⟨b1, b2⟩ := List.pairwise_cons.1 hb
      have de : d = e := by
        by_cases l : d < e
        · have h1 := h d
          unfold inE at h1
          rw [show cntB (d :: a) d = 1 by rw [cnt_cons, if_pos (Int.le_refl d), cnt_none (fun y m => a1 y m)], show cntB (e :: b) d = 0 from cnt_none (fun y m => by rcases List.mem_cons.1 m with rfl | m; exact l; have := b1 y m; omega)] at h1
          cases h1
        · by_cases g : e < d
          · have h1 := h e
            unfold inE at h1
            rw [show cntB (e :: b) e = 1 by rw [cnt_cons, if_pos (Int.le_refl e), cnt_none (fun y m => b1 y m)], show cntB (d :: a) e = 0 from cnt_none (fun y m => by rcases List.mem_cons.1 m with rfl | m; exact g; have := a1 y m; omega)] at h1
            cases h1
          · omega
      subst de
      rw [ih a2 b2 fun x => ?_]
      have h1 := h x
      unfold inE at h1 ⊢
      rw [cnt_cons, cnt_cons] at h1
      by_cases c : d ≤ x
      · rw [if_pos c] at h1
        have k : ∀ n : Nat, ((1 + n) % 2 == 1) = !(n % 2 == 1) := fun n => by
          by_cases e : n % 2 = 1
          · rw [show (1 + n) % 2 = 0 by omega, e]; rfl
          · rw [show (1 + n) % 2 = 1 by omega, show n % 2 = 0 by omega]; rfl
        rw [k, k] at h1
        exact Bool.not_inj h1
      · rw [if_neg c, Nat.zero_add, Nat.zero_add] at h1
        exact h1
/-- merging two rows: in the course of it -/
structure MI (A B : List Int) (keep : Bool → Bool → Bool) (i j : Nat) (o : List Int) : Prop where
  hi : i ≤ A.length
  hj : j ≤ B.length
  ab : ∀ p q, p < i → j ≤ q → q < B.length → A.getD p 0 < B.getD q 0
  ba : ∀ p q, q < j → i ≤ p → p < A.length → B.getD q 0 < A.getD p 0
  asc : Asc o
  oa : i < A.length → ∀ e ∈ o, e < A.getD i 0
  ob : j < B.length → ∀ e ∈ o, e < B.getD j 0
  odd : (o.length % 2 == 1) = keep (i % 2 == 1) (j % 2 == 1)
  row : ∀ x, (i < A.length → x < A.getD i 0) → (j < B.length → x < B.getD j 0) → inE o x = keep (inE A x) (inE B x)
theorem MI.start {A B : List Int} {keep : Bool → Bool → Bool} (hA : Asc A) (hB : Asc B) (k0 : keep false false = false) : MI A B keep 0 0 [] := by
  refine ⟨Nat.zero_le _, Nat.zero_le _, fun p q h => absurd h (by omega), fun p q h => absurd h (by omega), List.Pairwise.nil, fun _ e m => (by cases m), fun _ e m => (by cases m), k0.symm, fun x ha hb => ?_⟩
  have za : inE A x = false := by
    unfold inE
    rw [cnt_at 0 (Nat.zero_le _) (fun p h => absurd h (by omega)) (fun p _ hp => ?_)]
    · rfl
    · have h0 := ha (by omega)
      by_cases z : p = 0
      · subst z; exact h0
      · have := asc_get hA (show 0 < p by omega) hp; omega
  have zb : inE B x = false := by
    unfold inE
    rw [cnt_at 0 (Nat.zero_le _) (fun p h => absurd h (by omega)) (fun p _ hp => ?_)]
    · rfl
    · have h0 := hb (by omega)
      by_cases z : p = 0
      · subst z; exact h0
      · have := asc_get hB (show 0 < p by omega) hp; omega
  rw [za, zb, k0, inE_nil]
/-- the next edge of a row, or the end of all -/
def nxt (es : List Int) (i : Nat) : Int := if i < es.length then es.getD i 0 else 9223372036854775807
theorem odd_succ (n : Nat) : ((n + 1) % 2 == 1) = !(n % 2 == 1) := by
  by_cases e : n % 2 = 1
  · rw [show (n + 1) % 2 = 0 by omega, e]; rfl
  · rw [show (n + 1) % 2 = 1 by omega, show n % 2 = 0 by omega]; rfl
theorem row_at {A : List Int} (hA : Asc A) {i : Nat} {x : Int} (hi : i ≤ A.length) (h0 : ∀ p, p < i → A.getD p 0 ≤ x) (h1 : i < A.length → x < A.getD i 0) : inE A x = (i % 2 == 1) := by
  unfold inE
  rw [cnt_at i hi h0 (fun p hp hl => ?_)]
  have h := h1 (by omega)
  by_cases z : p = i
  · subst z; exact h
  · have := asc_get hA (show i < p by omega) hl; omega
theorem MI.step {A B : List Int} {keep : Bool → Bool → Bool} {i j : Nat} {o : List Int} (h : MI A B keep i j o) (hA : Asc A) (hB : Asc B) (bA : ∀ e ∈ A, e < 9223372036854775807) (bB : ∀ e ∈ B, e < 9223372036854775807)
    (x : Int) (hx : x = min (nxt A i) (nxt B j)) (hn : i < A.length ∨ j < B.length) (i' j' : Nat) (hi' : i' = if nxt A i = x then i + 1 else i) (hj' : j' = if nxt B j = x then j + 1 else j) (o' : List Int)
    (ho : o' = if keep (i' % 2 == 1) (j' % 2 == 1) = (o.length % 2 == 1) then o else o ++ [x]) : MI A B keep i' j' o' ∧ (i + j < i' + j') := by
  have gA : ∀ p, p < A.length → A.getD p 0 < 9223372036854775807 := fun p hp => by
    rw [List.getD_eq_getElem?_getD, List.getElem?_eq_getElem hp]; exact bA _ (List.getElem_mem hp)
  have gB : ∀ p, p < B.length → B.getD p 0 < 9223372036854775807 := fun p hp => by
    rw [List.getD_eq_getElem?_getD, List.getElem?_eq_getElem hp]; exact bB _ (List.getElem_mem hp)
  have nA : i < A.length → nxt A i = A.getD i 0 := fun c => if_pos c
  have nB : j < B.length → nxt B j = B.getD j 0 := fun c => if_pos c
  have mA : ¬ i < A.length → nxt A i = 9223372036854775807 := fun c => if_neg c
  have mB : ¬ j < B.length → nxt B j = 9223372036854775807 := fun c => if_neg c
  have x7 : x < 9223372036854775807 := by
    rcases hn with c | c
    · have := gA i c; have := nA c; omega
    · have := gB j c; have := nB c; omega
  have xA : x ≤ nxt A i := by omega
  have xB : x ≤ nxt B j := by omega
  have li : i' ≤ A.length := by
    rw [hi']; split
    · rename_i c; by_cases d : i < A.length; omega; have := mA d; omega
    · exact h.hi
  have lj : j' ≤ B.length := by
    rw [hj']; split
    · rename_i c; by_cases d : j < B.length; omega; have := mB d; omega
    · exact h.hj
  -- what is behind lies at x or before it, what is ahead beyond it
  have pA : ∀ p, p < i' → A.getD p 0 ≤ x := fun p hp => by
    by_cases c : p < i
    · rcases hn with d | d
      · by_cases e : j < B.length
        · have h1 := h.ab p j c (Nat.le_refl _) e
          have h2 := asc_get hA c d
          have := nA d; have := nB e; omega
        · have h2 := asc_get hA c d
          have := nA d; have := mB e; omega
      · have h1 := h.ab p j c (Nat.le_refl _) d
        by_cases e : i < A.length
        · have h2 := asc_get hA c e
          have := nA e; have := nB d; omega
        · have := mA e; have := nB d; omega
    · have e : nxt A i = x := by
        by_cases e : nxt A i = x
        · exact e
        · rw [if_neg e] at hi'; omega
      rw [if_pos e] at hi'
      obtain rfl : p = i := by omega
      have := nA (by omega); omega
  have pB : ∀ q, q < j' → B.getD q 0 ≤ x := fun q hq => by
    by_cases c : q < j
    · rcases hn with d | d
      · have h1 := h.ba i q c (Nat.le_refl _) d
        by_cases e : j < B.length
        · have h2 := asc_get hB c e
          have := nA d; have := nB e; omega
        · have := nA d; have := mB e; omega
      · by_cases e : i < A.length
        · have h1 := h.ba i q c (Nat.le_refl _) e
          have h2 := asc_get hB c d
          have := nA e; have := nB d; omega
        · have h2 := asc_get hB c d
          have := mA e; have := nB d; omega
    · have e : nxt B j = x := by
        by_cases e : nxt B j = x
        · exact e
        · rw [if_neg e] at hj'; omega
      rw [if_pos e] at hj'
      obtain rfl : q = j := by omega
      have := nB (by omega); omega
  have fA : ∀ p, i' ≤ p → p < A.length → x < A.getD p 0 := fun p hp hl => by
    by_cases e : nxt A i = x
    · rw [if_pos e] at hi'
      have h2 := asc_get hA (show i < p by omega) hl
      have := nA (by omega); omega
    · rw [if_neg e] at hi'
      have := nA (by omega)
      by_cases z : p = i
      · subst z; omega
      · have h2 := asc_get hA (show i < p by omega) hl; omega
  have fB : ∀ p, j' ≤ p → p < B.length → x < B.getD p 0 := fun p hp hl => by
    by_cases e : nxt B j = x
    · rw [if_pos e] at hj'
      have h2 := asc_get hB (show j < p by omega) hl
      have := nB (by omega); omega
    · rw [if_neg e] at hj'
      have := nB (by omega)
      by_cases z : p = j
      · subst z; omega
      · have h2 := asc_get hB (show j < p by omega) hl; omega
  have ox : ∀ e ∈ o, e < x := fun e m => by
    rcases hn with d | d
    · have h1 := h.oa d e m
      by_cases f : j < B.length
      · have h2 := h.ob f e m
        have := nA d; have := nB f; omega
      · have := nA d; have := mB f; omega
    · have h1 := h.ob d e m
      by_cases f : i < A.length
      · have h2 := h.oa f e m
        have := nA f; have := nB d; omega
      · have := mA f; have := nB d; omega
  have ox' : ∀ e ∈ o', e ≤ x := fun e m => by
    rw [ho] at m
    split at m
    · have := ox e m; omega
    · rcases List.mem_append.1 m with m | m
      · have := ox e m; omega
      · rw [List.mem_singleton] at m; omega
  have od : (o'.length % 2 == 1) = keep (i' % 2 == 1) (j' % 2 == 1) := by
    rw [ho]
    split
    · rename_i c; exact c.symm
    · rename_i c
      rw [List.length_append, List.length_singleton, odd_succ]
      generalize keep (i' % 2 == 1) (j' % 2 == 1) = a at c ⊢
      generalize (o.length % 2 == 1) = b at c ⊢
      cases a <;> cases b <;> first | rfl | exact absurd rfl c
  refine ⟨⟨li, lj, fun p q hp hq hl => ?_, fun p q hq hp hl => ?_, ?_, fun c e m => ?_, fun c e m => ?_, od, fun y ha hb => ?_⟩, ?_⟩
  · have h1 := pA p hp; have h2 := fB q hq hl; omega
  · have h1 := pB q hq; have h2 := fA p hp hl; omega
  · rw [ho]; split
    · exact h.asc
    · exact asc_snoc h.asc ox
  · have h1 := ox' e m; have h2 := fA i' (Nat.le_refl _) c; omega
  · have h1 := ox' e m; have h2 := fB j' (Nat.le_refl _) c; omega
  · by_cases c : y < x
    · have e : inE o' y = inE o y := by
        rw [ho]
        split
        · rfl
        · unfold inE
          rw [cnt_append, show cntB [x] y = 0 from cnt_none (fun z m => by rw [List.mem_singleton] at m; omega), Nat.add_zero]
      rw [e]
      exact h.row y (fun d => by have := nA d; omega) (fun d => by have := nB d; omega)
    · rw [row_at hA li (fun p hp => by have := pA p hp; omega) ha, row_at hB lj (fun p hp => by have := pB p hp; omega) hb, ← od]
      unfold inE
      rw [cnt_all (fun e m => by have := ox' e m; omega)]
  · rw [hi', hj']
    by_cases c : nxt A i = x
    · rw [if_pos c]; split <;> omega
    · rw [if_neg c, if_pos (by omega)]; omega
/-- at the end of it -/
theorem MI.fin {A B : List Int} {keep : Bool → Bool → Bool} {o : List Int} (h : MI A B keep A.length B.length o) (k0 : keep false false = false) (eA : A.length % 2 = 0) (eB : B.length % 2 = 0) : Asc o ∧ o.length % 2 = 0 ∧ ∀ x, inE o x = keep (inE A x) (inE B x) := by
  refine ⟨h.asc, ?_, fun x => h.row x (fun c => absurd c (by omega)) (fun c => absurd c (by omega))⟩
  have := h.odd
  rw [eA, eB, show ((0 : Nat) == 1) = false from rfl, k0] at this
  have h2 : ¬ o.length % 2 = 1 := fun e => by rw [e] at this; cases this
  omega
end Go.Proofs.Bands
