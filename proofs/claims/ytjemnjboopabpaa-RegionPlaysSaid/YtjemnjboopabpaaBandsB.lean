/- Sets of pixels as bands: the bands, one list for one set; a band more below. Program-free. -/
import Derived.Test.YtjemnjboopabpaaBands
namespace Go.Proofs.Bands
set_option linter.unusedVariables false
set_option linter.unusedSimpArgs false
/-- a band -/
structure Bd where
  t : Int
  b : Int
  es : List Int
/-- a band as it has to be -/
structure BdOk (c : Bd) : Prop where
  tb : c.t < c.b
  ne : c.es ≠ []
  asc : Asc c.es
  ev : c.es.length % 2 = 0
/-- what two bands, one behind the other, owe: the second lies below, and isn't the first one's going on -/
def Under (c d : Bd) : Prop := c.b < d.t ∨ (c.b = d.t ∧ c.es ≠ d.es)
/-- bands from top to bottom, none of them the going on of another -/
def Wf : List Bd → Prop
  | [] => True
  | c :: l => BdOk c ∧ (∀ d ∈ l, c.b ≤ d.t) ∧ (∀ d, l.head? = some d → Under c d) ∧ Wf l
/-- the edges of a row -/
def rowAt : List Bd → Int → List Int
  | [], _ => []
  | c :: l, y => if c.t ≤ y ∧ y < c.b then c.es else rowAt l y
/-- is a pixel there? -/
def hasP (l : List Bd) (x y : Int) : Bool := inE (rowAt l y) x
theorem rowAt_asc {l : List Bd} (h : Wf l) (y : Int) : Asc (rowAt l y) ∧ (rowAt l y).length % 2 = 0 := by
  induction l with
  | nil => exact ⟨List.Pairwise.nil, rfl⟩
  | cons c l ih =>
    obtain ⟨h1, _, _, h4⟩ := h
    unfold rowAt
    split
    · exact ⟨h1.asc, h1.ev⟩
    · exact ih h4
theorem rowAt_above {l : List Bd} {y : Int} (h : ∀ d ∈ l, y < d.t) : rowAt l y = [] := by
  induction l with
  | nil => rfl
  | cons c l ih =>
    unfold rowAt
    rw [if_neg (by have := h c (by simp); omega)]
    exact ih fun d m => h d (by simp [m])
theorem rowAt_below {l : List Bd} {y : Int} (h : ∀ d ∈ l, d.b ≤ y) : rowAt l y = [] := by
  induction l with
  | nil => rfl
  | cons c l ih =>
    unfold rowAt
    rw [if_neg (by have := h c (by simp); omega)]
    exact ih fun d m => h d (by simp [m])
theorem rowAt_mem {l : List Bd} {y : Int} (h : rowAt l y ≠ []) : ∃ d ∈ l, d.t ≤ y ∧ y < d.b ∧ rowAt l y = d.es := by
  induction l with
  | nil => exact absurd rfl h
  | cons c l ih =>
    unfold rowAt at h ⊢
    by_cases k : c.t ≤ y ∧ y < c.b
    · exact ⟨c, by simp, k.1, k.2, by rw [if_pos k]⟩
    · rw [if_neg k] at h
      obtain ⟨d, m, a, b, e⟩ := ih h
      exact ⟨d, by simp [m], a, b, by rw [if_neg k]; exact e⟩
/-- one list of bands for one set of rows -/
theorem bands_rows {l m : List Bd} (hl : Wf l) (hm : Wf m) (h : ∀ y, rowAt l y = rowAt m y) : l = m := by
  induction l generalizing m with
  | nil =>
    cases m with
    | nil => rfl
    | cons d m =>
      have h1 := h d.t
      have e : rowAt (d :: m) d.t = d.es := by unfold rowAt; rw [if_pos ⟨Int.le_refl _, hm.1.tb⟩]
      rw [e] at h1
      exact absurd h1.symm hm.1.ne
  | cons c l ih =>
    cases m with
    | nil =>
      have h1 := h c.t
      have e : rowAt (c :: l) c.t = c.es := by unfold rowAt; rw [if_pos ⟨Int.le_refl _, hl.1.tb⟩]
      rw [e] at h1
      exact absurd h1 hl.1.ne
    | cons d m =>
      obtain ⟨c1, c2, c3, c4⟩ := hl
      obtain ⟨d1, d2, d3, d4⟩ := hm
      have rc : ∀ y, rowAt (c :: l) y = if c.t ≤ y ∧ y < c.b then c.es else rowAt l y := fun y => by rw [rowAt]
      have rd : ∀ y, rowAt (d :: m) y = if d.t ≤ y ∧ y < d.b then d.es else rowAt m y := fun y => by rw [rowAt]
      have tt : c.t = d.t := by
        by_cases k : c.t < d.t
        · have h1 := h c.t
          rw [rc, rd, if_pos ⟨Int.le_refl _, c1.tb⟩, if_neg (by omega), rowAt_above (fun e me => by have := d2 e me; have := d1.tb; omega)] at h1
          exact absurd h1 c1.ne
        · by_cases g : d.t < c.t
          · have h1 := h d.t
            rw [rc, rd, if_neg (by omega), rowAt_above (fun e me => by have := c2 e me; have := c1.tb; omega), if_pos ⟨Int.le_refl _, d1.tb⟩] at h1
            exact absurd h1.symm d1.ne
          · omega
      have ee : c.es = d.es := by
        have h1 := h c.t
        rw [rc, rd, if_pos ⟨Int.le_refl _, c1.tb⟩, if_pos ⟨by omega, by have := d1.tb; omega⟩] at h1
        exact h1
      have bb : c.b = d.b := by
        have go : ∀ {c d : Bd} {l m : List Bd}, BdOk c → BdOk d → c.t = d.t → c.es = d.es → (∀ e ∈ l, c.b ≤ e.t) → (∀ e, l.head? = some e → Under c e) → Wf l → (∀ y, (if c.t ≤ y ∧ y < c.b then c.es else rowAt l y) = (if d.t ≤ y ∧ y < d.b then d.es else rowAt m y)) → ¬ c.b < d.b := by
          intro c d l m c1 d1 tt ee c2 c3 c4 hh k
          have h1 := hh c.b
          rw [if_neg (by omega), if_pos ⟨by have := c1.tb; omega, k⟩, ← ee] at h1
          cases l with
          | nil => exact c1.ne h1.symm
          | cons e l =>
            have u := c3 e rfl
            have be := c2 e (by simp)
            unfold rowAt at h1
            by_cases q : e.t ≤ c.b ∧ c.b < e.b
            · rw [if_pos q] at h1
              rcases u with u | ⟨_, u⟩
              · omega
              · exact u h1.symm
            · rw [if_neg q, rowAt_above (fun f mf => by have := c4.2.1 f mf; have := c4.1.tb; omega)] at h1
              exact c1.ne h1.symm
        have h1 : ∀ y, (if c.t ≤ y ∧ y < c.b then c.es else rowAt l y) = (if d.t ≤ y ∧ y < d.b then d.es else rowAt m y) := fun y => by rw [← rc, ← rd]; exact h y
        have g1 := go c1 d1 tt ee c2 c3 c4 h1
        have g2 := go d1 c1 tt.symm ee.symm d2 d3 d4 fun y => (h1 y).symm
        omega
      have cd : c = d := by cases c; cases d; simp only at tt bb ee; rw [tt, bb, ee]
      subst cd
      rw [ih c4 d4 fun y => ?_]
      have h1 := h y
      rw [rc, rd] at h1
      by_cases k : c.t ≤ y ∧ y < c.b
      · rw [rowAt_above (fun e me => by have := c2 e me; omega), rowAt_above (fun e me => by have := d2 e me; omega)]
      · rw [if_neg k, if_neg k] at h1
        exact h1
/-- one list of bands for one set of pixels -/
theorem bands_one {l m : List Bd} (hl : Wf l) (hm : Wf m) (h : ∀ x y, hasP l x y = hasP m x y) : l = m :=
  bands_rows hl hm fun y => row_one (rowAt_asc hl y).1 (rowAt_asc hm y).1 fun x => h x y
/-- a band more below -/
def stk : List Bd → Bd → List Bd
  | [], c => if c.es = [] then [] else [c]
  | [d], c => if c.es = [] then [d] else if d.b = c.t ∧ d.es = c.es then [⟨d.t, c.b, d.es⟩] else [d, c]
  | d :: e :: l, c => d :: stk (e :: l) c
theorem stk_head (l : List Bd) (c d : Bd) (h : (stk l c).head? = some d) : (l = [] ∧ d = c) ∨ ∃ e, l.head? = some e ∧ d.t = e.t ∧ d.es = e.es := by
  cases l with
  | nil =>
    unfold stk at h
    split at h
    · cases h
    · left; exact ⟨rfl, (Option.some.inj h).symm⟩
  | cons e l =>
    right
    refine ⟨e, rfl, ?_⟩
    cases l with
    | nil =>
      unfold stk at h
      split at h
      · obtain rfl := Option.some.inj h; exact ⟨rfl, rfl⟩
      · split at h
        · obtain rfl := Option.some.inj h; exact ⟨rfl, rfl⟩
        · obtain rfl := Option.some.inj h; exact ⟨rfl, rfl⟩
    | cons f l =>
      unfold stk at h
      obtain rfl := Option.some.inj h; exact ⟨rfl, rfl⟩
theorem stk_mem (l : List Bd) (c d : Bd) (h : d ∈ stk l c) : (∃ e ∈ l, e.t = d.t ∧ e.es = d.es ∧ (d.b = e.b ∨ d.b = c.b)) ∨ d = c := by
  induction l with
  | nil =>
    unfold stk at h
    split at h
    · cases h
    · right; simpa using h
  | cons e l ih =>
    cases l with
    | nil =>
      unfold stk at h
      split at h
      · left; rw [List.mem_singleton] at h; subst h; exact ⟨_, by simp, rfl, rfl, .inl rfl⟩
      · split at h
        · left; rw [List.mem_singleton] at h; subst h; exact ⟨e, by simp, rfl, rfl, .inr rfl⟩
        · rcases List.mem_cons.1 h with rfl | h
          · left; exact ⟨_, by simp, rfl, rfl, .inl rfl⟩
          · right; simpa using h
    | cons f l =>
      unfold stk at h
      rcases List.mem_cons.1 h with rfl | h
      · left; exact ⟨_, by simp, rfl, rfl, .inl rfl⟩
      · rcases ih h with ⟨g, m, r⟩ | r
        · left; exact ⟨g, by simp [List.mem_cons.1 m], r⟩
        · right; exact r
theorem stk_wf {l : List Bd} {c : Bd} (hl : Wf l) (tb : c.t < c.b) (asc : Asc c.es) (ev : c.es.length % 2 = 0) (hb : ∀ d ∈ l, d.b ≤ c.t) : Wf (stk l c) := by
  induction l with
  | nil =>
    unfold stk
    split
    · trivial
    · rename_i k
      exact ⟨⟨tb, k, asc, ev⟩, fun d m => (by cases m), fun d h => (by cases h), trivial⟩
  | cons d l ih =>
    cases l with
    | nil =>
      obtain ⟨h1, h2, h3, h4⟩ := hl
      have db := hb d (by simp)
      unfold stk
      split
      · exact ⟨h1, h2, h3, h4⟩
      · rename_i k
        split
        · exact ⟨⟨by have := h1.tb; show d.t < c.b; omega, h1.ne, h1.asc, h1.ev⟩, fun d m => (by cases m), fun d h => (by cases h), trivial⟩
        · rename_i q
          refine ⟨h1, fun e m => ?_, fun e h => ?_, ⟨⟨tb, k, asc, ev⟩, fun d m => (by cases m), fun d h => (by cases h), trivial⟩⟩
          · rw [List.mem_singleton] at m; subst m; exact db
          · obtain rfl := Option.some.inj h
            by_cases z : d.b = c.t
            · exact .inr ⟨z, fun e => q ⟨z, e⟩⟩
            · exact .inl (by omega)
    | cons e l =>
      obtain ⟨h1, h2, h3, h4⟩ := hl
      unfold stk
      refine ⟨h1, fun f m => ?_, fun f h => ?_, ih h4 fun g m => hb g (by simp [List.mem_cons.1 m])⟩
      · rcases stk_mem _ _ _ m with ⟨g, mg, tg, _, _⟩ | rfl
        · have := h2 g mg; omega
        · have := h2 e (by simp)
          have := hb e (by simp)
          have := h4.1.tb
          omega
      · rcases stk_head _ _ _ h with ⟨z, _⟩ | ⟨g, hg, tg, eg⟩
        · cases z
        · have u := h3 g hg
          unfold Under at u ⊢
          rw [tg, eg]; exact u
theorem stk_row {l : List Bd} {c : Bd} (hl : Wf l) (tb : c.t < c.b) (hb : ∀ d ∈ l, d.b ≤ c.t) (y : Int) : rowAt (stk l c) y = if c.t ≤ y ∧ y < c.b then c.es else rowAt l y := by
  induction l with
  | nil =>
    unfold stk
    split
    · rename_i k
      rw [k]; split <;> rfl
    · rfl
  | cons d l ih =>
    cases l with
    | nil =>
      obtain ⟨h1, h2, h3, h4⟩ := hl
      have db := hb d (by simp)
      have dt := h1.tb
      unfold stk
      split
      · rename_i k
        split
        · rename_i q
          rw [k, rowAt_below (fun e m => by rw [List.mem_singleton] at m; subst m; omega)]
        · rfl
      · split
        · rename_i q
          simp only [rowAt]
          by_cases a : c.t ≤ y ∧ y < c.b
          · rw [if_pos a, if_pos ⟨by omega, a.2⟩, q.2]
          · rw [if_neg a]
            by_cases b : d.t ≤ y ∧ y < d.b
            · rw [if_pos b, if_pos ⟨b.1, by omega⟩]
            · rw [if_neg b, if_neg (by omega)]
        · simp only [rowAt]
          by_cases a : c.t ≤ y ∧ y < c.b
          · have hd : ¬ (d.t ≤ y ∧ y < d.b) := by omega
            simp only [if_neg hd, if_pos a]
          · simp only [if_neg a]
    | cons e l =>
      obtain ⟨h1, h2, h3, h4⟩ := hl
      have i2 := ih h4 fun g m => hb g (by simp [List.mem_cons.1 m])
      have db := hb d (by simp)
      unfold stk
      rw [rowAt, rowAt, i2]
      by_cases b : d.t ≤ y ∧ y < d.b
      · rw [if_pos b, if_pos b, if_neg (by omega)]
      · rw [if_neg b, if_neg b]
theorem stk_low {l : List Bd} {c : Bd} (tb : c.t < c.b) (hb : ∀ d ∈ l, d.b ≤ c.t) : ∀ d ∈ stk l c, d.b ≤ c.b := fun d m => by
  rcases stk_mem _ _ _ m with ⟨g, mg, _, _, r⟩ | rfl
  · have := hb g mg
    omega
  · omega
end Go.Proofs.Bands
