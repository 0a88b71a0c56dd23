/- Sets of pixels as bands: two sets together, level by level; how many bands there can be. Program-free. -/
import Derived.Test.YtjemnjboopabpaaBandsB
namespace Go.Proofs.Bands
set_option linter.unusedVariables false
set_option linter.unusedSimpArgs false
theorem wf_ok {l : List Bd} (h : Wf l) : ∀ c ∈ l, BdOk c := by
  induction l with
  | nil => intro c m; simp at m
  | cons a l ih =>
    intro c m
    rcases List.mem_cons.1 m with rfl | m
    · exact h.1
    · exact ih h.2.2.2 c m
/-- all numbers are in range -/
def InR (l : List Bd) : Prop := ∀ d ∈ l, (-1073741824 ≤ d.t ∧ d.b ≤ 1073741824) ∧ ∀ e ∈ d.es, -1073741824 ≤ e ∧ e ≤ 1073741824
theorem asc_len {es : List Int} {lo hi : Int} (h : Asc es) (b : ∀ e ∈ es, lo ≤ e ∧ e ≤ hi) (h0 : lo ≤ hi + 1) : (es.length : Int) ≤ hi - lo + 1 := by
  induction es generalizing lo with
  | nil => simp; omega
  | cons e es ih =>
    have hp := List.pairwise_cons.1 h
    have b0 := b e (by simp)
    have := ih (lo := e + 1) hp.2 (fun x m => by have := hp.1 x m; have := b x (by simp [m]); omega) (by omega)
    rw [List.length_cons]
    omega
theorem wf_len {l : List Bd} {lo hi : Int} (h : Wf l) (b : ∀ d ∈ l, lo ≤ d.t ∧ d.b ≤ hi) (h0 : lo ≤ hi) : (l.length : Int) ≤ hi - lo := by
  induction l generalizing lo with
  | nil => simp; omega
  | cons c l ih =>
    have b0 := b c (by simp)
    have tb := h.1.tb
    have := ih (lo := c.b) h.2.2.2 (fun d m => ⟨h.2.1 d m, (b d (by simp [m])).2⟩) (by omega)
    rw [List.length_cons]
    omega
theorem row_len {l : List Bd} (h : Wf l) (b : InR l) (y : Int) : (rowAt l y).length ≤ 2147483649 ∧ ∀ e ∈ rowAt l y, -1073741824 ≤ e ∧ e ≤ 1073741824 := by
  have hb : ∀ e ∈ rowAt l y, -1073741824 ≤ e ∧ e ≤ 1073741824 := by
    by_cases z : rowAt l y = []
    · rw [z]; intro e m; simp at m
    · obtain ⟨d, m, _, _, e⟩ := rowAt_mem z
      rw [e]
      exact (b d m).2
  have := asc_len (lo := -1073741824) (hi := 1073741824) (rowAt_asc h y).1 hb (by omega)
  exact ⟨by omega, hb⟩
theorem bands_len {l : List Bd} (h : Wf l) (b : InR l) : l.length ≤ 2147483648 := by
  have := wf_len (lo := -1073741824) (hi := 1073741824) h (fun d m => (b d m).1) (by omega)
  omega
theorem row_const {l : List Bd} {s y : Int} (hs : s ≤ y) (h : ∀ d ∈ l, ¬ (s < d.t ∧ d.t ≤ y) ∧ ¬ (s < d.b ∧ d.b ≤ y)) : rowAt l y = rowAt l s := by
  induction l with
  | nil => rfl
  | cons c l ih =>
    have a := h c (by simp)
    show (if _ then _ else _) = (if _ then _ else _)
    rw [ih fun d m => h d (by simp [m])]
    by_cases q : c.t ≤ s ∧ s < c.b
    · rw [if_pos q, if_pos (by omega)]
    · rw [if_neg q, if_neg (by omega)]
/-- what one row of two sets together is -/
structure Mrgd (A B : List Int) (keep : Bool → Bool → Bool) (o : List Int) : Prop where
  asc : Asc o
  ev : o.length % 2 = 0
  row : ∀ x, inE o x = keep (inE A x) (inE B x)
  sub : ∀ x ∈ o, x ∈ A ∨ x ∈ B
/-- two sets together as far as a level -/
structure CI (lv : List Int) (la lb : List Bd) (keep : Bool → Bool → Bool) (i : Nat) (l : List Bd) : Prop where
  wf : Wf l
  inr : InR l
  none : lv = [] → l = []
  le : 0 < lv.length → i ≤ lv.length
  low : 0 < lv.length → ∀ d ∈ l, d.b ≤ lv.getD (i - 1) 0
  has : 0 < lv.length → ∀ x y, y < lv.getD (i - 1) 0 → hasP l x y = keep (hasP la x y) (hasP lb x y)
theorem has_above {l : List Bd} {x y : Int} (h : ∀ d ∈ l, y < d.t) : hasP l x y = false := by
  unfold hasP
  rw [rowAt_above h]
  rfl
theorem has_below {l : List Bd} {x y : Int} (h : ∀ d ∈ l, d.b ≤ y) : hasP l x y = false := by
  unfold hasP
  rw [rowAt_below h]
  rfl
theorem asc_min {lv : List Int} (h : Asc lv) {x : Int} (m : x ∈ lv) : lv.getD 0 0 ≤ x := by
  cases lv with
  | nil => simp at m
  | cons a lv =>
    simp only [List.getD_cons_zero]
    rcases List.mem_cons.1 m with rfl | m
    · exact Int.le_refl _
    · have := (List.pairwise_cons.1 h).1 x m
      omega
theorem asc_between {lv : List Int} (h : Asc lv) {i : Nat} (h0 : 0 < i) (hi : i < lv.length) {x : Int} (m : x ∈ lv) : x ≤ lv.getD (i - 1) 0 ∨ lv.getD i 0 ≤ x := by
  obtain ⟨k, hk, rfl⟩ := List.mem_iff_getElem.1 m
  have e : lv[k] = lv.getD k 0 := by rw [List.getD_eq_getElem?_getD, List.getElem?_eq_getElem hk]; rfl
  rw [e]
  by_cases c : k < i
  · left
    by_cases d : k = i - 1
    · rw [d]; exact Int.le_refl _
    · have := asc_get h (show k < i - 1 by omega) (by omega); omega
  · right
    by_cases d : k = i
    · rw [d]; exact Int.le_refl _
    · have := asc_get h (show i < k by omega) hk; omega
theorem asc_max {lv : List Int} (h : Asc lv) {x : Int} (m : x ∈ lv) : x ≤ lv.getD (lv.length - 1) 0 := by
  obtain ⟨k, hk, rfl⟩ := List.mem_iff_getElem.1 m
  have e : lv[k] = lv.getD k 0 := by rw [List.getD_eq_getElem?_getD, List.getElem?_eq_getElem hk]; rfl
  rw [e]
  by_cases d : k = lv.length - 1
  · rw [d]; exact Int.le_refl _
  · have := asc_get h (show k < lv.length - 1 by omega) (by omega); omega
/-- the levels of two sets -/
def Lev (lv : List Int) (la lb : List Bd) : Prop := ∀ x, x ∈ lv ↔ ∃ d ∈ la ++ lb, x = d.t ∨ x = d.b
theorem CI.start {lv : List Int} {la lb : List Bd} {keep : Bool → Bool → Bool} (k0 : keep false false = false) (hl : Asc lv) (hv : Lev lv la lb) : CI lv la lb keep 1 [] := by
  refine ⟨trivial, fun d m => by simp at m, fun _ => rfl, fun h => h, fun _ d m => by simp at m, fun _ x y hy => ?_⟩
  have up : ∀ d ∈ la ++ lb, y < d.t := fun d m => by
    have := asc_min hl ((hv d.t).2 ⟨d, m, .inl rfl⟩)
    simp only [Nat.sub_self] at hy
    omega
  rw [has_above (l := la) fun d m => up d (by simp [m]), has_above (l := lb) fun d m => up d (by simp [m]), k0]
  rfl
theorem CI.step {lv : List Int} {la lb : List Bd} {keep : Bool → Bool → Bool} {i : Nat} {l : List Bd} {o : List Int} (h : CI lv la lb keep i l) (hl : Asc lv) (hv : Lev lv la lb) (i1 : 1 ≤ i) (hi : i < lv.length) (wa : Wf la) (wb : Wf lb) (ra : InR la) (rb : InR lb)
    (m : Mrgd (rowAt la (lv.getD (i - 1) 0)) (rowAt lb (lv.getD (i - 1) 0)) keep o) : CI lv la lb keep (i + 1) (stk l ⟨lv.getD (i - 1) 0, lv.getD i 0, o⟩) := by
  have l0 : 0 < lv.length := by omega
  have tb : lv.getD (i - 1) 0 < lv.getD i 0 := asc_get hl (by omega) hi
  have low := h.low l0
  have rng : ∀ x ∈ lv, -1073741824 ≤ x ∧ x ≤ 1073741824 := fun x mx => by
    obtain ⟨d, md, e⟩ := (hv x).1 mx
    have q : (-1073741824 ≤ d.t ∧ d.b ≤ 1073741824) ∧ d.t < d.b := by
      rcases List.mem_append.1 md with md | md
      · exact ⟨(ra d md).1, (wf_ok wa d md).tb⟩
      · exact ⟨(rb d md).1, (wf_ok wb d md).tb⟩
    rcases e with rfl | rfl <;> omega
  have gm : ∀ k, k < lv.length → lv.getD k 0 ∈ lv := fun k hk => by
    rw [List.getD_eq_getElem?_getD, List.getElem?_eq_getElem hk]; exact List.getElem_mem _
  have oR : ∀ e ∈ o, -1073741824 ≤ e ∧ e ≤ 1073741824 := fun e me => by
    rcases m.sub e me with q | q
    · exact (row_len wa ra _).2 e q
    · exact (row_len wb rb _).2 e q
  refine ⟨stk_wf h.wf tb m.asc m.ev low, fun d md => ?_, fun e => by rw [e] at l0; simp at l0, fun _ => by omega, fun _ d md => ?_, fun _ x y hy => ?_⟩
  · rcases stk_mem _ _ _ md with ⟨e, me, et, ee, eb⟩ | rfl
    · have q := h.inr e me
      rw [← ee, ← et]
      refine ⟨⟨q.1.1, ?_⟩, q.2⟩
      rcases eb with eb | eb
      · rw [eb]; exact q.1.2
      · rw [eb]; exact (rng _ (gm i hi)).2
    · exact ⟨⟨(rng _ (gm (i - 1) (by omega))).1, (rng _ (gm i hi)).2⟩, oR⟩
  · rw [Nat.add_sub_cancel]
    exact stk_low (c := ⟨lv.getD (i - 1) 0, lv.getD i 0, o⟩) tb low d md
  · rw [Nat.add_sub_cancel] at hy
    unfold hasP
    rw [stk_row h.wf tb low]
    by_cases c : lv.getD (i - 1) 0 ≤ y ∧ y < lv.getD i 0
    · rw [if_pos c]
      have rc : ∀ (k : List Bd), (∀ d ∈ k, d ∈ la ++ lb) → rowAt k y = rowAt k (lv.getD (i - 1) 0) := fun k hk => row_const c.1 fun d md => by
        have p := asc_between hl (by omega) hi ((hv d.t).2 ⟨d, hk d md, .inl rfl⟩)
        have q := asc_between hl (by omega) hi ((hv d.b).2 ⟨d, hk d md, .inr rfl⟩)
        omega
      rw [rc la fun d md => by simp [md], rc lb fun d md => by simp [md]]
      exact m.row x
    · rw [if_neg c]
      exact h.has l0 x y (by omega)
theorem CI.fin {lv : List Int} {la lb : List Bd} {keep : Bool → Bool → Bool} {i : Nat} {l : List Bd} (h : CI lv la lb keep i l) (k0 : keep false false = false) (hl : Asc lv) (hv : Lev lv la lb) (i1 : 1 ≤ i) (hi : ¬ i < lv.length) : ∀ x y, hasP l x y = keep (hasP la x y) (hasP lb x y) := by
  intro x y
  by_cases z : lv = []
  · have no : ∀ d ∈ la ++ lb, False := fun d m => by
      have := (hv d.t).2 ⟨d, m, .inl rfl⟩
      rw [z] at this
      simp at this
    rw [h.none z, has_above (l := la) fun d m => (no d (by simp [m])).elim, has_above (l := lb) fun d m => (no d (by simp [m])).elim, k0]
    rfl
  · have l0 : 0 < lv.length := List.length_pos_iff.2 z
    have ei : i = lv.length := by have := h.le l0; omega
    subst ei
    by_cases c : y < lv.getD (lv.length - 1) 0
    · exact h.has l0 x y c
    · have dn : ∀ d ∈ la ++ lb, d.b ≤ y := fun d m => by
        have := asc_max hl ((hv d.b).2 ⟨d, m, .inr rfl⟩)
        omega
      rw [has_below (l := la) fun d m => dn d (by simp [m]), has_below (l := lb) fun d m => dn d (by simp [m]), has_below fun d m => by have := h.low l0 d m; omega, k0]
end Go.Proofs.Bands
