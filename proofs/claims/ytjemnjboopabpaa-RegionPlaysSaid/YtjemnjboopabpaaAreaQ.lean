/- Sets of pixels as bands: how many pixels there are, counted on the grid. Program-free. -/
import Derived.Test.YtjemnjboopabpaaBandsC
namespace Go.Proofs.Bands
set_option linter.unusedVariables false
set_option linter.unusedSimpArgs false
/-- a sum over so many numbers from one on -/
def sumF (f : Int → Int) (lo : Int) : Nat → Int
  | 0 => 0
  | n + 1 => sumF f lo n + f (lo + n)
theorem sumF_congr {f g : Int → Int} {lo : Int} : ∀ {n : Nat}, (∀ x, lo ≤ x → x < lo + n → f x = g x) → sumF f lo n = sumF g lo n
  | 0, _ => rfl
  | n + 1, h => by
    unfold sumF
    rw [sumF_congr (n := n) fun x h0 h1 => h x h0 (by omega), h (lo + n) (by omega) (by omega)]
theorem sumF_add (f g : Int → Int) (lo : Int) : ∀ n : Nat, sumF (fun x => f x + g x) lo n = sumF f lo n + sumF g lo n
  | 0 => rfl
  | n + 1 => by unfold sumF; rw [sumF_add f g lo n]; omega
theorem sumF_sub (f g : Int → Int) (lo : Int) : ∀ n : Nat, sumF (fun x => f x - g x) lo n = sumF f lo n - sumF g lo n
  | 0 => rfl
  | n + 1 => by unfold sumF; rw [sumF_sub f g lo n]; omega
theorem sumF_zero (lo : Int) : ∀ n : Nat, sumF (fun _ => 0) lo n = 0
  | 0 => rfl
  | n + 1 => by unfold sumF; rw [sumF_zero lo n]; rfl
theorem sumF_le {f g : Int → Int} {lo : Int} : ∀ {n : Nat}, (∀ x, lo ≤ x → x < lo + n → f x ≤ g x) → sumF f lo n ≤ sumF g lo n
  | 0, _ => Int.le_refl _
  | n + 1, h => by
    unfold sumF
    have := sumF_le (n := n) fun x h0 h1 => h x h0 (by omega)
    have := h (lo + n) (by omega) (by omega)
    omega
theorem sumF_const (c lo : Int) : ∀ n : Nat, sumF (fun _ => c) lo n = n * c
  | 0 => by simp [sumF]
  | n + 1 => by unfold sumF; rw [sumF_const c lo n, Int.natCast_succ, Int.add_mul]; omega
/-- a sum over a stretch -/
theorem sumF_in (c lo A C : Int) : ∀ n : Nat, lo ≤ A → A ≤ C → C ≤ lo + n → sumF (fun x => if A ≤ x ∧ x < C then c else 0) lo n = (C - A) * c
  | 0, h0, h1, h2 => by
    have : C = A := by omega
    subst this
    simp [sumF]
  | n + 1, h0, h1, h2 => by
    unfold sumF
    by_cases e : C = lo + (n + 1 : Nat)
    · by_cases q : A = C
      · subst q
        rw [sumF_congr (g := fun _ => 0) (fun x a b => if_neg (by omega)), sumF_zero, if_neg (by omega)]
        simp
      · have e1 : sumF (fun x => if A ≤ x ∧ x < C then c else 0) lo n = sumF (fun x => if A ≤ x ∧ x < C - 1 then c else 0) lo n := sumF_congr fun x a b => by
          by_cases z : A ≤ x
          · rw [if_pos (by omega), if_pos (by omega)]
          · rw [if_neg (by omega), if_neg (by omega)]
        rw [e1, sumF_in c lo A (C - 1) n h0 (by omega) (by omega), if_pos (by omega), show (C - A) = (C - 1 - A) + 1 by omega, Int.add_mul]
        omega
    · rw [sumF_in c lo A C n h0 h1 (by omega), if_neg (by omega)]
      omega
/-- one, or nothing -/
def one1 (b : Bool) : Int := if b then 1 else 0
/-- the grid -/
def G0 : Int := -1073741824
def GN : Nat := 2147483648
def lineP (p : Int → Bool) : Int := sumF (fun x => one1 (p x)) G0 GN
def areaP (P : Int → Int → Bool) : Int := sumF (fun y => lineP fun x => P x y) G0 GN
theorem areaP_congr {P Q : Int → Int → Bool} (h : ∀ x y, P x y = Q x y) : areaP P = areaP Q := by
  have : P = Q := funext fun x => funext fun y => h x y
  rw [this]
theorem lineP_congr {p q : Int → Bool} (h : ∀ x, p x = q x) : lineP p = lineP q := by
  have : p = q := funext h
  rw [this]
theorem lineP_no {p : Int → Bool} (h : ∀ x, p x = false) : lineP p = 0 := by
  rw [lineP_congr (q := fun _ => false) h]
  unfold lineP
  exact sumF_zero _ _
theorem lineP_rect (A C : Int) (h0 : -1073741824 ≤ A) (h1 : A ≤ C) (h2 : C ≤ 1073741824) : lineP (fun x => decide (A ≤ x ∧ x < C)) = C - A := by
  unfold lineP
  have := sumF_in 1 G0 A C GN (by unfold G0; omega) h1 (by unfold G0 GN; omega)
  rw [Int.mul_one] at this
  rw [← this]
  exact sumF_congr fun x _ _ => by unfold one1; by_cases z : A ≤ x ∧ x < C <;> simp [z]
theorem area_rect {A B C D : Int} (h0 : -1073741824 ≤ A) (h1 : A ≤ C) (h2 : C ≤ 1073741824) (h3 : -1073741824 ≤ B) (h4 : B ≤ D) (h5 : D ≤ 1073741824) : areaP (fun x y => decide (A ≤ x ∧ x < C ∧ B ≤ y ∧ y < D)) = (C - A) * (D - B) := by
  unfold areaP
  have := sumF_in (C - A) G0 B D GN (by unfold G0; omega) h4 (by unfold G0 GN; omega)
  rw [Int.mul_comm, ← this]
  refine sumF_congr fun y _ _ => ?_
  by_cases z : B ≤ y ∧ y < D
  · rw [if_pos z, ← lineP_rect A C h0 h1 h2]
    exact lineP_congr fun x => decide_eq_decide.2 (by omega)
  · rw [if_neg z]
    exact lineP_no fun x => decide_eq_false (by omega)
theorem area_or (P Q : Int → Int → Bool) : areaP (fun x y => P x y || Q x y) = areaP P + areaP Q - areaP (fun x y => P x y && Q x y) := by
  unfold areaP
  rw [← sumF_add, ← sumF_sub]
  refine sumF_congr fun y _ _ => ?_
  unfold lineP
  rw [← sumF_add, ← sumF_sub]
  refine sumF_congr fun x _ _ => ?_
  show one1 (P x y || Q x y) = one1 (P x y) + one1 (Q x y) - one1 (P x y && Q x y)
  cases P x y <;> cases Q x y <;> rfl
theorem area_le (P : Int → Int → Bool) : 0 ≤ areaP P ∧ areaP P ≤ 4611686018427387904 := by
  have l0 : ∀ p : Int → Bool, 0 ≤ lineP p ∧ lineP p ≤ 2147483648 := by
    intro p
    unfold lineP
    have a := sumF_le (f := fun _ => 0) (g := fun x => one1 (p x)) (lo := G0) (n := GN) fun x _ _ => by unfold one1; split <;> omega
    have b := sumF_le (g := fun _ => 1) (f := fun x => one1 (p x)) (lo := G0) (n := GN) fun x _ _ => by unfold one1; split <;> omega
    rw [sumF_zero] at a
    rw [sumF_const] at b
    unfold GN at *
    omega
  unfold areaP
  have a := sumF_le (f := fun _ => 0) (g := fun y => lineP fun x => P x y) (lo := G0) (n := GN) fun y _ _ => (l0 _).1
  have b := sumF_le (g := fun _ => 2147483648) (f := fun y => lineP fun x => P x y) (lo := G0) (n := GN) fun y _ _ => (l0 _).2
  rw [sumF_zero] at a
  rw [sumF_const] at b
  unfold GN at *
  omega
/-- how many pixels a row's runs have -/
def wid : List Int → Int
  | a :: b :: r => (b - a) + wid r
  | _ => 0
def areaB (l : List Bd) : Int := (l.map fun c => (c.b - c.t) * wid c.es).sum
theorem inE_two {a b : Int} {r : List Int} (h : Asc (a :: b :: r)) (x : Int) : one1 (inE (a :: b :: r) x) = (if a ≤ x ∧ x < b then 1 else 0) + one1 (inE r x) := by
  unfold Asc at h
  rw [List.pairwise_cons, List.pairwise_cons] at h
  obtain ⟨h1, h2, h3⟩ := h
  have ab := h1 b (by simp)
  unfold inE
  rw [cnt_cons, cnt_cons]
  by_cases z : b ≤ x
  · rw [if_pos (by omega), if_pos z, if_neg (by omega), show 1 + (1 + cntB r x) = cntB r x + 2 by omega, Nat.add_mod_right]
    omega
  · have c0 : cntB r x = 0 := cnt_none fun e m => by have := h2 e m; omega
    rw [c0, if_neg z]
    by_cases w : a ≤ x
    · rw [if_pos w, if_pos (by omega)]; rfl
    · rw [if_neg w, if_neg (by omega)]; rfl
theorem line_row : ∀ (es : List Int), Asc es → es.length % 2 = 0 → (∀ e ∈ es, -1073741824 ≤ e ∧ e ≤ 1073741824) → lineP (inE es) = wid es
  | [], _, _, _ => by
    unfold lineP
    rw [sumF_congr (g := fun _ => 0) fun x _ _ => by rw [inE_nil]; rfl, sumF_zero]
    rfl
  | [a], _, h, _ => by simp at h
  | a :: b :: r, h, hl, hb => by
    have h' := h
    unfold Asc at h'
    rw [List.pairwise_cons, List.pairwise_cons] at h'
    have ab := h'.1 b (by simp)
    have ha := hb a (by simp)
    have hbb := hb b (by simp)
    have ih := line_row r h'.2.2 (by simp at hl; omega) fun e m => hb e (by simp [m])
    unfold wid
    rw [← ih, ← lineP_rect a b ha.1 (by omega) hbb.2]
    unfold lineP
    rw [← sumF_add]
    refine sumF_congr fun x _ _ => ?_
    rw [inE_two h]
    unfold one1
    by_cases z : a ≤ x ∧ x < b <;> simp [z]
theorem area_bands : ∀ (l : List Bd), Wf l → InR l → areaP (hasP l) = areaB l
  | [], _, _ => by
    unfold areaP
    rw [sumF_congr (f := fun y => lineP fun x => hasP [] x y) (g := fun _ => 0) fun y _ _ => lineP_no fun x => rfl, sumF_zero]
    rfl
  | c :: l, h, hr => by
    obtain ⟨h1, h2, h3, h4⟩ := h
    have ih := area_bands l h4 fun d m => hr d (by simp [m])
    have hc := hr c (by simp)
    have tb := h1.tb
    unfold areaB
    rw [List.map_cons, List.sum_cons]
    have e : (l.map fun c => (c.b - c.t) * wid c.es).sum = areaB l := rfl
    rw [e, ← ih, ← line_row c.es h1.asc h1.ev hc.2]
    rw [← sumF_in (lineP (inE c.es)) G0 c.t c.b GN (by unfold G0; omega) (by omega) (by unfold G0 GN; omega)]
    unfold areaP
    rw [← sumF_add]
    refine sumF_congr fun y _ _ => ?_
    by_cases z : c.t ≤ y ∧ y < c.b
    · rw [if_pos z]
      rw [show lineP (fun x => hasP (c :: l) x y) = lineP (inE c.es) from lineP_congr fun x => by unfold hasP rowAt; rw [if_pos z], show lineP (fun x => hasP l x y) = 0 from lineP_no fun x => has_above fun d m => by have := h2 d m; omega]
      omega
    · rw [if_neg z, Int.zero_add]
      exact lineP_congr fun x => by unfold hasP; rw [show rowAt (c :: l) y = rowAt l y by rw [rowAt, if_neg z]]
end Go.Proofs.Bands
/- Sets of pixels as bands: the rectangles of the bands, how many pixels they have, the least rectangle that has them. Program-free. -/
namespace Go.Proofs.Bands
set_option linter.unusedVariables false
set_option linter.unusedSimpArgs false
/-- a rectangle: left, top, right, bottom -/
abbrev Q4 := Int × Int × Int × Int
def inQ (r : Q4) (x y : Int) : Bool := decide (r.1 ≤ x ∧ x < r.2.2.1 ∧ r.2.1 ≤ y ∧ y < r.2.2.2)
def anyQ (rs : List Q4) (x y : Int) : Bool := rs.any fun r => inQ r x y
/-- a rectangle that has pixels, within the range -/
structure Fil (r : Q4) : Prop where
  x0 : -1073741824 ≤ r.1
  x1 : r.1 < r.2.2.1
  x2 : r.2.2.1 ≤ 1073741824
  y0 : -1073741824 ≤ r.2.1
  y1 : r.2.1 < r.2.2.2
  y2 : r.2.2.2 ≤ 1073741824
def szQ (r : Q4) : Int := (r.2.2.1 - r.1) * (r.2.2.2 - r.2.1)
/-- the rectangles of a band, of bands -/
def runs (t b : Int) : List Int → List Q4
  | a :: c :: r => (a, t, c, b) :: runs t b r
  | _ => []
def bandR (c : Bd) : List Q4 := runs c.t c.b c.es
def rectsB (l : List Bd) : List Q4 := l.flatMap bandR
theorem runs_range (t b : Int) : ∀ (es : List Int), runs t b es = (List.range (es.length / 2)).map fun x => (es.getD (2 * x) 0, t, es.getD (2 * x + 1) 0, b)
  | [] => rfl
  | [a] => by rw [show [a].length / 2 = 0 by simp]; rfl
  | a :: c :: r => by
    rw [runs, runs_range t b r, show (a :: c :: r).length / 2 = r.length / 2 + 1 by simp only [List.length_cons]; omega, List.range_succ_eq_map, List.map_cons, List.map_map]
    refine congrArg (List.cons _) (List.map_congr_left fun x _ => ?_)
    show _ = ((a :: c :: r).getD (2 * (x + 1)) 0, t, (a :: c :: r).getD (2 * (x + 1) + 1) 0, b)
    rw [show 2 * (x + 1) = 2 * x + 1 + 1 by omega]
    rfl
theorem runs_len (t b : Int) (es : List Int) : (runs t b es).length = es.length / 2 := by rw [runs_range]; simp
theorem runs_fil {t b : Int} (h0 : -1073741824 ≤ t) (h1 : t < b) (h2 : b ≤ 1073741824) : ∀ {es : List Int}, Asc es → (∀ e ∈ es, -1073741824 ≤ e ∧ e ≤ 1073741824) → ∀ r ∈ runs t b es, Fil r
  | [], _, _, r, m => by simp [runs] at m
  | [a], _, _, r, m => by simp [runs] at m
  | a :: c :: es, h, hb, r, m => by
    have h' := h
    unfold Asc at h'
    rw [List.pairwise_cons, List.pairwise_cons] at h'
    rw [runs, List.mem_cons] at m
    rcases m with rfl | m
    · exact ⟨(hb a (by simp)).1, h'.1 c (by simp), (hb c (by simp)).2, h0, h1, h2⟩
    · exact runs_fil h0 h1 h2 h'.2.2 (fun e q => hb e (by simp [q])) r m
theorem rects_fil {l : List Bd} (h : Wf l) (hr : InR l) : ∀ r ∈ rectsB l, Fil r := fun r m => by
  obtain ⟨c, mc, m⟩ := List.mem_flatMap.1 m
  have ok := wf_ok h c mc
  have rc := hr c mc
  exact runs_fil rc.1.1 ok.tb rc.1.2 ok.asc rc.2 r m
theorem runs_size (t b : Int) : ∀ es : List Int, ((runs t b es).map szQ).sum = (b - t) * wid es
  | [] => by simp [runs, wid]
  | [a] => by simp [runs, wid]
  | a :: c :: r => by
    rw [runs, List.map_cons, List.sum_cons, runs_size t b r, wid]
    unfold szQ
    rw [Int.mul_add, Int.mul_comm (c - a)]
theorem rects_size (l : List Bd) : ((rectsB l).map szQ).sum = areaB l := by
  induction l with
  | nil => rfl
  | cons c l ih =>
    unfold rectsB areaB at *
    rw [List.flatMap_cons, List.map_append, List.sum_append, ih, List.map_cons, List.sum_cons]
    congr 1
    exact runs_size c.t c.b c.es
theorem runs_in {t b : Int} (y : Int) : ∀ {es : List Int}, Asc es → es.length % 2 = 0 → ∀ x, anyQ (runs t b es) x y = (decide (t ≤ y ∧ y < b) && inE es x)
  | [], _, _, x => by rw [inE_nil, Bool.and_false]; rfl
  | [a], _, h, x => by simp at h
  | a :: c :: es, h, hl, x => by
    have h' := h
    unfold Asc at h'
    rw [List.pairwise_cons, List.pairwise_cons] at h'
    have ih := runs_in (t := t) (b := b) y h'.2.2 (by simp at hl; omega) x
    have e := inE_two h x
    unfold anyQ at ih ⊢
    rw [runs, List.any_cons, ih]
    unfold inQ
    dsimp only
    unfold one1 at e
    by_cases z : a ≤ x ∧ x < c
    · have : inE (a :: c :: es) x = true := by
        cases q : inE (a :: c :: es) x
        · rw [q, if_pos z] at e
          exfalso
          generalize inE es x = B at e
          revert e
          cases B <;> decide
        · rfl
      rw [this, Bool.and_true]
      by_cases w : t ≤ y ∧ y < b
      · rw [decide_eq_true (by omega), decide_eq_true w, Bool.true_or]
      · rw [decide_eq_false (by omega), decide_eq_false w, Bool.false_or, Bool.false_and]
    · have : inE (a :: c :: es) x = inE es x := by
        rw [if_neg z] at e
        rw [Int.zero_add] at e
        generalize inE (a :: c :: es) x = A at *
        generalize inE es x = B at *
        revert e
        cases A <;> cases B <;> decide
      rw [this, decide_eq_false (by omega), Bool.false_or]
theorem rects_in {l : List Bd} (h : Wf l) (x y : Int) : anyQ (rectsB l) x y = hasP l x y := by
  induction l with
  | nil => rfl
  | cons c l ih =>
    obtain ⟨h1, h2, h3, h4⟩ := h
    have e : anyQ (rectsB (c :: l)) x y = (anyQ (bandR c) x y || anyQ (rectsB l) x y) := by
      unfold anyQ rectsB
      rw [List.flatMap_cons, List.any_append]
    rw [e, ih h4, bandR, runs_in y h1.asc h1.ev]
    unfold hasP
    rw [show rowAt (c :: l) y = if c.t ≤ y ∧ y < c.b then c.es else rowAt l y from rfl]
    by_cases z : c.t ≤ y ∧ y < c.b
    · rw [if_pos z, decide_eq_true z, Bool.true_and, show rowAt l y = [] from rowAt_above fun d m => by have := h2 d m; omega, inE_nil, Bool.or_false]
    · rw [if_neg z, decide_eq_false z, Bool.false_and, Bool.false_or]
/-- no pixels, and no rectangle; or the least rectangle that has them -/
def Hl (P : Int → Int → Bool) (q : Q4) : Prop := (q = (0, 0, 0, 0) ∧ ∀ x y, P x y = false) ∨
  (Fil q ∧ (∀ x y, P x y = true → inQ q x y = true) ∧ (∃ y, P q.1 y = true) ∧ (∃ y, P (q.2.2.1 - 1) y = true) ∧ (∃ x, P x q.2.1 = true) ∧ (∃ x, P x (q.2.2.2 - 1) = true))
theorem inQ_iff {r : Q4} {x y : Int} : inQ r x y = true ↔ r.1 ≤ x ∧ x < r.2.2.1 ∧ r.2.1 ≤ y ∧ y < r.2.2.2 := decide_eq_true_iff
theorem hl_one {P : Int → Int → Bool} {q r : Q4} (h : Hl P q) (k : Hl P r) : q = r := by
  rcases h with ⟨rfl, h⟩ | ⟨f, h, ⟨y1, a1⟩, ⟨y2, a2⟩, ⟨x1, a3⟩, ⟨x2, a4⟩⟩
  · rcases k with ⟨rfl, _⟩ | ⟨_, _, ⟨y, a⟩, _⟩
    · rfl
    · rw [h] at a; cases a
  · rcases k with ⟨rfl, k⟩ | ⟨g, k, ⟨v1, b1⟩, ⟨v2, b2⟩, ⟨u1, b3⟩, ⟨u2, b4⟩⟩
    · rw [k] at a1; cases a1
    · have c1 := inQ_iff.1 (k _ _ a1)
      have c2 := inQ_iff.1 (k _ _ a2)
      have c3 := inQ_iff.1 (k _ _ a3)
      have c4 := inQ_iff.1 (k _ _ a4)
      have d1 := inQ_iff.1 (h _ _ b1)
      have d2 := inQ_iff.1 (h _ _ b2)
      have d3 := inQ_iff.1 (h _ _ b3)
      have d4 := inQ_iff.1 (h _ _ b4)
      obtain ⟨q1, q2, q3, q4⟩ := q
      obtain ⟨r1, r2, r3, r4⟩ := r
      dsimp only at *
      rw [show q1 = r1 by omega, show q2 = r2 by omega, show q3 = r3 by omega, show q4 = r4 by omega]
theorem hl_congr {P Q : Int → Int → Bool} {q : Q4} (h : Hl P q) (e : ∀ x y, P x y = Q x y) : Hl Q q := by
  have : P = Q := funext fun x => funext fun y => e x y
  rwa [← this]
/-- the hull of two -/
def hulQ (q r : Q4) : Q4 := (min q.1 r.1, min q.2.1 r.2.1, max q.2.2.1 r.2.2.1, max q.2.2.2 r.2.2.2)
theorem hl_fil {q : Q4} (f : Fil q) : Hl (inQ q) q := by
  have := f.x1
  have := f.y1
  exact .inr ⟨f, fun _ _ h => h, ⟨q.2.1, inQ_iff.2 (by omega)⟩, ⟨q.2.1, inQ_iff.2 (by omega)⟩, ⟨q.1, inQ_iff.2 (by omega)⟩, ⟨q.1, inQ_iff.2 (by omega)⟩⟩
theorem hl_none : Hl (fun _ _ => false) (0, 0, 0, 0) := .inl ⟨rfl, fun _ _ => rfl⟩
/-- one rectangle more -/
theorem hl_more {P : Int → Int → Bool} {q r : Q4} (h : Hl P q) (f : Fil r) : Hl (fun x y => P x y || inQ r x y) (if q = (0, 0, 0, 0) then r else hulQ q r) := by
  rcases h with ⟨rfl, h⟩ | ⟨g, h, ⟨y1, a1⟩, ⟨y2, a2⟩, ⟨x1, a3⟩, ⟨x2, a4⟩⟩
  · rw [if_pos rfl]
    exact hl_congr (hl_fil f) fun x y => by rw [h, Bool.false_or]
  · have gx := g.x1
    have gy := g.y1
    have fx := f.x1
    have fy := f.y1
    rw [if_neg (by rintro rfl; dsimp only at gx; omega)]
    refine .inr ⟨⟨?_, ?_, ?_, ?_, ?_, ?_⟩, fun x y k => ?_, ?_, ?_, ?_, ?_⟩
    · have := g.x0; have := f.x0; unfold hulQ; dsimp only; omega
    · unfold hulQ; dsimp only; omega
    · have := g.x2; have := f.x2; unfold hulQ; dsimp only; omega
    · have := g.y0; have := f.y0; unfold hulQ; dsimp only; omega
    · unfold hulQ; dsimp only; omega
    · have := g.y2; have := f.y2; unfold hulQ; dsimp only; omega
    · rw [Bool.or_eq_true] at k
      refine inQ_iff.2 ?_
      unfold hulQ
      dsimp only
      rcases k with k | k
      · have := inQ_iff.1 (h _ _ k); omega
      · have := inQ_iff.1 k; omega
    · by_cases c : q.1 ≤ r.1
      · exact ⟨y1, by show (P (hulQ q r).1 y1 || inQ r (hulQ q r).1 y1) = true; rw [show (hulQ q r).1 = q.1 by unfold hulQ; dsimp only; omega, a1, Bool.true_or]⟩
      · exact ⟨r.2.1, by show (P (hulQ q r).1 r.2.1 || inQ r (hulQ q r).1 r.2.1) = true; rw [show (hulQ q r).1 = r.1 by unfold hulQ; dsimp only; omega, inQ_iff.2 (by omega), Bool.or_true]⟩
    · by_cases c : r.2.2.1 ≤ q.2.2.1
      · exact ⟨y2, by show (P ((hulQ q r).2.2.1 - 1) y2 || inQ r ((hulQ q r).2.2.1 - 1) y2) = true; rw [show (hulQ q r).2.2.1 = q.2.2.1 by unfold hulQ; dsimp only; omega, a2, Bool.true_or]⟩
      · exact ⟨r.2.1, by show (P ((hulQ q r).2.2.1 - 1) r.2.1 || inQ r ((hulQ q r).2.2.1 - 1) r.2.1) = true; rw [show (hulQ q r).2.2.1 = r.2.2.1 by unfold hulQ; dsimp only; omega, inQ_iff.2 (by omega), Bool.or_true]⟩
    · by_cases c : q.2.1 ≤ r.2.1
      · exact ⟨x1, by show (P x1 (hulQ q r).2.1 || inQ r x1 (hulQ q r).2.1) = true; rw [show (hulQ q r).2.1 = q.2.1 by unfold hulQ; dsimp only; omega, a3, Bool.true_or]⟩
      · exact ⟨r.1, by show (P r.1 (hulQ q r).2.1 || inQ r r.1 (hulQ q r).2.1) = true; rw [show (hulQ q r).2.1 = r.2.1 by unfold hulQ; dsimp only; omega, inQ_iff.2 (by omega), Bool.or_true]⟩
    · by_cases c : r.2.2.2 ≤ q.2.2.2
      · exact ⟨x2, by show (P x2 ((hulQ q r).2.2.2 - 1) || inQ r x2 ((hulQ q r).2.2.2 - 1)) = true; rw [show (hulQ q r).2.2.2 = q.2.2.2 by unfold hulQ; dsimp only; omega, a4, Bool.true_or]⟩
      · exact ⟨r.1, by show (P r.1 ((hulQ q r).2.2.2 - 1) || inQ r r.1 ((hulQ q r).2.2.2 - 1)) = true; rw [show (hulQ q r).2.2.2 = r.2.2.2 by unfold hulQ; dsimp only; omega, inQ_iff.2 (by omega), Bool.or_true]⟩
/-- the hull of the first so many -/
def hullN (rs : List Q4) : Nat → Q4
  | 0 => (0, 0, 0, 0)
  | n + 1 => match rs[n]? with
    | some r => if hullN rs n = (0, 0, 0, 0) then r else hulQ (hullN rs n) r
    | none => hullN rs n
theorem anyQ_take (rs : List Q4) (n : Nat) (r : Q4) (h : rs[n]? = some r) (x y : Int) : anyQ (rs.take (n + 1)) x y = (anyQ (rs.take n) x y || inQ r x y) := by
  unfold anyQ
  rw [List.take_add_one, h, Option.toList_some, List.any_append, List.any_cons, List.any_nil, Bool.or_false]
theorem hullN_hl {rs : List Q4} (h : ∀ r ∈ rs, Fil r) : ∀ n, n ≤ rs.length → Hl (anyQ (rs.take n)) (hullN rs n)
  | 0, _ => .inl ⟨rfl, fun x y => rfl⟩
  | n + 1, hn => by
    have e : rs[n]? = some rs[n] := List.getElem?_eq_getElem (by omega)
    have ih := hullN_hl h n (by omega)
    have := hl_more ih (h rs[n] (List.getElem_mem _))
    rw [show hullN rs (n + 1) = if hullN rs n = (0, 0, 0, 0) then rs[n] else hulQ (hullN rs n) rs[n] by rw [hullN, e]]
    exact hl_congr this fun x y => (anyQ_take rs n _ e x y).symm
theorem hullN_step (rs : List Q4) (n : Nat) (r : Q4) (h : rs[n]? = some r) : hullN rs (n + 1) = if hullN rs n = (0, 0, 0, 0) then r else hulQ (hullN rs n) r := by rw [hullN, h]
theorem hull_bands {l : List Bd} (h : Wf l) (hr : InR l) : Hl (hasP l) (hullN (rectsB l) (rectsB l).length) := by
  have := hullN_hl (rects_fil h hr) (rectsB l).length (Nat.le_refl _)
  rw [List.take_length] at this
  exact hl_congr this fun x y => rects_in h x y
/-- the sum of the first so many -/
theorem size_take {rs : List Q4} (h : ∀ r ∈ rs, Fil r) (n : Nat) : 0 ≤ ((rs.take n).map szQ).sum ∧ ((rs.take n).map szQ).sum ≤ (rs.map szQ).sum := by
  have p : ∀ l : List Q4, (∀ r ∈ l, Fil r) → 0 ≤ (l.map szQ).sum := by
    intro l
    induction l with
    | nil => intro _; simp
    | cons r l ih =>
      intro hl
      have f := hl r (by simp)
      have := ih fun s m => hl s (by simp [m])
      have q : 0 ≤ szQ r := by
        unfold szQ
        exact Int.mul_nonneg (by have := f.x1; omega) (by have := f.y1; omega)
      rw [List.map_cons, List.sum_cons]
      omega
  have e : (rs.map szQ).sum = ((rs.take n).map szQ).sum + ((rs.drop n).map szQ).sum := by
    rw [← List.sum_append, ← List.map_append, List.take_append_drop]
  have a := p (rs.take n) fun r m => h r (List.mem_of_mem_take m)
  have b := p (rs.drop n) fun r m => h r (List.mem_of_mem_drop m)
  omega
theorem size_bands {l : List Bd} (h : Wf l) (hr : InR l) : ((rectsB l).map szQ).sum = areaP (hasP l) := by rw [rects_size, area_bands l h hr]
end Go.Proofs.Bands
/- Sets of pixels as bands: what is left of them within the range when they are moved. Program-free. -/
namespace Go.Proofs.Bands
set_option linter.unusedVariables false
set_option linter.unusedSimpArgs false
def limB (n : Int) : Int := min (max n (-1073741824)) 1073741824
/-- the edges of a row, moved -/
def mvE (n : Int) : List Int → List Int
  | a :: c :: r => (if limB (a + n) < limB (c + n) then [limB (a + n), limB (c + n)] else []) ++ mvE n r
  | _ => []
theorem mvE_mem (n : Int) : ∀ {es : List Int} {e : Int}, Asc es → e ∈ mvE n es → ∃ a c, a ∈ es ∧ c ∈ es ∧ a < c ∧ limB (a + n) < limB (c + n) ∧ (e = limB (a + n) ∨ e = limB (c + n))
  | [], e, _, m => by simp [mvE] at m
  | [a], e, _, m => by simp [mvE] at m
  | a :: c :: r, e, h, m => by
    have h' := h
    unfold Asc at h'
    rw [List.pairwise_cons, List.pairwise_cons] at h'
    rw [mvE, List.mem_append] at m
    rcases m with m | m
    · by_cases q : limB (a + n) < limB (c + n)
      · rw [if_pos q] at m
        exact ⟨a, c, by simp, by simp, h'.1 c (by simp), q, by simpa using m⟩
      · rw [if_neg q] at m; simp at m
    · obtain ⟨x, y, mx, my, h1, h2, h3⟩ := mvE_mem n h'.2.2 m
      exact ⟨x, y, by simp [mx], by simp [my], h1, h2, h3⟩
theorem mvE_ok (n : Int) : ∀ {es : List Int}, Asc es → Asc (mvE n es) ∧ (mvE n es).length % 2 = 0 ∧ (mvE n es).length ≤ es.length
  | [], _ => ⟨List.Pairwise.nil, rfl, Nat.le_refl _⟩
  | [a], _ => ⟨List.Pairwise.nil, rfl, by simp [mvE]⟩
  | a :: c :: r, h => by
    have h' := h
    unfold Asc at h'
    rw [List.pairwise_cons, List.pairwise_cons] at h'
    obtain ⟨i1, i2, i3⟩ := mvE_ok n h'.2.2
    rw [mvE]
    by_cases q : limB (a + n) < limB (c + n)
    · rw [if_pos q]
      have low : ∀ e ∈ mvE n r, limB (c + n) < e := fun e m => by
        obtain ⟨x, y, mx, my, h1, h2, h3⟩ := mvE_mem n h'.2.2 m
        have := h'.2.1 x mx
        have := h'.2.1 y my
        unfold limB at *
        omega
      refine ⟨?_, by simp; omega, by simp; omega⟩
      unfold Asc
      rw [List.cons_append, List.cons_append, List.nil_append, List.pairwise_cons, List.pairwise_cons]
      refine ⟨fun e m => ?_, low, i1⟩
      rcases List.mem_cons.1 m with rfl | m
      · exact q
      · have := low e m; omega
    · rw [if_neg q]
      exact ⟨i1, i2, by simp; omega⟩
theorem mvE_rng (n : Int) {es : List Int} (h : Asc es) : ∀ e ∈ mvE n es, -1073741824 ≤ e ∧ e ≤ 1073741824 := fun e m => by
  obtain ⟨x, y, _, _, _, _, h3⟩ := mvE_mem n h m
  unfold limB at h3
  omega
theorem mvE_in (n : Int) : ∀ {es : List Int}, Asc es → es.length % 2 = 0 → ∀ x, inE (mvE n es) x = (decide (-1073741824 ≤ x ∧ x < 1073741824) && inE es (x - n))
  | [], _, _, x => by rw [inE_nil, Bool.and_false]; rfl
  | [a], _, h, x => by simp at h
  | a :: c :: r, h, hl, x => by
    have h' := h
    unfold Asc at h'
    rw [List.pairwise_cons, List.pairwise_cons] at h'
    have ac := h'.1 c (by simp)
    have ih := mvE_in n h'.2.2 (by simp at hl; omega) x
    have e1 := inE_two h (x - n)
    have ok := (mvE_ok n h).1
    rw [mvE] at ok ⊢
    have key : ∀ A B B' : Bool, (one1 A = 1 + one1 B → A = true) ∧ (one1 A = 0 + one1 B → A = B) := by
      intro A B B'; unfold one1; cases A <;> cases B <;> decide
    by_cases q : limB (a + n) < limB (c + n)
    · rw [if_pos q] at ok ⊢
      rw [List.cons_append, List.cons_append, List.nil_append] at ok ⊢
      have e2 := inE_two ok x
      by_cases z : limB (a + n) ≤ x ∧ x < limB (c + n)
      · rw [if_pos z] at e2
        have z1 : -1073741824 ≤ x ∧ x < 1073741824 := by unfold limB at z; omega
        have z2 : a ≤ x - n ∧ x - n < c := by unfold limB at z; omega
        rw [if_pos z2] at e1
        rw [(key _ _ true).1 e2, (key _ _ true).1 e1, decide_eq_true z1]
        rfl
      · rw [if_neg z] at e2
        rw [(key _ _ true).2 e2, ih]
        by_cases z1 : -1073741824 ≤ x ∧ x < 1073741824
        · have z2 : ¬ (a ≤ x - n ∧ x - n < c) := by unfold limB at z; omega
          rw [if_neg z2] at e1
          rw [(key _ _ true).2 e1]
        · rw [decide_eq_false z1, Bool.false_and, Bool.false_and]
    · rw [if_neg q, List.nil_append, ih]
      by_cases z1 : -1073741824 ≤ x ∧ x < 1073741824
      · have z2 : ¬ (a ≤ x - n ∧ x - n < c) := by unfold limB at q; omega
        rw [if_neg z2] at e1
        rw [(key _ _ true).2 e1]
      · rw [decide_eq_false z1, Bool.false_and, Bool.false_and]
/-- a band, moved -/
def mvB (nx ny : Int) (d : Bd) : Bd := ⟨limB (d.t + ny), limB (d.b + ny), if limB (d.t + ny) < limB (d.b + ny) then mvE nx d.es else []⟩
theorem wf_take {l : List Bd} (h : Wf l) : ∀ k, Wf (l.take k) := by
  induction l with
  | nil => intro k; simp [Wf]
  | cons c l ih =>
    obtain ⟨h1, h2, h3, h4⟩ := h
    intro k
    match k with
    | 0 => simp [Wf]
    | k + 1 =>
      rw [List.take_succ_cons]
      refine ⟨h1, fun d m => h2 d (List.mem_of_mem_take m), fun d e => h3 d ?_, ih h4 k⟩
      cases l with
      | nil => simp at e
      | cons a l =>
        match k with
        | 0 => simp at e
        | k + 1 => simpa using e
theorem rects_take' {l : List Bd} {j : Nat} {d : Bd} (h : l[j]? = some d) : rectsB (l.take (j + 1)) = rectsB (l.take j) ++ bandR d := by
  unfold rectsB
  rw [List.take_add_one, h, Option.toList_some, List.flatMap_append]
  simp
theorem has_take {l : List Bd} (h : Wf l) {j : Nat} {d : Bd} (e : l[j]? = some d) (x y : Int) : hasP (l.take (j + 1)) x y = (hasP (l.take j) x y || (decide (d.t ≤ y ∧ y < d.b) && inE d.es x)) := by
  have ok := wf_ok h d (List.mem_of_getElem? e)
  rw [← rects_in (wf_take h (j + 1)), ← rects_in (wf_take h j), rects_take' e, ← runs_in y ok.asc ok.ev]
  unfold anyQ bandR
  rw [List.any_append]
def inG (x y : Int) : Bool := decide (-1073741824 ≤ x ∧ x < 1073741824) && decide (-1073741824 ≤ y ∧ y < 1073741824)
theorem has_stk {l : List Bd} {c : Bd} (hl : Wf l) (tb : c.t < c.b) (hb : ∀ d ∈ l, d.b ≤ c.t) (x y : Int) : hasP (stk l c) x y = (hasP l x y || (decide (c.t ≤ y ∧ y < c.b) && inE c.es x)) := by
  unfold hasP
  rw [stk_row hl tb hb]
  by_cases z : c.t ≤ y ∧ y < c.b
  · rw [if_pos z, decide_eq_true z, Bool.true_and, show rowAt l y = [] from rowAt_below fun d m => by have := hb d m; omega, inE_nil, Bool.false_or]
  · rw [if_neg z, decide_eq_false z, Bool.false_and, Bool.or_false]
/-- the bands of the first so many, moved -/
structure Mv (nx ny : Int) (l : List Bd) (j : Nat) (m : List Bd) : Prop where
  wf : Wf m
  inr : InR m
  has : ∀ x y, hasP m x y = (inG x y && hasP (l.take j) (x - nx) (y - ny))
  low : ∀ e, l[j]? = some e → ∀ d ∈ m, d.b ≤ limB (e.t + ny)
  few : ∀ K, (∀ d ∈ l, d.es.length ≤ K) → ∀ d ∈ m, d.es.length ≤ K
theorem Mv.start (nx ny : Int) (l : List Bd) : Mv nx ny l 0 [] :=
  ⟨trivial, fun d m => by simp at m, fun x y => by rw [List.take_zero]; unfold hasP rowAt; rw [inE_nil, inE_nil, Bool.and_false], fun _ _ d m => by simp at m, fun _ _ d m => by simp at m⟩
theorem stk_inr {l : List Bd} {c : Bd} (h : InR l) (hc : -1073741824 ≤ c.t ∧ c.b ≤ 1073741824) (he : ∀ e ∈ c.es, -1073741824 ≤ e ∧ e ≤ 1073741824) : InR (stk l c) := fun d m => by
  rcases stk_mem _ _ _ m with ⟨g, mg, tg, eg, bg⟩ | rfl
  · have := h g mg
    rw [← tg, ← eg]
    refine ⟨⟨this.1.1, ?_⟩, this.2⟩
    rcases bg with q | q
    · rw [q]; exact this.1.2
    · rw [q]; exact hc.2
  · exact ⟨hc, he⟩
theorem stk_nil (l : List Bd) (t b : Int) : stk l ⟨t, b, []⟩ = l := by
  induction l with
  | nil => rfl
  | cons d l ih =>
    cases l with
    | nil => simp [stk]
    | cons e l => unfold stk; rw [ih]
theorem Mv.step {nx ny : Int} {l m : List Bd} {j : Nat} (h : Mv nx ny l j m) (hl : Wf l) {d : Bd} (hd : l[j]? = some d) : Mv nx ny l (j + 1) (stk m (mvB nx ny d)) := by
  have ok := wf_ok hl d (List.mem_of_getElem? hd)
  obtain ⟨a1, a2, a3⟩ := mvE_ok nx ok.asc
  have low2 : ∀ e, l[j + 1]? = some e → d.b ≤ e.t := fun e he => by
    have : ∀ (l : List Bd) (j : Nat), Wf l → l[j]? = some d → l[j + 1]? = some e → d.b ≤ e.t := by
      intro l
      induction l with
      | nil => intro j _ h; simp at h
      | cons a l ih =>
        intro j hw h1 h2
        match j with
        | 0 =>
          simp at h1
          subst h1
          exact hw.2.1 e (List.mem_of_getElem? (by simpa using h2))
        | j + 1 => exact ih j hw.2.2.2 (by simpa using h1) (by simpa using h2)
    exact this l j hl hd he
  have tb := ok.tb
  by_cases q : limB (d.t + ny) < limB (d.b + ny)
  · have e : mvB nx ny d = ⟨limB (d.t + ny), limB (d.b + ny), mvE nx d.es⟩ := by unfold mvB; rw [if_pos q]
    rw [e]
    have lo := h.low d hd
    refine ⟨stk_wf h.wf q a1 a2 lo, stk_inr h.inr ⟨by show -1073741824 ≤ limB (d.t + ny); unfold limB; omega, by show limB (d.b + ny) ≤ 1073741824; unfold limB; omega⟩ (mvE_rng nx ok.asc), fun x y => ?_, fun f hf g mg => ?_, fun K hK g mg => ?_⟩
    · rw [has_stk h.wf q lo, h.has, has_take hl hd, mvE_in nx ok.asc ok.ev]
      unfold inG
      dsimp only
      by_cases zx : -1073741824 ≤ x ∧ x < 1073741824
      · by_cases zy : -1073741824 ≤ y ∧ y < 1073741824
        · rw [decide_eq_true zx, decide_eq_true zy, show decide (limB (d.t + ny) ≤ y ∧ y < limB (d.b + ny)) = decide (d.t ≤ y - ny ∧ y - ny < d.b) from decide_eq_decide.2 (by unfold limB; omega)]
          simp
        · rw [decide_eq_true zx, decide_eq_false zy, show decide (limB (d.t + ny) ≤ y ∧ y < limB (d.b + ny)) = false from decide_eq_false (by unfold limB; omega)]
          simp
      · rw [decide_eq_false zx]
        simp
    · have := stk_low (l := m) (c := ⟨limB (d.t + ny), limB (d.b + ny), mvE nx d.es⟩) q lo g mg
      have := low2 f hf
      dsimp only at *
      unfold limB at *
      omega
    · rcases stk_mem _ _ _ mg with ⟨g', mg', _, eg, _⟩ | rfl
      · rw [← eg]; exact h.few K hK g' mg'
      · have := hK d (List.mem_of_getElem? hd)
        show (mvE nx d.es).length ≤ K
        omega
  · have e : mvB nx ny d = ⟨limB (d.t + ny), limB (d.b + ny), []⟩ := by unfold mvB; rw [if_neg q]
    rw [e, stk_nil]
    refine ⟨h.wf, h.inr, fun x y => ?_, fun f hf g mg => ?_, h.few⟩
    · rw [h.has, has_take hl hd]
      unfold inG
      by_cases zy : -1073741824 ≤ y ∧ y < 1073741824
      · rw [show decide (d.t ≤ y - ny ∧ y - ny < d.b) = false from decide_eq_false (by unfold limB at q; omega), Bool.false_and, Bool.or_false]
      · rw [decide_eq_false zy, Bool.and_false, Bool.false_and, Bool.false_and]
    · have := h.low d hd g mg
      have := low2 f hf
      unfold limB at *
      omega
theorem Mv.fin {nx ny : Int} {l m : List Bd} {j : Nat} (h : Mv nx ny l j m) (hj : j = l.length) : ∀ x y, hasP m x y = (inG x y && hasP l (x - nx) (y - ny)) := by
  have := h.has
  rwa [hj, List.take_length] at this
end Go.Proofs.Bands
namespace Go.Proofs.Bands
/-- the edges of rectangles, moved -/
def mvR (n : Int) (ok : Prop) [Decidable ok] (rs : List Q4) : List Int := rs.flatMap fun r => if limB (r.1 + n) < limB (r.2.2.1 + n) ∧ ok then [limB (r.1 + n), limB (r.2.2.1 + n)] else []
theorem mvR_runs (n : Int) (ok : Prop) [Decidable ok] (t b : Int) : ∀ es : List Int, mvR n ok (runs t b es) = if ok then mvE n es else []
  | [] => by simp [mvR, runs, mvE]
  | [a] => by simp [mvR, runs, mvE]
  | a :: c :: r => by
    have ih := mvR_runs n ok t b r
    unfold mvR at ih ⊢
    rw [runs, List.flatMap_cons, ih, mvE]
    by_cases o : ok
    · rw [if_pos o, if_pos o]
      by_cases q : limB (a + n) < limB (c + n)
      · rw [if_pos ⟨q, o⟩, if_pos q]
      · rw [if_neg (fun h => q h.1), if_neg q]
    · rw [if_neg o, if_neg o, if_neg (fun h => o h.2)]
      rfl
theorem mvR_take (n : Int) (ok : Prop) [Decidable ok] {rs : List Q4} {j : Nat} {r : Q4} (h : rs[j]? = some r) : mvR n ok (rs.take (j + 1)) = mvR n ok (rs.take j) ++ if limB (r.1 + n) < limB (r.2.2.1 + n) ∧ ok then [limB (r.1 + n), limB (r.2.2.1 + n)] else [] := by
  unfold mvR
  rw [List.take_add_one, h, Option.toList_some, List.flatMap_append, List.flatMap_cons, List.flatMap_nil, List.append_nil]
theorem runs_mem {t b : Int} : ∀ {es : List Int} {r : Q4}, r ∈ runs t b es → r.2.1 = t ∧ r.2.2.2 = b
  | [], r, m => by simp [runs] at m
  | [a], r, m => by simp [runs] at m
  | a :: c :: es, r, m => by
    rw [runs, List.mem_cons] at m
    rcases m with rfl | m
    · exact ⟨rfl, rfl⟩
    · exact runs_mem m
theorem mvR_len (n : Int) (ok : Prop) [Decidable ok] (rs : List Q4) : (mvR n ok rs).length ≤ 2 * rs.length := by
  induction rs with
  | nil => simp [mvR]
  | cons r rs ih =>
    unfold mvR at *
    rw [List.flatMap_cons, List.length_append, List.length_cons]
    split
    · simp only [List.length_cons, List.length_nil]; omega
    · simp only [List.length_nil]; omega
end Go.Proofs.Bands
/- Sets of pixels as bands: where edges can lie, and how many there can be. Program-free. -/
namespace Go.Proofs.Bands
set_option linter.unusedVariables false
set_option linter.unusedSimpArgs false
theorem cnt_edge : ∀ {es : List Int} {e : Int}, Asc es → e ∈ es → cntB es e = cntB es (e - 1) + 1
  | [], e, _, m => by simp at m
  | a :: es, e, h, m => by
    have h' := h
    unfold Asc at h'
    rw [List.pairwise_cons] at h'
    rw [cnt_cons, cnt_cons]
    rcases List.mem_cons.1 m with rfl | m
    · rw [if_pos (Int.le_refl _), if_neg (by omega), cnt_none fun f mf => h'.1 f mf, cnt_none fun f mf => by have := h'.1 f mf; omega]
    · have := h'.1 e m
      rw [if_pos (by omega), if_pos (by omega), cnt_edge h'.2 m]
      omega
theorem in_edge {es : List Int} {e : Int} (h : Asc es) (m : e ∈ es) : inE es (e - 1) ≠ inE es e := by
  unfold inE
  rw [cnt_edge h m]
  intro q
  by_cases z : cntB es (e - 1) % 2 = 1
  · rw [z, show (cntB es (e - 1) + 1) % 2 = 0 by omega] at q; cases q
  · rw [show cntB es (e - 1) % 2 = 0 by omega, show (cntB es (e - 1) + 1) % 2 = 1 by omega] at q; cases q
theorem asc_sub : ∀ {S es : List Int}, Asc es → (∀ e ∈ es, e ∈ S) → es.length ≤ S.length
  | [], es, _, h => by
    cases es with
    | nil => simp
    | cons e es => have := h e (by simp); simp at this
  | s :: S, es, ha, h => by
    have a : Asc (es.filter fun e => e != s) := List.Pairwise.sublist List.filter_sublist ha
    have ih := asc_sub (S := S) a fun e m => by
      rw [List.mem_filter] at m
      rcases List.mem_cons.1 (h e m.1) with rfl | q
      · simp at m
      · exact q
    have one : ∀ {es : List Int}, Asc es → es.length ≤ (es.filter fun e => e != s).length + 1 := by
      intro es
      induction es with
      | nil => intro _; simp
      | cons e es ih =>
        intro h
        have h' := h
        unfold Asc at h'
        rw [List.pairwise_cons] at h'
        by_cases q : e = s
        · subst q
          rw [List.filter_cons_of_neg (by simp), List.filter_eq_self.2 fun f m => by have := h'.1 f m; simp; omega]
          simp
        · have := ih h'.2
          rw [List.filter_cons_of_pos (by simpa using q), List.length_cons, List.length_cons]
          omega
    have := one ha
    rw [List.length_cons]
    omega
/-- edges lie in a list -/
def EdgeIn (P : Int → Int → Bool) (S : List Int) : Prop := ∀ x y, x ∉ S → P (x - 1) y = P x y
theorem few_of {l : List Bd} (hw : Wf l) {P : Int → Int → Bool} {S : List Int} (e : EdgeIn P S) (h : ∀ x y, hasP l x y = P x y) : ∀ d ∈ l, d.es.length ≤ S.length := fun d m => by
  have ok := wf_ok hw d m
  refine asc_sub ok.asc fun x mx => ?_
  by_cases q : x ∈ S
  · exact q
  · exfalso
    have r : ∀ z, hasP l z d.t = inE d.es z := fun z => by
      have : ∀ {l : List Bd}, Wf l → d ∈ l → rowAt l d.t = d.es := by
        intro l
        induction l with
        | nil => intro _ m; simp at m
        | cons c l ih =>
          intro hw m
          obtain ⟨h1, h2, h3, h4⟩ := hw
          unfold rowAt
          rcases List.mem_cons.1 m with rfl | m
          · have := h1.tb; rw [if_pos (by omega)]
          · have := h2 d m
            have := h1.tb
            rw [if_neg (by omega)]
            exact ih h4 m
      unfold hasP
      rw [this hw m]
    have := e x d.t q
    rw [← h, ← h, r, r] at this
    exact in_edge ok.asc mx this
theorem edge_rect (r : Q4) : EdgeIn (inQ r) [r.1, r.2.2.1] := fun x y h => by
  simp at h
  unfold inQ
  exact decide_eq_decide.2 (by omega)
theorem edge_none : EdgeIn (fun _ _ => false) [] := fun _ _ _ => rfl
theorem edge_two {P Q : Int → Int → Bool} {S T : List Int} (f : Bool → Bool → Bool) (h : EdgeIn P S) (k : EdgeIn Q T) : EdgeIn (fun x y => f (P x y) (Q x y)) (S ++ T) := fun x y m => by
  rw [List.mem_append] at m
  show f (P (x - 1) y) (Q (x - 1) y) = f (P x y) (Q x y)
  rw [h x y fun q => m (.inl q), k x y fun q => m (.inr q)]
end Go.Proofs.Bands
