/- Bands within a field of 40 by 40, scanned from the top and from the left. Program-free. -/
import Derived.Test.YtjemnjboopabpaaAreaQ
namespace Go.Proofs.Bands
set_option linter.unusedVariables false
set_option linter.unusedSimpArgs false
/-- edges within the field -/
def E40 (es : List Int) : Prop := ∀ e ∈ es, 0 ≤ e ∧ e ≤ 40
theorem getD_memE {es : List Int} {p : Nat} (h : p < es.length) : es.getD p 0 ∈ es := by
  rw [List.getD_eq_getElem?_getD, List.getElem?_eq_getElem h]
  exact List.getElem_mem h
/-- i runs lie before x, the others at x or behind it -/
structure Scan (es : List Int) (i : Nat) (x : Int) : Prop where
  le : 2 * i ≤ es.length
  lo : ∀ p, p < 2 * i → es.getD p 0 ≤ x
  hi : ∀ p, 2 * i ≤ p → p < es.length → x ≤ es.getD p 0
theorem Scan.start {es : List Int} (h : E40 es) : Scan es 0 0 :=
  ⟨Nat.zero_le _, fun p hp => absurd hp (by omega), fun p _ hl => (h _ (getD_memE hl)).1⟩
theorem Scan.out {es : List Int} {i : Nat} {x : Int} (h : Scan es i x) (ha : Asc es) (ev : es.length % 2 = 0) (hx : inE es x = false) : Scan es i (x + 1) := by
  refine ⟨h.le, fun p hp => by have := h.lo p hp; omega, fun p hp hl => ?_⟩
  have h1 := h.hi p hp hl
  rcases Int.lt_or_eq_of_le h1 with q | q
  · omega
  · exfalso
    have p2 : p = 2 * i := by
      rcases Nat.eq_or_lt_of_le hp with r | r
      · exact r.symm
      · have := asc_get ha r hl
        have := h.hi (2 * i) (Nat.le_refl _) (by omega)
        omega
    subst p2
    have c := cnt_at (es := es) (x := x) (2 * i + 1) (by omega) (fun r hr => by
      rcases Nat.lt_succ_iff_lt_or_eq.1 hr with s | s
      · exact h.lo r s
      · subst s; omega) (fun r hr hl2 => by have := asc_get ha (p := 2 * i) (q := r) (by omega) hl2; omega)
    unfold inE at hx
    rw [c] at hx
    simp at hx
theorem asc_le {es : List Int} (ha : Asc es) {p q : Nat} (h : p ≤ q) (hq : q < es.length) : es.getD p 0 ≤ es.getD q 0 := by
  rcases Nat.eq_or_lt_of_le h with e | e
  · subst e; exact Int.le_refl _
  · exact Int.le_of_lt (asc_get ha e hq)
theorem Scan.at {es : List Int} {i : Nat} {x : Int} (h : Scan es i x) (ha : Asc es) (ev : es.length % 2 = 0) (hx : inE es x = true) : 2 * i + 1 < es.length ∧ es.getD (2 * i) 0 = x := by
  have c := fun (k : ∀ p, 2 * i ≤ p → p < es.length → x < es.getD p 0) => cnt_at (es := es) (x := x) (2 * i) h.le (fun p hp => h.lo p hp) k
  unfold inE at hx
  by_cases l : 2 * i < es.length
  · refine ⟨by omega, ?_⟩
    rcases Int.lt_or_eq_of_le (h.hi (2 * i) (Nat.le_refl _) l) with q | q
    · exfalso
      rw [c fun p hp hl => by have := asc_le ha hp hl; omega] at hx
      simp at hx
    · exact q.symm
  · exfalso
    rw [c fun p hp hl => absurd hl (by omega)] at hx
    simp at hx
theorem run_in {es : List Int} (ha : Asc es) {i : Nat} (hl : 2 * i + 1 < es.length) {x : Int} (h0 : es.getD (2 * i) 0 ≤ x) (h1 : x < es.getD (2 * i + 1) 0) : inE es x = true := by
  have c := cnt_at (es := es) (x := x) (2 * i + 1) (by omega) (fun p hp => by have := asc_le ha (p := p) (q := 2 * i) (by omega) (by omega); omega) (fun p hp hq => by have := asc_le ha hp hq; omega)
  unfold inE
  rw [c]
  simp
theorem run_out {es : List Int} (ha : Asc es) {i : Nat} (hl : 2 * i + 1 < es.length) : inE es (es.getD (2 * i + 1) 0) = false := by
  have c := cnt_at (es := es) (x := es.getD (2 * i + 1) 0) (2 * i + 2) (by omega) (fun p hp => asc_le ha (by omega) hl) (fun p hp hq => asc_get ha (by omega) hq)
  unfold inE
  rw [c]
  simp
theorem Scan.next {es : List Int} {i : Nat} {x : Int} (h : Scan es i x) (ha : Asc es) (hl : 2 * i + 1 < es.length) : Scan es (i + 1) (es.getD (2 * i + 1) 0) :=
  ⟨by omega, fun p hp => asc_le ha (by omega) hl, fun p hp hq => asc_le ha (by omega) hq⟩
theorem Scan.done {es : List Int} {i : Nat} (h : Scan es i 40) (ha : Asc es) (ev : es.length % 2 = 0) (hb : E40 es) : i = es.length / 2 := by
  have := h.le
  rcases Nat.lt_or_ge (2 * i) es.length with l | l
  · exfalso
    have a := h.hi (2 * i) (Nat.le_refl _) l
    have b := asc_get ha (p := 2 * i) (q := 2 * i + 1) (by omega) (by omega)
    have c := hb _ (getD_memE (p := 2 * i + 1) (by omega))
    omega
  · omega
theorem inE_left {es : List Int} (hb : E40 es) {x : Int} (h : x < 0) : inE es x = false := by
  unfold inE
  rw [cnt_none fun e m => by have := hb e m; omega]
  rfl
theorem inE_right {es : List Int} (hb : E40 es) (ev : es.length % 2 = 0) {x : Int} (h : 40 ≤ x) : inE es x = false := by
  unfold inE
  rw [cnt_all fun e m => by have := hb e m; omega, ev]
  rfl
theorem row40 {a b : List Int} (ha : Asc a) (hb : Asc b) (ea : a.length % 2 = 0) (eb : b.length % 2 = 0) (ba : E40 a) (bb : E40 b) (h : ∀ x : Nat, x < 40 → inE a x = inE b x) : a = b :=
  row_one ha hb fun x => by
    by_cases n : x < 0
    · rw [inE_left ba n, inE_left bb n]
    · by_cases m : x < 40
      · have := h x.toNat (by omega)
        rwa [show ((x.toNat : Nat) : Int) = x by omega] at this
      · rw [inE_right ba ea (by omega), inE_right bb eb (by omega)]
/-- bands within the field -/
def L40 (l : List Bd) : Prop := ∀ d ∈ l, (0 ≤ d.t ∧ d.b ≤ 40) ∧ E40 d.es
theorem row_e40 {l : List Bd} (h : L40 l) (y : Int) : E40 (rowAt l y) := by
  by_cases e : rowAt l y = []
  · rw [e]; intro e m; cases m
  · obtain ⟨d, m, _, _, q⟩ := rowAt_mem e
    rw [q]; exact (h d m).2
/-- j bands lie above y, the others at y or below it -/
structure Down (l : List Bd) (j : Nat) (y : Int) : Prop where
  le : j ≤ l.length
  lo : ∀ k d, k < j → l[k]? = some d → d.b ≤ y
  hi : ∀ k d, j ≤ k → l[k]? = some d → y ≤ d.t
theorem Down.start {l : List Bd} (h : L40 l) : Down l 0 0 :=
  ⟨Nat.zero_le _, fun k d hk => absurd hk (by omega), fun k d _ m => (h d (List.mem_of_getElem? m)).1.1⟩
theorem wf_get {l : List Bd} (h : Wf l) : ∀ {p q : Nat} {c d : Bd}, p < q → l[p]? = some c → l[q]? = some d → c.b ≤ d.t := by
  induction l with
  | nil => intro p q c d _ m; simp at m
  | cons a l ih =>
    intro p q c d hpq hc hd
    obtain ⟨h1, h2, h3, h4⟩ := h
    obtain ⟨q, rfl⟩ : ∃ r, q = r + 1 := ⟨q - 1, by omega⟩
    rw [List.getElem?_cons_succ] at hd
    cases p with
    | zero =>
      rw [List.getElem?_cons_zero] at hc
      obtain rfl := Option.some.inj hc
      exact h2 d (List.mem_of_getElem? hd)
    | succ p =>
      rw [List.getElem?_cons_succ] at hc
      exact ih h4 (by omega) hc hd
theorem rowAt_get {l : List Bd} (h : Wf l) : ∀ {j : Nat} {d : Bd} {y : Int}, l[j]? = some d → d.t ≤ y → y < d.b → rowAt l y = d.es := by
  induction l with
  | nil => intro j d y m; simp at m
  | cons a l ih =>
    intro j d y m h0 h1
    obtain ⟨g1, g2, g3, g4⟩ := h
    cases j with
    | zero =>
      rw [List.getElem?_cons_zero] at m
      obtain rfl := Option.some.inj m
      unfold rowAt
      rw [if_pos ⟨h0, h1⟩]
    | succ j =>
      rw [List.getElem?_cons_succ] at m
      have := g2 d (List.mem_of_getElem? m)
      unfold rowAt
      rw [if_neg (by omega)]
      exact ih g4 m h0 h1
/-- the row behind a band isn't the band's -/
theorem rowAt_end {l : List Bd} (h : Wf l) : ∀ {j : Nat} {d : Bd}, l[j]? = some d → rowAt l d.b ≠ d.es := by
  induction l with
  | nil => intro j d m; simp at m
  | cons a l ih =>
    intro j d m
    obtain ⟨g1, g2, g3, g4⟩ := h
    cases j with
    | zero =>
      rw [List.getElem?_cons_zero] at m
      obtain rfl := Option.some.inj m
      unfold rowAt
      rw [if_neg (by omega)]
      cases l with
      | nil => exact fun e => g1.ne e.symm
      | cons c l =>
        have u := g3 c rfl
        obtain ⟨k1, k2, k3, k4⟩ := g4
        have b2 := g2 c (by simp)
        unfold rowAt
        rcases u with u | ⟨u, v⟩
        · rw [if_neg (by omega), rowAt_above fun e m => by have := k2 e m; have := k1.tb; omega]
          exact fun e => g1.ne e.symm
        · rw [if_pos ⟨by omega, by have := k1.tb; omega⟩]
          exact fun e => v e.symm
    | succ j =>
      rw [List.getElem?_cons_succ] at m
      have q := g2 d (List.mem_of_getElem? m)
      have t := (wf_ok g4 d (List.mem_of_getElem? m)).tb
      unfold rowAt
      rw [if_neg (by omega)]
      exact ih g4 m
theorem Down.none {l : List Bd} {j : Nat} {y : Int} (h : Down l j y) (wf : Wf l) (hr : rowAt l y = []) : Down l j (y + 1) := by
  refine ⟨h.le, fun k d hk m => by have := h.lo k d hk m; omega, fun k d hk m => ?_⟩
  have a := h.hi k d hk m
  rcases Int.lt_or_eq_of_le a with q | q
  · omega
  · exfalso
    have o := wf_ok wf d (List.mem_of_getElem? m)
    rw [rowAt_get wf m (by omega) (by have := o.tb; omega)] at hr
    exact o.ne hr
theorem Down.at {l : List Bd} {j : Nat} {y : Int} (h : Down l j y) (wf : Wf l) (hr : rowAt l y ≠ []) : ∃ d, l[j]? = some d ∧ d.t = y ∧ rowAt l y = d.es := by
  obtain ⟨d, m, h0, h1, e⟩ := rowAt_mem hr
  obtain ⟨k, hk, rfl⟩ := List.mem_iff_getElem.1 m
  have mk : l[k]? = some l[k] := List.getElem?_eq_getElem hk
  have kj : j ≤ k := by
    rcases Nat.lt_or_ge k j with q | q
    · have := h.lo k _ q mk; omega
    · exact q
  have a := h.hi k _ kj mk
  have kj2 : k = j := by
    rcases Nat.eq_or_lt_of_le kj with q | q
    · exact q.symm
    · exfalso
      have mj : l[j]? = some l[j] := List.getElem?_eq_getElem (by omega)
      have b := h.hi j _ (Nat.le_refl _) mj
      have c := wf_get wf q mj mk
      have := (wf_ok wf _ (List.mem_of_getElem? mj)).tb
      omega
  subst kj2
  exact ⟨_, mk, by omega, e⟩
theorem Down.next {l : List Bd} {j : Nat} {d : Bd} (wf : Wf l) (m : l[j]? = some d) : Down l (j + 1) d.b := by
  have hj : j < l.length := (List.getElem?_eq_some_iff.1 m).1
  refine ⟨hj, fun k c hk mk => ?_, fun k c hk mk => wf_get wf (by omega) m mk⟩
  rcases Nat.lt_succ_iff_lt_or_eq.1 hk with q | q
  · have := wf_get wf q mk m
    have := (wf_ok wf d (List.mem_of_getElem? m)).tb
    omega
  · subst q
    rw [mk] at m
    obtain rfl := Option.some.inj m
    exact Int.le_refl _
theorem Down.done {l : List Bd} {j : Nat} (h : Down l j 40) (wf : Wf l) (b : L40 l) : j = l.length := by
  have := h.le
  rcases Nat.lt_or_ge j l.length with q | q
  · exfalso
    have m : l[j]? = some l[j] := List.getElem?_eq_getElem q
    have a := h.hi j _ (Nat.le_refl _) m
    have c := (b _ (List.mem_of_getElem? m)).1
    have := (wf_ok wf _ (List.mem_of_getElem? m)).tb
    omega
  · omega
theorem rectsB_take {l : List Bd} {j : Nat} {d : Bd} (m : l[j]? = some d) : rectsB (l.take (j + 1)) = rectsB (l.take j) ++ runs d.t d.b d.es := by
  rw [List.take_add_one, m]
  unfold rectsB
  rw [List.flatMap_append]
  simp [bandR]
theorem runs_take {t b : Int} {es : List Int} {i : Nat} (h : 2 * i + 1 < es.length) : (runs t b es).take (i + 1) = (runs t b es).take i ++ [(es.getD (2 * i) 0, t, es.getD (2 * i + 1) 0, b)] := by
  rw [List.take_add_one]
  congr 1
  rw [runs_range, List.getElem?_map, List.getElem?_range (by omega)]
  rfl
end Go.Proofs.Bands
