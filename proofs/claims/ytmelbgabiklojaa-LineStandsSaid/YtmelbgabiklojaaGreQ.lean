/- Lines of small items, program-free: their widths, how far they go. -/
import Derived.Test.YtmelbgabiklojaaLinQ
import Derived.WalkKit
namespace Go.Proofs.Ytmelbgabiklojaa.Lin
set_option linter.unusedVariables false
set_option linter.unusedSimpArgs false
/-- small items: at most 65535 wide, at most 40 of them -/
structure Sml (l : List I4) : Prop where
  n : l.length ≤ 40
  s : ∀ r ∈ l, 0 ≤ r.1 ∧ r.1 ≤ 65535 ∧ 0 ≤ r.2.1 ∧ r.2.1 ≤ 65535
/-- the width as the law adds it up -/
def wS : List I4 → Int
  | [] => 0
  | [r] => r.1
  | r :: s :: t => r.1 + r.2.1 + wS (s :: t)
def sl (l : List I4) (a b : Nat) : List I4 := (l.drop a).take (b - a)
theorem sl_len {l : List I4} {a b : Nat} (h : b ≤ l.length) : (sl l a b).length = b - a := by
  unfold sl; rw [List.length_take, List.length_drop]; omega
theorem sl_get {l : List I4} {a b k : Nat} (h : b ≤ l.length) (hk : k < b - a) : (sl l a b)[k]? = l[a + k]? := by
  unfold sl; rw [List.getElem?_take, if_pos hk, List.getElem?_drop]
theorem sml_itm {l : List I4} (h : Sml l) (i : Nat) : 0 ≤ (itm l i).1 ∧ (itm l i).1 ≤ 65535 ∧ 0 ≤ (itm l i).2.1 ∧ (itm l i).2.1 ≤ 65535 := by
  unfold itm
  rw [List.getD_eq_getElem?_getD]
  cases e : l[i]? with
  | none => simp
  | some r => exact h.s r (List.mem_of_getElem? e)
/-- the sum as integers -/
def sm (xs : List Int) : Int := xs.foldr (· + ·) 0
theorem sm_nil : sm [] = 0 := rfl
theorem sm_cons (x : Int) (xs : List Int) : sm (x :: xs) = x + sm xs := rfl
theorem sm_append (a b : List Int) : sm (a ++ b) = sm a + sm b := by
  induction a with
  | nil => rw [List.nil_append, sm_nil]; omega
  | cons x xs ih => rw [List.cons_append, sm_cons, sm_cons, ih]; omega
theorem sm_rng (xs : List Int) (h : ∀ x ∈ xs, 0 ≤ x ∧ x ≤ 65535) : 0 ≤ sm xs ∧ sm xs ≤ 65535 * (xs.length : Int) := by
  induction xs with
  | nil => rw [sm_nil]; simp
  | cons x xs ih =>
    have := ih (fun y hy => h y (List.mem_cons_of_mem _ hy))
    have := h x (List.mem_cons_self ..)
    rw [sm_cons, List.length_cons]; omega
theorem adds_sm (xs : List Int) : ∀ s : Int, 0 ≤ s → (∀ x ∈ xs, 0 ≤ x ∧ x ≤ 65535) → s + 65535 * (xs.length : Int) ≤ 17592186044416 → adds s xs = some (s + sm xs) := by
  induction xs with
  | nil => intro s _ _ _; rw [adds, sm_nil]; congr 1; omega
  | cons x xs ih =>
    intro s hs hx hn
    rw [List.length_cons] at hn
    have h0 := hx x (List.mem_cons_self ..)
    have hl : (0 : Int) ≤ (xs.length : Int) := by omega
    rw [adds, if_pos (by omega), ih (s + x) (by omega) (fun y hy => hx y (List.mem_cons_of_mem _ hy)) (by omega), sm_cons]
    congr 1; omega
theorem pr_rng {l : List I4} (h : Sml l) (a i : Nat) : (∀ x ∈ pr l a i, 0 ≤ x ∧ x ≤ 65535) ∧ (pr l a i).length ≤ 2 := by
  unfold pr
  have A := sml_itm h (i - 1)
  have B := sml_itm h i
  split
  · refine ⟨fun x hx => ?_, by simp⟩
    rcases List.mem_cons.1 hx with rfl | hx
    · exact A.2.2
    · obtain rfl := List.mem_singleton.1 hx; exact ⟨B.1, B.2.1⟩
  · refine ⟨fun x hx => ?_, by simp⟩
    obtain rfl := List.mem_singleton.1 hx; exact ⟨B.1, B.2.1⟩
theorem parts_rng' {l : List I4} (h : Sml l) (a : Nat) : ∀ (n i : Nat), (∀ x ∈ parts l a i (i + n), 0 ≤ x ∧ x ≤ 65535) ∧ (parts l a i (i + n)).length ≤ 2 * n := by
  intro n
  induction n with
  | zero => intro i; rw [parts_nil l a i (i + 0) (by omega)]; exact ⟨fun x hx => (by cases hx), by simp⟩
  | succ n ih =>
    intro i
    rw [parts_cons l a i (i + (n + 1)) (by omega), show i + (n + 1) = (i + 1) + n by omega]
    obtain ⟨h0, h1⟩ := ih (i + 1)
    obtain ⟨g0, g1⟩ := pr_rng h a i
    refine ⟨fun x hx => ?_, by rw [List.length_append]; omega⟩
    rcases List.mem_append.1 hx with hx | hx
    · exact g0 x hx
    · exact h0 x hx
/-- how wide some items are -/
def wd (l : List I4) (a b : Nat) : Int := sm (parts l a a b)
theorem parts_ok {l : List I4} (h : Sml l) (a i b : Nat) (hb : b ≤ l.length) : (∀ x ∈ parts l a i b, 0 ≤ x ∧ x ≤ 65535) ∧ (parts l a i b).length ≤ 80 := by
  have hn := h.n
  by_cases k : b ≤ i
  · rw [parts_nil l a i b k]; exact ⟨fun x hx => (by cases hx), by simp⟩
  · have := parts_rng' h a (b - i) i
    rw [show i + (b - i) = b by omega] at this
    exact ⟨this.1, by omega⟩
theorem wid_wd {l : List I4} (h : Sml l) (a b : Nat) (hb : b ≤ l.length) : wid l a b = some (wd l a b) := by
  obtain ⟨h0, h1⟩ := parts_ok h a a b hb
  unfold wid wd
  rw [adds_sm _ 0 (by omega) h0 (by omega)]; congr 1; omega
theorem wd_rng {l : List I4} (h : Sml l) (a b : Nat) (hb : b ≤ l.length) : 0 ≤ wd l a b ∧ wd l a b ≤ 5242800 := by
  obtain ⟨h0, h1⟩ := parts_ok h a a b hb
  have := sm_rng _ h0
  unfold wd; omega
theorem adds_wd {l : List I4} (h : Sml l) (a t b : Nat) (ht : a ≤ t) (hb : t ≤ b) (hn : b ≤ l.length) : adds (wd l a t) (parts l a t b) = some (wd l a b) := by
  rw [← wid_split l a t b (wd l a t) ht hb (wid_wd h a t (by omega))]
  exact wid_wd h a b hn
theorem wd_mono {l : List I4} (h : Sml l) (a t b : Nat) (ht : a ≤ t) (hb : t ≤ b) (hn : b ≤ l.length) : wd l a t ≤ wd l a b := by
  have := (sm_rng _ (parts_ok h a t b hn).1).1
  unfold wd
  rw [parts_split l a a t b ht hb, sm_append]; omega
theorem wd_one (l : List I4) (a : Nat) : wd l a (a + 1) = (itm l a).1 := by
  unfold wd
  rw [parts_cons l a a (a + 1) (by omega), parts_nil l a (a + 1) (a + 1) (by omega)]
  unfold pr; rw [if_neg (by omega)]; simp [sm]
theorem wd_snoc (l : List I4) (a b : Nat) (h : a < b) : wd l a (b + 1) = wd l a b + (itm l (b - 1)).2.1 + (itm l b).1 := by
  unfold wd
  rw [parts_snoc l a a b (by omega), sm_append]
  unfold pr; rw [if_pos h]; simp [sm]; omega
theorem wd_left (l : List I4) (a b : Nat) (h : a + 1 < b) : wd l a b = (itm l a).1 + (itm l a).2.1 + wd l (a + 1) b := by
  obtain ⟨n, rfl⟩ : ∃ n, b = a + 2 + n := ⟨b - (a + 2), by omega⟩
  induction n with
  | zero =>
    rw [show a + 2 + 0 = (a + 1) + 1 by omega, wd_snoc l a (a + 1) (by omega), wd_one, wd_one]
    rw [show a + 1 - 1 = a by omega]
  | succ n ih =>
    rw [show a + 2 + (n + 1) = (a + 2 + n) + 1 by omega, wd_snoc l a (a + 2 + n) (by omega), wd_snoc l (a + 1) (a + 2 + n) (by omega), ih (by omega)]
    omega
/-- a later start is no wider -/
theorem wd_from {l : List I4} (h : Sml l) (a b : Nat) : ∀ c, a ≤ c → c ≤ b → b ≤ l.length → wd l c b ≤ wd l a b := by
  intro c hc hb hn
  obtain ⟨n, rfl⟩ : ∃ n, c = a + n := ⟨c - a, by omega⟩
  induction n with
  | zero => exact Int.le_refl _
  | succ n ih =>
    refine Int.le_trans ?_ (ih (by omega) (by omega))
    by_cases e : a + n + 1 < b
    · rw [wd_left l (a + n) b e]
      have := sml_itm h (a + n)
      rw [show a + (n + 1) = a + n + 1 by omega]; omega
    · have : b = a + (n + 1) := by omega
      rw [this]
      have z : wd l (a + (n + 1)) (a + (n + 1)) = 0 := by unfold wd; rw [parts_nil _ _ _ _ (Nat.le_refl _)]; rfl
      rw [z]
      exact (wd_rng h (a + n) (a + (n + 1)) (by omega)).1
/-- the law's own sum -/
theorem wS_wd (l : List I4) : ∀ (n a b : Nat), b - a = n → a ≤ b → b ≤ l.length → wS (sl l a b) = wd l a b := by
  intro n
  induction n with
  | zero =>
    intro a b h k m
    have : b = a := by omega
    subst this
    unfold sl wd; rw [Nat.sub_self, List.take_zero, parts_nil _ _ _ _ (Nat.le_refl _)]; rfl
  | succ n ih =>
    intro a b h k m
    have ha : a < l.length := by omega
    have e : sl l a b = itm l a :: sl l (a + 1) b := by
      unfold sl
      rw [show b - a = (b - (a + 1)) + 1 by omega, List.drop_eq_getElem_cons ha, List.take_succ_cons, itm_some (List.getElem?_eq_getElem ha)]
    by_cases e2 : a + 1 < b
    · have hb : a + 1 < l.length := by omega
      have f : sl l (a + 1) b = itm l (a + 1) :: sl l (a + 2) b := by
        unfold sl
        rw [show b - (a + 1) = (b - (a + 2)) + 1 by omega, List.drop_eq_getElem_cons hb, List.take_succ_cons, itm_some (List.getElem?_eq_getElem hb)]
      rw [e, f, wS, ← f, ih (a + 1) b (by omega) (by omega) m, wd_left l a b e2]
    · have : b = a + 1 := by omega
      subst this
      rw [e]
      have z : sl l (a + 1) (a + 1) = [] := by unfold sl; rw [Nat.sub_self, List.take_zero]
      rw [z, wd_one]; rfl
/-- no end before the end of the segment, and an end there -/
theorem segE_facts (l : List I4) : ∀ (n i : Nat), l.length - i = n → i < l.length → (∀ k, i ≤ k → k + 1 < segE l i → (itm l k).2.2.2 = false) ∧ (segE l i < l.length → (itm l (segE l i - 1)).2.2.2 = true) := by
  intro n
  induction n with
  | zero => intro i h k; omega
  | succ n ih =>
    intro i h lt
    cases c : (itm l i).2.2.2
    · rw [segE_next l i lt c]
      by_cases e : i + 1 < l.length
      · obtain ⟨a, b⟩ := ih (i + 1) (by omega) e
        refine ⟨fun k hk hs => ?_, b⟩
        by_cases f : k = i
        · rw [f]; exact c
        · exact a k (by omega) hs
      · rw [segE_out l (i + 1) (by omega)]
        refine ⟨fun k hk hs => ?_, fun h => by omega⟩
        omega
    · rw [segE_brk l i lt c]
      exact ⟨fun k hk hs => by omega, fun _ => by rw [show i + 1 - 1 = i by omega]; exact c⟩
/-- what is known of a line -/
structure LP (l : List I4) (av least : Int) (f t : Nat) (w : Int) : Prop where
  ft : f < t
  tn : t ≤ l.length
  wv : w = wd l f t
  e : t < l.length → (itm l (t - 1)).2.2.2 = true
  m : w ≤ max av least
  s : w ≤ av ∨ ∀ k, f ≤ k → k + 1 < t → (itm l k).2.2.2 = false
  g : t < l.length → av < wd l f (segE l t)
theorem lineE_facts {l : List I4} (hs : Sml l) (av : Int) (f : Nat) : ∀ (n t : Nat), l.length - t = n → f < t → t ≤ l.length → (t < l.length → (itm l (t - 1)).2.2.2 = true) →
    ∃ t', lineE l av f t (wd l f t) = some (t', wd l f t') ∧ t ≤ t' ∧ t' ≤ l.length ∧ (t' < l.length → (itm l (t' - 1)).2.2.2 = true) ∧ (wd l f t' ≤ av ∨ t' = t) ∧ (t' < l.length → av < wd l f (segE l t')) := by
  intro n
  induction n using Nat.strongRecOn with
  | _ n ih =>
    intro t hn ft ht hb
    by_cases lt : t < l.length
    · have sg := segE_le l t ht
      have s2 := sg.2 lt
      have A := adds_wd hs f t (segE l t) (by omega) (by omega) sg.1
      by_cases c : av < wd l f (segE l t)
      · rw [lineE_stop l av f t _ _ lt A c]
        exact ⟨t, rfl, Nat.le_refl _, ht, hb, .inr rfl, fun _ => c⟩
      · rw [lineE_more l av f t _ _ lt A c]
        obtain ⟨t', h0, h1, h2, h3, h4, h5⟩ := ih (l.length - segE l t) (by omega) (segE l t) rfl (by omega) sg.1 (segE_facts l _ t rfl lt).2
        refine ⟨t', h0, by omega, h2, h3, ?_, h5⟩
        rcases h4 with h4 | h4
        · exact .inl h4
        · left; rw [h4]; omega
    · rw [lineE_out l av f t _ (by omega)]
      exact ⟨t, rfl, Nat.le_refl _, ht, hb, .inr rfl, fun h => absurd h lt⟩
/-- every segment is at most as wide as the least width -/
theorem leastE_facts {l : List I4} (hs : Sml l) : ∀ (n a : Nat) (m : Int), l.length - a = n → a ≤ l.length → ∃ v, leastE l a m = some v ∧ (0 < a → m ≤ v) ∧ (m ≤ wd l 0 l.length → v ≤ wd l 0 l.length) ∧ ∀ f, a ≤ f → f < l.length → (f = a ∨ (itm l (f - 1)).2.2.2 = true) → wd l f (segE l f) ≤ v := by
  intro n
  induction n using Nat.strongRecOn with
  | _ n ih =>
    intro a m hn ha
    by_cases lt : a < l.length
    · have sg := segE_le l a ha
      have s2 := sg.2 lt
      rw [leastE_some l a m _ lt (wid_wd hs a (segE l a) sg.1)]
      obtain ⟨v, h0, h1, h2, h3⟩ := ih (l.length - segE l a) (by omega) (segE l a) (if a = 0 ∨ m < wd l a (segE l a) then wd l a (segE l a) else m) rfl sg.1
      have h1' := h1 (by omega)
      refine ⟨v, h0, fun h => ?_, fun h => h2 ?_, fun f hf lf hb => ?_⟩
      · split at h1' <;> omega
      · have q : wd l a (segE l a) ≤ wd l 0 l.length := Int.le_trans (wd_from hs 0 (segE l a) a (by omega) (by omega) sg.1) (wd_mono hs 0 (segE l a) l.length (by omega) sg.1 (Nat.le_refl _))
        split <;> omega
      · by_cases e : f = a
        · subst e; split at h1' <;> omega
        · rcases hb with hb | hb
          · exact absurd hb e
          · have F := (segE_facts l _ a rfl lt).1
            by_cases q : f < segE l a
            · have := F (f - 1) (by omega) (by omega)
              rw [this] at hb; cases hb
            · exact h3 f (by omega) lf (.inr hb)
    · rw [leastE_out l a m (by omega)]
      exact ⟨m, rfl, fun _ => Int.le_refl _, fun h => h, fun f hf lf => by omega⟩
/-- the lines, one behind the other -/
def Ch (l : List I4) (av least : Int) : Nat → List L4 → Prop
  | f, [] => f = l.length
  | f, x :: r => x.1 = f ∧ LP l av least f x.2.1 x.2.2.1 ∧ Ch l av least x.2.1 r
theorem firstE_facts {l : List I4} (hs : Sml l) (av least : Int) (f : Nat) (lt : f < l.length) (hl : wd l f (segE l f) ≤ least) : ∃ t w, firstE l av f = some (t, w) ∧ LP l av least f t w := by
  have sg := segE_le l f (by omega)
  have s2 := sg.2 lt
  have F := segE_facts l _ f rfl lt
  obtain ⟨t, h0, h1, h2, h3, h4, h5⟩ := lineE_facts hs av f _ (segE l f) rfl s2 sg.1 F.2
  refine ⟨t, wd l f t, ?_, ⟨by omega, h2, rfl, h3, ?_, ?_, h5⟩⟩
  · unfold firstE; rw [wid_wd hs f _ sg.1]; exact h0
  · rcases h4 with h4 | h4
    · omega
    · rw [h4]; omega
  · rcases h4 with h4 | h4
    · exact .inl h4
    · right; rw [h4]; exact F.1
theorem fillE_facts {l : List I4} (hs : Sml l) (av low least : Int) (hl : ∀ f, f < l.length → (f = 0 ∨ (itm l (f - 1)).2.2.2 = true) → wd l f (segE l f) ≤ least) : ∀ (n f : Nat), l.length - f = n → f ≤ l.length → (f = 0 ∨ f = l.length ∨ (itm l (f - 1)).2.2.2 = true) → ∃ ls, fillE l av low f = some ls ∧ Ch l av least f ls := by
  intro n
  induction n using Nat.strongRecOn with
  | _ n ih =>
    intro f hn hf hb
    by_cases lt : f < l.length
    · obtain ⟨t, w, h0, h1⟩ := firstE_facts hs av least f lt (hl f lt (by rcases hb with h | h | h; exact .inl h; omega; exact .inr h))
      have ft := h1.ft
      have tn := h1.tn
      obtain ⟨ls, g0, g1⟩ := ih (l.length - t) (by omega) t rfl tn (by
        by_cases e : t < l.length
        · exact .inr (.inr (h1.e e))
        · exact .inr (.inl (by omega)))
      rw [fillE_some l av low f (t, w) lt h0, g0]
      exact ⟨_, rfl, rfl, h1, g1⟩
    · rw [fillE_out l av low f (by omega)]
      exact ⟨[], rfl, by show f = l.length; omega⟩
theorem ch_one {l : List I4} (hs : Sml l) {av least : Int} {ls : List L4} (h : Ch l av least 0 ls) (hm : wd l 0 l.length ≤ av) : ls.length ≤ 1 := by
  match ls, h with
  | [], _ => exact Nat.zero_le _
  | x :: r, ⟨_, h1, h2⟩ =>
    have e : x.2.1 = l.length := by
      by_cases lt : x.2.1 < l.length
      · have := h1.g lt
        have sg := segE_le l x.2.1 (by omega)
        have := wd_mono hs 0 (segE l x.2.1) l.length (by omega) sg.1 (Nat.le_refl _)
        omega
      · have := h1.tn; omega
    match r, h2 with
    | [], _ => exact Nat.le_refl _
    | y :: r, ⟨_, h3, _⟩ => have := h3.ft; have := h3.tn; omega
/-- all that is asked -/
theorem greedy {l : List I4} (hs : Sml l) (av : Int) : ∃ ls v, fillE l av 0 0 = some ls ∧ leastE l 0 0 = some v ∧ wid l 0 l.length = some (wd l 0 l.length) ∧ v ≤ wd l 0 l.length ∧ Ch l av v 0 ls ∧ (av < wd l 0 l.length ∨ ls.length ≤ 1) := by
  obtain ⟨v, h0, _, h2, h3⟩ := leastE_facts hs _ 0 0 rfl (Nat.zero_le _)
  obtain ⟨ls, g0, g1⟩ := fillE_facts hs av 0 v (fun f lf hb => h3 f (Nat.zero_le _) lf hb) _ 0 rfl (Nat.zero_le _) (.inl rfl)
  refine ⟨ls, v, g0, h0, wid_wd hs 0 _ (Nat.le_refl _), h2 (wd_rng hs 0 _ (Nat.le_refl _)).1, g1, ?_⟩
  by_cases c : av < wd l 0 l.length
  · exact .inl c
  · exact .inr (ch_one hs g1 (by omega))
end Go.Proofs.Ytmelbgabiklojaa.Lin
