/- Lines of items, program-free: sums, segments, what fills a line, all lines, the least width. -/
import Derived.WalkKit
namespace Go.Proofs.Ytmelbgabiklojaa.Lin
set_option linter.unusedVariables false
set_option linter.unusedSimpArgs false
/-- an item: how wide, its space, how high, whether a line may end -/
abbrev I4 := Int × Int × Int × Bool
/-- a line: from, to, how wide, how high -/
abbrev L4 := Nat × Nat × Int × Int
def adds : Int → List Int → Option Int
  | s, [] => some s
  | s, x :: xs => if -17592186044416 ≤ s + x ∧ s + x ≤ 17592186044416 then adds (s + x) xs else none
theorem adds_append : ∀ (s : Int) (a b : List Int), adds s (a ++ b) = (adds s a).bind (fun t => adds t b)
  | s, [], b => rfl
  | s, x :: xs, b => by
    rw [List.cons_append, adds, adds]
    split
    · exact adds_append _ xs b
    · rfl
theorem adds_len {s : Int} {xs : List Int} {t : Int} (h : adds s xs = some t) : (-17592186044416 ≤ s ∧ s ≤ 17592186044416) → -17592186044416 ≤ t ∧ t ≤ 17592186044416 := by
  induction xs generalizing s with
  | nil => intro hs; injection h with h; subst h; exact hs
  | cons x xs ih =>
    intro hs
    rw [adds] at h
    split at h
    · exact ih h (by assumption)
    · cases h
def itm (l : List I4) (i : Nat) : I4 := l.getD i (0, 0, 0, false)
theorem itm_some {l : List I4} {i : Nat} {r : I4} (h : l[i]? = some r) : itm l i = r := by rw [itm, List.getD_eq_getElem?_getD, h]; rfl
/-- the numbers that an item adds to a line that begins at `a` -/
def pr (l : List I4) (a i : Nat) : List Int := if a < i then [(itm l (i - 1)).2.1, (itm l i).1] else [(itm l i).1]
/-- the numbers that the items from `i` on, as far as `b`, add to a line that begins at `a` -/
def parts (l : List I4) (a i b : Nat) : List Int := (List.range' i (b - i)).flatMap (pr l a)
theorem parts_nil (l : List I4) (a i b : Nat) (h : b ≤ i) : parts l a i b = [] := by
  unfold parts; rw [Nat.sub_eq_zero_of_le h]; rfl
theorem parts_cons (l : List I4) (a i b : Nat) (h : i < b) : parts l a i b = pr l a i ++ parts l a (i + 1) b := by
  unfold parts
  rw [show b - i = (b - (i + 1)) + 1 by omega, List.range'_succ, List.flatMap_cons]
theorem parts_split (l : List I4) (a i m b : Nat) (h : i ≤ m) (k : m ≤ b) : parts l a i b = parts l a i m ++ parts l a m b := by
  unfold parts
  rw [← List.flatMap_append]
  congr 1
  rw [show b - i = (m - i) + (b - m) by omega, List.range'_append_1.symm]
  congr 2; omega
theorem parts_snoc (l : List I4) (a i b : Nat) (h : i ≤ b) : parts l a i (b + 1) = parts l a i b ++ pr l a b := by
  rw [parts_split l a i b (b + 1) h (by omega), parts_cons l a b (b + 1) (by omega), parts_nil l a (b + 1) (b + 1) (by omega), List.append_nil]
/-- the numbers as the document's answer lists them, as far as item `i` -/
def refP (l : List I4) (a i b : Nat) : List Int := parts l a a i ++ (if a < i ∧ i < b then [(itm l (i - 1)).2.1] else [])
theorem refP_start (l : List I4) (a b : Nat) : refP l a a b = [] := by
  unfold refP; rw [parts_nil l a a a (by omega), if_neg (by omega)]; rfl
theorem refP_end (l : List I4) (a i b : Nat) (h : b ≤ i) : refP l a i b = parts l a a i := by
  unfold refP; rw [if_neg (by omega), List.append_nil]
theorem refP_step (l : List I4) (a i b : Nat) (h : a ≤ i) (k : i < b) : refP l a (i + 1) b = refP l a i b ++ [(itm l i).1] ++ (if i + 1 < b then [(itm l i).2.1] else []) := by
  unfold refP
  rw [parts_snoc l a a i h]
  unfold pr
  have q : a < i + 1 := by omega
  by_cases e : a < i <;> by_cases f : i + 1 < b <;> simp [e, f, k, q]
/-- how wide the items from `a` on, as far as `b`, are -/
def wid (l : List I4) (a b : Nat) : Option Int := adds 0 (parts l a a b)
theorem wid_split (l : List I4) (a m b : Nat) (w : Int) (h : a ≤ m) (k : m ≤ b) (hw : wid l a m = some w) : wid l a b = adds w (parts l a m b) := by
  unfold wid at *
  rw [parts_split l a a m b h k, adds_append, hw]; rfl
/-- the end of the segment that begins at `i` -/
def segE (l : List I4) (i : Nat) : Nat := if h : i < l.length then (if (itm l i).2.2.2 then i + 1 else segE l (i + 1)) else l.length
termination_by l.length - i
theorem segE_brk (l : List I4) (i : Nat) (h : i < l.length) (k : (itm l i).2.2.2 = true) : segE l i = i + 1 := by
  rw [segE, dif_pos h, if_pos k]
theorem segE_next (l : List I4) (i : Nat) (h : i < l.length) (k : (itm l i).2.2.2 = false) : segE l i = segE l (i + 1) := by
  rw [segE, dif_pos h, k]; rfl
theorem segE_out (l : List I4) (i : Nat) (h : l.length ≤ i) : segE l i = l.length := by
  rw [segE, dif_neg (by omega)]
theorem segE_le (l : List I4) (i : Nat) (h : i ≤ l.length) : segE l i ≤ l.length ∧ (i < l.length → i < segE l i) := by
  obtain ⟨n, hn⟩ : ∃ n, l.length - i = n := ⟨_, rfl⟩
  induction n generalizing i with
  | zero => rw [segE_out l i (by omega)]; exact ⟨Nat.le_refl _, fun k => k⟩
  | succ n ih =>
    have lt : i < l.length := by omega
    cases k : (itm l i).2.2.2
    · rw [segE_next l i lt k]
      obtain ⟨a, b⟩ := ih (i + 1) (by omega) (by omega)
      refine ⟨a, fun _ => ?_⟩
      by_cases e : i + 1 < l.length
      · have := b e; omega
      · rw [segE_out l (i + 1) (by omega)]; omega
    · rw [segE_brk l i lt k]; exact ⟨by omega, fun _ => by omega⟩
/-- how far a line goes that has the items from `a` on as far as `t`, and is `w` wide -/
def lineE (l : List I4) (av : Int) (a t : Nat) (w : Int) : Option (Nat × Int) :=
  if h : t < l.length then (match adds w (parts l a t (segE l t)) with
    | none => none
    | some w' => if av < w' then some (t, w) else lineE l av a (segE l t) w')
  else some (t, w)
termination_by l.length - t
decreasing_by have := (segE_le l t (by omega)).2 h; omega
theorem lineE_out (l : List I4) (av : Int) (a t : Nat) (w : Int) (h : l.length ≤ t) : lineE l av a t w = some (t, w) := by
  rw [lineE, dif_neg (by omega)]
theorem lineE_none (l : List I4) (av : Int) (a t : Nat) (w : Int) (h : t < l.length) (k : adds w (parts l a t (segE l t)) = none) : lineE l av a t w = none := by
  rw [lineE, dif_pos h, k]
theorem lineE_stop (l : List I4) (av : Int) (a t : Nat) (w w' : Int) (h : t < l.length) (k : adds w (parts l a t (segE l t)) = some w') (c : av < w') : lineE l av a t w = some (t, w) := by
  rw [lineE, dif_pos h, k]; simp only [if_pos c]
theorem lineE_more (l : List I4) (av : Int) (a t : Nat) (w w' : Int) (h : t < l.length) (k : adds w (parts l a t (segE l t)) = some w') (c : ¬ av < w') : lineE l av a t w = lineE l av a (segE l t) w' := by
  rw [lineE, dif_pos h, k]; simp only [if_neg c]
theorem lineE_le (l : List I4) (av : Int) (a : Nat) : ∀ (n t : Nat) (w : Int) (x : Nat × Int), l.length - t = n → t ≤ l.length → lineE l av a t w = some x → t ≤ x.1 ∧ x.1 ≤ l.length := by
  intro n
  induction n using Nat.strongRecOn with
  | _ n ih =>
    intro t w x hn ht h
    by_cases lt : t < l.length
    · have sg := segE_le l t ht
      have s2 := sg.2 lt
      rw [lineE, dif_pos lt] at h
      split at h
      · cases h
      · split at h
        · injection h with h; subst h; exact ⟨Nat.le_refl _, ht⟩
        · have := ih (l.length - segE l t) (by omega) (segE l t) _ x rfl sg.1 h
          exact ⟨by omega, this.2⟩
    · rw [lineE_out l av a t w (by omega)] at h
      injection h with h; subst h; exact ⟨Nat.le_refl _, ht⟩
/-- the line that begins at `a` -/
def firstE (l : List I4) (av : Int) (a : Nat) : Option (Nat × Int) := match wid l a (segE l a) with
  | none => none
  | some w => lineE l av a (segE l a) w
theorem firstE_gt {l : List I4} {av : Int} {a : Nat} {x : Nat × Int} (h : firstE l av a = some x) (lt : a < l.length) : a < x.1 ∧ x.1 ≤ l.length := by
  unfold firstE at h
  have sg := segE_le l a (by omega)
  have s2 := sg.2 lt
  split at h
  · cases h
  · have := lineE_le l av a _ _ _ x rfl sg.1 h
    exact ⟨by omega, this.2⟩
/-- the greatest height -/
def highF (l : List I4) (low : Int) (a b : Nat) : Int := ((l.drop a).take (b - a)).foldl (fun h r => max h r.2.2.1) low
/-- all lines from `a` on -/
def fillE (l : List I4) (av low : Int) (a : Nat) : Option (List L4) :=
  if h : a < l.length then (match hx : firstE l av a with
    | none => none
    | some x => (fillE l av low x.1).map (fun r => (a, x.1, x.2, highF l low a x.1) :: r))
  else some []
termination_by l.length - a
decreasing_by have := firstE_gt hx h; omega
theorem fillE_out (l : List I4) (av low : Int) (a : Nat) (h : l.length ≤ a) : fillE l av low a = some [] := by
  rw [fillE, dif_neg (by omega)]
theorem fillE_none (l : List I4) (av low : Int) (a : Nat) (h : a < l.length) (k : firstE l av a = none) : fillE l av low a = none := by
  rw [fillE, dif_pos h]; split
  · rfl
  · rename_i x hx; rw [k] at hx; cases hx
theorem fillE_some (l : List I4) (av low : Int) (a : Nat) (x : Nat × Int) (h : a < l.length) (k : firstE l av a = some x) : fillE l av low a = (fillE l av low x.1).map (fun r => (a, x.1, x.2, highF l low a x.1) :: r) := by
  rw [fillE, dif_pos h]; split
  · rename_i hx; rw [k] at hx; cases hx
  · rename_i y hx; rw [k] at hx; injection hx with hx; subst hx; rfl
/-- the least width, from `a` on, beside what was there before -/
def leastE (l : List I4) (a : Nat) (m : Int) : Option Int :=
  if h : a < l.length then (match wid l a (segE l a) with
    | none => none
    | some w => leastE l (segE l a) (if a = 0 ∨ m < w then w else m))
  else some m
termination_by l.length - a
decreasing_by have := (segE_le l a (by omega)).2 h; omega
theorem leastE_out (l : List I4) (a : Nat) (m : Int) (h : l.length ≤ a) : leastE l a m = some m := by
  rw [leastE, dif_neg (by omega)]
theorem leastE_none (l : List I4) (a : Nat) (m : Int) (h : a < l.length) (k : wid l a (segE l a) = none) : leastE l a m = none := by
  rw [leastE, dif_pos h, k]
theorem leastE_some (l : List I4) (a : Nat) (m w : Int) (h : a < l.length) (k : wid l a (segE l a) = some w) : leastE l a m = leastE l (segE l a) (if a = 0 ∨ m < w then w else m) := by
  rw [leastE, dif_pos h, k]
/-- the ends of the segments, from item `i` on -/
def endsE (l : List I4) (a : Nat) : List Nat := if h : a < l.length then segE l a :: endsE l (segE l a) else []
termination_by l.length - a
decreasing_by have := (segE_le l a (by omega)).2 h; omega
theorem endsE_out (l : List I4) (a : Nat) (h : l.length ≤ a) : endsE l a = [] := by rw [endsE, dif_neg (by omega)]
theorem endsE_cons (l : List I4) (a : Nat) (h : a < l.length) : endsE l a = segE l a :: endsE l (segE l a) := by rw [endsE, dif_pos h]
/-- item by item: an end behind a break, and behind the last item -/
theorem endsE_step (l : List I4) (i : Nat) (h : i < l.length) : endsE l i = if (itm l i).2.2.2 = true ∨ i + 1 = l.length then (i + 1) :: endsE l (i + 1) else endsE l (i + 1) := by
  cases k : (itm l i).2.2.2
  · by_cases e : i + 1 = l.length
    · rw [if_pos (.inr e), endsE_cons l i h, segE_next l i h k, segE_out l (i + 1) (by omega), ← e]
    · rw [if_neg (by simp; exact e), endsE_cons l i h, segE_next l i h k, endsE_cons l (i + 1) (by omega)]
  · rw [if_pos (.inl rfl), endsE_cons l i h, segE_brk l i h k]
theorem endsE_len (l : List I4) : ∀ (n a : Nat), l.length - a = n → (endsE l a).length ≤ n := by
  intro n
  induction n using Nat.strongRecOn with
  | _ n ih =>
    intro a hn
    by_cases lt : a < l.length
    · have s2 := (segE_le l a (by omega)).2 lt
      have s1 := (segE_le l a (by omega)).1
      rw [endsE_cons l a lt, List.length_cons]
      have := ih (l.length - segE l a) (by omega) (segE l a) rfl
      omega
    · rw [endsE_out l a (by omega)]; exact Nat.zero_le _
end Go.Proofs.Ytmelbgabiklojaa.Lin
