/- Boxes that a region itself makes, among operations that draw their order. No program in sight. -/
import Derived.Test.YtlkpegfbnmecpaaDoorRegV
import Derived.WalkKit
import Derived.WalkSpells
import Derived.Handy
namespace Go.Proofs.Reg
open Go.RowKit
set_option linter.unusedVariables false
set_option linter.unusedSimpArgs false
theorem bel_newR (w : World) (o : Obj) : Below w.heap.size w (w.alloc o) := (Below.refl _ _).alloc (Nat.le_refl _) o
/-- a whole box stored -/
def sets (w : World) (q : Nat) : Nat → List Value → World
  | _, [] => w
  | i, v :: vs => sets (w.setCell ⟨q, i, none⟩ v) q (i + 1) vs
theorem sets_size (q : Nat) : ∀ (vs : List Value) (i : Nat) (w : World), (sets w q i vs).heap.size = w.heap.size
  | [], _, _ => rfl
  | v :: vs, i, w => by
    show (sets (w.setCell ⟨q, i, none⟩ v) q (i + 1) vs).heap.size = _
    rw [sets_size q vs]
    simp
theorem sets_below {B q : Nat} {w0 : World} (hq : B ≤ q) : ∀ (vs : List Value) (i : Nat) (w : World), Below B w0 w → Below B w0 (sets w q i vs)
  | [], _, _, h => h
  | v :: vs, i, w, h => sets_below hq vs (i + 1) _ (h.setCell (p := ⟨q, i, none⟩) hq v)
theorem sets_far {b q : Nat} (hb : b ≠ q) : ∀ (vs : List Value) (i : Nat) (w : World) (j : Nat), (sets w q i vs).cell? ⟨b, j, none⟩ = w.cell? ⟨b, j, none⟩ ∧ (sets w q i vs).frozen? ⟨b, j, none⟩ = w.frozen? ⟨b, j, none⟩
  | [], _, _, _ => ⟨rfl, rfl⟩
  | v :: vs, i, w, j => by
    obtain ⟨h1, h2⟩ := sets_far hb vs (i + 1) (w.setCell ⟨q, i, none⟩ v) j
    refine ⟨h1.trans ?_, h2.trans ?_⟩
    · rw [World.cell?_setCell_other (h := fun x => by injection x with x; omega)]
    · simp [go_sem]
theorem sets_pre {q : Nat} : ∀ (vs : List Value) (i : Nat) (w : World) (j : Nat), j < i → (sets w q i vs).cell? ⟨q, j, none⟩ = w.cell? ⟨q, j, none⟩ ∧ (sets w q i vs).frozen? ⟨q, j, none⟩ = w.frozen? ⟨q, j, none⟩
  | [], _, _, _, _ => ⟨rfl, rfl⟩
  | v :: vs, i, w, j, hj => by
    obtain ⟨h1, h2⟩ := sets_pre vs (i + 1) (w.setCell ⟨q, i, none⟩ v) j (by omega)
    refine ⟨h1.trans ?_, h2.trans ?_⟩
    · rw [World.cell?_setCell_other (h := fun x => by injection x with _ x; omega)]
    · simp [go_sem]
theorem sets_in {q : Nat} : ∀ (vs os : List Value) (i : Nat) (w : World), os.length = vs.length → (∀ (j : Nat) (v : Value), os[j]? = some v → w.cell? ⟨q, i + j, none⟩ = some v ∧ w.frozen? ⟨q, i + j, none⟩ = false) →
    ∀ (j : Nat) (v : Value), vs[j]? = some v → (sets w q i vs).cell? ⟨q, i + j, none⟩ = some v ∧ (sets w q i vs).frozen? ⟨q, i + j, none⟩ = false
  | [], _, _, _, _, _, j, v, hv => by simp at hv
  | u :: vs, [], i, w, hl, _, _, _, _ => by simp at hl
  | u :: vs, o :: os, i, w, hl, ho, j, v, hv => by
    obtain ⟨c0, f0⟩ := ho 0 o rfl
    rw [Nat.add_zero] at c0 f0
    cases j with
    | zero =>
      simp only [List.getElem?_cons_zero, Option.some.injEq] at hv
      subst hv
      obtain ⟨h1, h2⟩ := sets_pre (q := q) vs (i + 1) (w.setCell ⟨q, i, none⟩ u) i (by omega)
      refine ⟨h1.trans ?_, h2.trans ?_⟩
      · rw [World.cell?_setCell_same (h := c0)]
      · simpa [go_sem] using f0
    | succ j =>
      have := sets_in vs os (i + 1) (w.setCell ⟨q, i, none⟩ u) (by simpa using hl) (fun k x hx => by
        obtain ⟨c, f⟩ := ho (k + 1) x (by simpa using hx)
        rw [show i + 1 + k = i + (k + 1) by omega]
        exact ⟨by rw [World.cell?_setCell_other (h := fun x => by injection x with _ x; omega)]; exact c, by simpa [go_sem] using f⟩) j v (by simpa using hv)
      rw [show i + (j + 1) = i + 1 + j by omega]
      exact this
theorem Tab.far {w : World} {l : List (Nat × List Value)} {n q : Nat} (h : Tab w l) (hl : ∀ (k b : Nat) (vs : List Value), l[k]? = some (b, vs) → b < n) (hq : n ≤ q) (vs : List Value) : Tab (sets w q 0 vs) l := fun k b us hk i v hi => by
  obtain ⟨c, f⟩ := h k b us hk i v hi
  have := hl k b us hk
  obtain ⟨h1, h2⟩ := sets_far (b := b) (q := q) (by omega) vs 0 w i
  exact ⟨h1.trans c, h2.trans f⟩
/-- boxes that the region itself makes: the operation that makes one, the one that fills it, what it holds before and behind -/
structure Fresh (n : Nat) (l : List (Nat × Nat × List Value × List Value)) (L : Nat → Bool) (val : Nat → Value) (w : World) : Prop where
  box : ∀ (k j s : Nat) (old new : List Value), l[k]? = some (j, s, old, new) → L j = true → ∃ q, val j = .pointer (some ⟨q, 0, none⟩) ∧ n ≤ q ∧ q < w.heap.size ∧ ∀ (i : Nat) (v : Value), (if L s = true then new else old)[i]? = some v → w.cell? ⟨q, i, none⟩ = some v ∧ w.frozen? ⟨q, i, none⟩ = false
  ne : ∀ (k k' j s j' s' : Nat) (old new old' new' : List Value), l[k]? = some (j, s, old, new) → l[k']? = some (j', s', old', new') → k ≠ k' → L j = true → L j' = true → val j ≠ val j'
theorem Fresh.start (n : Nat) (l : List (Nat × Nat × List Value × List Value)) (val : Nat → Value) (w : World) : Fresh n l (fun _ => false) val w := ⟨fun k j s old new hk h => (by cases h), fun k k' j s j' s' old new old' new' h1 h2 h3 h => (by cases h)⟩
theorem Fresh.later {n : Nat} {l : List (Nat × Nat × List Value × List Value)} {L : Nat → Bool} {val : Nat → Value} {w w' : World} (h : Fresh n l L val w) (hb : Below w.heap.size w w') : Fresh n l L val w' :=
  ⟨fun k j s old new hk hj => by
    obtain ⟨q, h1, h2, h3, h4⟩ := h.box k j s old new hk hj
    refine ⟨q, h1, h2, Nat.lt_of_lt_of_le h3 hb.size, fun i v hv => ?_⟩
    obtain ⟨c, f⟩ := h4 i v hv
    exact ⟨cell_later hb c, (hb.frozen (p := ⟨q, i, none⟩) h3).trans f⟩, h.ne⟩
def freshB (l : List (Nat × Nat × List Value × List Value)) (i : Nat) : Bool := l.all fun e => e.1 != i && e.2.1 != i
theorem Fresh.other {n : Nat} {l : List (Nat × Nat × List Value × List Value)} {L : Nat → Bool} {val : Nat → Value} {w : World} (h : Fresh n l L val w) (i : Nat) (v : Value) (hi : ∀ (k j s : Nat) (old new : List Value), l[k]? = some (j, s, old, new) → j ≠ i ∧ s ≠ i) : Fresh n l (addL L i) (upd val i v) w :=
  ⟨fun k j s old new hk hj => by
    obtain ⟨n1, n2⟩ := hi k j s old new hk
    have hj' : L j = true := by simpa [addL, n1] using hj
    obtain ⟨q, h1, h2, h3, h4⟩ := h.box k j s old new hk hj'
    exact ⟨q, by simpa [upd, n1] using h1, h2, h3, by simpa [addL, n2] using h4⟩,
   fun k k' j s j' s' old new old' new' hk hk' hkk hj hj' => by
    obtain ⟨n1, n2⟩ := hi k j s old new hk
    obtain ⟨n1', n2'⟩ := hi k' j' s' old' new' hk'
    have := h.ne k k' j s j' s' old new old' new' hk hk' hkk (by simpa [addL, n1] using hj) (by simpa [addL, n1'] using hj')
    simpa [upd, n1, n1'] using this⟩
/-- all the numbers of a list of new boxes are apart -/
def freshDif (l : List (Nat × Nat × List Value × List Value)) : Prop := (l.map (·.1) ++ l.map (·.2.1)).Nodup
theorem fd_jj {l : List (Nat × Nat × List Value × List Value)} (h : freshDif l) {k k' j s j' s' : Nat} {old new old' new' : List Value} (hk : l[k]? = some (j, s, old, new)) (hk' : l[k']? = some (j', s', old', new')) (hkk : k ≠ k') : j ≠ j' ∧ s ≠ s' ∧ j ≠ s' := by
  unfold freshDif at h
  obtain ⟨h1, h2, h3⟩ := List.nodup_append.1 h
  refine ⟨fun e => hkk (nodup_inj h1 (a := j) (by rw [List.getElem?_map, hk]; rfl) (by rw [List.getElem?_map, hk', e]; rfl)), fun e => hkk (nodup_inj h2 (a := s) (by rw [List.getElem?_map, hk]; rfl) (by rw [List.getElem?_map, hk', e]; rfl)), ?_⟩
  exact h3 j (List.mem_map.2 ⟨_, List.mem_of_getElem? hk, rfl⟩) s' (List.mem_map.2 ⟨_, List.mem_of_getElem? hk', rfl⟩)
theorem fd_js {l : List (Nat × Nat × List Value × List Value)} (h : freshDif l) {k k' j s j' s' : Nat} {old new old' new' : List Value} (hk : l[k]? = some (j, s, old, new)) (hk' : l[k']? = some (j', s', old', new')) : j ≠ s' := by
  unfold freshDif at h
  obtain ⟨h1, h2, h3⟩ := List.nodup_append.1 h
  exact h3 j (List.mem_map.2 ⟨_, List.mem_of_getElem? hk, rfl⟩) s' (List.mem_map.2 ⟨_, List.mem_of_getElem? hk', rfl⟩)
theorem Fresh.make {n : Nat} {l : List (Nat × Nat × List Value × List Value)} {L : Nat → Bool} {val : Nat → Value} {w : World} (h : Fresh n l L val w) (hd : freshDif l) (k : Nat) {j s : Nat} {old new : List Value} (hk : l[k]? = some (j, s, old, new)) (hs : L s = false) (hn : n ≤ w.heap.size) (t : TypeId) :
    Fresh n l (addL L j) (upd val j (.pointer (some ⟨w.heap.size, 0, none⟩))) (w.alloc (.cells old.toArray t)) := by
  have key : ∀ (k' j' s' : Nat) (old' new' : List Value), l[k']? = some (j', s', old', new') → k' ≠ k → j' ≠ j ∧ s' ≠ j := fun k' j' s' old' new' hk' hkk => ⟨(fd_jj hd hk' hk hkk).1, fun e => fd_js hd hk hk' e.symm⟩
  have hl := h.later (bel_newR w (.cells old.toArray t))
  refine ⟨fun k' j' s' old' new' hk' hj => ?_, fun k1 k2 j1 s1 j2 s2 old1 new1 old2 new2 hk1 hk2 hkk hj1 hj2 => ?_⟩
  · by_cases c : k' = k
    · subst c
      rw [hk] at hk'
      obtain ⟨rfl, rfl, rfl, rfl⟩ : j = j' ∧ s = s' ∧ old = old' ∧ new = new' := by simpa using hk'
      have hsj : s ≠ j := fun e => fd_js hd hk hk e.symm
      refine ⟨w.heap.size, by simp [upd], hn, by simp, fun i v hv => ?_⟩
      rw [show addL L j s = false by simp [addL, hsj, hs]] at hv
      have := (Tab.nil w).new old t
      exact this 0 _ _ rfl i v (by simpa using hv)
    · obtain ⟨n1, n2⟩ := key k' j' s' old' new' hk' c
      obtain ⟨q, h1, h2, h3, h4⟩ := hl.box k' j' s' old' new' hk' (by simpa [addL, n1] using hj)
      exact ⟨q, by simpa [upd, n1] using h1, h2, h3, by simpa [addL, n2] using h4⟩
  · have lt : ∀ (k' j' s' : Nat) (old' new' : List Value), l[k']? = some (j', s', old', new') → k' ≠ k → addL L j j' = true → upd val j (.pointer (some ⟨w.heap.size, 0, none⟩)) j' = val j' ∧ val j' ≠ .pointer (some ⟨w.heap.size, 0, none⟩) := fun k' j' s' old' new' hk' c hj => by
      obtain ⟨n1, n2⟩ := key k' j' s' old' new' hk' c
      obtain ⟨q, h1, h2, h3, h4⟩ := h.box k' j' s' old' new' hk' (by simpa [addL, n1] using hj)
      refine ⟨by simp [upd, n1], fun e => ?_⟩
      rw [h1] at e
      simp only [Value.pointer.injEq, Option.some.injEq, Addr.mk.injEq] at e
      omega
    by_cases c1 : k1 = k
    · by_cases c2 : k2 = k
      · exact absurd (c1.trans c2.symm) hkk
      · obtain ⟨e2, ne2⟩ := lt k2 j2 s2 old2 new2 hk2 c2 hj2
        subst c1
        rw [hk] at hk1
        obtain ⟨rfl, rfl, rfl, rfl⟩ : j = j1 ∧ s = s1 ∧ old = old1 ∧ new = new1 := by simpa using hk1
        rw [e2, show upd val j (.pointer (some ⟨w.heap.size, 0, none⟩)) j = .pointer (some ⟨w.heap.size, 0, none⟩) by simp [upd]]
        exact ne2.symm
    · by_cases c2 : k2 = k
      · obtain ⟨e1, ne1⟩ := lt k1 j1 s1 old1 new1 hk1 c1 hj1
        subst c2
        rw [hk] at hk2
        obtain ⟨rfl, rfl, rfl, rfl⟩ : j = j2 ∧ s = s2 ∧ old = old2 ∧ new = new2 := by simpa using hk2
        rw [e1, show upd val j (.pointer (some ⟨w.heap.size, 0, none⟩)) j = .pointer (some ⟨w.heap.size, 0, none⟩) by simp [upd]]
        exact ne1
      · obtain ⟨e1, _⟩ := lt k1 j1 s1 old1 new1 hk1 c1 hj1
        obtain ⟨e2, _⟩ := lt k2 j2 s2 old2 new2 hk2 c2 hj2
        obtain ⟨n1, _⟩ := key k1 j1 s1 old1 new1 hk1 c1
        obtain ⟨n2, _⟩ := key k2 j2 s2 old2 new2 hk2 c2
        rw [e1, e2]
        exact h.ne k1 k2 j1 s1 j2 s2 old1 new1 old2 new2 hk1 hk2 hkk (by simpa [addL, n1] using hj1) (by simpa [addL, n2] using hj2)
theorem Fresh.fill {n : Nat} {l : List (Nat × Nat × List Value × List Value)} {L : Nat → Bool} {val : Nat → Value} {w : World} (h : Fresh n l L val w) (hd : freshDif l) (k : Nat) {j s q : Nat} {old new : List Value} (u : Value) (hk : l[k]? = some (j, s, old, new)) (hs : L s = false) (hj : L j = true) (hq : val j = .pointer (some ⟨q, 0, none⟩)) (hlen : old.length = new.length) :
    Fresh n l (addL L s) (upd val s u) (sets w q 0 new) := by
  have jne : ∀ (k' j' s' : Nat) (old' new' : List Value), l[k']? = some (j', s', old', new') → j' ≠ s := fun k' j' s' old' new' hk' => fd_js hd hk' hk
  refine ⟨fun k' j' s' old' new' hk' hj' => ?_, fun k1 k2 j1 s1 j2 s2 old1 new1 old2 new2 hk1 hk2 hkk hj1 hj2 => ?_⟩
  · have n1 := jne k' j' s' old' new' hk'
    obtain ⟨q', h1, h2, h3, h4⟩ := h.box k' j' s' old' new' hk' (by simpa [addL, n1] using hj')
    refine ⟨q', by simpa [upd, n1] using h1, h2, by rw [sets_size]; exact h3, fun i v hv => ?_⟩
    by_cases c : k' = k
    · subst c
      rw [hk] at hk'
      obtain ⟨rfl, rfl, rfl, rfl⟩ : j = j' ∧ s = s' ∧ old = old' ∧ new = new' := by simpa using hk'
      rw [show addL L s s = true by simp [addL], if_pos rfl] at hv
      rw [hs] at h4
      simp only [Bool.false_eq_true, if_false] at h4
      obtain rfl : q = q' := by rw [hq] at h1; simpa using h1
      have := sets_in (q := q) new old 0 w hlen (fun j v hv => by rw [Nat.zero_add]; exact h4 j v hv) i v hv
      rwa [Nat.zero_add] at this
    · have n2 : s' ≠ s := (fd_jj hd hk' hk c).2.1
      have hqq : q' ≠ q := fun e => h.ne k' k j' s' j s old' new' old new hk' hk c (by simpa [addL, n1] using hj') hj (by rw [h1, hq, e])
      obtain ⟨c1, c2⟩ := sets_far (b := q') (q := q) hqq new 0 w i
      obtain ⟨c3, c4⟩ := h4 i v (by simpa [addL, n2] using hv)
      exact ⟨c1.trans c3, c2.trans c4⟩
  · have n1 := jne k1 j1 s1 old1 new1 hk1
    have n2 := jne k2 j2 s2 old2 new2 hk2
    have := h.ne k1 k2 j1 s1 j2 s2 old1 new1 old2 new2 hk1 hk2 hkk (by simpa [addL, n1] using hj1) (by simpa [addL, n2] using hj2)
    simpa [upd, n1, n2] using this
theorem Tab.lts {w : World} {l : List (Nat × List Value)} (h : Tab w l) (hne : (l.all fun e => !e.2.isEmpty) = true) : ∀ (k b : Nat) (vs : List Value), l[k]? = some (b, vs) → b < w.heap.size := fun k b vs hk => by
  have := List.all_eq_true.1 hne (b, vs) (List.mem_of_getElem? hk)
  cases vs with
  | nil => simp at this
  | cons v vs => exact h.lt k hk
theorem fresh_ne {l : List (Nat × Nat × List Value × List Value)} {i : Nat} (h : ((l.map (·.1)).all (· != i) && (l.map (·.2.1)).all (· != i)) = true) : ∀ (k j s : Nat) (old new : List Value), l[k]? = some (j, s, old, new) → j ≠ i ∧ s ≠ i := fun k j s old new hk => by
  rw [Bool.and_eq_true, List.all_eq_true, List.all_eq_true] at h
  exact ⟨by simpa using h.1 j (List.mem_map.2 ⟨_, List.mem_of_getElem? hk, rfl⟩), by simpa using h.2 s (List.mem_map.2 ⟨_, List.mem_of_getElem? hk, rfl⟩)⟩
end Go.Proofs.Reg
