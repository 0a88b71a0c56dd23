/- Boxes that a region itself makes, among operations that draw their order. No program in sight. -/
import Derived.Test.YtmelbgabiklojaaRegM
import Derived.WalkKit
import Derived.WalkSpells
import Derived.Handy
namespace Go.Proofs.Reg
open Go.RowKit
set_option linter.unusedVariables false
set_option linter.unusedSimpArgs false
theorem bel_newR (w : World) (o : Obj) : Below w.heap.size w (w.alloc o) := (Below.refl _ _).alloc (Nat.le_refl _) o
/-- a whole box stored -/
def sets (w : World) (q : Nat) : Nat → List Value → World
  | _, [] => w
  | i, v :: vs => sets (w.setCell ⟨q, i, none⟩ v) q (i + 1) vs
theorem sets_size (q : Nat) : ∀ (vs : List Value) (i : Nat) (w : World), (sets w q i vs).heap.size = w.heap.size
  | [], _, _ => rfl
  | v :: vs, i, w => by
    show (sets (w.setCell ⟨q, i, none⟩ v) q (i + 1) vs).heap.size = _
    rw [sets_size q vs]
    simp
theorem sets_below {B q : Nat} {w0 : World} (hq : B ≤ q) : ∀ (vs : List Value) (i : Nat) (w : World), Below B w0 w → Below B w0 (sets w q i vs)
  | [], _, _, h => h
  | v :: vs, i, w, h => sets_below hq vs (i + 1) _ (h.setCell (p := ⟨q, i, none⟩) hq v)
theorem sets_far {b q : Nat} (hb : b ≠ q) : ∀ (vs : List Value) (i : Nat) (w : World) (j : Nat), (sets w q i vs).cell? ⟨b, j, none⟩ = w.cell? ⟨b, j, none⟩ ∧ (sets w q i vs).frozen? ⟨b, j, none⟩ = w.frozen? ⟨b, j, none⟩
  | [], _, _, _ => ⟨rfl, rfl⟩
  | v :: vs, i, w, j => by
    obtain ⟨h1, h2⟩ := sets_far hb vs (i + 1) (w.setCell ⟨q, i, none⟩ v) j
    refine ⟨h1.trans ?_, h2.trans ?_⟩
    · rw [World.cell?_setCell_other (h := fun x => by injection x with x; omega)]
    · simp [go_sem]
theorem sets_pre {q : Nat} : ∀ (vs : List Value) (i : Nat) (w : World) (j : Nat), j < i → (sets w q i vs).cell? ⟨q, j, none⟩ = w.cell? ⟨q, j, none⟩ ∧ (sets w q i vs).frozen? ⟨q, j, none⟩ = w.frozen? ⟨q, j, none⟩
  | [], _, _, _, _ => ⟨rfl, rfl⟩
  | v :: vs, i, w, j, hj => by
    obtain ⟨h1, h2⟩ := sets_pre vs (i + 1) (w.setCell ⟨q, i, none⟩ v) j (by omega)
    refine ⟨h1.trans ?_, h2.trans ?_⟩
    · rw [World.cell?_setCell_other (h := fun x => by injection x with _ x; omega)]
    · simp [go_sem]
theorem sets_in {q : Nat} : ∀ (vs os : List Value) (i : Nat) (w : World), os.length = vs.length → (∀ (j : Nat) (v : Value), os[j]? = some v → w.cell? ⟨q, i + j, none⟩ = some v ∧ w.frozen? ⟨q, i + j, none⟩ = false) →
    ∀ (j : Nat) (v : Value), vs[j]? = some v → (sets w q i vs).cell? ⟨q, i + j, none⟩ = some v ∧ (sets w q i vs).frozen? ⟨q, i + j, none⟩ = false
  | [], _, _, _, _, _, j, v, hv => by simp at hv
  | u :: vs, [], i, w, hl, _, _, _, _ => by simp at hl
  | u :: vs, o :: os, i, w, hl, ho, j, v, hv => by
    obtain ⟨c0, f0⟩ := ho 0 o rfl
    rw [Nat.add_zero] at c0 f0
    cases j with
    | zero =>
      simp only [List.getElem?_cons_zero, Option.some.injEq] at hv
      subst hv
      obtain ⟨h1, h2⟩ := sets_pre (q := q) vs (i + 1) (w.setCell ⟨q, i, none⟩ u) i (by omega)
      refine ⟨h1.trans ?_, h2.trans ?_⟩
      · rw [World.cell?_setCell_same (h := c0)]
      · simpa [go_sem] using f0
    | succ j =>
      have := sets_in vs os (i + 1) (w.setCell ⟨q, i, none⟩ u) (by simpa using hl) (fun k x hx => by
        obtain ⟨c, f⟩ := ho (k + 1) x (by simpa using hx)
        rw [show i + 1 + k = i + (k + 1) by omega]
        exact ⟨by rw [World.cell?_setCell_other (h := fun x => by injection x with _ x; omega)]; exact c, by simpa [go_sem] using f⟩) j v (by simpa using hv)
      rw [show i + (j + 1) = i + 1 + j by omega]
      exact this
theorem Tab.far {w : World} {l : List (Nat × List Value)} {n q : Nat} (h : Tab w l) (hl : ∀ (k b : Nat) (vs : List Value), l[k]? = some (b, vs) → b < n) (hq : n ≤ q) (vs : List Value) : Tab (sets w q 0 vs) l := fun k b us hk i v hi => by
  obtain ⟨c, f⟩ := h k b us hk i v hi
  have := hl k b us hk
  obtain ⟨h1, h2⟩ := sets_far (b := b) (q := q) (by omega) vs 0 w i
  exact ⟨h1.trans c, h2.trans f⟩
/-- boxes that the region itself makes: the operation that makes one, the one that fills it, what it holds before and behind -/
structure Fresh (n : Nat) (l : List (Nat × Nat × List Value × List Value)) (L : Nat → Bool) (val : Nat → Value) (w : World) : Prop where
  box : ∀ (k j s : Nat) (old new : List Value), l[k]? = some (j, s, old, new) → L j = true → ∃ q, val j = .pointer (some ⟨q, 0, none⟩) ∧ n ≤ q ∧ q < w.heap.size ∧ ∀ (i : Nat) (v : Value), (if L s = true then new else old)[i]? = some v → w.cell? ⟨q, i, none⟩ = some v ∧ w.frozen? ⟨q, i, none⟩ = false
  ne : ∀ (k k' j s j' s' : Nat) (old new old' new' : List Value), l[k]? = some (j, s, old, new) → l[k']? = some (j', s', old', new') → k ≠ k' → L j = true → L j' = true → val j ≠ val j'
theorem Fresh.start (n : Nat) (l : List (Nat × Nat × List Value × List Value)) (val : Nat → Value) (w : World) : Fresh n l (fun _ => false) val w := ⟨fun k j s old new hk h => (by cases h), fun k k' j s j' s' old new old' new' h1 h2 h3 h => (by cases h)⟩
theorem Fresh.later {n : Nat} {l : List (Nat × Nat × List Value × List Value)} {L : Nat → Bool} {val : Nat → Value} {w w' : World} (h : Fresh n l L val w) (hb : Below w.heap.size w w') : Fresh n l L val w' :=
  ⟨fun k j s old new hk hj => by
    obtain ⟨q, h1, h2, h3, h4⟩ := h.box k j s old new hk hj
    refine ⟨q, h1, h2, Nat.lt_of_lt_of_le h3 hb.size, fun i v hv => ?_⟩
    obtain ⟨c, f⟩ := h4 i v hv
    exact ⟨cell_later hb c, (hb.frozen (p := ⟨q, i, none⟩) h3).trans f⟩, h.ne⟩
def freshB (l : List (Nat × Nat × List Value × List Value)) (i : Nat) : Bool := l.all fun e => e.1 != i && e.2.1 != i
theorem Fresh.other {n : Nat} {l : List (Nat × Nat × List Value × List Value)} {L : Nat → Bool} {val : Nat → Value} {w : World} (h : Fresh n l L val w) (i : Nat) (v : Value) (hi : ∀ (k j s : Nat) (old new : List Value), l[k]? = some (j, s, old, new) → j ≠ i ∧ s ≠ i) : Fresh n l (addL L i) (upd val i v) w :=
  ⟨fun k j s old new hk hj => by
    obtain ⟨n1, n2⟩ := hi k j s old new hk
    have hj' : L j = true := by simpa [addL, n1] using hj
    obtain ⟨q, h1, h2, h3, h4⟩ := h.box k j s old new hk hj'
    exact ⟨q, by simpa [upd, n1] using h1, h2, h3, by simpa [addL, n2] using h4⟩,
   fun k k' j s j' s' old new old' new' hk hk' hkk hj hj' => by
    obtain ⟨n1, n2⟩ := hi k j s old new hk
    obtain ⟨n1', n2'⟩ := hi k' j' s' old' new' hk'
    have := h.ne k k' j s j' s' old new old' new' hk hk' hkk (by simpa [addL, n1] using hj) (by simpa [addL, n1'] using hj')
    simpa [upd, n1, n1'] using this⟩
/-- all the numbers of a list of new boxes are apart -/
def freshDif (l : List (Nat × Nat × List Value × List Value)) : Prop := (l.map (·.1) ++ l.map (·.2.1)).Nodup
theorem fd_jj {l : List (Nat × Nat × List Value × List Value)} (h : freshDif l) {k k' j s j' s' : Nat} {old new old' new' : List Value} (hk : l[k]? = some (j, s, old, new)) (hk' : l[k']? = some (j', s', old', new')) (hkk : k ≠ k') : j ≠ j' ∧ s ≠ s' ∧ j ≠ s' := by
  unfold freshDif at h
  obtain ⟨h1, h2, h3⟩ := List.nodup_append.1 h
  refine ⟨fun e => hkk (nodup_inj h1 (a := j) (by rw [List.getElem?_map, hk]; rfl) (by rw [List.getElem?_map, hk', e]; rfl)), fun e => hkk (nodup_inj h2 (a := s) (by rw [List.getElem?_map, hk]; rfl) (by rw [List.getElem?_map, hk', e]; rfl)), ?_⟩
  exact h3 j (List.mem_map.2 ⟨_, List.mem_of_getElem? hk, rfl⟩) s' (List.mem_map.2 ⟨_, List.mem_of_getElem? hk', rfl⟩)
theorem fd_js {l : List (Nat × Nat × List Value × List Value)} (h : freshDif l) {k k' j s j' s' : Nat} {old new old' new' : List Value} (hk : l[k]? = some (j, s, old, new)) (hk' : l[k']? = some (j', s', old', new')) : j ≠ s' := by
  unfold freshDif at h
  obtain ⟨h1, h2, h3⟩ := List.nodup_append.1 h
  exact h3 j (List.mem_map.2 ⟨_, List.mem_of_getElem? hk, rfl⟩) s' (List.mem_map.2 ⟨_, List.mem_of_getElem? hk', rfl⟩)
theorem Fresh.make {n : Nat} {l : List (Nat × Nat × List Value × List Value)} {L : Nat → Bool} {val : Nat → Value} {w : World} (h : Fresh n l L val w) (hd : freshDif l) (k : Nat) {j s : Nat} {old new : List Value} (hk : l[k]? = some (j, s, old, new)) (hs : L s = false) (hn : n ≤ w.heap.size) (t : TypeId) :
    Fresh n l (addL L j) (upd val j (.pointer (some ⟨w.heap.size, 0, none⟩))) (w.alloc (.cells old.toArray t)) := by
  have key : ∀ (k' j' s' : Nat) (old' new' : List Value), l[k']? = some (j', s', old', new') → k' ≠ k → j' ≠ j ∧ s' ≠ j := fun k' j' s' old' new' hk' hkk => ⟨(fd_jj hd hk' hk hkk).1, fun e => fd_js hd hk hk' e.symm⟩
  have hl := h.later (bel_newR w (.cells old.toArray t))
  refine ⟨fun k' j' s' old' new' hk' hj => ?_, fun k1 k2 j1 s1 j2 s2 old1 new1 old2 new2 hk1 hk2 hkk hj1 hj2 => ?_⟩
  · by_cases c : k' = k
    · subst c
      rw [hk] at hk'
      obtain ⟨rfl, rfl, rfl, rfl⟩ : j = j' ∧ s = s' ∧ old = old' ∧ new = new' := by simpa using hk'
      have hsj : s ≠ j := fun e => fd_js hd hk hk e.symm
      refine ⟨w.heap.size, by simp [upd], hn, by simp, fun i v hv => ?_⟩
      rw [show addL L j s = false by simp [addL, hsj, hs]] at hv
      have := (Tab.nil w).new old t
      exact this 0 _ _ rfl i v (by simpa using hv)
    · obtain ⟨n1, n2⟩ := key k' j' s' old' new' hk' c
      obtain ⟨q, h1, h2, h3, h4⟩ := hl.box k' j' s' old' new' hk' (by simpa [addL, n1] using hj)
      exact ⟨q, by simpa [upd, n1] using h1, h2, h3, by simpa [addL, n2] using h4⟩
  · have lt : ∀ (k' j' s' : Nat) (old' new' : List Value), l[k']? = some (j', s', old', new') → k' ≠ k → addL L j j' = true → upd val j (.pointer (some ⟨w.heap.size, 0, none⟩)) j' = val j' ∧ val j' ≠ .pointer (some ⟨w.heap.size, 0, none⟩) := fun k' j' s' old' new' hk' c hj => by
      obtain ⟨n1, n2⟩ := key k' j' s' old' new' hk' c
      obtain ⟨q, h1, h2, h3, h4⟩ := h.box k' j' s' old' new' hk' (by simpa [addL, n1] using hj)
      refine ⟨by simp [upd, n1], fun e => ?_⟩
      rw [h1] at e
      simp only [Value.pointer.injEq, Option.some.injEq, Addr.mk.injEq] at e
      omega
    by_cases c1 : k1 = k
    · by_cases c2 : k2 = k
      · exact absurd (c1.trans c2.symm) hkk
      · obtain ⟨e2, ne2⟩ := lt k2 j2 s2 old2 new2 hk2 c2 hj2
        subst c1
        rw [hk] at hk1
        obtain ⟨rfl, rfl, rfl, rfl⟩ : j = j1 ∧ s = s1 ∧ old = old1 ∧ new = new1 := by simpa using hk1
        rw [e2, show upd val j (.pointer (some ⟨w.heap.size, 0, none⟩)) j = .pointer (some ⟨w.heap.size, 0, none⟩) by simp [upd]]
        exact ne2.symm
    · by_cases c2 : k2 = k
      · obtain ⟨e1, ne1⟩ := lt k1 j1 s1 old1 new1 hk1 c1 hj1
        subst c2
        rw [hk] at hk2
        obtain ⟨rfl, rfl, rfl, rfl⟩ : j = j2 ∧ s = s2 ∧ old = old2 ∧ new = new2 := by simpa using hk2
        rw [e1, show upd val j (.pointer (some ⟨w.heap.size, 0, none⟩)) j = .pointer (some ⟨w.heap.size, 0, none⟩) by simp [upd]]
        exact ne1
      · obtain ⟨e1, _⟩ := lt k1 j1 s1 old1 new1 hk1 c1 hj1
        obtain ⟨e2, _⟩ := lt k2 j2 s2 old2 new2 hk2 c2 hj2
        obtain ⟨n1, _⟩ := key k1 j1 s1 old1 new1 hk1 c1
        obtain ⟨n2, _⟩ := key k2 j2 s2 old2 new2 hk2 c2
        rw [e1, e2]
        exact h.ne k1 k2 j1 s1 j2 s2 old1 new1 old2 new2 hk1 hk2 hkk (by simpa [addL, n1] using hj1) (by simpa [addL, n2] using hj2)
theorem Fresh.fill {n : Nat} {l : List (Nat × Nat × List Value × List Value)} {L : Nat → Bool} {val : Nat → Value} {w : World} (h : Fresh n l L val w) (hd : freshDif l) (k : Nat) {j s q : Nat} {old new : List Value} (u : Value) (hk : l[k]? = some (j, s, old, new)) (hs : L s = false) (hj : L j = true) (hq : val j = .pointer (some ⟨q, 0, none⟩)) (hlen : old.length = new.length) :
    Fresh n l (addL L s) (upd val s u) (sets w q 0 new) := by
  have jne : ∀ (k' j' s' : Nat) (old' new' : List Value), l[k']? = some (j', s', old', new') → j' ≠ s := fun k' j' s' old' new' hk' => fd_js hd hk' hk
  refine ⟨fun k' j' s' old' new' hk' hj' => ?_, fun k1 k2 j1 s1 j2 s2 old1 new1 old2 new2 hk1 hk2 hkk hj1 hj2 => ?_⟩
  · have n1 := jne k' j' s' old' new' hk'
    obtain ⟨q', h1, h2, h3, h4⟩ := h.box k' j' s' old' new' hk' (by simpa [addL, n1] using hj')
    refine ⟨q', by simpa [upd, n1] using h1, h2, by rw [sets_size]; exact h3, fun i v hv => ?_⟩
    by_cases c : k' = k
    · subst c
      rw [hk] at hk'
      obtain ⟨rfl, rfl, rfl, rfl⟩ : j = j' ∧ s = s' ∧ old = old' ∧ new = new' := by simpa using hk'
      rw [show addL L s s = true by simp [addL], if_pos rfl] at hv
      rw [hs] at h4
      simp only [Bool.false_eq_true, if_false] at h4
      obtain rfl : q = q' := by rw [hq] at h1; simpa using h1
      have := sets_in (q := q) new old 0 w hlen (fun j v hv => by rw [Nat.zero_add]; exact h4 j v hv) i v hv
      rwa [Nat.zero_add] at this
    · have n2 : s' ≠ s := (fd_jj hd hk' hk c).2.1
      have hqq : q' ≠ q := fun e => h.ne k' k j' s' j s old' new' old new hk' hk c (by simpa [addL, n1] using hj') hj (by rw [h1, hq, e])
      obtain ⟨c1, c2⟩ := sets_far (b := q') (q := q) hqq new 0 w i
      obtain ⟨c3, c4⟩ := h4 i v (by simpa [addL, n2] using hv)
      exact ⟨c1.trans c3, c2.trans c4⟩
  · have n1 := jne k1 j1 s1 old1 new1 hk1
    have n2 := jne k2 j2 s2 old2 new2 hk2
    have := h.ne k1 k2 j1 s1 j2 s2 old1 new1 old2 new2 hk1 hk2 hkk (by simpa [addL, n1] using hj1) (by simpa [addL, n2] using hj2)
    simpa [upd, n1, n2] using this
theorem Tab.lts {w : World} {l : List (Nat × List Value)} (h : Tab w l) (hne : (l.all fun e => !e.2.isEmpty) = true) : ∀ (k b : Nat) (vs : List Value), l[k]? = some (b, vs) → b < w.heap.size := fun k b vs hk => by
  have := List.all_eq_true.1 hne (b, vs) (List.mem_of_getElem? hk)
  cases vs with
  | nil => simp at this
  | cons v vs => exact h.lt k hk
theorem fresh_ne {l : List (Nat × Nat × List Value × List Value)} {i : Nat} (h : ((l.map (·.1)).all (· != i) && (l.map (·.2.1)).all (· != i)) = true) : ∀ (k j s : Nat) (old new : List Value), l[k]? = some (j, s, old, new) → j ≠ i ∧ s ≠ i := fun k j s old new hk => by
  rw [Bool.and_eq_true, List.all_eq_true, List.all_eq_true] at h
  exact ⟨by simpa using h.1 j (List.mem_map.2 ⟨_, List.mem_of_getElem? hk, rfl⟩), by simpa using h.2 s (List.mem_map.2 ⟨_, List.mem_of_getElem? hk, rfl⟩)⟩
end Go.Proofs.Reg
/- The same in the text's order: a region that does not draw, walked by an invariant; with known values. No program in sight. -/
namespace Go.Proofs.Reg
open Go.RowKit Go.Proofs.Big
set_option linter.unusedVariables false
set_option linter.unusedSimpArgs false
section
variable {P : Program} {ops : Array Oper} {Q : Exit → Act → World → Prop} {a0 : Act}
theorem region_text_m (M : Memo) (hup : upB ops = true) (hdist : apartB ops = true) (hsz : inB ops a0.tmps.size = true)
    (so : ∀ i o, ops[i]? = some o → Step P ops Q a0 M i o)
    (fin : ∀ L val w, (∀ j, j < ops.size → L j = true) → M L val w → Q .normal (puts ops (fun _ => true) val (List.range ops.size) a0) w) :
    ∀ (k n : Nat) (val : Nat → Value) (w : World), n + k = ops.size → M (fun j => decide (j < n)) val w →
      wpOps P ops Q (List.range' n k) (puts ops (fun j => decide (j < n)) val (List.range ops.size) a0) w := by
  have hA := apart_of hdist
  intro k
  induction k with
  | zero =>
    intro n val w hn hM
    have all : ∀ j, j < ops.size → decide (j < n) = true := fun j hj => decide_eq_true (by omega)
    rw [puts_congr (L' := fun _ => true) (val' := val) _ _ (fun j hj => ⟨all j (List.mem_range.1 hj), fun _ => rfl⟩)]
    exact fin _ val w all hM
  | succ k ih =>
    intro i val w hn hM
    have hlt : i < ops.size := by omega
    have ho : ops[i]? = some ops[i] := Array.getElem?_eq_getElem hlt
    obtain ⟨o, hoe⟩ : ∃ o, ops[i] = o := ⟨_, rfl⟩
    rw [hoe] at ho
    have hi0 : decide (i < i) = false := decide_eq_false (by omega)
    have hd : ∀ d, depB o d = true → decide (d < i) = true := by
      intro d hdd
      unfold depB at hdd
      rw [Array.any_eq_true] at hdd
      obtain ⟨k', hk, he⟩ := hdd
      simp only [Bool.and_eq_true, beq_iff_eq] at he
      have u := (List.all_eq_true.1 hup) i (List.mem_range.2 hlt)
      rw [ho] at u
      have u2 := (Array.all_eq_true_iff_forall_mem.1 u) _ (Array.getElem_mem hk)
      simp only [he.1, Bool.not_true, Bool.false_or, decide_eq_true_eq] at u2
      rw [← he.2]
      exact decide_eq_true u2
    have hL : (fun j => decide (j < i + 1)) = addL (fun j => decide (j < i)) i := by
      funext j
      by_cases c : j = i
      · subst c; simp [addL]
      · simp only [addL, c, if_false]
        by_cases l : j < i
        · rw [decide_eq_true l, decide_eq_true (by omega)]
        · rw [decide_eq_false l, decide_eq_false (by omega)]
    have next : ∀ v w', M (addL (fun j => decide (j < i)) i) (upd val i v) w' →
        wpOps P ops Q (List.range' (i + 1) k) ((puts ops (fun j => decide (j < i)) val (List.range ops.size) a0).put o.dst v) w' := by
      intro v w' hM'
      have := ih (i + 1) (upd val i v) w' (by omega) (by rw [hL]; exact hM')
      rw [hL, puts_add hA hi0 _ _ List.nodup_range (List.mem_range.2 hlt)] at this
      rw [show o.dst = dstAt ops i by unfold dstAt; rw [ho]; rfl]
      exact this
    have env : Env ops a0 (puts ops (fun j => decide (j < i)) val (List.range ops.size) a0) (fun j => decide (j < i)) val := by
      refine ⟨fun j d hj hd => ?_, fun t ht => ?_⟩
      · exact eval_in hA hj hd _ _ List.nodup_range (List.mem_range.2 (by have := of_decide_eq_true hj; omega)) (in_of hsz j d hd)
      · refine eval_out _ _ (fun j hj e => ?_)
        unfold dstAt at e
        cases hoj : ops[j]? with
        | none => rw [hoj] at e; cases e
        | some oj =>
          rw [hoj] at e
          simp only [Option.bind_some] at e
          have := (Array.all_eq_true_iff_forall_mem.1 ht) oj (Array.mem_of_getElem? hoj)
          rw [e] at this
          simp at this
    have hy : ∀ g t b, dstAt ops g = some t → depB o g = true → val g = .bool b → yielded ops (puts ops (fun j => decide (j < i)) val (List.range ops.size) a0).tmps g = some b := by
      intro g t b hdst hdg hv
      have e1 := env.dep g t (hd g hdg) hdst
      have tl : t < (puts ops (fun j => decide (j < i)) val (List.range ops.size) a0).tmps.size := by rw [puts_size]; exact in_of hsz g t hdst
      have e2 : (puts ops (fun j => decide (j < i)) val (List.range ops.size) a0).tmps[t]? = some (val g) := by
        rw [← e1]
        show _ = some (Array.getD _ t undef)
        rw [Array.getElem?_eq_getElem tl, Array.getD, dif_pos tl]
        rfl
      unfold yielded
      rw [show (ops[g]?).bind (·.dst) = some t from hdst]
      simp only [Option.bind_some]
      rw [e2, hv]
    have S := so i o ho _ _ _ _ _ env (puts_defers _ _) (fun t ht => puts_keep _ _ ht) hi0 hd hM next
    rw [List.range'_succ]
    unfold wpOps
    rw [ho]
    show if Region.wanted o _ = true then _ else _
    cases hg : o.guard with
    | none =>
      rw [hg] at S
      rw [if_pos (by unfold Region.wanted; rw [hg])]
      exact .inl S
    | some gw =>
      obtain ⟨g, want⟩ := gw
      rw [hg] at S
      obtain ⟨b, t, s1, s2, s3, s4⟩ := S
      by_cases c : b = want
      · rw [if_pos c] at s4
        rw [if_pos (by
          unfold Region.wanted
          rw [hg]
          show (yielded ops _ g == some want) = true
          rw [hy g t _ s1 s2 s3, c]
          simp)]
        exact .inl s4
      · rw [if_neg c] at s4
        rw [if_neg (by
          unfold Region.wanted
          rw [hg]
          show ¬ (yielded ops _ g == some want) = true
          rw [hy g t _ s1 s2 s3]
          simpa using c)]
        exact next _ _ s4
theorem wp_region_memo_t (M : Memo) (ds : List (Option Tmp)) {id : Nat} {w0 : World} (hds : ops.toList.map (·.dst) = ds) (hup : upB ops = true) (hdist : apartB ops = true) (hsz : inB ops a0.tmps.size = true)
    (h0 : M (fun _ => false) (fun _ => undef) w0)
    (so : ∀ i o, ops[i]? = some o → Step P ops Q a0 M i o)
    (fin : ∀ L val w, (∀ j, j < ops.size → L j = true) → M L val w → Q .normal (puts2 ds val 0 a0) w) : (Code.region id ops false).wp P Q a0 w0 := by
  refine wp_region ?_
  have hL : (fun j : Nat => decide (j < 0)) = fun _ => false := by
    funext j
    simp
  have := region_text_m (P := P) (Q := Q) (a0 := a0) M hup hdist hsz so (fun L val w hl hb => by rw [puts_of hds]; exact fin L val w hl hb) ops.size 0 (fun _ => undef) w0 (by omega) (by rw [hL]; exact h0)
  rw [hL] at this
  have e : ∀ (js : List Nat) (a : Act), puts ops (fun _ => false) (fun _ => undef) js a = a := by
    intro js
    induction js with
    | nil => intro a; rfl
    | cons j js ih => intro a; simp only [puts]; exact ih a
  rw [e] at this
  rw [List.range_eq_range']
  exact this
theorem wp_region_vals_t (vs : Known) (B : Memo) (ds : List (Option Tmp)) {id : Nat} {w0 : World} (hds : ops.toList.map (·.dst) = ds) (hup : upB ops = true) (hdist : apartB ops = true) (hsz : inB ops a0.tmps.size = true) (hg : grdAll ops = true)
    (h0 : B (fun _ => false) (fun _ => undef) w0)
    (so : ∀ i o, ops[i]? = some o → StepV P ops Q a0 vs B i o)
    (fin : ∀ L val w, (∀ j, j < ops.size → L j = true) → B L val w → Q .normal (puts2 ds (mix vs val) 0 a0) w) : (Code.region id ops false).wp P Q a0 w0 := by
  let M : Memo := fun L val w => (∀ j, L j = true → j < ops.size) ∧ (∀ j v, L j = true → vs[j]? = some (some v) → val j = v) ∧ (∀ j o, L j = true → ops[j]? = some o → ∀ d, depB o d = true → L d = true) ∧ B L val w
  refine wp_region_memo_t M ds hds hup hdist hsz ⟨fun j h => (by cases h), fun j v h => (by cases h), fun j o h => (by cases h), h0⟩ (fun i o ho => ?_) (fun L val w hL hM => ?_)
  · intro A L val w K env hdf hkp hi hd hM k
    obtain ⟨m1, m2, m3, m4⟩ := hM
    have ilt : i < ops.size := (Array.getElem?_eq_some_iff.1 ho).1
    have mk : ∀ v w', (match vs[i]? with | some (some u) => v = u | _ => True) → B (addL L i) (upd val i v) w' → M (addL L i) (upd val i v) w' := by
      intro v w' hv hB
      refine ⟨fun j hj => ?_, fun j u hj hu => ?_, fun j oj hj hoj d hdj => ?_, hB⟩
      · by_cases c : j = i
        · rw [c]; exact ilt
        · exact m1 j (by simpa [addL, c] using hj)
      · by_cases c : j = i
        · subst c
          rw [hu] at hv
          simpa [upd] using hv
        · rw [show upd val i v j = val j by simp [upd, c]]
          exact m2 j u (by simpa [addL, c] using hj) hu
      · by_cases c : j = i
        · rw [c] at hoj
          obtain rfl : o = oj := by rw [ho] at hoj; exact Option.some.inj hoj
          have := hd d hdj
          simp [addL, this]
        · have := m3 j oj (by simpa [addL, c] using hj) hoj d hdj
          simp [addL, this]
    have E : EnvV ops a0 A vs L val i o := by
      refine ⟨fun j t hj ht => ?_, env.out, hd, hi, fun s o' hs hds' => ?_, hdf, hkp⟩
      · rw [env.dep j t (hd j hj) ht]
        unfold mix
        cases h : vs[j]? with
        | none => rfl
        | some u =>
          cases u with
          | none => rfl
          | some u => exact m2 j u (hd j hj) h
      · cases hc : L s with
        | false => rfl
        | true =>
          have := m3 s o' hc hs i hds'
          rw [hi] at this; cases this
    have S := so i o ho
    unfold StepV at S
    have G := (Array.all_eq_true_iff_forall_mem.1 hg) o (Array.mem_of_getElem? ho)
    unfold grd at S
    cases hgd : o.guard with
    | none =>
      rw [hgd] at S
      exact S A L val w K E m4 (fun v w' hv hB => k v w' (mk v w' hv hB))
    | some gw =>
      obtain ⟨g, want⟩ := gw
      rw [hgd] at S G
      simp only [Bool.and_eq_true] at G
      obtain ⟨G1, G2⟩ := G
      obtain ⟨t, ht⟩ := Option.isSome_iff_exists.1 G2
      simp only at S
      cases hv : vs[g]? with
      | none => rw [hv] at S; exact S.elim
      | some u =>
        rw [hv] at S
        cases u with
        | none => exact S.elim
        | some u =>
          cases u with
          | bool b =>
            have e := m2 g (.bool b) (hd g G1) hv
            refine ⟨b, t, ht, G1, e, ?_⟩
            simp only at S
            by_cases c : b = want
            · rw [if_pos c]
              have c2 : (b == want) = true := by simpa using c
              rw [c2] at S
              exact S A L val w K E m4 (fun v w' hv hB => k v w' (mk v w' hv hB))
            · rw [if_neg c]
              have c2 : (b == want) = false := by simpa using c
              rw [c2] at S
              obtain ⟨S1, S2⟩ := S
              refine mk undef w ?_ (S2 L val w m4)
              revert S1
              cases vs[i]? with
              | none => exact fun _ => trivial
              | some x =>
                cases x with
                | none => exact fun _ => trivial
                | some x => exact fun h => h.symm
          | _ => exact S.elim
  · obtain ⟨m1, m2, m3, m4⟩ := hM
    have := fin L val w hL m4
    have e : ∀ (ds' : List (Option Tmp)) (n : Nat) (a : Act), n + ds'.length = ops.size → puts2 ds' (mix vs val) n a = puts2 ds' val n a := by
      intro ds'
      induction ds' with
      | nil => intro n a _; rfl
      | cons d ds' ih =>
        intro n a hn
        have hn2 : n < ops.size := by simp only [List.length_cons] at hn; omega
        have : mix vs val n = val n := by
          unfold mix
          cases h : vs[n]? with
          | none => rfl
          | some u =>
            cases u with
            | none => rfl
            | some u => exact (m2 n u (hL n hn2) h).symm
        show puts2 ds' (mix vs val) (n + 1) (a.put d (mix vs val n)) = puts2 ds' val (n + 1) (a.put d (val n))
        rw [this]
        exact ih (n + 1) _ (by simp only [List.length_cons] at hn; omega)
    rw [e ds 0 a0 (by rw [← hds]; simp)] at this
    exact this
end
end Go.Proofs.Reg
