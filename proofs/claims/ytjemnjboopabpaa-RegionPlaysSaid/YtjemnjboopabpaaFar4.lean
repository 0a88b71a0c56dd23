/- Law 7: two regions of one rectangle each, made in whatever order, in two boxes: what the region keeps. -/
import Derived.Test.YtjemnjboopabpaaSpk7
import Derived.Test.YtjemnjboopabpaaRegF
namespace Go.Proofs.Ytjemnjboopabpaa
open Go.RowKit Go.Proofs.Reg Go.Proofs.Big Go.Proofs.Bands
set_option linter.unusedVariables false
set_option linter.unusedSimpArgs false
set_option maxRecDepth 100000
theorem RS.setR {w : World} {v : Value} {rs : List Q4} (h : RS w v rs) {b : Nat} {x : Option Addr} {y z : Nat} {t : TypeId} {fz : Nat × Nat} (hk : w.heap[b]? = some (.cells #[.slice x y z] t fz)) (u : Value) : RS (w.setCell ⟨b, 0, none⟩ u) v rs := by
  obtain ⟨a, n, c, rfl, h1, h2, h3, h4⟩ := h
  refine ⟨a, n, c, rfl, h1, h2, h3, fun hn => ?_⟩
  obtain ⟨g, o, hg, hc⟩ := h4 hn
  refine ⟨g, o, hg, fun k r hr => ?_⟩
  obtain ⟨c0, c1, c2, c3⟩ := hc k r hr
  have ne : g ≠ b := by
    rintro rfl
    simp only [World.cell?, hk] at c0
    match o + k * 4, c0 with
    | 0, c0 => simp at c0
    | q + 1, c0 => simp at c0
  have st : ∀ i v, w.cell? ⟨g, i, none⟩ = some v → (w.setCell ⟨b, 0, none⟩ u).cell? ⟨g, i, none⟩ = some v := fun i v hv => by
    rw [World.cell?_setCell_other _ _ _ _ (fun e => by injection e with e; exact ne e.symm)]
    exact hv
  exact ⟨st _ _ c0, st _ _ c1, st _ _ c2, st _ _ c3⟩
/-- a box for a region: empty, or filled -/
def BxR (n0 : Nat) (p v : Value) (full : Bool) (w : World) : Prop := ∃ b u, p = .pointer (some ⟨b, 0, none⟩) ∧ n0 ≤ b ∧ w.heap[b]? = some (.cells #[u] 26 (0, 0)) ∧ (full = false → u = .slice none 0 0) ∧ (full = true → v = .agg #[u])
theorem BxR.later {n0 : Nat} {p v : Value} {f : Bool} {w w' : World} (h : BxR n0 p v f w) (hb : Below w.heap.size w w') : BxR n0 p v f w' := by
  obtain ⟨b, u, a, c, d, e⟩ := h
  exact ⟨b, u, a, c, (hb.block b (Array.getElem?_eq_some_iff.1 d).1).trans d, e⟩
theorem BxR.set {n0 : Nat} {p v : Value} {f : Bool} {w : World} (h : BxR n0 p v f w) {b : Nat} (hb : p ≠ .pointer (some ⟨b, 0, none⟩)) (x : Value) : BxR n0 p v f (w.setCell ⟨b, 0, none⟩ x) := by
  obtain ⟨b', u, rfl, c, d, e⟩ := h
  refine ⟨b', u, rfl, c, ?_, e⟩
  rw [Below.heap_setCell _ _ _ _ (fun q => hb (by rw [q]))]
  exact d
def G4 (n0 : Nat) (p q : Q4) (L : Nat → Bool) (vz : Nat → Value) (w : World) : Nat → Prop
  | 1 => RS w (vz 1) [p]
  | 2 => IsR w (vz 2) (anyQ [p])
  | 4 => RS w (vz 4) [q]
  | 5 => IsR w (vz 5) (anyQ [q])
  | 6 => BxR n0 (vz 6) (vz 2) (L 8) w
  | 7 => BxR n0 (vz 7) (vz 5) (L 9) w
  | _ => True
structure F4 (wz : World) (tab : List (Nat × List Value)) (p q : Q4) (L : Nat → Bool) (vz : Nat → Value) (w : World) : Prop where
  below : Below wz.heap.size wz w
  tabs : Tab w tab
  all : ∀ j, L j = true → G4 wz.heap.size p q L vz w j
  ne : L 6 = true → L 7 = true → vz 6 ≠ vz 7
section
variable {wz : World} {tab : List (Nat × List Value)} {p q : Q4} {L : Nat → Bool} {vz : Nat → Value} {w : World}
theorem G4.later {n0 : Nat} {j : Nat} (h : G4 n0 p q L vz w j) {w' : World} (hb : Below w.heap.size w w') : G4 n0 p q L vz w' j := by
  unfold G4 at *
  split <;> first | exact RS.later h hb | exact IsR.later h hb | exact BxR.later h hb | trivial
theorem F4.start (h : Below wz.heap.size wz w) (k : Tab w tab) : F4 wz tab p q (fun _ => false) (fun _ => undef) w.drew :=
  ⟨h.drew, k.later ((Below.refl _ _).drew), by simp, by simp⟩
theorem F4.later (h : F4 wz tab p q L vz w) {w' : World} (hb : Below w.heap.size w w') : F4 wz tab p q L vz w' :=
  ⟨bel_tr0 h.below hb, h.tabs.later hb, fun j l => (h.all j l).later hb, h.ne⟩
/-- an operation that is no store -/
theorem F4.add (h : F4 wz tab p q L vz w) (i : Nat) (v : Value) (hi : i ≠ 8 ∧ i ≠ 9) (h2 : i = 2 → L 8 = false) (h5 : i = 5 → L 9 = false) (g : G4 wz.heap.size p q (addL L i) (upd vz i v) w i) (n6 : i = 6 → L 7 = true → v ≠ vz 7) (n7 : i = 7 → L 6 = true → vz 6 ≠ v) : F4 wz tab p q (addL L i) (upd vz i v) w := by
  have l8 : addL L i 8 = L 8 := by simp [addL, Ne.symm hi.1]
  have l9 : addL L i 9 = L 9 := by simp [addL, Ne.symm hi.2]
  refine ⟨h.below, h.tabs, fun j l => ?_, fun a b => ?_⟩
  · by_cases e : j = i
    · subst e; exact g
    · have l' : L j = true := by simpa [addL, e] using l
      have o := h.all j l'
      have vj : upd vz i v j = vz j := by simp [upd, e]
      unfold G4 at o ⊢
      split at o
      · rw [vj]; exact o
      · rw [vj]; exact o
      · rw [vj]; exact o
      · rw [vj]; exact o
      · rw [vj, l8]
        by_cases z : i = 2
        · obtain ⟨b, u, c1, c2, c3, c4, c5⟩ := o
          rw [h2 z] at c4 c5 ⊢
          exact ⟨b, u, c1, c2, c3, c4, fun k => by cases k⟩
        · rw [show upd vz i v 2 = vz 2 by simp [upd, Ne.symm z]]; exact o
      · rw [vj, l9]
        by_cases z : i = 5
        · obtain ⟨b, u, c1, c2, c3, c4, c5⟩ := o
          rw [h5 z] at c4 c5 ⊢
          exact ⟨b, u, c1, c2, c3, c4, fun k => by cases k⟩
        · rw [show upd vz i v 5 = vz 5 by simp [upd, Ne.symm z]]; exact o
      · first | trivial | (split <;> trivial)
  · by_cases e6 : i = 6
    · subst e6
      have := n6 rfl (by simpa [addL] using b)
      simpa [upd] using this
    · by_cases e7 : i = 7
      · subst e7
        have := n7 rfl (by simpa [addL] using a)
        simpa [upd] using this
      · have a' : L 6 = true := by simpa [addL, Ne.symm e6] using a
        have b' : L 7 = true := by simpa [addL, Ne.symm e7] using b
        simpa [upd, Ne.symm e6, Ne.symm e7] using h.ne a' b'
theorem heap_set0 {w : World} {b : Nat} {u x : Value} {t : TypeId} {fz : Nat × Nat} (hk : w.heap[b]? = some (.cells #[u] t fz)) : (w.setCell ⟨b, 0, none⟩ x).heap[b]? = some (.cells #[x] t fz) := by
  simp [World.setCell, Array.getElem?_modify, hk]
/-- the store of the one region, of the other -/
theorem F4.s8 (h : F4 wz tab p q L vz w) (ht : ∀ (k b : Nat) (vs : List Value), tab[k]? = some (b, vs) → b < wz.heap.size) (l8 : L 8 = false) (l6 : L 6 = true) (l2 : L 2 = true) (v : Value) :
    ∃ b a n c, vz 6 = .pointer (some ⟨b, 0, none⟩) ∧ vz 2 = .agg #[.slice a n c] ∧ w.cell? ⟨b, 0, none⟩ = some (.slice none 0 0) ∧ w.frozen? ⟨b, 0, none⟩ = false ∧ F4 wz tab p q (addL L 8) (upd vz 8 v) (w.setCell ⟨b, 0, none⟩ (.slice a n c)) := by
  have g6 : BxR wz.heap.size (vz 6) (vz 2) (L 8) w := h.all 6 l6
  have g2 : IsR w (vz 2) (anyQ [p]) := h.all 2 l2
  obtain ⟨a, n, c, e2⟩ := g2.form
  obtain ⟨b, u, e6, hb, hk, hu, _⟩ := g6
  obtain rfl := hu l8
  have hc : w.cell? ⟨b, 0, none⟩ = some (.slice none 0 0) := by simp [World.cell?, hk]
  have hf : w.frozen? ⟨b, 0, none⟩ = false := by simp [World.frozen?, hk]
  have vj : ∀ j, j ≠ 8 → upd vz 8 v j = vz j := fun j e => by simp [upd, e]
  have lj : ∀ j, j ≠ 8 → addL L 8 j = L j := fun j e => by simp [addL, e]
  refine ⟨b, a, n, c, e6, e2, hc, hf, h.below.setCell hb _, Tab.far h.tabs ht hb [.slice a n c], fun j l => ?_, fun x y => ?_⟩
  · by_cases e : j = 8
    · subst e; trivial
    · have o := h.all j (by rwa [lj j e] at l)
      unfold G4 at o ⊢
      split at o
      · rw [vj 1 (by decide)]; exact RS.setR o hk _
      · rw [vj 2 (by decide)]; exact IsR.setR o hk hc _
      · rw [vj 4 (by decide)]; exact RS.setR o hk _
      · rw [vj 5 (by decide)]; exact IsR.setR o hk hc _
      · rw [vj 6 (by decide), vj 2 (by decide)]
        exact ⟨b, _, e6, hb, heap_set0 hk, fun z => by simp [addL] at z, fun _ => e2⟩
      · rw [vj 7 (by decide), vj 5 (by decide), lj 9 (by decide)]
        exact BxR.set o (fun z => h.ne l6 (by rwa [lj 7 (by decide)] at l) (by rw [e6, z])) _
      · first | trivial | (split <;> trivial)
  · rw [lj 6 (by decide)] at x
    rw [lj 7 (by decide)] at y
    rw [vj 6 (by decide), vj 7 (by decide)]
    exact h.ne x y
theorem F4.s9 (h : F4 wz tab p q L vz w) (ht : ∀ (k b : Nat) (vs : List Value), tab[k]? = some (b, vs) → b < wz.heap.size) (l9 : L 9 = false) (l7 : L 7 = true) (l5 : L 5 = true) (v : Value) :
    ∃ b a n c, vz 7 = .pointer (some ⟨b, 0, none⟩) ∧ vz 5 = .agg #[.slice a n c] ∧ w.cell? ⟨b, 0, none⟩ = some (.slice none 0 0) ∧ w.frozen? ⟨b, 0, none⟩ = false ∧ F4 wz tab p q (addL L 9) (upd vz 9 v) (w.setCell ⟨b, 0, none⟩ (.slice a n c)) := by
  have g7 : BxR wz.heap.size (vz 7) (vz 5) (L 9) w := h.all 7 l7
  have g5 : IsR w (vz 5) (anyQ [q]) := h.all 5 l5
  obtain ⟨a, n, c, e5⟩ := g5.form
  obtain ⟨b, u, e7, hb, hk, hu, _⟩ := g7
  obtain rfl := hu l9
  have hc : w.cell? ⟨b, 0, none⟩ = some (.slice none 0 0) := by simp [World.cell?, hk]
  have hf : w.frozen? ⟨b, 0, none⟩ = false := by simp [World.frozen?, hk]
  have vj : ∀ j, j ≠ 9 → upd vz 9 v j = vz j := fun j e => by simp [upd, e]
  have lj : ∀ j, j ≠ 9 → addL L 9 j = L j := fun j e => by simp [addL, e]
  refine ⟨b, a, n, c, e7, e5, hc, hf, h.below.setCell hb _, Tab.far h.tabs ht hb [.slice a n c], fun j l => ?_, fun x y => ?_⟩
  · by_cases e : j = 9
    · subst e; trivial
    · have o := h.all j (by rwa [lj j e] at l)
      unfold G4 at o ⊢
      split at o
      · rw [vj 1 (by decide)]; exact RS.setR o hk _
      · rw [vj 2 (by decide)]; exact IsR.setR o hk hc _
      · rw [vj 4 (by decide)]; exact RS.setR o hk _
      · rw [vj 5 (by decide)]; exact IsR.setR o hk hc _
      · rw [vj 6 (by decide), vj 2 (by decide), lj 8 (by decide)]
        exact BxR.set o (fun z => h.ne (by rwa [lj 6 (by decide)] at l) l7 (by rw [e7, z])) _
      · rw [vj 7 (by decide), vj 5 (by decide)]
        exact ⟨b, _, e7, hb, heap_set0 hk, fun z => by simp [addL] at z, fun _ => e5⟩
      · first | trivial | (split <;> trivial)
  · rw [lj 6 (by decide)] at x
    rw [lj 7 (by decide)] at y
    rw [vj 6 (by decide), vj 7 (by decide)]
    exact h.ne x y
/-- what holds behind it -/
theorem F4.fin (h : F4 wz tab p q L vz w) (l : ∀ j, j < 10 → L j = true) : ∃ b1 b2 a1 n1 c1 a2 n2 c2, vz 6 = .pointer (some ⟨b1, 0, none⟩) ∧ vz 7 = .pointer (some ⟨b2, 0, none⟩) ∧ Tab w ((b2, [.slice a2 n2 c2]) :: (b1, [.slice a1 n1 c1]) :: tab) ∧ IsR w (.agg #[.slice a1 n1 c1]) (anyQ [p]) ∧ IsR w (.agg #[.slice a2 n2 c2]) (anyQ [q]) := by
  have g6 : BxR wz.heap.size (vz 6) (vz 2) (L 8) w := h.all 6 (l 6 (by decide))
  have g7 : BxR wz.heap.size (vz 7) (vz 5) (L 9) w := h.all 7 (l 7 (by decide))
  have g2 : IsR w (vz 2) (anyQ [p]) := h.all 2 (l 2 (by decide))
  have g5 : IsR w (vz 5) (anyQ [q]) := h.all 5 (l 5 (by decide))
  obtain ⟨b1, u1, e6, _, k1, _, f1⟩ := g6
  obtain ⟨b2, u2, e7, _, k2, _, f2⟩ := g7
  have v1 := f1 (l 8 (by decide))
  have v2 := f2 (l 9 (by decide))
  obtain ⟨a1, n1, c1, s1⟩ := g2.form
  obtain ⟨a2, n2, c2, s2⟩ := g5.form
  rw [v1] at s1 g2
  rw [v2] at s2 g5
  simp only [Value.agg.injEq, Array.mk.injEq, List.cons.injEq, and_true] at s1 s2
  subst s1 s2
  have row : ∀ {b : Nat} {x : Value} {t : TypeId}, w.heap[b]? = some (.cells #[x] t (0, 0)) → ∀ (i : Nat) (v : Value), [x][i]? = some v → w.cell? ⟨b, i, none⟩ = some v ∧ w.frozen? ⟨b, i, none⟩ = false := by
    intro b x t hk i v hi
    match i, hi with
    | 0, hi => simp at hi; subst hi; exact ⟨by simp [World.cell?, hk], by simp [World.frozen?, hk]⟩
    | i + 1, hi => simp at hi
  exact ⟨b1, b2, a1, n1, c1, a2, n2, c2, e6, e7, (h.tabs.cons (row k1)).cons (row k2), g2, g5⟩
end
end Go.Proofs.Ytjemnjboopabpaa
