/- Two appends in a region that draws its order, one of them into a box. -/
import Derived.Test.YtmelbgabiklojaaApp
import Derived.WalkKit
import Derived.WalkSpells
import Derived.WalkLawsBesides
import Derived.Handy
import Derived.Lib.Hide
import Derived.Outline
namespace Go.Proofs.Ytmelbgabiklojaa
open Go.RowKit Go.Proofs.Reg
set_option linter.unusedVariables false
set_option linter.unusedSimpArgs false
set_option maxRecDepth 100000
theorem kgrown_set (w : World) (p : Addr) (u : Value) : w.grownBy (w.setCell p u) (some p.block) := by
  refine ⟨rfl, rfl, rfl, by simp [World.setCell], fun k hk hn => ?_⟩
  exact Below.heap_setCell _ _ _ _ (fun e => hn (by rw [e]))
theorem JbOk.box {b0 : Nat} {J : Jb} {L : Nat → Bool} {vz : Nat → Value} {wy : World} (h : JbOk b0 J L vz wy) (i : Nat) (v : Value) (h1 : J.bi ≠ i) (h2 : J.ai ≠ i) {g : Nat} {c : Array Value} {T : TypeId} (hg : wy.heap[g]? = some (.cells c T (0, 0))) (ne : T ≠ J.e) (u : Value) : JbOk b0 J (addL L i) (upd vz i v) (wy.setCell ⟨g, 0, none⟩ u) := by
  have a1 : addL L i J.bi = L J.bi := by simp [addL, h1]
  have a2 : addL L i J.ai = L J.ai := by simp [addL, h2]
  have u1 : upd vz i v J.bi = vz J.bi := by simp [upd, h1]
  have u2 : upd vz i v J.ai = vz J.ai := by simp [upd, h2]
  have gr := kgrown_set wy ⟨g, 0, none⟩ u
  unfold JbOk
  rw [a1, a2, u1, u2]
  refine ⟨fun q => (h.1 q).kept gr (.inr fun e => box_ne hg (h.1 q) ne e.symm), fun q => ?_, fun q r => ?_⟩
  · obtain ⟨a, c, e', o⟩ := h.2.1 q
    exact ⟨a, c, e', o.kept gr (.inr fun e => box_ne hg o ne e.symm)⟩
  · obtain ⟨g', e', hg'⟩ := h.2.2 q r
    refine ⟨g', e', (gr.block g' (Array.getElem?_eq_some_iff.1 hg').1 (fun e => ?_)).trans hg'⟩
    injection e with e
    dsimp only at e
    subst e
    rw [hg] at hg'
    injection hg' with hg'
    injection hg' with _ hg'
    exact ne hg'
/-- two rows; the first one's new slice goes into a box -/
structure Ap2B (b0 : Nat) (W : World) (J J' : Jb) (g : Nat) (T : TypeId) (si : Nat) (L : Nat → Bool) (vz : Nat → Value) (wy : World) : Prop where
  ap : Ap2 b0 W J J' L vz wy
  bg : b0 ≤ g
  box0 : L si = false → wy.heap[g]? = some (.cells #[J.v] T (0, 0))
  box1 : L si = true → L J.ai = true ∧ wy.heap[g]? = some (.cells #[vz J.ai] T (0, 0))
structure ApartB (J J' : Jb) (T : TypeId) (si : Nat) : Prop where
  d : Apart2 J J'
  t : T ≠ J.e
  t' : T ≠ J'.e
  s1 : J.bi ≠ si
  s2 : J.ai ≠ si
  s3 : J'.bi ≠ si
  s4 : J'.ai ≠ si
section
variable {b0 : Nat} {W : World} {J J' : Jb} {g : Nat} {T : TypeId} {si : Nat} {L : Nat → Bool} {vz : Nat → Value} {wy w' : World}
theorem Ap2B.hg (h : Ap2B b0 W J J' g T si L vz wy) : ∃ c, wy.heap[g]? = some (.cells c T (0, 0)) := by
  cases z : L si
  · exact ⟨_, h.box0 z⟩
  · exact ⟨_, (h.box1 z).2⟩
theorem Ap2B.pure (h : Ap2B b0 W J J' g T si L vz wy) (i : Nat) (v : Value) (h1 : J.bi ≠ i) (h2 : J.ai ≠ i) (h3 : J'.bi ≠ i) (h4 : J'.ai ≠ i) (h5 : si ≠ i) (hb : Below wy.heap.size wy w') : Ap2B b0 W J J' g T si (addL L i) (upd vz i v) w' := by
  have a1 : addL L i si = L si := by simp [addL, h5]
  have a2 : addL L i J.ai = L J.ai := by simp [addL, h2]
  have u2 : upd vz i v J.ai = vz J.ai := by simp [upd, h2]
  refine ⟨h.ap.pure i v h1 h2 h3 h4 hb, h.bg, fun q => ?_, fun q => ?_⟩
  · have := h.box0 (a1 ▸ q)
    exact (hb.block g (Array.getElem?_eq_some_iff.1 this).1).trans this
  · have := h.box1 (a1 ▸ q)
    rw [a2, u2]
    exact ⟨this.1, (hb.block g (Array.getElem?_eq_some_iff.1 this.2).1).trans this.2⟩
theorem Ap2B.build (h : Ap2B b0 W J J' g T si L vz wy) (D : ApartB J J' T si) (z : L J.ai = false) (zs : L si = false) : Ap2B b0 W J J' g T si (addL L J.bi) (upd vz J.bi (.slice (some ⟨wy.heap.size, 0, none⟩) 1 1)) (wy.alloc (.cells J.cs.toArray J.e)) := by
  have a1 : addL L J.bi si = L si := by simp [addL, D.s1.symm]
  refine ⟨h.ap.build D.d z, h.bg, fun q => ?_, fun q => ?_⟩
  · have := h.box0 zs
    exact ((bel_newR wy _).block g (Array.getElem?_eq_some_iff.1 this).1).trans this
  · rw [a1, zs] at q; cases q
theorem Ap2B.build' (h : Ap2B b0 W J J' g T si L vz wy) (D : ApartB J J' T si) (z : L J'.ai = false) : Ap2B b0 W J J' g T si (addL L J'.bi) (upd vz J'.bi (.slice (some ⟨wy.heap.size, 0, none⟩) 1 1)) (wy.alloc (.cells J'.cs.toArray J'.e)) := by
  have a1 : addL L J'.bi si = L si := by simp [addL, D.s3.symm]
  have a2 : addL L J'.bi J.ai = L J.ai := by simp [addL, D.d.ab]
  have u2 : ∀ v, upd vz J'.bi v J.ai = vz J.ai := fun v => by simp [upd, D.d.ab]
  refine ⟨h.ap.build' D.d z, h.bg, fun q => ?_, fun q => ?_⟩
  · have := h.box0 (a1 ▸ q)
    exact ((bel_newR wy _).block g (Array.getElem?_eq_some_iff.1 this).1).trans this
  · have := h.box1 (a1 ▸ q)
    rw [a2, u2]
    exact ⟨this.1, ((bel_newR wy _).block g (Array.getElem?_eq_some_iff.1 this.2).1).trans this.2⟩
theorem Ap2B.app (h : Ap2B b0 W J J' g T si L vz wy) (D : ApartB J J' T si) (z : L J.ai = false) (zs : L si = false) (y : L J.bi = true) (ty : TypeId) :
    ∃ x v' w', vz J.bi = x ∧ (Builtin.append_ #[J.t, J.t] ty #[J.v, x]).run Try.prog wy = .ok v' w' ∧ Ap2B b0 W J J' g T si (addL L J.ai) (upd vz J.ai v') w' := by
  obtain ⟨q, e, hg⟩ := h.ap.j.2.2 y z
  have own := h.ap.j.1 z
  obtain ⟨a, c, w', r, o, gr⟩ := sl_append D.d.g.ty ty wy b0 J.v J.n J.xs J.cs own h.ap.lt q hg D.d.g.len D.d.g.one D.d.g.few
  have a1 : addL L J.ai si = L si := by simp [addL, D.s2.symm]
  refine ⟨_, _, w', e, r, ⟨own_below h.ap.bel h.ap.lt own gr, Nat.le_trans h.ap.lt gr.size, ?_, h.ap.j'.grown _ _ D.d.ab.symm D.d.aa.symm own (Ne.symm D.d.e) gr⟩, h.bg, fun q => ?_, fun q => ?_⟩
  · refine ⟨fun q => ?_, fun _ => ⟨a, c, by simp [upd], o⟩, fun q q' => ?_⟩
    · simp [addL] at q
    · simp [addL] at q'
  · have hb := h.box0 zs
    exact (gr.block g (Array.getElem?_eq_some_iff.1 hb).1 (box_ne hb own D.t)).trans hb
  · rw [a1, zs] at q; cases q
theorem Ap2B.app' (h : Ap2B b0 W J J' g T si L vz wy) (D : ApartB J J' T si) (z : L J'.ai = false) (y : L J'.bi = true) (ty : TypeId) :
    ∃ x v' w', vz J'.bi = x ∧ (Builtin.append_ #[J'.t, J'.t] ty #[J'.v, x]).run Try.prog wy = .ok v' w' ∧ Ap2B b0 W J J' g T si (addL L J'.ai) (upd vz J'.ai v') w' := by
  obtain ⟨q, e, hg⟩ := h.ap.j'.2.2 y z
  have own := h.ap.j'.1 z
  obtain ⟨a, c, w', r, o, gr⟩ := sl_append D.d.g'.ty ty wy b0 J'.v J'.n J'.xs J'.cs own h.ap.lt q hg D.d.g'.len D.d.g'.one D.d.g'.few
  have a1 : addL L J'.ai si = L si := by simp [addL, D.s4.symm]
  have a2 : addL L J'.ai J.ai = L J.ai := by simp [addL, D.d.aa]
  have u2 : ∀ v, upd vz J'.ai v J.ai = vz J.ai := fun v => by simp [upd, D.d.aa]
  refine ⟨_, _, w', e, r, ⟨own_below h.ap.bel h.ap.lt own gr, Nat.le_trans h.ap.lt gr.size, h.ap.j.grown _ _ D.d.ba D.d.aa own D.d.e gr, ?_⟩, h.bg, fun q => ?_, fun q => ?_⟩
  · refine ⟨fun q => ?_, fun _ => ⟨a, c, by simp [upd], o⟩, fun q q' => ?_⟩
    · simp [addL] at q
    · simp [addL] at q'
  · have hb := h.box0 (a1 ▸ q)
    exact (gr.block g (Array.getElem?_eq_some_iff.1 hb).1 (box_ne hb own D.t')).trans hb
  · have hb := h.box1 (a1 ▸ q)
    rw [a2, u2]
    exact ⟨hb.1, (gr.block g (Array.getElem?_eq_some_iff.1 hb.2).1 (box_ne hb.2 own D.t')).trans hb.2⟩
theorem Ap2B.put (h : Ap2B b0 W J J' g T si L vz wy) (D : ApartB J J' T si) (z : L si = false) (y : L J.ai = true) (v : Value) : Ap2B b0 W J J' g T si (addL L si) (upd vz si v) (wy.setCell ⟨g, 0, none⟩ (vz J.ai)) := by
  have hb := h.box0 z
  have a2 : addL L si J.ai = L J.ai := by simp [addL, D.s2]
  have u2 : upd vz si v J.ai = vz J.ai := by simp [upd, D.s2]
  refine ⟨⟨h.ap.bel.setCell h.bg _, by simpa [World.setCell] using h.ap.lt, h.ap.j.box si v D.s1 D.s2 hb D.t _, h.ap.j'.box si v D.s3 D.s4 hb D.t' _⟩, h.bg, fun q => ?_, fun _ => ⟨a2.trans y, ?_⟩⟩
  · simp [addL] at q
  · rw [u2]
    simp [World.setCell, Array.getElem?_modify, hb]
end
/-- an operation that hands on another one's value -/
def Asn (a b : Nat) (L : Nat → Bool) (vz : Nat → Value) : Prop := L a = true → L b = true ∧ vz a = vz b
theorem Asn.start (a b : Nat) (vz : Nat → Value) : Asn a b (fun _ => false) vz := fun h => (by cases h)
theorem Asn.add {a b : Nat} {L : Nat → Bool} {vz : Nat → Value} (h : Asn a b L vz) (i : Nat) (v : Value) (ha : a ≠ i) (hb : b ≠ i ∨ L b = false) : Asn a b (addL L i) (upd vz i v) := fun q => by
  have q' : L a = true := by simpa [addL, ha] using q
  obtain ⟨x, y⟩ := h q'
  rcases hb with hb | hb
  · exact ⟨by simpa [addL, hb] using x, by simpa [upd, ha, hb] using y⟩
  · rw [hb] at x; cases x
theorem Asn.put {a b : Nat} {L : Nat → Bool} {vz : Nat → Value} (ne : b ≠ a) (hb : L b = true) : Asn a b (addL L a) (upd vz a (vz b)) := fun _ => ⟨by simpa [addL, ne] using hb, by simp [upd, ne]⟩
end Go.Proofs.Ytmelbgabiklojaa
