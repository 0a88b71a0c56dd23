/- Appends of one record in regions that draw their order: one or two rows of different element types. -/
import Derived.Test.YtmelbgabiklojaaRec
import Derived.Test.YtmelbgabiklojaaRegM
import Derived.Test.YtmelbgabiklojaaRegF
import Derived.WalkKit
import Derived.WalkSpells
import Derived.WalkLawsBesides
import Derived.Handy
import Derived.Lib.Hide
import Derived.Outline
namespace Go.Proofs.Ytmelbgabiklojaa
open Go.RowKit Go.Proofs.Reg
set_option linter.unusedVariables false
set_option linter.unusedSimpArgs false
set_option maxRecDepth 100000
/-- what appending needs to know of a slice's type -/
def SlT (t e : TypeId) (size : Nat) (z : Value) (bytes : Nat) : Prop :=
  Try.prog.underlying t = some (.slice e) ∧ (Try.prog.info? e).map (fun i => (i.zero, i.size, i.bytes)) = some (some z, size, bytes) ∧ z.cells.size = size ∧ 0 < size ∧ bytes ≤ 1000
theorem SlT.info {t e : TypeId} {size : Nat} {z : Value} {bytes : Nat} (h : SlT t e size z bytes) : ∃ i, Try.prog.info? e = some i ∧ i.zero = some z ∧ i.size = size ∧ i.bytes = bytes := by
  have g := h.2.1
  cases hq : Try.prog.info? e with
  | none => rw [hq] at g; simp at g
  | some i =>
    rw [hq] at g
    simp only [Option.map_some, Option.some.injEq, Prod.mk.injEq] at g
    exact ⟨i, rfl, g.1, g.2.1, g.2.2⟩
theorem sl_append {t e : TypeId} {size bytes : Nat} {z : Value} (T : SlT t e size z bytes) (ty : TypeId) (w : World) (base : Nat) (v : Value) (n : Nat) (xs cs : List Value) (own : w.ownsRow base e size v n xs) (hb : base ≤ w.heap.size) (g : Nat) (hg : w.heap[g]? = some (.cells cs.toArray e (0, 0))) (hl : cs.length = size) (h1 : ∀ u ∈ cs, u.oneCell' = true) (hn : n + 1 ≤ 1000000) :
    ∃ a c w', (Builtin.append_ #[t, t] ty #[v, .slice (some ⟨g, 0, none⟩) 1 1]).run Try.prog w = .ok (.slice a (n + 1) c) w' ∧ w'.ownsRow base e size (.slice a (n + 1) c) (n + 1) (xs ++ cs) ∧ w.grownBy w' v.ownBlock := by
  obtain ⟨i, hi, hz, hs, hby⟩ := T.info
  have hbb := T.2.2.2.2
  obtain ⟨v', w', hr, ho, hgr, _⟩ := run_append_own (P := Try.prog) w base t ty e i z size bytes T.1 hi hz hs hby T.2.2.1 T.2.2.2.1 v n xs own ⟨g, 0, none⟩ 1 1 cs (by rw [hl]; omega) (fun j u hj => by
      rw [show (⟨g, 0, none⟩ : Addr).add j = ⟨g, j, none⟩ by simp [Addr.add]; exact fun h => h.symm]
      simp only [World.cell?, hg, List.getElem?_toArray]
      simpa using hj) h1 (by unfold maxLen; omega) (by have := Nat.mul_le_mul hn hbb; omega) hb
  rcases Joins.ownsRow_forms ho with ⟨rfl, h⟩ | ⟨g', cap, rfl⟩
  · omega
  · exact ⟨_, _, w', hr, ho, hgr⟩
theorem own_ne {w : World} {b1 b2 : Nat} {e1 e2 : TypeId} {s1 s2 n1 n2 : Nat} {v1 v2 : Value} {x1 x2 : List Value} (h : w.ownsRow b1 e1 s1 v1 n1 x1) (k : w.ownsRow b2 e2 s2 v2 n2 x2) (ne : e1 ≠ e2) : v1.ownBlock = none ∨ v1.ownBlock ≠ v2.ownBlock := by
  rcases h.2 with ⟨rfl, _⟩ | ⟨g1, cap1, cur1, rfl, _, hg1, _⟩
  · exact .inl rfl
  · rcases k.2 with ⟨rfl, _⟩ | ⟨g2, cap2, cur2, rfl, _, hg2, _⟩
    · exact .inr (by simp [Value.ownBlock])
    · refine .inr fun e => ?_
      simp only [Value.ownBlock, Option.some.injEq] at e
      subst e
      rw [hg1] at hg2
      injection hg2 with hg2
      injection hg2 with _ hg2
      exact ne hg2
theorem box_ne {w : World} {b2 g : Nat} {e1 e2 : TypeId} {s2 n2 : Nat} {v2 : Value} {x2 : List Value} {c : Array Value} (h : w.heap[g]? = some (.cells c e1 (0, 0))) (k : w.ownsRow b2 e2 s2 v2 n2 x2) (ne : e1 ≠ e2) : some g ≠ v2.ownBlock := by
  rcases k.2 with ⟨rfl, _⟩ | ⟨g2, cap2, cur2, rfl, _, hg2, _⟩
  · simp [Value.ownBlock]
  · intro e
    simp only [Value.ownBlock, Option.some.injEq] at e
    subst e
    rw [h] at hg2
    injection hg2 with hg2
    injection hg2 with _ hg2
    exact ne hg2
/-- an append of one record: the operations that build it and append it, the row ahead of it, the record -/
structure Jb where
  bi : Nat
  ai : Nat
  t : TypeId
  e : TypeId
  z : Nat
  zv : Value
  bytes : Nat
  v : Value
  n : Nat
  xs : List Value
  cs : List Value
structure Jb.Good (J : Jb) : Prop where
  ty : SlT J.t J.e J.z J.zv J.bytes
  len : J.cs.length = J.z
  one : ∀ u ∈ J.cs, u.oneCell' = true
  few : J.n + 1 ≤ 1000000
  ne : J.bi ≠ J.ai
def JbOk (b0 : Nat) (J : Jb) (L : Nat → Bool) (vz : Nat → Value) (wy : World) : Prop :=
  (L J.ai = false → wy.ownsRow b0 J.e J.z J.v J.n J.xs) ∧
  (L J.ai = true → ∃ a c, vz J.ai = .slice a (J.n + 1) c ∧ wy.ownsRow b0 J.e J.z (.slice a (J.n + 1) c) (J.n + 1) (J.xs ++ J.cs)) ∧
  (L J.bi = true → L J.ai = false → ∃ g, vz J.bi = .slice (some ⟨g, 0, none⟩) 1 1 ∧ wy.heap[g]? = some (.cells J.cs.toArray J.e (0, 0)))
theorem JbOk.pure {b0 : Nat} {J : Jb} {L : Nat → Bool} {vz : Nat → Value} {wy w' : World} (h : JbOk b0 J L vz wy) (i : Nat) (v : Value) (h1 : J.bi ≠ i) (h2 : J.ai ≠ i) (hb : Below wy.heap.size wy w') : JbOk b0 J (addL L i) (upd vz i v) w' := by
  have a1 : addL L i J.bi = L J.bi := by simp [addL, h1]
  have a2 : addL L i J.ai = L J.ai := by simp [addL, h2]
  have u1 : upd vz i v J.bi = vz J.bi := by simp [upd, h1]
  have u2 : upd vz i v J.ai = vz J.ai := by simp [upd, h2]
  unfold JbOk
  rw [a1, a2, u1, u2]
  refine ⟨fun q => kowns_on (h.1 q) hb, fun q => ?_, fun q r => ?_⟩
  · obtain ⟨a, c, e, o⟩ := h.2.1 q
    exact ⟨a, c, e, kowns_on o hb⟩
  · obtain ⟨g, e, hg⟩ := h.2.2 q r
    exact ⟨g, e, (hb.block g (Array.getElem?_eq_some_iff.1 hg).1).trans hg⟩
theorem JbOk.build {b0 : Nat} {J : Jb} {L : Nat → Bool} {vz : Nat → Value} {wy : World} (h : JbOk b0 J L vz wy) (hn : J.bi ≠ J.ai) (z : L J.ai = false) : JbOk b0 J (addL L J.bi) (upd vz J.bi (.slice (some ⟨wy.heap.size, 0, none⟩) 1 1)) (wy.alloc (.cells J.cs.toArray J.e)) := by
  have a2 : addL L J.bi J.ai = L J.ai := by simp [addL, Ne.symm hn]
  unfold JbOk
  rw [a2, z]
  refine ⟨fun q => kowns_on (h.1 z) (bel_newR _ _), fun q => (by cases q), fun _ _ => ⟨wy.heap.size, by simp [upd], heap_alloc_new _ _⟩⟩
/-- another row's append leaves this one -/
theorem JbOk.grown {b0 b1 : Nat} {J : Jb} {L : Nat → Bool} {vz : Nat → Value} {wy w' : World} (h : JbOk b0 J L vz wy) (i : Nat) (v : Value) (h1 : J.bi ≠ i) (h2 : J.ai ≠ i) {e : TypeId} {s n : Nat} {u : Value} {xs : List Value} (k : wy.ownsRow b1 e s u n xs) (ne : J.e ≠ e) (hg : wy.grownBy w' u.ownBlock) : JbOk b0 J (addL L i) (upd vz i v) w' := by
  have a1 : addL L i J.bi = L J.bi := by simp [addL, h1]
  have a2 : addL L i J.ai = L J.ai := by simp [addL, h2]
  have u1 : upd vz i v J.bi = vz J.bi := by simp [upd, h1]
  have u2 : upd vz i v J.ai = vz J.ai := by simp [upd, h2]
  unfold JbOk
  rw [a1, a2, u1, u2]
  refine ⟨fun q => (h.1 q).kept hg (own_ne (h.1 q) k ne), fun q => ?_, fun q r => ?_⟩
  · obtain ⟨a, c, e', o⟩ := h.2.1 q
    exact ⟨a, c, e', o.kept hg (own_ne o k ne)⟩
  · obtain ⟨g, e', hg'⟩ := h.2.2 q r
    exact ⟨g, e', (hg.block g (Array.getElem?_eq_some_iff.1 hg').1 (box_ne hg' k ne)).trans hg'⟩
/-- one or two rows that are appended to -/
structure Ap2 (b0 : Nat) (W : World) (J J' : Jb) (L : Nat → Bool) (vz : Nat → Value) (wy : World) : Prop where
  bel : Below b0 W wy
  lt : b0 ≤ wy.heap.size
  j : JbOk b0 J L vz wy
  j' : JbOk b0 J' L vz wy
/-- what keeps two rows apart -/
structure Apart2 (J J' : Jb) : Prop where
  g : J.Good
  g' : J'.Good
  e : J.e ≠ J'.e
  bb : J.bi ≠ J'.bi
  ba : J.bi ≠ J'.ai
  ab : J.ai ≠ J'.bi
  aa : J.ai ≠ J'.ai
theorem Ap2.pure {b0 : Nat} {W : World} {J J' : Jb} {L : Nat → Bool} {vz : Nat → Value} {wy w' : World} (h : Ap2 b0 W J J' L vz wy) (i : Nat) (v : Value) (h1 : J.bi ≠ i) (h2 : J.ai ≠ i) (h3 : J'.bi ≠ i) (h4 : J'.ai ≠ i) (hb : Below wy.heap.size wy w') : Ap2 b0 W J J' (addL L i) (upd vz i v) w' :=
  ⟨h.bel.trans (hb.mono h.lt), Nat.le_trans h.lt hb.size, h.j.pure i v h1 h2 hb, h.j'.pure i v h3 h4 hb⟩
theorem Ap2.build {b0 : Nat} {W : World} {J J' : Jb} {L : Nat → Bool} {vz : Nat → Value} {wy : World} (h : Ap2 b0 W J J' L vz wy) (D : Apart2 J J') (z : L J.ai = false) : Ap2 b0 W J J' (addL L J.bi) (upd vz J.bi (.slice (some ⟨wy.heap.size, 0, none⟩) 1 1)) (wy.alloc (.cells J.cs.toArray J.e)) :=
  ⟨h.bel.trans ((bel_newR wy _).mono h.lt), Nat.le_trans h.lt (by simp), h.j.build D.g.ne z, h.j'.pure _ _ D.bb.symm D.ba.symm (bel_newR _ _)⟩
theorem Ap2.build' {b0 : Nat} {W : World} {J J' : Jb} {L : Nat → Bool} {vz : Nat → Value} {wy : World} (h : Ap2 b0 W J J' L vz wy) (D : Apart2 J J') (z : L J'.ai = false) : Ap2 b0 W J J' (addL L J'.bi) (upd vz J'.bi (.slice (some ⟨wy.heap.size, 0, none⟩) 1 1)) (wy.alloc (.cells J'.cs.toArray J'.e)) :=
  ⟨h.bel.trans ((bel_newR wy _).mono h.lt), Nat.le_trans h.lt (by simp), h.j.pure _ _ D.bb D.ab (bel_newR _ _), h.j'.build D.g'.ne z⟩
theorem own_below {b0 : Nat} {W w w' : World} {e : TypeId} {s n : Nat} {v : Value} {xs : List Value} (h : Below b0 W w) (hl : b0 ≤ w.heap.size) (own : w.ownsRow b0 e s v n xs) (hg : w.grownBy w' v.ownBlock) : Below b0 W w' := h.grown hg hl (fun j hj => (own.lt j hj).1)
theorem Ap2.app {b0 : Nat} {W : World} {J J' : Jb} {L : Nat → Bool} {vz : Nat → Value} {wy : World} (h : Ap2 b0 W J J' L vz wy) (D : Apart2 J J') (z : L J.ai = false) (y : L J.bi = true) (ty : TypeId) :
    ∃ x v' w', vz J.bi = x ∧ (Builtin.append_ #[J.t, J.t] ty #[J.v, x]).run Try.prog wy = .ok v' w' ∧ Ap2 b0 W J J' (addL L J.ai) (upd vz J.ai v') w' := by
  obtain ⟨g, e, hg⟩ := h.j.2.2 y z
  have own := h.j.1 z
  obtain ⟨a, c, w', r, o, gr⟩ := sl_append D.g.ty ty wy b0 J.v J.n J.xs J.cs own h.lt g hg D.g.len D.g.one D.g.few
  refine ⟨_, _, w', e, r, own_below h.bel h.lt own gr, Nat.le_trans h.lt gr.size, ?_, h.j'.grown _ _ D.ab.symm D.aa.symm own (Ne.symm D.e) gr⟩
  refine ⟨fun q => ?_, fun _ => ⟨a, c, by simp [upd], o⟩, fun q q' => ?_⟩
  · simp [addL] at q
  · simp [addL] at q'
theorem Ap2.app' {b0 : Nat} {W : World} {J J' : Jb} {L : Nat → Bool} {vz : Nat → Value} {wy : World} (h : Ap2 b0 W J J' L vz wy) (D : Apart2 J J') (z : L J'.ai = false) (y : L J'.bi = true) (ty : TypeId) :
    ∃ x v' w', vz J'.bi = x ∧ (Builtin.append_ #[J'.t, J'.t] ty #[J'.v, x]).run Try.prog wy = .ok v' w' ∧ Ap2 b0 W J J' (addL L J'.ai) (upd vz J'.ai v') w' := by
  obtain ⟨g, e, hg⟩ := h.j'.2.2 y z
  have own := h.j'.1 z
  obtain ⟨a, c, w', r, o, gr⟩ := sl_append D.g'.ty ty wy b0 J'.v J'.n J'.xs J'.cs own h.lt g hg D.g'.len D.g'.one D.g'.few
  refine ⟨_, _, w', e, r, own_below h.bel h.lt own gr, Nat.le_trans h.lt gr.size, h.j.grown _ _ D.ba D.aa own D.e gr, ?_⟩
  refine ⟨fun q => ?_, fun _ => ⟨a, c, by simp [upd], o⟩, fun q q' => ?_⟩
  · simp [addL] at q
  · simp [addL] at q'
section
variable {P : Program} {A : Act} {w w' : World} {x : Option Tmp} {ty : TypeId} {ps : String} {af : Array Edge} {gd : Option (Nat × Bool)} {p q r : Operand} {u v c d : Value} {t t' : TypeId} {ts : Array TypeId}
theorem run_app2 (e : A.eval p = u) (f : A.eval q = c) (h : (Builtin.append_ ts ty #[u, c]).run P w = .ok v w') : (execOp A.eval ⟨x, .call ⟨.builtin .append, #[p, q], ts⟩, ty, ps, af, gd⟩).run P w = .ok (.value v) w' := by
  simp only [execOp, resolve]
  simp only [Sem.run_bind, Sem.run_pure, Result.andThen_ok, List.map_toArray, List.map_cons, List.map_nil, e, f]
  exact run_then h
theorem run_bsl1 (e : A.eval p = u) (h : (Instr.buildSlice t 1 #[(0, u)]).run P w = .ok v w') : (execOp A.eval ⟨x, .buildSlice t 1 #[(0, p)], ty, ps, af, gd⟩).run P w = .ok (.value v) w' := by
  simp only [execOp, List.map_toArray, List.map_cons, List.map_nil, e]; exact run_then h
end
end Go.Proofs.Ytmelbgabiklojaa
