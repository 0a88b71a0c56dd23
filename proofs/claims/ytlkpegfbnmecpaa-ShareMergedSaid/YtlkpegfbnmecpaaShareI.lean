/- Law 5: putting two neighbours together, by three appends: what a drawn region of it keeps. -/
import Derived.Test.YtlkpegfbnmecpaaShareH
import Derived.WalkKit
import Derived.WalkSpells
import Derived.WalkLawsBesides
import Derived.Handy
import Derived.Lib.Hide
namespace Go.Proofs.Ytlkpegfbnmecpaa
open Go.RowKit Go.Proofs.Reg Go.Proofs.Big
set_option linter.unusedVariables false
set_option linter.unusedSimpArgs false
theorem own_append (w : World) (base : Nat) (v : Value) (n : Nat) (xs : List Int) (hown : w.ownsRow base 2 1 v n (xs.map (Value.int .i64))) (hb : base ≤ w.heap.size) (p : Addr) (m c : Nat) (zs : List Int) (hz : zs.length = m) (hc : ∀ k, k < m → w.cell? (p.add k) = some (.int .i64 (zs.getD k 0))) (hn : n + m ≤ 1000) :
    ∃ v' w', (Builtin.append_ #[22, 22] 22 #[v, .slice (some p) m c]).run Try.prog w = .ok v' w' ∧ w'.ownsRow base 2 1 v' (n + m) ((xs ++ zs).map (Value.int .i64)) ∧ w.grownBy w' v.ownBlock := by
  obtain ⟨i0, hi, hz0, hz1, hz2⟩ : ∃ i, Try.prog.info? 2 = some i ∧ i.zero = some (.int .i64 0) ∧ i.size = 1 ∧ i.bytes = 8 := by
    have h := info_i64
    cases hq : Try.prog.info? 2 with
    | none => rw [hq] at h; simp at h
    | some i =>
      rw [hq] at h
      simp only [Option.map_some, Option.some.injEq, Prod.mk.injEq] at h
      exact ⟨i, rfl, h.1, h.2.1, h.2.2⟩
  obtain ⟨v', w', hr, ho, hg, _⟩ := run_append_own (P := Try.prog) w base 22 22 2 i0 (.int .i64 0) 1 8 Try.underlying22 hi hz0 hz1 hz2 rfl (by decide) v n (xs.map (Value.int .i64)) hown p m c (zs.map (Value.int .i64)) (by simp [hz]) (fun j u hj => by
      have hj' : j < m := by
        have := (List.getElem?_eq_some_iff.1 hj).1
        rw [List.length_map] at this
        omega
      rw [hc j hj']
      rw [List.getElem?_map, List.getElem?_eq_getElem (by omega)] at hj
      rw [List.getD_eq_getElem?_getD, List.getElem?_eq_getElem (by omega)]
      exact hj) (fun u hu => by obtain ⟨_, _, rfl⟩ := List.mem_map.1 hu; rfl) (by unfold maxLen; omega) (by omega) hb
  exact ⟨v', w', hr, by rw [List.map_append]; exact ho, hg⟩
theorem row_new (w : World) (base : Nat) (hb : base ≤ w.heap.size) : (w.alloc (.cells #[] 2)).ownsRow base 2 1 (.slice (some ⟨w.heap.size, 0, none⟩) 0 0) 0 (([] : List Int).map (Value.int .i64)) :=
  World.ownsRow_made w #[] 0 hb (by decide) rfl
theorem owns_drew {w : World} {base : Nat} {e : TypeId} {v : Value} {n : Nat} {xs : List Value} (h : w.ownsRow base e 1 v n xs) : w.drew.ownsRow base e 1 v n xs := h
theorem below_grown {wb wy w' : World} {e : TypeId} {v : Value} {n : Nat} {xs : List Value} (h : Below wb.heap.size wb wy) (own : wy.ownsRow wb.heap.size e 1 v n xs) (hg : wy.grownBy w' v.ownBlock) : Below wb.heap.size wb w' :=
  h.grown hg h.size (fun j hj => (own.lt j hj).1)
section
variable {P : Program} {A : Act} {w w' : World} {x : Option Tmp} {ty : TypeId} {ps : String} {af : Array Edge} {gd : Option (Nat × Bool)} {p q r : Operand} {u v c d : Value} {t t' : TypeId} {ts : Array TypeId}
theorem run_append2 (e : A.eval p = u) (f : A.eval q = c) (h : (Builtin.append_ ts ty #[u, c]).run P w = .ok v w') : (execOp A.eval ⟨x, .call ⟨.builtin .append, #[p, q], ts⟩, ty, ps, af, gd⟩).run P w = .ok (.value v) w' := by
  simp only [execOp, resolve]
  simp only [Sem.run_bind, Sem.run_pure, Result.andThen_ok, List.map_toArray, List.map_cons, List.map_nil, e, f]
  exact run_then h
theorem run_slice1 (e : A.eval p = u) (f : A.eval q = c) (h : (Instr.sliceAt t u (some c) none none).run P w = .ok v w') : (execOp A.eval ⟨x, .slice t p (some q) none none, ty, ps, af, gd⟩).run P w = .ok (.value v) w' := by
  simp only [execOp, e, Option.map_some, f, Option.map_none]; exact run_then h
theorem run_bslice1 (e : A.eval p = u) (h : (Instr.buildSlice t 1 #[(0, u)]).run P w = .ok v w') : (execOp A.eval ⟨x, .buildSlice t 1 #[(0, p)], ty, ps, af, gd⟩).run P w = .ok (.value v) w' := by
  simp only [execOp, List.map_toArray, List.map_cons, List.map_nil, e]; exact run_then h
end
/-- what the region keeps: wb is the world ahead of the row -/
def MgB (wb : World) (v4 : Value) (k n : Nat) (l : List Int) (s : Int) (L : Nat → Bool) (vz : Nat → Value) (wy : World) : Prop :=
  Below wb.heap.size wb wy ∧ (L 12 = false → wy.ownsRow wb.heap.size 2 1 v4 k ((l.take k).map (Value.int .i64))) ∧
  (L 11 = true → ∃ g, vz 11 = .slice (some ⟨g, 0, none⟩) 1 1 ∧ (L 12 = false → wy.cell? ⟨g, 0, none⟩ = some (.int .i64 s))) ∧
  (L 12 = true → L 17 = false → wy.ownsRow wb.heap.size 2 1 (vz 12) (k + 1) ((l.take k ++ [s]).map (Value.int .i64))) ∧
  (L 17 = true → wy.ownsRow wb.heap.size 2 1 (vz 17) (n - 1) ((mrg l k).map (Value.int .i64))) ∧ (L 18 = true → vz 18 = vz 17) ∧ (L 17 = true → L 12 = true)
section
variable {wb : World} {v4 : Value} {k n : Nat} {l : List Int} {s : Int} {L : Nat → Bool} {vz : Nat → Value} {wy : World}
theorem MgB.pure (h : MgB wb v4 k n l s L vz wy) (i : Nat) (hi : (i != 11 && i != 12 && i != 17 && i != 18) = true) (v : Value) : MgB wb v4 k n l s (addL L i) (upd vz i v) wy := by
  have e : ∀ j, (j == 11 || j == 12 || j == 17 || j == 18) = true → addL L i j = L j ∧ upd vz i v j = vz j := fun j hj => by
    have : j ≠ i := fun c => by subst c; simp at hi hj; omega
    simp [addL, upd, this]
  unfold MgB
  rw [(e 11 rfl).1, (e 11 rfl).2, (e 12 rfl).1, (e 12 rfl).2, (e 17 rfl).1, (e 17 rfl).2, (e 18 rfl).1, (e 18 rfl).2]
  exact h
theorem MgB.build (h : MgB wb v4 k n l s L vz wy) (h12 : L 12 = false) (h18 : L 18 = false) : MgB wb v4 k n l s (addL L 11) (upd vz 11 (.slice (some ⟨wy.heap.size, 0, none⟩) 1 1)) (wy.alloc (.cells #[.int .i64 s] 2)) := by
  obtain ⟨b, o, _, _, _, _, h7⟩ := h
  have h17 : L 17 = false := by
    cases c : L 17 with
    | false => rfl
    | true => have := h7 c; rw [h12] at this; cases this
  refine ⟨bel_tr0 b (bel_new _ _), fun _ => (o h12).alloc _, fun _ => ⟨wy.heap.size, by simp [upd], fun _ => by simp [go_sem]⟩, fun c => ?_, fun c => ?_, fun c => ?_, fun c => ?_⟩
  · simp [addL, h12] at c
  · simp [addL, h17] at c
  · simp [addL, h18] at c
  · simp [addL, h17] at c
theorem MgB.app1 (h : MgB wb v4 k n l s L vz wy) (h12 : L 12 = false) (h18 : L 18 = false) {v' : Value} {w' : World} (o : w'.ownsRow wb.heap.size 2 1 v' (k + 1) ((l.take k ++ [s]).map (Value.int .i64))) (g : wy.grownBy w' v4.ownBlock) (h11 : L 11 = true) : MgB wb v4 k n l s (addL L 12) (upd vz 12 v') w' := by
  obtain ⟨b, o0, h3, _, _, _, h7⟩ := h
  have h17 : L 17 = false := by
    cases c : L 17 with
    | false => rfl
    | true => have := h7 c; rw [h12] at this; cases this
  obtain ⟨q, e, _⟩ := h3 h11
  refine ⟨below_grown b (o0 h12) g, fun c => ?_, fun _ => ⟨q, by simpa [upd] using e, fun c => ?_⟩, fun _ _ => by simpa [upd] using o, fun c => ?_, fun c => ?_, fun c => ?_⟩
  · simp [addL] at c
  · simp [addL] at c
  · simp [addL, h17] at c
  · simp [addL, h18] at c
  · simp [addL]
theorem MgB.app2 (h : MgB wb v4 k n l s L vz wy) (h12 : L 12 = true) (h17 : L 17 = false) (h18 : L 18 = false) {v' : Value} {w' : World} (o : w'.ownsRow wb.heap.size 2 1 v' (n - 1) ((mrg l k).map (Value.int .i64))) (g : wy.grownBy w' (vz 12).ownBlock) : MgB wb v4 k n l s (addL L 17) (upd vz 17 v') w' := by
  obtain ⟨b, _, h3, h4, _, _, _⟩ := h
  refine ⟨below_grown b (h4 h12 h17) g, fun c => ?_, fun c => ?_, fun _ c => ?_, fun _ => by simpa [upd] using o, fun c => ?_, fun _ => by simpa [addL] using h12⟩
  · simp [addL, h12] at c
  · obtain ⟨q, e, _⟩ := h3 (by simpa [addL] using c)
    exact ⟨q, by simpa [upd] using e, fun c => by simp [addL, h12] at c⟩
  · simp [addL] at c
  · simp [addL, h18] at c
theorem MgB.last (h : MgB wb v4 k n l s L vz wy) (h17 : L 17 = true) : MgB wb v4 k n l s (addL L 18) (upd vz 18 (vz 17)) wy := by
  obtain ⟨b, o, h3, h4, h5, _, h7⟩ := h
  exact ⟨b, fun c => o (by simpa [addL] using c), fun c => by
    obtain ⟨q, e, f⟩ := h3 (by simpa [addL] using c)
    exact ⟨q, by simpa [upd] using e, fun c => f (by simpa [addL] using c)⟩, fun c d => by
    have := h4 (by simpa [addL] using c) (by simpa [addL] using d)
    simpa [upd] using this, fun c => by
    have := h5 (by simpa [addL] using c)
    simpa [upd] using this, fun _ => by simp [upd], fun _ => by simpa [addL] using h7 h17⟩
theorem MgB.start (hb : Below wb.heap.size wb wy) (o : wy.ownsRow wb.heap.size 2 1 v4 k ((l.take k).map (Value.int .i64))) : MgB wb v4 k n l s (fun _ => false) vz wy :=
  ⟨hb, fun _ => o, fun h => (by cases h), fun h => (by cases h), fun h => (by cases h), fun h => (by cases h), fun h => (by cases h)⟩
end
end Go.Proofs.Ytlkpegfbnmecpaa
