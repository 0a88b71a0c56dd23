/- Law 5: weights that are small. -/
import Derived.Test.YtmelbgabiklojaaShareD
import Derived.Test.YtmelbgabiklojaaBigA
import Derived.RegionTactic
import Derived.WalkKit
import Derived.WalkSpells
import Derived.WalkLawsBesides
import Derived.Handy
import Derived.Lib.Hide
import Derived.Deep.QuietTactic
import Derived.BigQuiet
import Derived.LoopTactic
import Derived.Outline
namespace Go.Proofs.Ytmelbgabiklojaa
open Go.RowKit Go.Proofs.Reg Go.Proofs.Big
set_option linter.unusedVariables false
set_option linter.unusedSimpArgs false
set_option maxRecDepth 100000
/-- a slice of numbers of a kind reads as a list -/
structure RiK (kd : IntKind) (w : World) (a : Option Addr) (len cap : Nat) (xs : List Int) : Prop where
  hlen : xs.length = len
  hmax : len ≤ 9223372036854775807
  addr : 0 < len → ∃ p : Addr, a = some p ∧ ∀ k, k < len → w.cell? (p.add k) = some (.int kd (xs.getD k 0))
theorem RiK.later {kd : IntKind} {w w' : World} {a : Option Addr} {len cap : Nat} {xs : List Int} (h : RiK kd w a len cap xs) (hb : Below w.heap.size w w') : RiK kd w' a len cap xs :=
  ⟨h.hlen, h.hmax, fun hp => by obtain ⟨p, e, c⟩ := h.addr hp; exact ⟨p, e, fun k hk => cell_later hb (c k hk)⟩⟩
theorem ri_of_owns {w : World} {base : Nat} {e : TypeId} {v : Value} {n : Nat} {xs : List Int} (h : w.ownsRow base e 1 v n (xs.map (Value.int .i64))) (hm : n ≤ 9223372036854775807) : ∃ a cap, v = .slice a n cap ∧ Ri w a n cap xs := by
  have hc := fun g hg => World.ownsRow.cells h (g := g) hg
  obtain ⟨h1, h2⟩ := h
  have hn : xs.length = n := by simpa using h1
  rcases h2 with ⟨hv, hx⟩ | ⟨g, cap, cur, hv, hg, hh, hcap, r⟩
  · subst hv
    subst hx
    have : xs = [] := List.length_eq_zero_iff.1 hn
    subst this
    exact ⟨none, 0, rfl, rfl, by decide, fun h => absurd h (by decide)⟩
  · subst hv
    refine ⟨_, _, rfl, hn, hm, fun _ => ⟨⟨g, 0, none⟩, rfl, fun k hk => ?_⟩⟩
    have := hc g rfl k (.int .i64 (xs.getD k 0)) (by
      rw [List.getElem?_map, List.getElem?_eq_getElem (by omega), List.getD_eq_getElem?_getD, List.getElem?_eq_getElem (by omega)]; rfl)
    by_cases k0 : k = 0
    · subst k0; simpa [Addr.add] using this
    · simpa [Addr.add, k0] using this
theorem cap_of_owns {w : World} {base : Nat} {e : TypeId} {a : Option Addr} {n cap : Nat} {xs : List Value} (h : w.ownsRow base e 1 (.slice a n cap) n xs) : n ≤ cap ∧ cap ≤ 9223372036854775807 := by
  rcases h.2 with ⟨hv, hx⟩ | ⟨g, cap', cur, hv, hg, hh, hcap, r, _⟩
  · simp only [Value.slice.injEq] at hv
    omega
  · simp only [Value.slice.injEq] at hv
    obtain ⟨_, _, rfl⟩ := hv
    unfold maxLen at r
    omega
theorem ri_of_owns2 {w : World} {base : Nat} {e : TypeId} {a : Option Addr} {n cap : Nat} {xs : List Int} (h : w.ownsRow base e 1 (.slice a n cap) n (xs.map (Value.int .i64))) (hm : n ≤ 9223372036854775807) : Ri w a n cap xs := by
  obtain ⟨a', cap', e1, r⟩ := ri_of_owns h hm
  simp only [Value.slice.injEq] at e1
  obtain ⟨rfl, _, rfl⟩ := e1
  exact r
/-- small weights: the first of them, as int64 -/
def SmallR (w : World) (xs : List Int) (e : Ending) (w' : World) : Prop :=
  (∃ a cap, e = .returned (.tuple #[.slice a (xs.take 40).length cap, .int .i64 (xs.take 40).sum]) ∧ Ri w' a (xs.take 40).length cap (xs.take 40) ∧ (xs.take 40).length ≤ cap ∧ cap ≤ 9223372036854775807) ∧ Below w.heap.size w w'
theorem sum_small {xs : List Int} (h : ∀ x ∈ xs, 0 ≤ x ∧ x ≤ 65535) (k : Nat) : 0 ≤ (xs.take k).sum ∧ (xs.take k).sum ≤ 65535 * k := by
  induction k generalizing xs with
  | zero => simp
  | succ k ih =>
    cases xs with
    | nil => simp; omega
    | cons x xs =>
      have := ih (xs := xs) (fun y m => h y (by simp [m]))
      have := h x (by simp)
      simp only [List.take_succ_cons, List.sum_cons]
      omega
end Go.Proofs.Ytmelbgabiklojaa
/- Law 5: two neighbours together. -/
namespace Go.Proofs.Ytmelbgabiklojaa
open Go.RowKit Go.Proofs.Reg
set_option linter.unusedVariables false
set_option linter.unusedSimpArgs false
/-- two neighbours put together -/
def mrg (l : List Int) (k : Nat) : List Int := l.take k ++ [l.getD k 0 + l.getD (k + 1) 0] ++ l.drop (k + 2)
theorem mrg_len {l : List Int} {k : Nat} (h : k + 1 < l.length) : (mrg l k).length = l.length - 1 := by
  simp [mrg]; omega
theorem mrg_get {l : List Int} {k : Nat} (h : k + 1 < l.length) (i : Nat) : (mrg l k).getD i 0 = if i < k then l.getD i 0 else if i = k then l.getD k 0 + l.getD (k + 1) 0 else l.getD (i + 1) 0 := by
  have tl : (l.take k).length = k := by rw [List.length_take]; omega
  unfold mrg
  rw [List.append_assoc]
  by_cases c : i < k
  · rw [if_pos c, List.getD_eq_getElem?_getD, List.getElem?_append_left (by omega), List.getElem?_take_of_lt c, ← List.getD_eq_getElem?_getD]
  · rw [if_neg c, List.getD_eq_getElem?_getD, List.getElem?_append_right (by omega), tl]
    by_cases e : i = k
    · subst e
      rw [if_pos rfl, Nat.sub_self]
      rfl
    · rw [if_neg e, List.singleton_append, show i - k = (i - k - 1) + 1 by omega, List.getElem?_cons_succ, List.getElem?_drop, show k + 2 + (i - k - 1) = i + 1 by omega, ← List.getD_eq_getElem?_getD]
theorem mrg_take {l : List Int} {k : Nat} (h : k + 1 < l.length) : ∀ i, i ≤ l.length - 1 → ((mrg l k).take i).sum = if i ≤ k then (l.take i).sum else (l.take (i + 1)).sum
  | 0, _ => by simp
  | i + 1, hi => by
    rw [sum_take_succ _ i (by rw [mrg_len h]; omega), mrg_take h i (by omega), mrg_get h]
    by_cases c : i < k
    · rw [if_pos (by omega), if_pos c, if_pos (by omega), sum_take_succ l i (by omega)]
    · by_cases e : i = k
      · subst e
        rw [if_pos (Nat.le_refl _), if_neg (by omega), if_pos rfl, if_neg (by omega), sum_take_succ l (i + 1) (by omega), sum_take_succ l i (by omega)]
        omega
      · rw [if_neg (by omega), if_neg c, if_neg e, if_neg (by omega), sum_take_succ l (i + 1) (by omega)]
theorem mrg_sum {l : List Int} {k : Nat} (h : k + 1 < l.length) : (mrg l k).sum = l.sum := by
  have := mrg_take h (l.length - 1) (Nat.le_refl _)
  rw [List.take_of_length_le (by rw [mrg_len h]; exact Nat.le_refl _), if_neg (by omega), List.take_of_length_le (by omega)] at this
  exact this
theorem mrg_part {T : Int} {l : List Int} {k : Nat} (h : k + 1 < l.length) (i : Nat) (hi : i < l.length - 1) :
    part5 T (mrg l k) i = if i < k then part5 T l i else if i = k then part5 T l k + part5 T l (k + 1) else part5 T l (i + 1) := by
  unfold part5 bnd
  rw [mrg_sum h, mrg_take h i (by omega), mrg_take h (i + 1) (by omega)]
  by_cases z : l.sum = 0
  · simp [z]
  · simp only [if_neg z]
    by_cases c : i < k
    · rw [if_pos c, if_pos (by omega), if_pos (by omega)]
    · by_cases e : i = k
      · subst e
        rw [if_neg c, if_pos rfl, if_neg (by omega), if_pos (Nat.le_refl _)]
        omega
      · rw [if_neg c, if_neg e, if_neg (by omega), if_neg (by omega)]
theorem mrg_parts {T : Int} {l : List Int} {k : Nat} (h : k + 1 < l.length) : parts5 T (mrg l k) = mrg (parts5 T l) k := by
  have h2 : k + 1 < (parts5 T l).length := by rw [parts_len]; exact h
  have e : ∀ (a b : List Int), a.length = b.length → (∀ i, i < a.length → a.getD i 0 = b.getD i 0) → a = b := fun a b hl hi => List.ext_getElem hl fun i h1 h2 => by
    have := hi i h1
    rwa [List.getD_eq_getElem?_getD, List.getD_eq_getElem?_getD, List.getElem?_eq_getElem h1, List.getElem?_eq_getElem h2] at this
  refine e _ _ (by rw [parts_len, mrg_len h, mrg_len h2, parts_len]) fun i hi => ?_
  rw [parts_len, mrg_len h] at hi
  rw [parts_get _ _ _ (by rw [mrg_len h]; exact hi), mrg_get h2, mrg_part h i hi]
  by_cases c : i < k
  · rw [if_pos c, if_pos c, parts_get _ _ _ (by omega)]
  · rw [if_neg c, if_neg c]
    by_cases e : i = k
    · rw [if_pos e, if_pos e, parts_get _ _ _ (by omega), parts_get _ _ _ (by omega)]
    · rw [if_neg e, if_neg e, parts_get _ _ _ (by omega)]
theorem mrg_mem {l : List Int} {k : Nat} {B : Int} (h : k + 1 < l.length) (hl : ∀ x ∈ l, 0 ≤ x ∧ x ≤ B) : ∀ x ∈ mrg l k, 0 ≤ x ∧ x ≤ 2 * B := by
  intro x m
  unfold mrg at m
  rw [List.append_assoc, List.mem_append, List.singleton_append, List.mem_cons] at m
  rcases m with m | rfl | m
  · have := hl x (List.mem_of_mem_take m); omega
  · have := hl _ (getD_mem (show k < l.length by omega))
    have := hl _ (getD_mem h)
    omega
  · have := hl x (List.mem_of_mem_drop m); omega
/-- whole rounds: the exact share -/
theorem part_round {q : Int} {l : List Int} (hl : ∀ x ∈ l, 0 ≤ x) {i : Nat} (hi : i < l.length) : part5 (q * l.sum) l i = q * l.getD i 0 := by
  unfold part5 bnd
  split
  · rename_i z
    have a := sum_take_le hl i
    have b := sum_take_le hl (i + 1)
    have c := hl _ (getD_mem hi)
    rw [sum_take_succ l i hi] at b
    rw [show l.getD i 0 = 0 by omega, Int.mul_zero]
  · rename_i z
    have e : ∀ s : Int, q * l.sum * s / l.sum = q * s := fun s => by
      rw [Int.mul_right_comm, Int.mul_ediv_cancel _ z]
    rw [e, e, sum_take_succ l i hi, Int.mul_add]
    omega
end Go.Proofs.Ytmelbgabiklojaa
/- Law 5: putting two neighbours together, by three appends: what a drawn region of it keeps. -/
namespace Go.Proofs.Ytmelbgabiklojaa
open Go.RowKit Go.Proofs.Reg Go.Proofs.Big
set_option linter.unusedVariables false
set_option linter.unusedSimpArgs false
theorem own_append (w : World) (base : Nat) (v : Value) (n : Nat) (xs : List Int) (hown : w.ownsRow base 2 1 v n (xs.map (Value.int .i64))) (hb : base ≤ w.heap.size) (p : Addr) (m c : Nat) (zs : List Int) (hz : zs.length = m) (hc : ∀ k, k < m → w.cell? (p.add k) = some (.int .i64 (zs.getD k 0))) (hn : n + m ≤ 1000) :
    ∃ v' w', (Builtin.append_ #[37, 37] 37 #[v, .slice (some p) m c]).run Try.prog w = .ok v' w' ∧ w'.ownsRow base 2 1 v' (n + m) ((xs ++ zs).map (Value.int .i64)) ∧ w.grownBy w' v.ownBlock := by
  obtain ⟨i0, hi, hz0, hz1, hz2⟩ : ∃ i, Try.prog.info? 2 = some i ∧ i.zero = some (.int .i64 0) ∧ i.size = 1 ∧ i.bytes = 8 := by
    have h := info_i64
    cases hq : Try.prog.info? 2 with
    | none => rw [hq] at h; simp at h
    | some i =>
      rw [hq] at h
      simp only [Option.map_some, Option.some.injEq, Prod.mk.injEq] at h
      exact ⟨i, rfl, h.1, h.2.1, h.2.2⟩
  obtain ⟨v', w', hr, ho, hg, _⟩ := run_append_own (P := Try.prog) w base 37 37 2 i0 (.int .i64 0) 1 8 Try.underlying37 hi hz0 hz1 hz2 rfl (by decide) v n (xs.map (Value.int .i64)) hown p m c (zs.map (Value.int .i64)) (by simp [hz]) (fun j u hj => by
      have hj' : j < m := by
        have := (List.getElem?_eq_some_iff.1 hj).1
        rw [List.length_map] at this
        omega
      rw [hc j hj']
      rw [List.getElem?_map, List.getElem?_eq_getElem (by omega)] at hj
      rw [List.getD_eq_getElem?_getD, List.getElem?_eq_getElem (by omega)]
      exact hj) (fun u hu => by obtain ⟨_, _, rfl⟩ := List.mem_map.1 hu; rfl) (by unfold maxLen; omega) (by omega) hb
  exact ⟨v', w', hr, by rw [List.map_append]; exact ho, hg⟩
theorem row_new (w : World) (base : Nat) (hb : base ≤ w.heap.size) : (w.alloc (.cells #[] 2)).ownsRow base 2 1 (.slice (some ⟨w.heap.size, 0, none⟩) 0 0) 0 (([] : List Int).map (Value.int .i64)) :=
  World.ownsRow_made w #[] 0 hb (by decide) rfl
theorem owns_drew {w : World} {base : Nat} {e : TypeId} {v : Value} {n : Nat} {xs : List Value} (h : w.ownsRow base e 1 v n xs) : w.drew.ownsRow base e 1 v n xs := h
theorem below_grown {wb wy w' : World} {e : TypeId} {v : Value} {n : Nat} {xs : List Value} (h : Below wb.heap.size wb wy) (own : wy.ownsRow wb.heap.size e 1 v n xs) (hg : wy.grownBy w' v.ownBlock) : Below wb.heap.size wb w' :=
  h.grown hg h.size (fun j hj => (own.lt j hj).1)
section
variable {P : Program} {A : Act} {w w' : World} {x : Option Tmp} {ty : TypeId} {ps : String} {af : Array Edge} {gd : Option (Nat × Bool)} {p q r : Operand} {u v c d : Value} {t t' : TypeId} {ts : Array TypeId}
theorem run_append2 (e : A.eval p = u) (f : A.eval q = c) (h : (Builtin.append_ ts ty #[u, c]).run P w = .ok v w') : (execOp A.eval ⟨x, .call ⟨.builtin .append, #[p, q], ts⟩, ty, ps, af, gd⟩).run P w = .ok (.value v) w' := by
  simp only [execOp, resolve]
  simp only [Sem.run_bind, Sem.run_pure, Result.andThen_ok, List.map_toArray, List.map_cons, List.map_nil, e, f]
  exact run_then h
theorem run_slice1 (e : A.eval p = u) (f : A.eval q = c) (h : (Instr.sliceAt t u (some c) none none).run P w = .ok v w') : (execOp A.eval ⟨x, .slice t p (some q) none none, ty, ps, af, gd⟩).run P w = .ok (.value v) w' := by
  simp only [execOp, e, Option.map_some, f, Option.map_none]; exact run_then h
theorem run_bslice1 (e : A.eval p = u) (h : (Instr.buildSlice t 1 #[(0, u)]).run P w = .ok v w') : (execOp A.eval ⟨x, .buildSlice t 1 #[(0, p)], ty, ps, af, gd⟩).run P w = .ok (.value v) w' := by
  simp only [execOp, List.map_toArray, List.map_cons, List.map_nil, e]; exact run_then h
end
/-- what the region keeps: wb is the world ahead of the row -/
def MgB (wb : World) (v4 : Value) (k n : Nat) (l : List Int) (s : Int) (L : Nat → Bool) (vz : Nat → Value) (wy : World) : Prop :=
  Below wb.heap.size wb wy ∧ (L 12 = false → wy.ownsRow wb.heap.size 2 1 v4 k ((l.take k).map (Value.int .i64))) ∧
  (L 11 = true → ∃ g, vz 11 = .slice (some ⟨g, 0, none⟩) 1 1 ∧ (L 12 = false → wy.cell? ⟨g, 0, none⟩ = some (.int .i64 s))) ∧
  (L 12 = true → L 17 = false → wy.ownsRow wb.heap.size 2 1 (vz 12) (k + 1) ((l.take k ++ [s]).map (Value.int .i64))) ∧
  (L 17 = true → wy.ownsRow wb.heap.size 2 1 (vz 17) (n - 1) ((mrg l k).map (Value.int .i64))) ∧ (L 18 = true → vz 18 = vz 17) ∧ (L 17 = true → L 12 = true)
section
variable {wb : World} {v4 : Value} {k n : Nat} {l : List Int} {s : Int} {L : Nat → Bool} {vz : Nat → Value} {wy : World}
theorem MgB.pure (h : MgB wb v4 k n l s L vz wy) (i : Nat) (hi : (i != 11 && i != 12 && i != 17 && i != 18) = true) (v : Value) : MgB wb v4 k n l s (addL L i) (upd vz i v) wy := by
  have e : ∀ j, (j == 11 || j == 12 || j == 17 || j == 18) = true → addL L i j = L j ∧ upd vz i v j = vz j := fun j hj => by
    have : j ≠ i := fun c => by subst c; simp at hi hj; omega
    simp [addL, upd, this]
  unfold MgB
  rw [(e 11 rfl).1, (e 11 rfl).2, (e 12 rfl).1, (e 12 rfl).2, (e 17 rfl).1, (e 17 rfl).2, (e 18 rfl).1, (e 18 rfl).2]
  exact h
theorem MgB.build (h : MgB wb v4 k n l s L vz wy) (h12 : L 12 = false) (h18 : L 18 = false) : MgB wb v4 k n l s (addL L 11) (upd vz 11 (.slice (some ⟨wy.heap.size, 0, none⟩) 1 1)) (wy.alloc (.cells #[.int .i64 s] 2)) := by
  obtain ⟨b, o, _, _, _, _, h7⟩ := h
  have h17 : L 17 = false := by
    cases c : L 17 with
    | false => rfl
    | true => have := h7 c; rw [h12] at this; cases this
  refine ⟨bel_tr0 b (bel_new _ _), fun _ => (o h12).alloc _, fun _ => ⟨wy.heap.size, by simp [upd], fun _ => by simp [go_sem]⟩, fun c => ?_, fun c => ?_, fun c => ?_, fun c => ?_⟩
  · simp [addL, h12] at c
  · simp [addL, h17] at c
  · simp [addL, h18] at c
  · simp [addL, h17] at c
theorem MgB.app1 (h : MgB wb v4 k n l s L vz wy) (h12 : L 12 = false) (h18 : L 18 = false) {v' : Value} {w' : World} (o : w'.ownsRow wb.heap.size 2 1 v' (k + 1) ((l.take k ++ [s]).map (Value.int .i64))) (g : wy.grownBy w' v4.ownBlock) (h11 : L 11 = true) : MgB wb v4 k n l s (addL L 12) (upd vz 12 v') w' := by
  obtain ⟨b, o0, h3, _, _, _, h7⟩ := h
  have h17 : L 17 = false := by
    cases c : L 17 with
    | false => rfl
    | true => have := h7 c; rw [h12] at this; cases this
  obtain ⟨q, e, _⟩ := h3 h11
  refine ⟨below_grown b (o0 h12) g, fun c => ?_, fun _ => ⟨q, by simpa [upd] using e, fun c => ?_⟩, fun _ _ => by simpa [upd] using o, fun c => ?_, fun c => ?_, fun c => ?_⟩
  · simp [addL] at c
  · simp [addL] at c
  · simp [addL, h17] at c
  · simp [addL, h18] at c
  · simp [addL]
theorem MgB.app2 (h : MgB wb v4 k n l s L vz wy) (h12 : L 12 = true) (h17 : L 17 = false) (h18 : L 18 = false) {v' : Value} {w' : World} (o : w'.ownsRow wb.heap.size 2 1 v' (n - 1) ((mrg l k).map (Value.int .i64))) (g : wy.grownBy w' (vz 12).ownBlock) : MgB wb v4 k n l s (addL L 17) (upd vz 17 v') w' := by
  obtain ⟨b, _, h3, h4, _, _, _⟩ := h
  refine ⟨below_grown b (h4 h12 h17) g, fun c => ?_, fun c => ?_, fun _ c => ?_, fun _ => by simpa [upd] using o, fun c => ?_, fun _ => by simpa [addL] using h12⟩
  · simp [addL, h12] at c
  · obtain ⟨q, e, _⟩ := h3 (by simpa [addL] using c)
    exact ⟨q, by simpa [upd] using e, fun c => by simp [addL, h12] at c⟩
  · simp [addL] at c
  · simp [addL, h18] at c
theorem MgB.last (h : MgB wb v4 k n l s L vz wy) (h17 : L 17 = true) : MgB wb v4 k n l s (addL L 18) (upd vz 18 (vz 17)) wy := by
  obtain ⟨b, o, h3, h4, h5, _, h7⟩ := h
  exact ⟨b, fun c => o (by simpa [addL] using c), fun c => by
    obtain ⟨q, e, f⟩ := h3 (by simpa [addL] using c)
    exact ⟨q, by simpa [upd] using e, fun c => f (by simpa [addL] using c)⟩, fun c d => by
    have := h4 (by simpa [addL] using c) (by simpa [addL] using d)
    simpa [upd] using this, fun c => by
    have := h5 (by simpa [addL] using c)
    simpa [upd] using this, fun _ => by simp [upd], fun _ => by simpa [addL] using h7 h17⟩
theorem MgB.start (hb : Below wb.heap.size wb wy) (o : wy.ownsRow wb.heap.size 2 1 v4 k ((l.take k).map (Value.int .i64))) : MgB wb v4 k n l s (fun _ => false) vz wy :=
  ⟨hb, fun _ => o, fun h => (by cases h), fun h => (by cases h), fun h => (by cases h), fun h => (by cases h), fun h => (by cases h)⟩
end
end Go.Proofs.Ytmelbgabiklojaa
/- Law 5: single operations on lists of int64. -/
namespace Go.Proofs.Ytmelbgabiklojaa
open Go.RowKit Go.Proofs.Reg Go.Proofs.Big
set_option linter.unusedVariables false
set_option linter.unusedSimpArgs false
theorem index_i64 (p : Addr) (n c k : Nat) (h : k < n) (w : World) : (Instr.indexAt 37 (.slice (some p) n c) (.int .i64 k)).run Try.prog w = .ok (.pointer (some (p.add k))) w := by
  have kn : (k : Int) < (n : Int) := by omega
  have k0 : (0 : Int) ≤ (k : Int) := by omega
  generalize hq : p.add k = q
  simp [go_sem, kn, k0, hq]
theorem slice_from (p : Addr) (n c k : Nat) (h : k ≤ n) (w : World) : (Instr.sliceAt 37 (.slice (some p) n c) (some (.int .i64 k)) none none).run Try.prog w = .ok (.slice (if c = k then some p else some (p.add k)) (n - k) (c - k)) w := by
  have kn : (k : Int) ≤ (n : Int) := by omega
  have k0 : (0 : Int) ≤ (k : Int) := by omega
  generalize hq : p.add k = q
  simp [go_sem, kn, k0, hq]
theorem bslice1_i64 (x : Int) (w : World) : (Instr.buildSlice 37 1 #[(0, .int .i64 x)]).run Try.prog w = .ok (.slice (some ⟨w.heap.size, 0, none⟩) 1 1) (w.alloc (.cells #[.int .i64 x] 2)) := by
  simp [go_sem]
theorem add_i64 (x y : Int) (h : -9223372036854775808 ≤ x + y ∧ x + y ≤ 9223372036854775807) (w : World) : (binOp .add 2 (.int .i64 x) (.int .i64 y)).run Try.prog w = .ok (.int .i64 (x + y)) w := by
  obtain ⟨h0, h1⟩ := h
  simp [go_sem, IntKind.wrap_i64]
  omega
theorem add_int (x y : Int) (h : -9223372036854775808 ≤ x + y ∧ x + y ≤ 9223372036854775807) (w : World) : (binOp .add 3 (.int .i64 x) (.int .i64 y)).run Try.prog w = .ok (.int .i64 (x + y)) w := by
  obtain ⟨h0, h1⟩ := h
  simp [go_sem, IntKind.wrap_i64]
  omega
theorem load_i64 {q : Addr} {w : World} {v : Int} (h : w.cell? q = some (.int .i64 v)) : (Instr.loadAt 2 (.pointer (some q))).run Try.prog w = .ok (.int .i64 v) w := by
  simp [go_sem, h]
end Go.Proofs.Ytmelbgabiklojaa
