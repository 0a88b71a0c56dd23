/- Arrays of cells as functions of the place: what a struct or an array by value is, part by part. Program-free. -/
import Derived.WalkKit
import Derived.Handy
import Derived.Laws.Rows
import Derived.Laws.Tables
import Derived.Deep.MidRow
import Derived.DeepKeys
import Derived.Laws.ResultCell
import Derived.Laws.CopyOwn
import Derived.ChangeKeysEq
import Derived.WalkSpells
namespace Go.Proofs.Arr
open Go Go.RowKit
set_option linter.unusedVariables false
set_option linter.unusedSimpArgs false
/-- n cells, each by its place -/
def arr (n : Nat) (f : Nat → Value) : Array Value := ((List.range n).map f).toArray
theorem arr_size (n : Nat) (f : Nat → Value) : (arr n f).size = n := by simp [arr]
theorem arr_list (n : Nat) (f : Nat → Value) : (arr n f).toList = (List.range n).map f := rfl
theorem arr_len (n : Nat) (f : Nat → Value) : (arr n f).toList.length = n := by simp [arr]
theorem arr_get {n : Nat} (f : Nat → Value) {k : Nat} (h : k < n) : (arr n f)[k]? = some (f k) := by
  simp [arr, h]
theorem arr_no {n : Nat} (f : Nat → Value) {k : Nat} (h : n ≤ k) : (arr n f)[k]? = none := by
  simp [arr, h]
theorem arr_ext {n : Nat} {f g : Nat → Value} (h : ∀ k, k < n → f k = g k) : arr n f = arr n g := by
  unfold arr
  congr 1
  exact List.map_congr_left fun k m => h k (List.mem_range.1 m)
theorem arr_of {c : Array Value} {n : Nat} {f : Nat → Value} (hs : c.size = n) (h : ∀ k, k < n → c[k]? = some (f k)) : c = arr n f := by
  refine Array.ext (by rw [hs, arr_size]) fun i hi hj => ?_
  have i1 : i < n := by omega
  have a := h i i1
  have b := arr_get f i1
  rw [Array.getElem?_eq_getElem hi] at a
  rw [Array.getElem?_eq_getElem hj] at b
  exact Option.some.inj (a.trans b.symm)
/-- one place another -/
def upF (f : Nat → Value) (k : Nat) (v : Value) (i : Nat) : Value := if i = k then v else f i
theorem arr_set (n : Nat) (f : Nat → Value) (k : Nat) (v : Value) : (arr n f).setIfInBounds k v = arr n (upF f k v) := by
  refine arr_of (by rw [Array.size_setIfInBounds, arr_size]) fun i hi => ?_
  rw [Array.getElem?_setIfInBounds]
  unfold upF
  by_cases e : k = i
  · subst e
    rw [if_pos rfl, if_pos rfl, if_pos (by rw [arr_size]; exact hi)]
  · rw [if_neg e, if_neg (fun h => e h.symm), arr_get f hi]
/-- some places in a row others -/
def putF (g : Nat → Value) (off n : Nat) (f : Nat → Value) (k : Nat) : Value := if off ≤ k ∧ k < off + n then f (k - off) else g k
theorem fold_arr (off m : Nat) (f g : Nat → Value) : ∀ n : Nat, ((arr n f).zipIdx.foldl (fun cs (x : Value × Nat) => cs.setIfInBounds (off + x.2) x.1) (arr m g)) = arr m (putF g off n f)
  | 0 => by
    have : (arr 0 f).zipIdx = #[] := by simp [arr]
    rw [this]
    exact arr_ext fun k _ => by unfold putF; rw [if_neg (by omega)]
  | n + 1 => by
    have e : (arr (n + 1) f).zipIdx = (arr n f).zipIdx.push (f n, n) := by
      refine Array.ext (by simp [arr]) fun i hi hj => ?_
      simp only [arr, Array.size_zipIdx, List.size_toArray, List.length_map, List.length_range] at hi
      rw [Array.getElem_push]
      split
      · simp [arr]
      · have : i = n := by
          rename_i h
          simp [arr] at h
          omega
        subst this
        simp [arr]
    rw [e, Array.foldl_push, fold_arr off m f g n]
    show (arr m (putF g off n f)).setIfInBounds (off + n) (f n) = _
    rw [arr_set]
    refine arr_ext fun k _ => ?_
    unfold upF putF
    by_cases h : k = off + n
    · subst h
      rw [if_pos rfl, if_pos (by omega), show off + n - off = n by omega]
    · rw [if_neg h]
      by_cases h2 : off ≤ k ∧ k < off + n
      · rw [if_pos h2, if_pos (by omega)]
      · rw [if_neg h2, if_neg (by omega)]
theorem arr_two (n : Nat) (f : Nat → Value) {i : Nat} (h : i + 2 ≤ n) : (arr n f).extract i (i + 2) = #[f i, f (i + 1)] := by
  refine Array.ext (by simp [arr]; omega) fun k hk hj => ?_
  simp at hj
  rw [Array.getElem_extract]
  match k, hj with
  | 0, _ => simp [arr]
  | 1, _ => simp [arr]
theorem arr_ones {n : Nat} {f : Nat → Value} (h : ∀ k, k < n → (f k).oneCell' = true) : (arr n f).all (·.oneCell') = true := by
  rw [Array.all_eq_true]
  intro i hi
  rw [arr_size] at hi
  have := arr_get f hi
  rw [Array.getElem?_eq_getElem (by rw [arr_size]; exact hi)] at this
  rw [Option.some.inj this]
  exact h i hi
/-- n cells of a block, from a place on -/
theorem range_arr {w : World} {b n : Nat} {f : Nat → Value} {t : TypeId} (h : w.heap[b]? = some (.cells (arr n f) t (0, 0))) (o m : Nat) (hm : o + m ≤ n) : w.rangeAt b o ((List.range m).map fun k => f (o + k)) := fun j v hv => by
  rw [cell_of_row w b _ _ _ _ h]
  rw [List.getElem?_map] at hv
  simp only [Option.map_eq_some_iff] at hv
  obtain ⟨a, ha, rfl⟩ := hv
  have hj : j < m := by
    have := (List.getElem?_eq_some_iff.1 ha).1
    simpa using this
  rw [List.getElem?_range hj] at ha
  obtain rfl := Option.some.inj ha
  exact arr_get f (by omega)
theorem blk_cell {w : World} {b n : Nat} {f : Nat → Value} {t : TypeId} (h : w.heap[b]? = some (.cells (arr n f) t (0, 0))) {k : Nat} (hk : k < n) : w.cell? ⟨b, k, none⟩ = some (f k) := by
  rw [cell_of_row w b k _ _ _ h]
  exact arr_get f hk
theorem blk_froz {w : World} {b : Nat} {c : Array Value} {t : TypeId} (h : w.heap[b]? = some (.cells c t (0, 0))) (k : Nat) : w.frozen? ⟨b, k, none⟩ = false := frozen_of_row w b k c t h
theorem blk_set {w : World} {b n : Nat} {f : Nat → Value} {t : TypeId} (h : w.heap[b]? = some (.cells (arr n f) t (0, 0))) (k : Nat) (v : Value) : (w.setCell ⟨b, k, none⟩ v).heap[b]? = some (.cells (arr n (upF f k v)) t (0, 0)) := by
  rw [heap_setCell_same w b k _ t v h, arr_set]
theorem blk_lt {w : World} {b : Nat} {o : Obj} (h : w.heap[b]? = some o) : b < w.heap.size := (Array.getElem?_eq_some_iff.1 h).1
theorem blk_later {w w' : World} {b : Nat} {o : Obj} (h : w.heap[b]? = some o) (hb : Below w.heap.size w w') : w'.heap[b]? = some o := (hb.block b (blk_lt h)).trans h
theorem blk_far {w : World} {b g k : Nat} {o : Obj} (h : w.heap[b]? = some o) (hg : g ≠ b) (v : Value) : (w.setCell ⟨g, k, none⟩ v).heap[b]? = some o := by
  rw [heap_setCell_other w _ _ _ (fun e => hg e.symm)]
  exact h
end Go.Proofs.Arr
namespace Go.Proofs.Arr
open Go Go.RowKit
set_option linter.unusedVariables false
theorem results_row_tmp {P : Program} {fn : Func} {p u : Tmp} {ty : TypeId} (h : fn.results = #[.cell p ty, .tmp u]) (tmps : Array Value) (w : World) (g : Nat) (t : TypeId) (cs : Array Value) (fr : Nat × Nat) (d : TypeDesc)
    (hp : tmps.getD p undef = .pointer (some ⟨g, 0, none⟩)) (hg : w.heap[g]? = some (.cells cs t fr))
    (hu : P.underlying ty = some d) (hd : (match d with | .struct _ | .array _ _ => true | _ => false) = true) (hi : (P.info? ty).map (·.size) = some cs.size) :
    (results fn tmps).run P w = .ok (.tuple #[.agg cs, tmps.getD u undef]) w := by
  rw [results_cell_tmp h, hp]
  simp [asAddr, run_loadVar_row w g t ty cs fr d hg hu hd hi]
/-- pairs of cells -/
def pairF (f g : Nat → Value) (k : Nat) : Value := if k % 2 = 0 then f (k / 2) else g (k / 2)
theorem pair0 (f g : Nat → Value) (i : Nat) : pairF f g (i * 2) = f i := by unfold pairF; rw [if_pos (by omega), show i * 2 / 2 = i by omega]
theorem pair1 (f g : Nat → Value) (i : Nat) : pairF f g (i * 2 + 1) = g i := by unfold pairF; rw [if_neg (by omega), show (i * 2 + 1) / 2 = i by omega]
theorem pair_of {h : Nat → Value} {f g : Nat → Value} (n : Nat) (h0 : ∀ i, i < n → h (i * 2) = f i) (h1 : ∀ i, i < n → h (i * 2 + 1) = g i) (k : Nat) (hk : k < n * 2) : h k = pairF f g k := by
  unfold pairF
  by_cases e : k % 2 = 0
  · rw [if_pos e, ← h0 (k / 2) (by omega), show k / 2 * 2 = k by omega]
  · rw [if_neg e, ← h1 (k / 2) (by omega), show k / 2 * 2 + 1 = k by omega]
/-- the first j places of f, then those of g -/
def doneF (f g : Nat → Value) (j : Nat) (k : Nat) : Value := if k < j then f k else g k
theorem done_all (n : Nat) (f g : Nat → Value) : arr n (doneF f g n) = arr n f := arr_ext fun k hk => by unfold doneF; rw [if_pos hk]
theorem done_0 (n : Nat) (f g : Nat → Value) : arr n (doneF f g 0) = arr n g := arr_ext fun k hk => by unfold doneF; rw [if_neg (by omega)]
theorem done_1 (f g : Nat → Value) (j : Nat) : upF (doneF f g j) j (f j) = doneF f g (j + 1) := by
  funext k
  unfold upF doneF
  by_cases e : k = j
  · subst e; rw [if_pos rfl, if_pos (by omega)]
  · rw [if_neg e]
    by_cases h : k < j
    · rw [if_pos h, if_pos (by omega)]
    · rw [if_neg h, if_neg (by omega)]
/-- the first error of n -/
def fstE (f : Nat → Int) : Nat → Int
  | 0 => 0
  | n + 1 => if fstE f n = 0 then f n else fstE f n
theorem fstE_at {f : Nat → Int} {j : Nat} (h0 : fstE f j = 0) (h1 : f j ≠ 0) : ∀ n, j < n → fstE f n = f j
  | 0, h => absurd h (by omega)
  | n + 1, h => by
    unfold fstE
    by_cases e : j = n
    · subst e; rw [if_pos h0]
    · have := fstE_at h0 h1 n (by omega)
      rw [this, if_neg h1]
theorem fstE_no {f : Nat → Int} : ∀ {n : Nat}, (∀ j, j < n → f j = 0) → fstE f n = 0
  | 0, _ => rfl
  | n + 1, h => by
    unfold fstE
    rw [if_pos (fstE_no fun j hj => h j (by omega))]
    exact h n (by omega)
end Go.Proofs.Arr
/- Parts of a block loaded, as functions of the place. Program-free. -/
namespace Go.Proofs.Arr
open Go Go.RowKit
set_option linter.unusedVariables false
section
variable {P : Program}
theorem part_list {n : Nat} {f g : Nat → Value} {o m : Nat} (hg : ∀ k, k < m → f (o + k) = g k) : ((List.range m).map fun k => f (o + k)).toArray = arr m g := by
  unfold arr
  congr 1
  exact List.map_congr_left fun k mk => hg k (List.mem_range.1 mk)
theorem load_part {w : World} {b o n m : Nat} {f g : Nat → Value} {t ty : TypeId} {d : TypeDesc} (hb : w.heap[b]? = some (.cells (arr n f) t (0, 0))) (hm : o + m ≤ n) (hg : ∀ k, k < m → f (o + k) = g k)
    (hu : P.underlying ty = some d) (hd : d.isRow = true) (hi : (P.info? ty).map (·.size) = some m) : (Instr.loadAt ty (.pointer (some ⟨b, o, none⟩))).run P w = .ok (.agg (arr m g)) w := by
  have := run_loadAt_mid (P := P) w b o ty ((List.range m).map fun k => f (o + k)) d (range_arr hb o m hm) hu hd (by simpa using hi)
  rwa [part_list (n := n) hg] at this
theorem wpList_load_part {ops : Array Oper} {rest : List Oper} {op : Oper} {a : Act} {w : World} {Q : Exit → Act → World → Prop} (hgd : op.guard = none) (ty : TypeId) (x : Operand) (ho : op.op = .load ty x)
    (b o : Nat) (hx : a.eval x = .pointer (some ⟨b, o, none⟩)) {n : Nat} {f : Nat → Value} {t : TypeId} (m : Nat) (g : Nat → Value) (d : TypeDesc) (hb : w.heap[b]? = some (.cells (arr n f) t (0, 0))) (hm : o + m ≤ n) (hg : ∀ k, k < m → f (o + k) = g k)
    (hu : P.underlying ty = some d) (hd : d.isRow = true) (hi : (P.info? ty).map (·.size) = some m)
    (h : wpList P ops Q rest (a.put op.dst (.agg (arr m g))) w) : wpList P ops Q (op :: rest) a w := by
  refine wpList_load_mid hgd ty x ho b o hx ((List.range m).map fun k => f (o + k)) d (range_arr hb o m hm) hu hd (by simpa using hi) ?_
  rw [part_list (n := n) hg]
  exact h
theorem wpList_build_as {ops : Array Oper} {rest : List Oper} {op : Oper} {a : Act} {w : World} {Q : Exit → Act → World → Prop} (hgd : op.guard = none) (t : TypeId) (parts : Array (Nat × Operand)) (ho : op.op = .build t parts) (cells : Array Value)
    (hf : P.built t (parts.map fun (i, x) => (i, a.eval x)).toList = some cells) (h : wpList P ops Q rest (a.put op.dst (.agg cells)) w) : wpList P ops Q (op :: rest) a w :=
  wpList_plain hgd fun _ hK => wp_build t parts ho (by rw [hf]; rfl) (by rw [hf]; exact hK _ _ h)
end
end Go.Proofs.Arr
/- Arrays of ints compared with themselves. Program-free. -/
namespace Go.Proofs.Arr
open Go Go.RowKit
set_option linter.unusedVariables false
section
variable {P : Program}
theorem eqItems_ints (d : Nat) {E : TypeId} {q : IntKind} (hu : P.underlying E = some (.int q)) (xs ys : Array Value) (f : Nat → Int) (w : World) : ∀ is : List Nat, (∀ i ∈ is, xs[i]? = some (.int q (f i)) ∧ ys[i]? = some (.int q (f i))) →
    (Op.eqItems (d + 1) E 1 xs ys is).run P w = .ok true w
  | [], _ => by simp [Op.eqItems]
  | i :: is, h => by
    have ih := eqItems_ints d hu xs ys f w is fun j m => h j (by simp [m])
    obtain ⟨h1, h2⟩ := h i (by simp)
    have pa : ∀ (zs : Array Value) (p : Int), zs[i]? = some (.int q p) → (part E zs (i * 1)).run P w = .ok (.int q p) w := fun zs p hz => by
      have ia : (isAgg E).run P w = .ok false w := by
        unfold isAgg
        rw [Sem.run_bind, run_underlying hu w]
        simp
      unfold part
      rw [Sem.run_bind, ia]
      simp [hz]
    simp only [Op.eqItems, Sem.run_bind, pa xs _ h1, pa ys _ h2, Result.andThen_ok, run_equalIn_int w d _ _ _ _ _ hu]
    simpa using ih
/-- two arrays of the same ints -/
theorem ints_eql {T E : TypeId} {n : Nat} {q : IntKind} {i : TypeInfo} (hT : P.underlying T = some (.array n E)) (hE : P.underlying E = some (.int q)) (hi : P.info? E = some i) (h1 : P.cellsOf E = 1) (f : Nat → Int) (w : World) :
    (binOp BinOp.eql T (.agg (arr n fun k => .int q (f k))) (.agg (arr n fun k => .int q (f k)))).run P w = .ok (.bool true) w := by
  rw [run_eql_struct, run_equalIn_array w 9999 _ _ hT hi, h1, eqItems_ints 9998 hE _ _ f w (List.range n) (fun k m => by
    have := List.mem_range.1 m
    exact ⟨arr_get _ this, arr_get _ this⟩)]
  rfl
theorem ints_eql' {T E : TypeId} {n : Nat} {q : IntKind} (hT : P.underlying T = some (.array n E)) (hE : P.underlying E = some (.int q)) (hi : (P.info? E).isSome = true) (h1 : P.cellsOf E = 1) (f : Nat → Int) (w : World) :
    (binOp BinOp.eql T (.agg (arr n fun k => .int q (f k))) (.agg (arr n fun k => .int q (f k)))).run P w = .ok (.bool true) w := by
  obtain ⟨i, hi⟩ := Option.isSome_iff_exists.1 hi
  exact ints_eql hT hE hi h1 f w
end
end Go.Proofs.Arr
