/- Package style: the lengths decoded, the numbers counted. Made by gen/styb.py. -/
import Derived.Test.YtjemnjboopabpaaDoorStyA
import Derived.Test.YtjemnjboopabpaaDoorRegF
import Derived.Test.YtjemnjboopabpaaDoorArrM
import Derived.WalkKit
import Derived.WalkSpells
import Derived.WalkLawsBesides
import Derived.Handy
import Derived.Lib.Hide
import Derived.LoopTactic
import Derived.Outline
import Derived.Laws.Rows
import Derived.Deep.MidRow
import Derived.Laws.CopyOwn
namespace Go.Proofs.YtjemnjboopabpaaDoor
open Go.RowKit Go.Proofs.Flo Go.Proofs.Reg Go.Proofs.Arr
set_option linter.unusedVariables false
set_option linter.unusedSimpArgs false
set_option maxRecDepth 100000
theorem bel_al {w wx : World} (h : Below w.heap.size w wx) (o : Obj) : Below w.heap.size w (wx.alloc o) := h.alloc h.size o
/-- the tables -/
structure Sty (w : World) : Prop where
  deb : Deb w
  per : ∀ i, i < 19 → w.cell? ⟨1, i, none⟩ = some (.int .i64 (mayN i : Nat))
  n0 : ∀ i, i < 10 → w.cell? ⟨2, i * 5, none⟩ = some (.int .i64 (parN i))
  n1 : ∀ i, i < 10 → w.cell? ⟨2, i * 5 + 1, none⟩ = some (.int .i64 (lowN i))
  n2 : ∀ i, i < 10 → w.cell? ⟨2, i * 5 + 2, none⟩ = some (.int .i64 (highN i))
  n3 : ∀ i, i < 10 → w.cell? ⟨2, i * 5 + 3, none⟩ = some (.bool (nanN i))
  n4 : ∀ i, i < 10 → w.cell? ⟨2, i * 5 + 4, none⟩ = some (.int .i64 (fornN i))
  w0 : ∀ i, i < 12 → w.cell? ⟨3, i * 2, none⟩ = some (.int .i64 (wlow i))
  w1 : ∀ i, i < 12 → w.cell? ⟨3, i * 2 + 1, none⟩ = some (.int .i64 (whigh i))
theorem Sty.later {w w' : World} (h : Sty w) (hb : Below w.heap.size w w') : Sty w' :=
  ⟨h.deb.later hb, fun i hi => cell_later hb (h.per i hi), fun i hi => cell_later hb (h.n0 i hi), fun i hi => cell_later hb (h.n1 i hi), fun i hi => cell_later hb (h.n2 i hi), fun i hi => cell_later hb (h.n3 i hi), fun i hi => cell_later hb (h.n4 i hi), fun i hi => cell_later hb (h.w0 i hi), fun i hi => cell_later hb (h.w1 i hi)⟩
theorem part_two {f : Nat → Value} (n i : Nat) (h : i + 2 ≤ n) (w : World) : (part 42 (arr n f) i).run Tryd.prog w = .ok (.agg #[f i, f (i + 1)]) w := by
  have ia : (isAgg 42).run Tryd.prog w = .ok true w := by
    unfold isAgg
    rw [Sem.run_bind, run_underlying (show Tryd.prog.underlying 42 = some (.struct (Tryd.prog.fieldsOf 42)) by kernel_rfl) w]
    rfl
  have sz : (sizeOf 42).run Tryd.prog w = .ok 2 w := by
    have : (Tryd.prog.info? 42).map (·.size) = some 2 := by kernel_rfl
    cases hq : Tryd.prog.info? 42 with
    | none => rw [hq] at this; cases this
    | some j =>
      rw [hq] at this
      have e : j.size = 2 := by simpa using this
      simp [sizeOf, typeInfo, hq, e]
  unfold part
  simp only [Sem.run_bind, ia, Result.andThen_ok, if_true, sz, Sem.run_pure, arr_two n f h]
theorem index_raws {f : Nat → Value} {j : Nat} (hj : j < 19) (w : World) : (Instr.index 43 (.agg (arr 38 f)) (.int .i64 (j : Int))).run Tryd.prog w = .ok (.agg #[f (j * 2), f (j * 2 + 1)]) w := by
  have sz : (sizeOf 42).run Tryd.prog w = .ok 2 w := by
    have : (Tryd.prog.info? 42).map (·.size) = some 2 := by kernel_rfl
    cases hq : Tryd.prog.info? 42 with
    | none => rw [hq] at this; cases this
    | some j =>
      rw [hq] at this
      have e : j.size = 2 := by simpa using this
      simp [sizeOf, typeInfo, hq, e]
  have j1 : (j : Int) < 19 := by omega
  have p2 := part_two (f := f) 38 (j * 2) (by omega) w
  unfold Instr.index
  simp [asIntOf, Sem.run_bind, run_underlying (show Tryd.prog.underlying 43 = some (.array 19 42) by kernel_rfl) w, j1, sz, p2]
  exact fun h => absurd h (by omega)
/-- the lengths of a raw style, decoded -/
def lenF (X : Nat → Nat) (P : Nat → Bool) : Nat → Value := pairF (fun i => .float .f64 (X i)) (fun i => .bool (P i))
def dK (X : Nat → Nat) (P : Nat → Bool) (i : Nat) : Int := (decR (X i) (P i) (mayN i)).1
def dN (X : Nat → Nat) (P : Nat → Bool) (i : Nat) : Int := (decR (X i) (P i) (mayN i)).2.1
def dE (X : Nat → Nat) (P : Nat → Bool) (i : Nat) : Int := (decR (X i) (P i) (mayN i)).2.2
def valF (K M : Nat → Int) : Nat → Value := pairF (fun i => .int .i64 (K i)) (fun i => .int .i64 (M i))
def zF : Nat → Value := fun _ => .int .i64 0
theorem zero38 : (#[.int .i64 0, .int .i64 0, .int .i64 0, .int .i64 0, .int .i64 0, .int .i64 0, .int .i64 0, .int .i64 0, .int .i64 0, .int .i64 0, .int .i64 0, .int .i64 0, .int .i64 0, .int .i64 0, .int .i64 0, .int .i64 0, .int .i64 0, .int .i64 0, .int .i64 0, .int .i64 0, .int .i64 0, .int .i64 0, .int .i64 0, .int .i64 0, .int .i64 0, .int .i64 0, .int .i64 0, .int .i64 0, .int .i64 0, .int .i64 0, .int .i64 0, .int .i64 0, .int .i64 0, .int .i64 0, .int .i64 0, .int .i64 0, .int .i64 0, .int .i64 0] : Array Value) = arr 38 zF := rfl
theorem one_val (K M : Nat → Int) (k : Nat) : (valF K M k).oneCell' = true := by unfold valF pairF; split <;> rfl
theorem one_done {f g : Nat → Value} (hf : ∀ k, (f k).oneCell' = true) (hg : ∀ k, (g k).oneCell' = true) (j k : Nat) : (doneF f g j k).oneCell' = true := by unfold doneF; split; exact hf k; exact hg k
theorem size_of {ty : TypeId} {n : Nat} (h : (Tryd.prog.info? ty).map (·.size) = some n) (f : Nat → Value) : (Tryd.prog.info? ty).map (·.size) = some (arr n f).size := by rw [arr_size]; exact h
structure DeM (w wr : World) (X : Nat → Nat) (P : Nat → Bool) (j : Nat) : Prop where
  r : wr.heap[w.heap.size + 1]? = some (.cells (arr 38 zF) 33 (0, 0))
  l : wr.heap[w.heap.size + 1 + 1]? = some (.cells (arr 38 (doneF (valF (dK X P) (dN X P)) zF (j * 2))) 33 (0, 0))
  e : fstE (dE X P) j = 0
  b : Below w.heap.size w wr
theorem DeM.later {w wr wx : World} {X : Nat → Nat} {P : Nat → Bool} {j : Nat} (h : DeM w wr X P j) (hb : Below wr.heap.size wr wx) : DeM w wx X P j :=
  ⟨blk_later h.r hb, blk_later h.l hb, h.e, bel_tr0 h.b hb⟩
theorem DeM.step {w wr : World} {X : Nat → Nat} {P : Nat → Bool} {j : Nat} (h : DeM w wr X P j) (he : dE X P j = 0) :
    DeM w ((wr.setCell ⟨w.heap.size + 1 + 1, j * 2, none⟩ (.int .i64 (dK X P j))).setCell ⟨w.heap.size + 1 + 1, j * 2 + 1, none⟩ (.int .i64 (dN X P j))) X P (j + 1) := by
  obtain ⟨r, l, e, b⟩ := h
  refine ⟨blk_far (blk_far r (by omega) _) (by omega) _, ?_, ?_, (b.setCell (by show w.heap.size ≤ w.heap.size + 1 + 1; omega) _).setCell (by show w.heap.size ≤ w.heap.size + 1 + 1; omega) _⟩
  · have := blk_set (blk_set l (j * 2) (.int .i64 (dK X P j))) (j * 2 + 1) (.int .i64 (dN X P j))
    have e1 : (Value.int .i64 (dK X P j)) = valF (dK X P) (dN X P) (j * 2) := (pair0 (fun i => .int .i64 (dK X P i)) (fun i => .int .i64 (dN X P i)) j).symm
    have e2 : (Value.int .i64 (dN X P j)) = valF (dK X P) (dN X P) (j * 2 + 1) := (pair1 (fun i => .int .i64 (dK X P i)) (fun i => .int .i64 (dN X P i)) j).symm
    rw [e1, e2, done_1, done_1] at this
    rwa [show (j + 1) * 2 = j * 2 + 1 + 1 by omega, e1, e2]
  · unfold fstE
    rw [if_pos e]
    exact he
theorem blk_new (w : World) (o : Obj) {b : Nat} (hb : b = w.heap.size) : (w.alloc o).heap[b]? = some o := by subst hb; exact heap_alloc_new w o
theorem tab_one {w : World} {b : Nat} {cs : List Value} {t : TypeId} (h : w.heap[b]? = some (.cells cs.toArray t (0, 0))) : Tab w [(b, cs)] :=
  (Tab.nil w).cons fun i v hi => by
    refine ⟨?_, blk_froz h i⟩
    rw [cell_of_row w b i _ _ _ h]
    simpa using hi
/-- what decoding the lengths answers -/
def DeR (X : Nat → Nat) (P : Nat → Bool) (w : World) (e : Ending) (w' : World) : Prop :=
  ∃ g, e = .returned (.tuple #[.agg (arr 38 g), .int .i64 (fstE (dE X P) 19)]) ∧ (fstE (dE X P) 19 = 0 → g = valF (dK X P) (dN X P)) ∧ (∀ k, (g k).oneCell' = true) ∧ Below w.heap.size w w'
set_option maxHeartbeats 4000000 in
theorem decoded_any (X : Nat → Nat) (P : Nat → Bool) (hX : ∀ i, i < 19 → X i < 18446744073709551616) (w : World) (hS : Sty w) :
    Calls Tryd.prog 31 #[.agg (arr 38 (lenF X P))] w (DeR X P w) := by
  have ST := Lib.hid hS
  have HX := Lib.hid hX
  clear hS hX
  go_enter Tryd.func31, Tryd.ntmps31
  go_wp2_with (refine wpList_load_row rfl 43 (.tmp 1) rfl w.heap.size rfl 43 (arr 38 (lenF X P)) (0, 0) (.array 19 42) (blk_later (blk_later (heap_alloc_new _ _) (bel_newR _ _)) (bel_newR _ _)) (by kernel_rfl) rfl (size_of (by kernel_rfl) _) ?_)
  go_loopw [10] (fun s10 wx => ∃ j : Nat, s10 = .int .i64 j ∧ j ≤ 19 ∧ Hid (DeM w wx X P j)) (fun s10 _ => 19 - (intOf s10).toNat)
  case atStart =>
    rw [zero38]
    exact ⟨0, rfl, by decide, Lib.hid ⟨blk_later (heap_alloc2_new _ _ _) (bel_newR _ _), by rw [Nat.zero_mul, done_0]; exact blk_new _ _ (by simp), rfl, by go_grown⟩⟩
  case round =>
    obtain ⟨j, rfl, hj, hW⟩ := hrel
    by_cases j19 : j = 19
    · subst j19
      obtain ⟨r, l, e, b⟩ := hW.out
      rw [show 19 * 2 = 38 from rfl, done_all] at l
      have HE := Lib.hid e
      clear hW e
      go_wp2_with (first | (refine wpList_load_row rfl 33 (.tmp 4) rfl (w.heap.size + 1 + 1) rfl 33 _ (0, 0) (.array 19 32) l (by kernel_rfl) rfl (size_of (by kernel_rfl) _) ?_) | (refine wpList_store_row rfl 33 (.tmp 2) (.tmp 30) rfl (w.heap.size + 1) (arr 38 (valF (dK X P) (dN X P))) rfl rfl 33 (arr 38 zF) r (size_of (by kernel_rfl) _) (by rw [arr_size, arr_size]) (arr_ones fun k _ => one_val _ _ k) ?_))
      refine bodyPost_ret (results_row_tmp (p := 2) (u := 3) rfl _ _ (w.heap.size + 1) 33 (arr 38 (valF (dK X P) (dN X P))) (0, 0) (.array 19 32) rfl (setRow_heap _ _ (arr 38 zF) _ _ _ r) (by kernel_rfl) rfl (size_of (by kernel_rfl) _)) rfl ?_
      exact ⟨_, by rw [HE.out]; rfl, fun _ => rfl, one_val _ _, below_setRow b (by omega) _⟩
    · have jl : j < 19 := by omega
      have jl' : (j : Int) < 19 := by omega
      have j0 : (0 : Int) ≤ (j : Int) := by omega
      have ix : ∀ wy : World, (Instr.index 43 (.agg (arr 38 (lenF X P))) (.int .i64 (j : Int))).run Tryd.prog wy = .ok (.agg #[.float .f64 (X j), .bool (P j)]) wy := fun wy => by
        have := index_raws (f := lenF X P) jl wy
        unfold lenF at this ⊢
        rwa [pair0, pair1] at this
      have VD0 := fun (wy : World) (h : Deb wy) => vdecode_any (X j) (HX.out j jl) (P j) (mayN j) (mayN_lt j) wy h
      obtain ⟨⟨kv, nv, er⟩, hr⟩ : ∃ r, decR (X j) (P j) (mayN j) = r := ⟨_, rfl⟩
      rw [hr] at VD0
      simp only [dec3] at VD0
      have VD := Lib.hid VD0
      have EK : Hid (dK X P j = kv) := Lib.hid (by unfold dK; rw [hr])
      have EN : Hid (dN X P j = nv) := Lib.hid (by unfold dN; rw [hr])
      have EE : Hid (dE X P j = er) := Lib.hid (by unfold dE; rw [hr])
      clear hr VD0
      have ON : (#[Value.float .f64 (X j), Value.bool (P j)] : Array Value).all (·.oneCell') = true := by simp [Value.oneCell']
      go_wp2_with (refine wpList_store_row rfl 42 (.tmp 6) (.tmp 13) rfl wr.heap.size #[.float .f64 (X j), .bool (P j)] rfl rfl 42 #[.float .f64 0, .bool false] (heap_alloc_new _ _) (by kernel_rfl) rfl ON ?_)
      obtain ⟨wa, hwa⟩ : ∃ x, (wr.alloc (.cells #[.float .f64 0, .bool false] 42)).setRow wr.heap.size #[.float .f64 (X j), .bool (P j)] = x := ⟨_, rfl⟩
      have BA : Hid (Below wr.heap.size wr wa) := Lib.hid (by rw [← hwa]; exact below_setRow (bel_newR _ _) (Nat.le_refl _) _)
      have KT : Hid (Tab wa [(wr.heap.size, [.float .f64 (X j), .bool (P j)])]) := Lib.hid (by rw [← hwa]; exact tab_one (setRow_heap _ _ _ _ _ _ (heap_alloc_new _ _)))
      rw [hwa]
      clear hwa
      have DW := Lib.hid (hW.out.later BA.out)
      have SA := Lib.hid (ST.out.later DW.out.b)
      have KB := Lib.hid (Below.refl wa.heap.size wa)
      have HN : Hid (wa.heap.size ≤ wa.heap.size) := Lib.hid (Nat.le_refl _)
      have HT : Hid (∀ (kz bz : Nat) (uz : List Value), [(wr.heap.size, [Value.float .f64 (X j), .bool (P j)])][kz]? = some (bz, uz) → bz < wa.heap.size) := Lib.hid (KT.out.lts rfl)
      clear hW BA
      have FD : ([8, 9].Nodup) := by decide
      refine wp_region_vals [some (.agg #[.float .f64 (X j), .bool (P j)]), some (.int .i64 (j : Int)), some (.pointer (some ⟨1, j, none⟩)), some (.int .i64 ((mayN j : Nat) : Int)), some (.tuple #[.agg #[.int .i64 kv, .int .i64 nv], .int .i64 er]), some (.tuple #[.agg #[.int .i64 kv, .int .i64 nv], .int .i64 er]), some (.agg #[.int .i64 kv, .int .i64 nv]), some (.int .i64 er), none, none, some (.int .i64 er)] (fun Lz vz wy => Below wa.heap.size wa wy ∧ Tab wy [(wr.heap.size, [.float .f64 (X j), .bool (P j)])] ∧ wa.heap.size ≤ wy.heap.size ∧ Fresh (wa.heap.size) [(8, 9, [.int .i64 0, .int .i64 0], [.int .i64 kv, .int .i64 nv])] Lz vz wy)
        [some 15, some 16, some 17, some 18, some 19, some 14, some 20, some 21, some 7, none, some 8] (by kernel_rfl) (by kernel_rfl) (by kernel_rfl) (by kernel_rfl) (by kernel_rfl) (by kernel_rfl) ⟨KB.out.drew, KT.out.later ((Below.refl _ _).drew), Nat.le_refl _, Fresh.start _ _ _ _⟩ (fun i o ho => ?_) (fun Lz vz wz hL hB => ?_)
      · match i, ho with
        | 0, ho =>
          obtain rfl := Option.some.inj ho
          intro Az Lz vz wy Kz Ez hB k
          have e6 : Az.eval (.tmp 6) = .pointer (some ⟨wr.heap.size, 0, none⟩) := Ez.out 6 (by kernel_rfl)
          have c0_0 := hB.2.1.cell 0 0 rfl rfl
          have c0_1 := hB.2.1.cell 0 1 rfl rfl
          exact wpo_val (v := .agg #[.float .f64 (X j), .bool (P j)]) (run_load e6 (by simp [go_sem, c0_0, c0_1])) (k _ _ rfl ⟨hB.1, hB.2.1, hB.2.2.1, hB.2.2.2.other 0 _ (fresh_ne rfl)⟩)
        | 1, ho =>
          obtain rfl := Option.some.inj ho
          intro Az Lz vz wy Kz Ez hB k
          have e5 : Az.eval (.tmp 5) = .int .i64 (j : Int) := Ez.out 5 (by kernel_rfl)
          exact wpo_val (v := .int .i64 (j : Int)) (run_move e5) (k _ _ rfl ⟨hB.1, hB.2.1, hB.2.2.1, hB.2.2.2.other 1 _ (fresh_ne rfl)⟩)
        | 2, ho =>
          obtain rfl := Option.some.inj ho
          intro Az Lz vz wy Kz Ez hB k
          have e16 : Az.eval (.tmp 16) = .int .i64 (j : Int) := Ez.dep 1 16 (by kernel_rfl) rfl
          exact wpo_val (v := .pointer (some ⟨1, j, none⟩)) (run_index rfl e16 (by simp [go_sem, jl', Addr.add]; try omega)) (k _ _ rfl ⟨hB.1, hB.2.1, hB.2.2.1, hB.2.2.2.other 2 _ (fresh_ne rfl)⟩)
        | 3, ho =>
          obtain rfl := Option.some.inj ho
          intro Az Lz vz wy Kz Ez hB k
          have e17 : Az.eval (.tmp 17) = .pointer (some ⟨1, j, none⟩) := Ez.dep 2 17 (by kernel_rfl) rfl
          exact wpo_val (v := .int .i64 ((mayN j : Nat) : Int)) (run_load e17 (by have hh := (SA.out.later hB.1).per j jl; simp [go_sem, hh])) (k _ _ rfl ⟨hB.1, hB.2.1, hB.2.2.1, hB.2.2.2.other 3 _ (fresh_ne rfl)⟩)
        | 4, ho =>
          obtain rfl := Option.some.inj ho
          intro Az Lz vz wy Kz Ez hB k
          have e15 : Az.eval (.tmp 15) = .agg #[.float .f64 (X j), .bool (P j)] := Ez.dep 0 15 (by kernel_rfl) rfl
          have e18 : Az.eval (.tmp 18) = .int .i64 ((mayN j : Nat) : Int) := Ez.dep 3 18 (by kernel_rfl) rfl
          refine wpo_call (run_callW (fun _ _ => by kernel_rfl)) (R := fun ez w' => ez = .returned (.tuple #[.agg #[.int .i64 kv, .int .i64 nv], .int .i64 er]) ∧ Below wy.heap.size wy w') ?_ ?_
          · simp only [List.map_toArray, List.map_cons, List.map_nil, eval_const, e15, e18]
            exact VD.out wy (SA.out.later hB.1).deb
          · rintro ez w' ⟨rfl, hb⟩
            exact ⟨_, rfl, k _ _ rfl ⟨bel_tr0 hB.1 hb, hB.2.1.later hb, Nat.le_trans hB.2.2.1 hb.size, (hB.2.2.2.later hb).other 4 _ (fresh_ne rfl)⟩⟩
        | 5, ho =>
          obtain rfl := Option.some.inj ho
          intro Az Lz vz wy Kz Ez hB k
          have e19 : Az.eval (.tmp 19) = .tuple #[.agg #[.int .i64 kv, .int .i64 nv], .int .i64 er] := Ez.dep 4 19 (by kernel_rfl) rfl
          exact wpo_val (v := .tuple #[.agg #[.int .i64 kv, .int .i64 nv], .int .i64 er]) (run_move e19) (k _ _ rfl ⟨hB.1, hB.2.1, hB.2.2.1, hB.2.2.2.other 5 _ (fresh_ne rfl)⟩)
        | 6, ho =>
          obtain rfl := Option.some.inj ho
          intro Az Lz vz wy Kz Ez hB k
          have e14 : Az.eval (.tmp 14) = .tuple #[.agg #[.int .i64 kv, .int .i64 nv], .int .i64 er] := Ez.dep 5 14 (by kernel_rfl) rfl
          exact wpo_val (v := .agg #[.int .i64 kv, .int .i64 nv]) (run_ext e14 (by simp [go_sem])) (k _ _ rfl ⟨hB.1, hB.2.1, hB.2.2.1, hB.2.2.2.other 6 _ (fresh_ne rfl)⟩)
        | 7, ho =>
          obtain rfl := Option.some.inj ho
          intro Az Lz vz wy Kz Ez hB k
          have e14 : Az.eval (.tmp 14) = .tuple #[.agg #[.int .i64 kv, .int .i64 nv], .int .i64 er] := Ez.dep 5 14 (by kernel_rfl) rfl
          exact wpo_val (v := .int .i64 er) (run_ext e14 (by simp [go_sem])) (k _ _ rfl ⟨hB.1, hB.2.1, hB.2.2.1, hB.2.2.2.other 7 _ (fresh_ne rfl)⟩)
        | 8, ho =>
          obtain rfl := Option.some.inj ho
          intro Az Lz vz wy Kz Ez hB k
          have zs : Lz 9 = false := Ez.late 9 _ rfl (by kernel_rfl)
          exact wpo_val (run_alloc (by simp [go_sem])) (k _ _ trivial ⟨bel_al hB.1 _, hB.2.1.alloc _, by rw [World.size_alloc]; exact Nat.le_succ_of_le hB.2.2.1, hB.2.2.2.make FD 0 rfl zs hB.2.2.1 32⟩)
        | 9, ho =>
          obtain rfl := Option.some.inj ho
          intro Az Lz vz wy Kz Ez hB k
          have e20 : Az.eval (.tmp 20) = .agg #[.int .i64 kv, .int .i64 nv] := Ez.dep 6 20 (by kernel_rfl) rfl
          obtain ⟨q, hq, hn, hql, hc⟩ := hB.2.2.2.box 0 _ _ _ _ rfl (Ez.had 8 (by kernel_rfl))
          have zs : Lz 9 = false := Ez.not
          rw [zs] at hc
          have e7 : Az.eval (.tmp 7) = .pointer (some ⟨q, 0, none⟩) := (Ez.dep 8 7 (by kernel_rfl) rfl).trans hq
          obtain ⟨c0, f0⟩ := hc 0 _ rfl
          obtain ⟨c1, f1⟩ := hc 1 _ rfl
          exact wpo_skip (w' := sets wy q 0 [.int .i64 kv, .int .i64 nv]) (run_store e7 e20 (by simp [go_sem, sets, c0, f0, c1, f1])) (k _ _ trivial ⟨sets_below (Nat.le_trans HN.out hn) _ _ _ hB.1, hB.2.1.far HT.out hn _, by rw [sets_size]; exact hB.2.2.1, hB.2.2.2.fill FD 0 _ rfl zs (Ez.had 8 (by kernel_rfl)) hq rfl⟩)
        | 10, ho =>
          obtain rfl := Option.some.inj ho
          intro Az Lz vz wy Kz Ez hB k
          have e21 : Az.eval (.tmp 21) = .int .i64 er := Ez.dep 7 21 (by kernel_rfl) rfl
          exact wpo_val (v := .int .i64 er) (run_assign e21) (k _ _ rfl ⟨hB.1, hB.2.1, hB.2.2.1, hB.2.2.2.other 10 _ (fresh_ne rfl)⟩)
        | n + 11, ho => simp at ho
      · obtain ⟨hk, hT, hNz, hF⟩ := hB
        have KB := Lib.hid hk
        have KT := Lib.hid hT
        obtain ⟨q8, hq8, hn8, _, hc8⟩ := hF.box 0 _ _ _ _ rfl (hL 8 (by decide))
        rw [hL 9 (by decide)] at hc8
        have KT := Lib.hid ((KT.out.cons hc8))
        clear hF hc8
        clear hk hT hL
        simp only [puts2, mix, Act.put, List.setIfInBounds_toArray, List.set_cons_zero, List.set_cons_succ, Nat.zero_add, Nat.reduceAdd, List.getElem?_cons_zero, List.getElem?_cons_succ, hq8]
        clear hq8
        simp only [if_true] at KT
        have BW := Lib.hid KB.out
        have c0 := KT.out.cell 0 0 rfl rfl
        have c1 := KT.out.cell 0 1 rfl rfl
        have DZ := Lib.hid (DW.out.later BW.out)
        clear KB KT DW
        by_cases he : er = 0
        · subst he
          obtain ⟨r, l, e, b⟩ := DZ.out
          have d0 := blk_cell l (k := j * 2) (by omega)
          have d1 := blk_cell l (k := j * 2 + 1) (by omega)
          have f0 := blk_froz l (j * 2)
          have f1 := blk_froz l (j * 2 + 1)
          have NX := Lib.hid (DZ.out.step EE.out)
          rw [EK.out, EN.out] at NX
          clear r l e b DZ
          go_wp2_with fail
          go_roundw
          case rel => exact ⟨j + 1, by go_num, by omega, NX⟩
          case measure => simp [intOf]; omega
        · have he1 : (er == 0) = false := by simpa using he
          have he2 : (er != 0) = true := by simpa using he
          obtain ⟨r, l, e, b⟩ := DZ.out
          have HE : Hid (fstE (dE X P) 19 = er) := Lib.hid (by rw [fstE_at e (by rw [EE.out]; exact he) 19 jl, EE.out])
          have ON2 : (arr 38 (doneF (valF (dK X P) (dN X P)) zF (j * 2))).all (·.oneCell') = true := arr_ones fun k _ => one_done (one_val _ _) (fun _ => rfl) _ k
          clear DZ e he
          go_wp2_with (first | (refine wpList_load_row rfl 33 (.tmp 4) rfl (w.heap.size + 1 + 1) rfl 33 _ (0, 0) (.array 19 32) l (by kernel_rfl) rfl (size_of (by kernel_rfl) _) ?_) | (refine wpList_store_row rfl 33 (.tmp 2) (.tmp 24) rfl (w.heap.size + 1) (arr 38 (doneF (valF (dK X P) (dN X P)) zF (j * 2))) rfl rfl 33 (arr 38 zF) r (size_of (by kernel_rfl) _) (by rw [arr_size, arr_size]) ON2 ?_))
          refine bodyPost_ret (results_row_tmp (p := 2) (u := 3) rfl _ _ (w.heap.size + 1) 33 (arr 38 (doneF (valF (dK X P) (dN X P)) zF (j * 2))) (0, 0) (.array 19 32) rfl (setRow_heap _ _ (arr 38 zF) _ _ _ r) (by kernel_rfl) rfl (size_of (by kernel_rfl) _)) rfl ?_
          exact ⟨_, by rw [HE.out]; rfl, fun h => absurd (HE.out.symm.trans h) (by simpa using he2), one_done (one_val _ _) (fun _ => rfl) _, below_setRow b (by omega) _⟩
end Go.Proofs.YtjemnjboopabpaaDoor
/- Package style: the numbers counted, the words allowed, the borders without lines. Made by gen/styc.py. -/
namespace Go.Proofs.YtjemnjboopabpaaDoor
open Go.RowKit Go.Proofs.Flo Go.Proofs.Reg Go.Proofs.Arr
set_option linter.unusedVariables false
set_option linter.unusedSimpArgs false
set_option maxRecDepth 100000
theorem index_floats {f : Nat → Value} {j : Nat} (hj : j < 10) (w : World) : (Instr.index 44 (.agg (arr 10 f)) (.int .i64 (j : Int))).run Tryd.prog w = .ok (f j) w := by
  have sz : (sizeOf 40).run Tryd.prog w = .ok 1 w := by
    have : (Tryd.prog.info? 40).map (·.size) = some 1 := by kernel_rfl
    cases hq : Tryd.prog.info? 40 with
    | none => rw [hq] at this; cases this
    | some jj =>
      rw [hq] at this
      have e : jj.size = 1 := by simpa using this
      simp [sizeOf, typeInfo, hq, e]
  have ia : (isAgg 40).run Tryd.prog w = .ok false w := by
    unfold isAgg
    rw [Sem.run_bind, run_underlying (show Tryd.prog.underlying 40 = some (.float .f64) by kernel_rfl) w]
    rfl
  have pt : (part 40 (arr 10 f) j).run Tryd.prog w = .ok (f j) w := by
    unfold part
    rw [Sem.run_bind, ia]
    simp [arr_get f hj]
  have j1 : (j : Int) < 10 := by omega
  unfold Instr.index
  simp [asIntOf, Sem.run_bind, run_underlying (show Tryd.prog.underlying 44 = some (.array 10 40) by kernel_rfl) w, j1, sz, pt]
  exact fun h => absurd h (by omega)
theorem index_words {f : Nat → Value} {j : Nat} (hj : j < 12) (w : World) : (Instr.index 26 (.agg (arr 12 f)) (.int .i64 (j : Int))).run Tryd.prog w = .ok (f j) w := by
  have sz : (sizeOf 3).run Tryd.prog w = .ok 1 w := by
    have : (Tryd.prog.info? 3).map (·.size) = some 1 := by kernel_rfl
    cases hq : Tryd.prog.info? 3 with
    | none => rw [hq] at this; cases this
    | some jj =>
      rw [hq] at this
      have e : jj.size = 1 := by simpa using this
      simp [sizeOf, typeInfo, hq, e]
  have ia : (isAgg 3).run Tryd.prog w = .ok false w := by
    unfold isAgg
    rw [Sem.run_bind, run_underlying (show Tryd.prog.underlying 3 = some (.int .i64) by kernel_rfl) w]
    rfl
  have pt : (part 3 (arr 12 f) j).run Tryd.prog w = .ok (f j) w := by
    unfold part
    rw [Sem.run_bind, ia]
    simp [arr_get f hj]
  have j1 : (j : Int) < 12 := by omega
  unfold Instr.index
  simp [asIntOf, Sem.run_bind, run_underlying (show Tryd.prog.underlying 26 = some (.array 12 3) by kernel_rfl) w, j1, sz, pt]
  exact fun h => absurd h (by omega)
theorem index_lines {f : Nat → Value} {j : Nat} (hj : j < 4) (w : World) : (Instr.index 27 (.agg (arr 4 f)) (.int .i64 (j : Int))).run Tryd.prog w = .ok (f j) w := by
  have sz : (sizeOf 4).run Tryd.prog w = .ok 1 w := by
    have : (Tryd.prog.info? 4).map (·.size) = some 1 := by kernel_rfl
    cases hq : Tryd.prog.info? 4 with
    | none => rw [hq] at this; cases this
    | some jj =>
      rw [hq] at this
      have e : jj.size = 1 := by simpa using this
      simp [sizeOf, typeInfo, hq, e]
  have ia : (isAgg 4).run Tryd.prog w = .ok false w := by
    unfold isAgg
    rw [Sem.run_bind, run_underlying (show Tryd.prog.underlying 4 = some .bool by kernel_rfl) w]
    rfl
  have pt : (part 4 (arr 4 f) j).run Tryd.prog w = .ok (f j) w := by
    unfold part
    rw [Sem.run_bind, ia]
    simp [arr_get f hj]
  have j1 : (j : Int) < 4 := by omega
  unfold Instr.index
  simp [asIntOf, Sem.run_bind, run_underlying (show Tryd.prog.underlying 27 = some (.array 4 4) by kernel_rfl) w, j1, sz, pt]
  exact fun h => absurd h (by omega)
theorem zero10 : (#[.int .i64 0, .int .i64 0, .int .i64 0, .int .i64 0, .int .i64 0, .int .i64 0, .int .i64 0, .int .i64 0, .int .i64 0, .int .i64 0] : Array Value) = arr 10 zF := rfl
def fltF (X : Nat → Nat) : Nat → Value := fun i => .float .f64 (X i)
def intF (M : Nat → Int) : Nat → Value := fun i => .int .i64 (M i)
def boolF (L : Nat → Bool) : Nat → Value := fun i => .bool (L i)
def cN (X : Nat → Nat) (i : Nat) : Int := numN i (X i)
def cE (X : Nat → Nat) (i : Nat) : Int := numE i (X i)
structure CoM (w wr : World) (X : Nat → Nat) (j : Nat) : Prop where
  r : wr.heap[w.heap.size + 1]? = some (.cells (arr 10 zF) 34 (0, 0))
  l : wr.heap[w.heap.size + 1 + 1]? = some (.cells (arr 10 (doneF (intF (cN X)) zF j)) 34 (0, 0))
  e : fstE (cE X) j = 0
  b : Below w.heap.size w wr
theorem CoM.later {w wr wx : World} {X : Nat → Nat} {j : Nat} (h : CoM w wr X j) (hb : Below wr.heap.size wr wx) : CoM w wx X j :=
  ⟨blk_later h.r hb, blk_later h.l hb, h.e, bel_tr0 h.b hb⟩
theorem CoM.step {w wr : World} {X : Nat → Nat} {j : Nat} (h : CoM w wr X j) (he : cE X j = 0) : CoM w (wr.setCell ⟨w.heap.size + 1 + 1, j, none⟩ (.int .i64 (cN X j))) X (j + 1) := by
  obtain ⟨r, l, e, b⟩ := h
  refine ⟨blk_far r (by omega) _, ?_, ?_, b.setCell (by show w.heap.size ≤ w.heap.size + 1 + 1; omega) _⟩
  · have := blk_set l j (.int .i64 (cN X j))
    rwa [show (Value.int .i64 (cN X j)) = intF (cN X) j from rfl, done_1] at this
  · unfold fstE
    rw [if_pos e]
    exact he
/-- what counting the numbers answers -/
def CoR (X : Nat → Nat) (w : World) (e : Ending) (w' : World) : Prop :=
  ∃ g, e = .returned (.tuple #[.agg (arr 10 g), .int .i64 (fstE (cE X) 10)]) ∧ (fstE (cE X) 10 = 0 → g = intF (cN X)) ∧ (∀ k, (g k).oneCell' = true) ∧ Below w.heap.size w w'
theorem lim_in (j : Nat) : -9223372036854775808 ≤ lowN j ∧ highN j ≤ 9223372036854775807 := by
  unfold lowN highN
  constructor
  · split <;> decide
  · split
    · decide
    · split <;> decide
set_option maxHeartbeats 4000000 in
theorem counted_any (X : Nat → Nat) (hX : ∀ i, i < 10 → X i < 18446744073709551616) (w : World) (hS : Sty w) :
    Calls Tryd.prog 32 #[.agg (arr 10 (fltF X))] w (CoR X w) := by
  have ST := Lib.hid hS
  have HX := Lib.hid hX
  clear hS hX
  go_enter Tryd.func32, Tryd.ntmps32
  go_wp2_with (refine wpList_load_row rfl 44 (.tmp 1) rfl w.heap.size rfl 44 (arr 10 (fltF X)) (0, 0) (.array 10 40) (blk_later (blk_later (heap_alloc_new _ _) (bel_newR _ _)) (bel_newR _ _)) (by kernel_rfl) rfl (size_of (by kernel_rfl) _) ?_)
  go_loopw [10] (fun s10 wx => ∃ j : Nat, s10 = .int .i64 j ∧ j ≤ 10 ∧ Hid (CoM w wx X j)) (fun s10 _ => 10 - (intOf s10).toNat)
  case atStart =>
    rw [zero10]
    exact ⟨0, rfl, by decide, Lib.hid ⟨blk_later (heap_alloc2_new _ _ _) (bel_newR _ _), by rw [done_0]; exact blk_new _ _ (by simp), rfl, by go_grown⟩⟩
  case round =>
    obtain ⟨j, rfl, hj, hW⟩ := hrel
    by_cases j19 : j = 10
    · subst j19
      obtain ⟨r, l, e, b⟩ := hW.out
      rw [done_all] at l
      have HE := Lib.hid e
      have ON2 : (arr 10 (intF (cN X))).all (·.oneCell') = true := arr_ones fun k _ => rfl
      clear hW e
      go_wp2_with (first | (refine wpList_load_row rfl 34 (.tmp 4) rfl (w.heap.size + 1 + 1) rfl 34 _ (0, 0) (.array 10 2) l (by kernel_rfl) rfl (size_of (by kernel_rfl) _) ?_) | (refine wpList_store_row rfl 34 (.tmp 2) (.tmp 30) rfl (w.heap.size + 1) (arr 10 (intF (cN X))) rfl rfl 34 (arr 10 zF) r (size_of (by kernel_rfl) _) (by rw [arr_size, arr_size]) ON2 ?_))
      refine bodyPost_ret (results_row_tmp (p := 2) (u := 3) rfl _ _ (w.heap.size + 1) 34 (arr 10 (intF (cN X))) (0, 0) (.array 10 2) rfl (setRow_heap _ _ (arr 10 zF) _ _ _ r) (by kernel_rfl) rfl (size_of (by kernel_rfl) _)) rfl ?_
      exact ⟨_, by rw [HE.out]; rfl, fun _ => rfl, fun _ => rfl, below_setRow b (by omega) _⟩
    · have jl : j < 10 := by omega
      have jl' : (j : Int) < 10 := by omega
      have j0 : (0 : Int) ≤ (j : Int) := by omega
      have ix : ∀ wy : World, (Instr.index 44 (.agg (arr 10 (fltF X))) (.int .i64 (j : Int))).run Tryd.prog wy = .ok (.float .f64 (X j)) wy := fun wy => index_floats (f := fltF X) jl wy
      obtain ⟨lm0, lm1⟩ := lim_in j
      have VD := Lib.hid (fun (wy : World) (h : Deb wy) => scount_any (X j) (HX.out j jl) (parN j) (lowN j) (highN j) (fornN j) (nanN j) lm0 lm1 wy h)
      have EN : Hid (cN X j = cntN (X j) (parN j) (lowN j) (highN j) (nanN j) (fornN j)) := Lib.hid rfl
      have EE : Hid (cE X j = cntE (X j) (parN j) (lowN j) (highN j) (nanN j)) := Lib.hid rfl
      obtain ⟨nv, hn⟩ : ∃ v, cntN (X j) (parN j) (lowN j) (highN j) (nanN j) (fornN j) = v := ⟨_, rfl⟩
      obtain ⟨er, he⟩ : ∃ v, cntE (X j) (parN j) (lowN j) (highN j) (nanN j) = v := ⟨_, rfl⟩
      rw [hn, he] at VD
      rw [hn] at EN
      rw [he] at EE
      have SA := Lib.hid (ST.out.later hW.out.b)
      have t0 := SA.out.n0 j jl
      have t1 := SA.out.n1 j jl
      have t2 := SA.out.n2 j jl
      have t3 := SA.out.n3 j jl
      have t4 := SA.out.n4 j jl
      clear hn he lm0 lm1
      go_wp2_with fail
      refine (VD.out _ SA.out.deb).mono ?_
      rintro _ wz ⟨rfl, hb⟩
      have DZ := Lib.hid (hW.out.later hb)
      clear hb hW t0 t1 t2 t3 t4
      by_cases he : er = 0
      · subst he
        obtain ⟨r, l, e, b⟩ := DZ.out
        have d0 := blk_cell l (k := j) (by omega)
        have f0 := blk_froz l j
        have NX := Lib.hid (DZ.out.step EE.out)
        rw [EN.out] at NX
        clear r l e b DZ
        go_wp2_with fail
        go_roundw
        case rel => exact ⟨j + 1, by go_num, by omega, NX⟩
        case measure => simp [intOf]; omega
      · have he1 : (er == 0) = false := by simpa using he
        have he2 : (er != 0) = true := by simpa using he
        obtain ⟨r, l, e, b⟩ := DZ.out
        have HE : Hid (fstE (cE X) 10 = er) := Lib.hid (by rw [fstE_at e (by rw [EE.out]; exact he) 10 jl, EE.out])
        have ON2 : (arr 10 (doneF (intF (cN X)) zF j)).all (·.oneCell') = true := arr_ones fun k _ => one_done (fun _ => rfl) (fun _ => rfl) _ k
        clear DZ e he
        go_wp2_with (first | (refine wpList_load_row rfl 34 (.tmp 4) rfl (w.heap.size + 1 + 1) rfl 34 _ (0, 0) (.array 10 2) l (by kernel_rfl) rfl (size_of (by kernel_rfl) _) ?_) | (refine wpList_store_row rfl 34 (.tmp 2) (.tmp 24) rfl (w.heap.size + 1) (arr 10 (doneF (intF (cN X)) zF j)) rfl rfl 34 (arr 10 zF) r (size_of (by kernel_rfl) _) (by rw [arr_size, arr_size]) ON2 ?_))
        refine bodyPost_ret (results_row_tmp (p := 2) (u := 3) rfl _ _ (w.heap.size + 1) 34 (arr 10 (doneF (intF (cN X)) zF j)) (0, 0) (.array 10 2) rfl (setRow_heap _ _ (arr 10 zF) _ _ _ r) (by kernel_rfl) rfl (size_of (by kernel_rfl) _)) rfl ?_
        exact ⟨_, by rw [HE.out]; rfl, fun h => absurd (HE.out.symm.trans h) (by simpa using he2), one_done (fun _ => rfl) (fun _ => rfl) _, below_setRow b (by omega) _⟩
/-- are the first n words within their limits? -/
def okW (W : Nat → Int) : Nat → Bool
  | 0 => true
  | n + 1 => okW W n && wordB n (W n)
theorem okW_bad {W : Nat → Int} {j : Nat} (h : wordB j (W j) = false) : ∀ n, j < n → okW W n = false
  | 0, hn => absurd hn (by omega)
  | n + 1, hn => by
    unfold okW
    by_cases e : j = n
    · subst e; rw [h, Bool.and_false]
    · rw [okW_bad h n (by omega), Bool.false_and]
set_option maxHeartbeats 4000000 in
theorem allowed_any (W : Nat → Int) (w : World) (hS : Sty w) :
    Calls Tryd.prog 33 #[.agg (arr 12 (intF W))] w fun e w' => e = .returned (.bool (okW W 12)) ∧ Below w.heap.size w w' := by
  have ST := Lib.hid hS
  clear hS
  obtain ⟨R, hR⟩ : ∃ R, okW W 12 = R := ⟨_, rfl⟩
  rw [hR]
  have HR := Lib.hid hR
  clear hR
  go_enter Tryd.func33, Tryd.ntmps33
  go_wp2_with (refine wpList_load_row rfl 26 (.tmp 1) rfl w.heap.size rfl 26 (arr 12 (intF W)) (0, 0) (.array 12 3) (heap_alloc_new _ _) (by kernel_rfl) rfl (size_of (by kernel_rfl) _) ?_)
  go_loopw [6] (fun s6 wx => ∃ j : Nat, s6 = .int .i64 j ∧ j ≤ 12 ∧ Hid (okW W j = true) ∧ Hid (Below w.heap.size w wx)) (fun s6 _ => 12 - (intOf s6).toNat)
  case atStart => exact ⟨0, rfl, by decide, Lib.hid rfl, Lib.hid (by go_grown)⟩
  case round =>
    obtain ⟨j, rfl, hj, hO, hB⟩ := hrel
    by_cases j19 : j = 12
    · subst j19
      obtain rfl : R = true := HR.out.symm.trans hO.out
      go_wp2_with fail
      go_returns
      exact ⟨rfl, hB.out⟩
    · have jl : j < 12 := by omega
      have jl' : (j : Int) < 12 := by omega
      have j0 : (0 : Int) ≤ (j : Int) := by omega
      have ix : ∀ wy : World, (Instr.index 26 (.agg (arr 12 (intF W))) (.int .i64 (j : Int))).run Tryd.prog wy = .ok (.int .i64 (W j)) wy := fun wy => index_words (f := intF W) jl wy
      have SA := ST.out.later hB.out
      have t0 := SA.w0 j jl
      have t1 := SA.w1 j jl
      clear SA
      obtain ⟨n, hn⟩ : ∃ n, W j = n := ⟨_, rfl⟩
      obtain ⟨lo, hlo⟩ : ∃ n, wlow j = n := ⟨_, rfl⟩
      obtain ⟨hi, hhi⟩ : ∃ n, whigh j = n := ⟨_, rfl⟩
      rw [hn] at ix
      rw [hlo] at t0
      rw [hhi] at t1
      have cs : (n < lo ∧ wordB j (W j) = false) ∨ (¬ n < lo ∧ hi < n ∧ wordB j (W j) = false) ∨ (¬ n < lo ∧ ¬ hi < n ∧ wordB j (W j) = true) := by
        unfold wordB
        rw [hn, hlo, hhi]
        by_cases a : n < lo
        · exact .inl ⟨a, by rw [decide_eq_false (by omega)]; rfl⟩
        · by_cases b : hi < n
          · exact .inr (.inl ⟨a, b, by rw [decide_eq_false (p := n ≤ hi) (by omega), Bool.and_false]⟩)
          · exact .inr (.inr ⟨a, b, by rw [decide_eq_true (by omega), decide_eq_true (by omega)]; rfl⟩)
      clear hn hlo hhi
      rcases cs with ⟨a, c⟩ | ⟨a, b, c⟩ | ⟨a, b, c⟩
      · obtain rfl : R = false := HR.out.symm.trans (okW_bad c 12 jl)
        clear c
        go_wp2_with fail
        go_returns
        exact ⟨rfl, hB.out⟩
      · obtain rfl : R = false := HR.out.symm.trans (okW_bad c 12 jl)
        clear c
        go_wp2_with fail
        go_returns
        exact ⟨rfl, hB.out⟩
      · have NX : Hid (okW W (j + 1) = true) := Lib.hid (by unfold okW; rw [hO.out, c]; rfl)
        clear c
        go_wp2_with fail
        go_roundw
        case rel => exact ⟨j + 1, by go_num, by omega, NX, hB⟩
        case measure => simp [intOf]; omega
/-- the numbers, without borders on sides that have no line -/
def brd (M : Nat → Int) (L : Nat → Bool) (i : Nat) : Int := if i < 4 ∧ L i = false then 0 else M i
def brdF (M : Nat → Int) (L : Nat → Bool) (j : Nat) (i : Nat) : Value := .int .i64 (if i < j then brd M L i else M i)
structure BoM (w wr : World) (M : Nat → Int) (L : Nat → Bool) (j : Nat) : Prop where
  l : wr.heap[w.heap.size]? = some (.cells (arr 10 (brdF M L j)) 34 (0, 0))
  r : wr.heap[w.heap.size + 1 + 1]? = some (.cells (arr 10 zF) 34 (0, 0))
  b : Below w.heap.size w wr
theorem brd_set {M : Nat → Int} {L : Nat → Bool} {j : Nat} (hj : j < 4) (h : L j = false) : upF (brdF M L j) j (.int .i64 0) = brdF M L (j + 1) := by
  funext i
  unfold upF brdF
  by_cases e : i = j
  · subst e; rw [if_pos rfl, if_pos (by omega)]; unfold brd; rw [if_pos ⟨hj, h⟩]
  · rw [if_neg e]
    by_cases q : i < j
    · rw [if_pos q, if_pos (by omega)]
    · rw [if_neg q, if_neg (by omega)]
theorem brd_skip {M : Nat → Int} {L : Nat → Bool} {j : Nat} (h : L j = true) : brdF M L j = brdF M L (j + 1) := by
  funext i
  unfold brdF
  by_cases e : i = j
  · subst e; rw [if_neg (by omega), if_pos (by omega)]; unfold brd; rw [if_neg (by rw [h]; simp)]
  · by_cases q : i < j
    · rw [if_pos q, if_pos (by omega)]
    · rw [if_neg q, if_neg (by omega)]
theorem brd_end (M : Nat → Int) (L : Nat → Bool) : brdF M L 4 = intF (brd M L) := by
  funext i
  unfold brdF intF
  by_cases q : i < 4
  · rw [if_pos q]
  · rw [if_neg q]; unfold brd; rw [if_neg (fun h => q h.1)]
set_option maxHeartbeats 4000000 in
theorem bordered_any (M : Nat → Int) (L : Nat → Bool) (w : World) :
    Calls Tryd.prog 34 #[.agg (arr 10 (intF M)), .agg (arr 4 (boolF L))] w fun e w' => e = .returned (.agg (arr 10 (intF (brd M L)))) ∧ Below w.heap.size w w' := by
  go_enter Tryd.func34, Tryd.ntmps34
  go_wp2_with (refine wpList_load_row rfl 27 (.tmp 3) rfl (w.heap.size + 1) rfl 27 (arr 4 (boolF L)) (0, 0) (.array 4 4) (blk_later (heap_alloc2_new _ _ _) (bel_newR _ _)) (by kernel_rfl) rfl (size_of (by kernel_rfl) _) ?_)
  go_loopw [8] (fun s8 wx => ∃ j : Nat, s8 = .int .i64 j ∧ j ≤ 4 ∧ Hid (BoM w wx M L j)) (fun s8 _ => 4 - (intOf s8).toNat)
  case atStart =>
    rw [zero10]
    refine ⟨0, rfl, by decide, Lib.hid ⟨?_, blk_new _ _ (by simp), by go_grown⟩⟩
    have e : brdF M L 0 = intF M := by funext i; unfold brdF intF; rw [if_neg (by omega)]
    rw [e]
    exact blk_later (blk_later (heap_alloc_new _ _) (bel_newR _ _)) (bel_newR _ _)
  case round =>
    obtain ⟨j, rfl, hj, hW⟩ := hrel
    by_cases j19 : j = 4
    · subst j19
      obtain ⟨l, r, b⟩ := hW.out
      rw [brd_end] at l
      have ON2 : (arr 10 (intF (brd M L))).all (·.oneCell') = true := arr_ones fun k _ => rfl
      clear hW
      go_wp2_with (first | (refine wpList_load_row rfl 34 (.tmp 2) rfl w.heap.size rfl 34 _ (0, 0) (.array 10 2) l (by kernel_rfl) rfl (size_of (by kernel_rfl) _) ?_) | (refine wpList_store_row rfl 34 (.tmp 4) (.tmp 18) rfl (w.heap.size + 1 + 1) (arr 10 (intF (brd M L))) rfl rfl 34 (arr 10 zF) r (size_of (by kernel_rfl) _) (by rw [arr_size, arr_size]) ON2 ?_))
      refine bodyPost_ret (results_cell_row (p := 4) rfl _ _ (w.heap.size + 1 + 1) 34 (arr 10 (intF (brd M L))) (0, 0) (.array 10 2) rfl (setRow_heap _ _ (arr 10 zF) _ _ _ r) (by kernel_rfl) rfl (size_of (by kernel_rfl) _)) rfl ?_
      exact ⟨rfl, below_setRow b (by omega) _⟩
    · have jl : j < 4 := by omega
      have jl' : (j : Int) < 4 := by omega
      have jl10 : (j : Int) < 10 := by omega
      have j0 : (0 : Int) ≤ (j : Int) := by omega
      have ix : ∀ wy : World, (Instr.index 27 (.agg (arr 4 (boolF L))) (.int .i64 (j : Int))).run Tryd.prog wy = .ok (.bool (L j)) wy := fun wy => index_lines (f := boolF L) jl wy
      cases hl : L j
      · rw [hl] at ix
        obtain ⟨l, r, b⟩ := hW.out
        have d0 := blk_cell l (k := j) (by omega)
        have f0 := blk_froz l j
        have NX : Hid (BoM w (wr.setCell ⟨w.heap.size, j, none⟩ (.int .i64 0)) M L (j + 1)) := Lib.hid ⟨by rw [← brd_set jl hl]; exact blk_set l j _, blk_far r (by omega) _, b.setCell (Nat.le_refl _) _⟩
        unfold brdF at d0
        rw [if_neg (by omega)] at d0
        clear l r b hl hW
        go_wp2_with fail
        go_roundw
        case rel => exact ⟨j + 1, by go_num, by omega, NX⟩
        case measure => simp [intOf]; omega
      · rw [hl] at ix
        have NX : Hid (BoM w wr M L (j + 1)) := Lib.hid ⟨by rw [← brd_skip hl]; exact hW.out.l, hW.out.r, hW.out.b⟩
        clear hl hW
        go_wp2_with fail
        go_roundw
        case rel => exact ⟨j + 1, by go_num, by omega, NX⟩
        case measure => simp [intOf]; omega
end Go.Proofs.YtjemnjboopabpaaDoor
/- Package style: Compute. Made by gen/styd.py. -/
namespace Go.Proofs.YtjemnjboopabpaaDoor
open Go.RowKit Go.Proofs.Flo Go.Proofs.Reg Go.Proofs.Arr
set_option linter.unusedVariables false
set_option linter.unusedSimpArgs false
set_option maxRecDepth 100000
/-- a raw style, cell by cell -/
def rawF (X : Nat → Nat) (P : Nat → Bool) (Y : Nat → Nat) (W : Nat → Int) (L : Nat → Bool) (C : Int) (k : Nat) : Value :=
  if k < 38 then lenF X P k else if k < 48 then fltF Y (k - 38) else if k < 60 then intF W (k - 48) else if k < 64 then boolF L (k - 60) else .int .u8 C
/-- a computed style, cell by cell -/
def styF (K M : Nat → Int) (B : Nat → Int) (A : Bool) (W : Nat → Int) (C : Int) (k : Nat) : Value :=
  if k < 38 then valF K M k else if k < 48 then intF B (k - 38) else if k < 49 then .bool A else if k < 61 then intF W (k - 49) else .int .u8 C
def zsF : Nat → Value := styF (fun _ => 0) (fun _ => 0) (fun _ => 0) false (fun _ => 0) 0
theorem raw_len {X : Nat → Nat} {P : Nat → Bool} {Y : Nat → Nat} {W : Nat → Int} {L : Nat → Bool} {C : Int} (k : Nat) (h : k < 38) : rawF X P Y W L C (0 + k) = lenF X P k := by unfold rawF; rw [Nat.zero_add, if_pos h]
theorem raw_num {X : Nat → Nat} {P : Nat → Bool} {Y : Nat → Nat} {W : Nat → Int} {L : Nat → Bool} {C : Int} (k : Nat) (h : k < 10) : rawF X P Y W L C (38 + k) = fltF Y k := by unfold rawF; rw [if_neg (by omega), if_pos (by omega), show 38 + k - 38 = k by omega]
theorem raw_wrd {X : Nat → Nat} {P : Nat → Bool} {Y : Nat → Nat} {W : Nat → Int} {L : Nat → Bool} {C : Int} (k : Nat) (h : k < 12) : rawF X P Y W L C (48 + k) = intF W k := by unfold rawF; rw [if_neg (by omega), if_neg (by omega), if_pos (by omega), show 48 + k - 48 = k by omega]
theorem raw_lin {X : Nat → Nat} {P : Nat → Bool} {Y : Nat → Nat} {W : Nat → Int} {L : Nat → Bool} {C : Int} (k : Nat) (h : k < 4) : rawF X P Y W L C (60 + k) = boolF L k := by unfold rawF; rw [if_neg (by omega), if_neg (by omega), if_neg (by omega), if_pos (by omega), show 60 + k - 60 = k by omega]
theorem zero62 : (#[.int .i64 0, .int .i64 0, .int .i64 0, .int .i64 0, .int .i64 0, .int .i64 0, .int .i64 0, .int .i64 0, .int .i64 0, .int .i64 0, .int .i64 0, .int .i64 0, .int .i64 0, .int .i64 0, .int .i64 0, .int .i64 0, .int .i64 0, .int .i64 0, .int .i64 0, .int .i64 0, .int .i64 0, .int .i64 0, .int .i64 0, .int .i64 0, .int .i64 0, .int .i64 0, .int .i64 0, .int .i64 0, .int .i64 0, .int .i64 0, .int .i64 0, .int .i64 0, .int .i64 0, .int .i64 0, .int .i64 0, .int .i64 0, .int .i64 0, .int .i64 0, .int .i64 0, .int .i64 0, .int .i64 0, .int .i64 0, .int .i64 0, .int .i64 0, .int .i64 0, .int .i64 0, .int .i64 0, .int .i64 0, .bool false, .int .i64 0, .int .i64 0, .int .i64 0, .int .i64 0, .int .i64 0, .int .i64 0, .int .i64 0, .int .i64 0, .int .i64 0, .int .i64 0, .int .i64 0, .int .i64 0, .int .u8 0] : Array Value) = arr 62 zsF := rfl
theorem zero38' : (#[.int .i64 0, .int .i64 0, .int .i64 0, .int .i64 0, .int .i64 0, .int .i64 0, .int .i64 0, .int .i64 0, .int .i64 0, .int .i64 0, .int .i64 0, .int .i64 0, .int .i64 0, .int .i64 0, .int .i64 0, .int .i64 0, .int .i64 0, .int .i64 0, .int .i64 0, .int .i64 0, .int .i64 0, .int .i64 0, .int .i64 0, .int .i64 0, .int .i64 0, .int .i64 0, .int .i64 0, .int .i64 0, .int .i64 0, .int .i64 0, .int .i64 0, .int .i64 0, .int .i64 0, .int .i64 0, .int .i64 0, .int .i64 0, .int .i64 0, .int .i64 0] : Array Value) = arr 38 zF := rfl
theorem built0 : Tryd.prog.built 36 [] = some (arr 62 zsF) := by kernel_rfl
theorem one_sty (K M B : Nat → Int) (A : Bool) (W : Nat → Int) (C : Int) (k : Nat) : (styF K M B A W C k).oneCell' = true := by
  unfold styF
  split
  · exact one_val K M k
  · split
    · rfl
    · split
      · rfl
      · split <;> rfl
theorem build_sty (K M B : Nat → Int) (A : Bool) (W : Nat → Int) (C : Int) (w : World) :
    (Instr.build 36 #[(0, .agg (arr 38 (valF K M))), (1, .agg (arr 10 (intF B))), (2, .bool A), (3, .agg (arr 12 (intF W))), (4, .int .u8 C)]).run Tryd.prog w = .ok (.agg (arr 62 (styF K M B A W C))) w :=
  Go.run_build w _ _ _ (by kernel_rfl)
/-- what Compute answers: the error, and the style -/
def cmpE (X : Nat → Nat) (P : Nat → Bool) (Y : Nat → Nat) (W : Nat → Int) : Int :=
  if fstE (dE X P) 19 ≠ 0 then fstE (dE X P) 19 else if fstE (cE Y) 10 ≠ 0 then fstE (cE Y) 10 else if okW W 12 then 0 else 11
def cmpF (X : Nat → Nat) (P : Nat → Bool) (Y : Nat → Nat) (W : Nat → Int) (L : Nat → Bool) (C : Int) : Nat → Value :=
  if cmpE X P Y W = 0 then styF (dK X P) (dN X P) (brd (cN Y) L) (nanB (Y 4)) W C else zsF
def H9 (wa : World) (b2 : Nat) (S : Nat → Value) (L : Nat → Bool) (vz : Nat → Value) (wy : World) : Prop :=
  (L 14 = false → Below wa.heap.size wa wy) ∧ (L 14 = true → ∃ wy0, Below wa.heap.size wa wy0 ∧ wy = wy0.setRow b2 (arr 62 S))
theorem H9.add {wa : World} {b2 : Nat} {S : Nat → Value} {L : Nat → Bool} {vz : Nat → Value} {wy w' : World} (h : H9 wa b2 S L vz wy) (z : L 14 = false) (ii : Nat) (v : Value) (hi : ii ≠ 14) (hb : Below wy.heap.size wy w') : H9 wa b2 S (addL L ii) (upd vz ii v) w' :=
  ⟨fun _ => bel_tr0 (h.1 z) hb, fun q => by rw [show addL L ii 14 = L 14 by simp [addL, Ne.symm hi], z] at q; cases q⟩
structure CpM (w wr : World) (R : Nat → Value) : Prop where
  r0 : wr.heap[w.heap.size]? = some (.cells (arr 65 R) 46 (0, 0))
  r1 : wr.heap[w.heap.size + 1]? = some (.cells (arr 62 zsF) 36 (0, 0))
  b : Below w.heap.size w wr
theorem CpM.later {w wr wx : World} {R : Nat → Value} (h : CpM w wr R) (hb : Below wr.heap.size wr wx) : CpM w wx R := ⟨blk_later h.r0 hb, blk_later h.r1 hb, bel_tr0 h.b hb⟩
theorem store_whole {w : World} {b : Nat} {old cells : Array Value} {t ty : TypeId} (hb : w.heap[b]? = some (.cells old t (0, 0))) (hi : (Tryd.prog.info? ty).map (·.size) = some cells.size) (ho : old.size = cells.size) (h1 : cells.all (·.oneCell') = true) : (Instr.storeAt ty (.pointer (some ⟨b, 0, none⟩)) (.agg cells)).run Tryd.prog w = .ok () (w.setRow b cells) := by
  have := run_storeVar_row (P := Tryd.prog) w b t ty old cells hb hi ho h1
  simp [Instr.storeAt, Instr.sureAddr, this]
theorem row_new (w : World) (o : Obj) (cs : Array Value) : Below w.heap.size w ((w.alloc o).setRow w.heap.size cs) := below_setRow (bel_newR w o) (Nat.le_refl _) cs
theorem row_got (w : World) (old : Array Value) (t : TypeId) (cs : Array Value) : ((w.alloc (.cells old t)).setRow w.heap.size cs).heap[w.heap.size]? = some (.cells cs t (0, 0)) := setRow_heap _ _ _ _ _ _ (heap_alloc_new _ _)
set_option maxHeartbeats 8000000 in
theorem compute_any (X : Nat → Nat) (P : Nat → Bool) (Y : Nat → Nat) (W : Nat → Int) (Li : Nat → Bool) (C : Int) (hX : ∀ i, i < 19 → X i < 18446744073709551616) (hY : ∀ i, i < 10 → Y i < 18446744073709551616) (w : World) (hS : Sty w) :
    Calls Tryd.prog 10 #[.agg (arr 65 (rawF X P Y W Li C))] w fun e w' => e = .returned (.tuple #[.agg (arr 62 (cmpF X P Y W Li C)), .int .i64 (cmpE X P Y W)]) ∧ Below w.heap.size w w' := by
  have ST := Lib.hid hS
  have D1 := Lib.hid (fun w h => decoded_any X P hX w h)
  have D2 := Lib.hid (fun w h => counted_any Y hY w h)
  have D3 := Lib.hid (fun w h => allowed_any W w h)
  obtain ⟨e1, he1⟩ : ∃ v, fstE (dE X P) 19 = v := ⟨_, rfl⟩
  obtain ⟨e2, he2⟩ : ∃ v, fstE (cE Y) 10 = v := ⟨_, rfl⟩
  obtain ⟨ok, hok⟩ : ∃ v, okW W 12 = v := ⟨_, rfl⟩
  have CE : Hid (cmpE X P Y W = if e1 ≠ 0 then e1 else if e2 ≠ 0 then e2 else if ok then 0 else 11) := Lib.hid (by unfold cmpE; rw [he1, he2, hok])
  unfold DeR at D1
  unfold CoR at D2
  rw [he1] at D1
  rw [he2] at D2
  rw [hok] at D3
  clear hS hX hY he1 he2 hok
  go_enter Tryd.func10, Tryd.ntmps10
  go_wp2_with (refine wpList_load_part rfl 43 (.tmp 8) rfl w.heap.size 0 rfl 38 (lenF X P) (.array 19 42) (blk_later (heap_alloc_new _ _) (bel_newR _ _)) (by decide) raw_len (by kernel_rfl) rfl (by kernel_rfl) ?_)
  rw [zero62]
  have CM0 : CpM w ((w.alloc (.cells (arr 65 (rawF X P Y W Li C)) 46)).alloc (.cells (arr 62 zsF) 36)) (rawF X P Y W Li C) := ⟨blk_later (heap_alloc_new _ _) (bel_newR _ _), heap_alloc2_new _ _ _, by go_grown⟩
  have CM := Lib.hid CM0
  clear CM0
  refine (D1.out _ (ST.out.later CM.out.b)).mono ?_
  rintro _ w1 ⟨g1, rfl, hg1, ho1, hb⟩
  have CM := Lib.hid (CM.out.later hb)
  have G1 := Lib.hid hg1
  have O1 : (arr 38 g1).all (·.oneCell') = true := arr_ones fun k _ => ho1 k
  clear hb hg1 ho1
  have ON0 : (arr 62 zsF).all (·.oneCell') = true := arr_ones fun k _ => one_sty _ _ _ _ _ _ k
  by_cases z1 : e1 = 0
  case neg =>
    have q1 : (e1 == 0) = false := by simpa using z1
    have q2 : (e1 != 0) = true := by simpa using z1
    have R1 : ((w1.alloc (.cells #[.int .i64 0, .int .i64 0, .int .i64 0, .int .i64 0, .int .i64 0, .int .i64 0, .int .i64 0, .int .i64 0, .int .i64 0, .int .i64 0, .int .i64 0, .int .i64 0, .int .i64 0, .int .i64 0, .int .i64 0, .int .i64 0, .int .i64 0, .int .i64 0, .int .i64 0, .int .i64 0, .int .i64 0, .int .i64 0, .int .i64 0, .int .i64 0, .int .i64 0, .int .i64 0, .int .i64 0, .int .i64 0, .int .i64 0, .int .i64 0, .int .i64 0, .int .i64 0, .int .i64 0, .int .i64 0, .int .i64 0, .int .i64 0, .int .i64 0, .int .i64 0] 33)).setRow w1.heap.size (arr 38 g1)).heap[w.heap.size + 1]? = some (.cells (arr 62 zsF) 36 (0, 0)) := blk_later CM.out.r1 (row_new _ _ _)
    have BX := Lib.hid (bel_tr0 CM.out.b (row_new w1 (.cells #[.int .i64 0, .int .i64 0, .int .i64 0, .int .i64 0, .int .i64 0, .int .i64 0, .int .i64 0, .int .i64 0, .int .i64 0, .int .i64 0, .int .i64 0, .int .i64 0, .int .i64 0, .int .i64 0, .int .i64 0, .int .i64 0, .int .i64 0, .int .i64 0, .int .i64 0, .int .i64 0, .int .i64 0, .int .i64 0, .int .i64 0, .int .i64 0, .int .i64 0, .int .i64 0, .int .i64 0, .int .i64 0, .int .i64 0, .int .i64 0, .int .i64 0, .int .i64 0, .int .i64 0, .int .i64 0, .int .i64 0, .int .i64 0, .int .i64 0, .int .i64 0] 33) (arr 38 g1)))
    have Z1 := Lib.hid z1
    clear CM z1
    go_wp2_with (first | (refine wpList_store_row rfl 33 (.tmp 4) (.tmp 11) rfl w1.heap.size (arr 38 g1) rfl rfl 33 _ (heap_alloc_new _ _) (size_of (by kernel_rfl) _) rfl O1 ?_) | (refine wpList_build_as rfl 36 #[] rfl (arr 62 zsF) built0 ?_) | (refine wpList_store_row rfl 36 (.tmp 2) (.tmp 15) rfl (w.heap.size + 1) (arr 62 zsF) rfl rfl 36 (arr 62 zsF) R1 (size_of (by kernel_rfl) _) rfl ON0 ?_))
    refine bodyPost_ret (results_row_tmp (p := 2) (u := 3) rfl _ _ (w.heap.size + 1) 36 (arr 62 zsF) (0, 0) (.struct (Tryd.prog.fieldsOf 36)) rfl (setRow_heap _ _ (arr 62 zsF) _ _ _ R1) (by kernel_rfl) rfl (size_of (by kernel_rfl) _)) rfl ?_
    have CV : cmpE X P Y W = e1 := by rw [CE.out]; rw [if_pos Z1.out]
    refine ⟨?_, below_setRow BX.out (by omega) _⟩
    rw [show cmpF X P Y W Li C = zsF by unfold cmpF; rw [CV, if_neg Z1.out], CV]
    rfl
  case pos =>
    subst z1
    obtain rfl := G1.out rfl
    clear G1
    have R0 : ((w1.alloc (.cells #[.int .i64 0, .int .i64 0, .int .i64 0, .int .i64 0, .int .i64 0, .int .i64 0, .int .i64 0, .int .i64 0, .int .i64 0, .int .i64 0, .int .i64 0, .int .i64 0, .int .i64 0, .int .i64 0, .int .i64 0, .int .i64 0, .int .i64 0, .int .i64 0, .int .i64 0, .int .i64 0, .int .i64 0, .int .i64 0, .int .i64 0, .int .i64 0, .int .i64 0, .int .i64 0, .int .i64 0, .int .i64 0, .int .i64 0, .int .i64 0, .int .i64 0, .int .i64 0, .int .i64 0, .int .i64 0, .int .i64 0, .int .i64 0, .int .i64 0, .int .i64 0] 33)).setRow w1.heap.size (arr 38 (valF (dK X P) (dN X P)))).heap[w.heap.size]? = some (.cells (arr 65 (rawF X P Y W Li C)) 46 (0, 0)) := blk_later CM.out.r0 (row_new _ _ _)
    go_wp2_with (first | (refine wpList_store_row rfl 33 (.tmp 4) (.tmp 11) rfl w1.heap.size (arr 38 (valF (dK X P) (dN X P))) rfl rfl 33 _ (heap_alloc_new _ _) (size_of (by kernel_rfl) _) rfl O1 ?_) | (refine wpList_load_part rfl 44 (.tmp 18) rfl w.heap.size 38 rfl 10 (fltF Y) (.array 10 40) R0 (by decide) raw_num (by kernel_rfl) rfl (by kernel_rfl) ?_))
    obtain ⟨w2, hw2⟩ : ∃ x, (w1.alloc (.cells #[.int .i64 0, .int .i64 0, .int .i64 0, .int .i64 0, .int .i64 0, .int .i64 0, .int .i64 0, .int .i64 0, .int .i64 0, .int .i64 0, .int .i64 0, .int .i64 0, .int .i64 0, .int .i64 0, .int .i64 0, .int .i64 0, .int .i64 0, .int .i64 0, .int .i64 0, .int .i64 0, .int .i64 0, .int .i64 0, .int .i64 0, .int .i64 0, .int .i64 0, .int .i64 0, .int .i64 0, .int .i64 0, .int .i64 0, .int .i64 0, .int .i64 0, .int .i64 0, .int .i64 0, .int .i64 0, .int .i64 0, .int .i64 0, .int .i64 0, .int .i64 0] 33)).setRow w1.heap.size (arr 38 (valF (dK X P) (dN X P))) = x := ⟨_, rfl⟩
    have CM2 : Hid (CpM w w2 (rawF X P Y W Li C)) := Lib.hid (by rw [← hw2]; exact CM.out.later (row_new _ _ _))
    have B4 : Hid (w2.heap[w1.heap.size]? = some (.cells (arr 38 (valF (dK X P) (dN X P))) 33 (0, 0))) := Lib.hid (by rw [← hw2]; exact row_got _ _ _ _)
    clear O1 R0 CM
    rw [hw2]
    clear hw2
    refine (D2.out _ (ST.out.later CM2.out.b)).mono ?_
    rintro _ w3 ⟨g2, rfl, hg2, ho2, hb⟩
    have CM := Lib.hid (CM2.out.later hb)
    have B4 := Lib.hid (blk_later B4.out hb)
    have G2 := Lib.hid hg2
    have O2 : (arr 10 g2).all (·.oneCell') = true := arr_ones fun k _ => ho2 k
    clear hb hg2 ho2 CM2
    by_cases z2 : e2 = 0
    case neg =>
      have q1 : (e2 == 0) = false := by simpa using z2
      have q2 : (e2 != 0) = true := by simpa using z2
      have R1 : ((w3.alloc (.cells #[.int .i64 0, .int .i64 0, .int .i64 0, .int .i64 0, .int .i64 0, .int .i64 0, .int .i64 0, .int .i64 0, .int .i64 0, .int .i64 0] 34)).setRow w3.heap.size (arr 10 g2)).heap[w.heap.size + 1]? = some (.cells (arr 62 zsF) 36 (0, 0)) := blk_later CM.out.r1 (row_new _ _ _)
      have BX := Lib.hid (bel_tr0 CM.out.b (row_new w3 (.cells #[.int .i64 0, .int .i64 0, .int .i64 0, .int .i64 0, .int .i64 0, .int .i64 0, .int .i64 0, .int .i64 0, .int .i64 0, .int .i64 0] 34) (arr 10 g2)))
      have Z2 := Lib.hid z2
      clear CM z2
      go_wp2_with (first | (refine wpList_store_row rfl 34 (.tmp 6) (.tmp 21) rfl w3.heap.size (arr 10 g2) rfl rfl 34 _ (heap_alloc_new _ _) (size_of (by kernel_rfl) _) rfl O2 ?_) | (refine wpList_build_as rfl 36 #[] rfl (arr 62 zsF) built0 ?_) | (refine wpList_store_row rfl 36 (.tmp 2) (.tmp 25) rfl (w.heap.size + 1) (arr 62 zsF) rfl rfl 36 (arr 62 zsF) R1 (size_of (by kernel_rfl) _) rfl ON0 ?_))
      refine bodyPost_ret (results_row_tmp (p := 2) (u := 3) rfl _ _ (w.heap.size + 1) 36 (arr 62 zsF) (0, 0) (.struct (Tryd.prog.fieldsOf 36)) rfl (setRow_heap _ _ (arr 62 zsF) _ _ _ R1) (by kernel_rfl) rfl (size_of (by kernel_rfl) _)) rfl ?_
      have CV : cmpE X P Y W = e2 := by rw [CE.out]; rw [if_neg (by simp), if_pos Z2.out]
      refine ⟨?_, below_setRow BX.out (by omega) _⟩
      rw [show cmpF X P Y W Li C = zsF by unfold cmpF; rw [CV, if_neg Z2.out], CV]
      rfl
    case pos =>
      subst z2
      obtain rfl := G2.out rfl
      clear G2
      have R0 : ((w3.alloc (.cells #[.int .i64 0, .int .i64 0, .int .i64 0, .int .i64 0, .int .i64 0, .int .i64 0, .int .i64 0, .int .i64 0, .int .i64 0, .int .i64 0] 34)).setRow w3.heap.size (arr 10 (intF (cN Y)))).heap[w.heap.size]? = some (.cells (arr 65 (rawF X P Y W Li C)) 46 (0, 0)) := blk_later CM.out.r0 (row_new _ _ _)
      go_wp2_with (first | (refine wpList_store_row rfl 34 (.tmp 6) (.tmp 21) rfl w3.heap.size (arr 10 (intF (cN Y))) rfl rfl 34 _ (heap_alloc_new _ _) (size_of (by kernel_rfl) _) rfl O2 ?_) | (refine wpList_load_part rfl 26 (.tmp 27) rfl w.heap.size 48 rfl 12 (intF W) (.array 12 3) R0 (by decide) raw_wrd (by kernel_rfl) rfl (by kernel_rfl) ?_))
      obtain ⟨w4, hw4⟩ : ∃ x, (w3.alloc (.cells #[.int .i64 0, .int .i64 0, .int .i64 0, .int .i64 0, .int .i64 0, .int .i64 0, .int .i64 0, .int .i64 0, .int .i64 0, .int .i64 0] 34)).setRow w3.heap.size (arr 10 (intF (cN Y))) = x := ⟨_, rfl⟩
      have CM4 : Hid (CpM w w4 (rawF X P Y W Li C)) := Lib.hid (by rw [← hw4]; exact CM.out.later (row_new _ _ _))
      have B6 : Hid (w4.heap[w3.heap.size]? = some (.cells (arr 10 (intF (cN Y))) 34 (0, 0))) := Lib.hid (by rw [← hw4]; exact row_got _ _ _ _)
      have B4 : Hid (w4.heap[w1.heap.size]? = some (.cells (arr 38 (valF (dK X P) (dN X P))) 33 (0, 0))) := Lib.hid (by rw [← hw4]; exact blk_later B4.out (row_new _ _ _))
      clear O2 R0 CM
      rw [hw4]
      clear hw4
      refine (D3.out _ (ST.out.later CM4.out.b)).mono ?_
      rintro _ w5 ⟨rfl, hb⟩
      have CM := Lib.hid (CM4.out.later hb)
      have B4 := Lib.hid (blk_later B4.out hb)
      have B6 := Lib.hid (blk_later B6.out hb)
      clear hb CM4
      cases ok
      case false =>
        have R1 := CM.out.r1
        have BX := Lib.hid CM.out.b
        clear CM
        go_wp2_with (first | (refine wpList_build_as rfl 36 #[] rfl (arr 62 zsF) built0 ?_) | (refine wpList_store_row rfl 36 (.tmp 2) (.tmp 31) rfl (w.heap.size + 1) (arr 62 zsF) rfl rfl 36 (arr 62 zsF) R1 (size_of (by kernel_rfl) _) rfl ON0 ?_))
        refine bodyPost_ret (results_row_tmp (p := 2) (u := 3) rfl _ _ (w.heap.size + 1) 36 (arr 62 zsF) (0, 0) (.struct (Tryd.prog.fieldsOf 36)) rfl (setRow_heap _ _ (arr 62 zsF) _ _ _ R1) (by kernel_rfl) rfl (size_of (by kernel_rfl) _)) rfl ?_
        have CV : cmpE X P Y W = 11 := by rw [CE.out]; simp
        refine ⟨?_, below_setRow BX.out (by omega) _⟩
        rw [show cmpF X P Y W Li C = zsF by unfold cmpF; rw [CV, if_neg (by decide)], CV]
        rfl
      case true =>
        have R1 := Lib.hid CM.out.r1
        go_wp2_with fail
        have HB0 : H9 w5 (w.heap.size + 1) (styF (dK X P) (dN X P) (brd (cN Y) Li) (nanB (Y 4)) W C) (fun _ => false) (fun _ => undef) w5.drew := ⟨fun _ => (Below.refl _ _).drew, fun q => by cases q⟩
        refine wp_region_vals [some (.agg (arr 38 (valF (dK X P) (dN X P)))), some (.agg (arr 10 (intF (cN Y)))), some (.pointer (some ⟨w.heap.size, 60, none⟩)), some (.agg (arr 4 (boolF Li))), some (.agg (arr 10 (intF (brd (cN Y) Li)))), some (.pointer (some ⟨w.heap.size, 38, none⟩)), some (.pointer (some ⟨w.heap.size, 42, none⟩)), some (.float .f64 (Y 4)), some (.bool (nanB (Y 4))), some (.pointer (some ⟨w.heap.size, 48, none⟩)), some (.agg (arr 12 (intF W))), some (.pointer (some ⟨w.heap.size, 64, none⟩)), some (.int .u8 C), some (.agg (arr 62 (styF (dK X P) (dN X P) (brd (cN Y) Li) (nanB (Y 4)) W C))), none, some (.int .i64 0)] (H9 w5 (w.heap.size + 1) (styF (dK X P) (dN X P) (brd (cN Y) Li) (nanB (Y 4)) W C))
          [some 32, some 33, some 34, some 35, some 36, some 37, some 38, some 39, some 40, some 41, some 42, some 43, some 44, some 45, none, some 3] (by kernel_rfl) (by kernel_rfl) (by kernel_rfl) (by kernel_rfl) (by kernel_rfl) (by kernel_rfl) HB0 (fun i o ho => ?_) (fun Lz vz wz hL hB => ?_)
        · match i, ho with
          | 0, ho =>
            obtain rfl := Option.some.inj ho
            intro Az Lz vz wy Kz Ez hB k
            have z : Lz 14 = false := Ez.late 14 _ rfl (by kernel_rfl)
            have hb0 := hB.1 z
            have e4 : Az.eval (.tmp 4) = .pointer (some ⟨w1.heap.size, 0, none⟩) := Ez.out 4 (by kernel_rfl)
            exact wpo_val (v := .agg (arr 38 (valF (dK X P) (dN X P)))) (run_load e4 (load_part (g := valF (dK X P) (dN X P)) (d := .array 19 32) (blk_later B4.out hb0) (by decide) (fun kk _ => by rw [Nat.zero_add]) (by kernel_rfl) rfl (by kernel_rfl))) (k _ _ rfl (hB.add z 0 _ (by decide) (Below.refl _ _)))
          | 1, ho =>
            obtain rfl := Option.some.inj ho
            intro Az Lz vz wy Kz Ez hB k
            have z : Lz 14 = false := Ez.late 14 _ rfl (by kernel_rfl)
            have hb0 := hB.1 z
            have e6 : Az.eval (.tmp 6) = .pointer (some ⟨w3.heap.size, 0, none⟩) := Ez.out 6 (by kernel_rfl)
            exact wpo_val (v := .agg (arr 10 (intF (cN Y)))) (run_load e6 (load_part (g := intF (cN Y)) (d := .array 10 2) (blk_later B6.out hb0) (by decide) (fun kk _ => by rw [Nat.zero_add]) (by kernel_rfl) rfl (by kernel_rfl))) (k _ _ rfl (hB.add z 1 _ (by decide) (Below.refl _ _)))
          | 2, ho =>
            obtain rfl := Option.some.inj ho
            intro Az Lz vz wy Kz Ez hB k
            have z : Lz 14 = false := Ez.late 14 _ rfl (by kernel_rfl)
            have hb0 := hB.1 z
            have e1 : Az.eval (.tmp 1) = .pointer (some ⟨w.heap.size, 0, none⟩) := Ez.out 1 (by kernel_rfl)
            exact wpo_val (v := .pointer (some ⟨w.heap.size, 60, none⟩)) (run_field e1 (by simp [go_sem])) (k _ _ rfl (hB.add z 2 _ (by decide) (Below.refl _ _)))
          | 3, ho =>
            obtain rfl := Option.some.inj ho
            intro Az Lz vz wy Kz Ez hB k
            have z : Lz 14 = false := Ez.late 14 _ rfl (by kernel_rfl)
            have hb0 := hB.1 z
            have e34 : Az.eval (.tmp 34) = .pointer (some ⟨w.heap.size, 60, none⟩) := Ez.dep 2 34 (by kernel_rfl) rfl
            exact wpo_val (v := .agg (arr 4 (boolF Li))) (run_load e34 (load_part (g := boolF Li) (d := .array 4 4) (blk_later CM.out.r0 hb0) (by decide) raw_lin (by kernel_rfl) rfl (by kernel_rfl))) (k _ _ rfl (hB.add z 3 _ (by decide) (Below.refl _ _)))
          | 4, ho =>
            obtain rfl := Option.some.inj ho
            intro Az Lz vz wy Kz Ez hB k
            have z : Lz 14 = false := Ez.late 14 _ rfl (by kernel_rfl)
            have hb0 := hB.1 z
            have e33 : Az.eval (.tmp 33) = .agg (arr 10 (intF (cN Y))) := Ez.dep 1 33 (by kernel_rfl) rfl
            have e35 : Az.eval (.tmp 35) = .agg (arr 4 (boolF Li)) := Ez.dep 3 35 (by kernel_rfl) rfl
            refine wpo_call (run_callW (fun _ _ => by kernel_rfl)) (R := fun ez w' => ez = .returned (.agg (arr 10 (intF (brd (cN Y) Li)))) ∧ Below wy.heap.size wy w') ?_ ?_
            · simp only [List.map_toArray, List.map_cons, List.map_nil, eval_const, e33, e35]
              exact bordered_any (cN Y) Li wy
            · rintro ez w' ⟨rfl, hb⟩
              exact ⟨_, rfl, k _ _ rfl (hB.add z 4 _ (by decide) hb)⟩
          | 5, ho =>
            obtain rfl := Option.some.inj ho
            intro Az Lz vz wy Kz Ez hB k
            have z : Lz 14 = false := Ez.late 14 _ rfl (by kernel_rfl)
            have hb0 := hB.1 z
            have e1 : Az.eval (.tmp 1) = .pointer (some ⟨w.heap.size, 0, none⟩) := Ez.out 1 (by kernel_rfl)
            exact wpo_val (v := .pointer (some ⟨w.heap.size, 38, none⟩)) (run_field e1 (by simp [go_sem])) (k _ _ rfl (hB.add z 5 _ (by decide) (Below.refl _ _)))
          | 6, ho =>
            obtain rfl := Option.some.inj ho
            intro Az Lz vz wy Kz Ez hB k
            have z : Lz 14 = false := Ez.late 14 _ rfl (by kernel_rfl)
            have hb0 := hB.1 z
            have e37 : Az.eval (.tmp 37) = .pointer (some ⟨w.heap.size, 38, none⟩) := Ez.dep 5 37 (by kernel_rfl) rfl
            exact wpo_val (v := .pointer (some ⟨w.heap.size, 42, none⟩)) (run_index e37 rfl (by simp [go_sem, Addr.add])) (k _ _ rfl (hB.add z 6 _ (by decide) (Below.refl _ _)))
          | 7, ho =>
            obtain rfl := Option.some.inj ho
            intro Az Lz vz wy Kz Ez hB k
            have z : Lz 14 = false := Ez.late 14 _ rfl (by kernel_rfl)
            have hb0 := hB.1 z
            have e38 : Az.eval (.tmp 38) = .pointer (some ⟨w.heap.size, 42, none⟩) := Ez.dep 6 38 (by kernel_rfl) rfl
            have cc : wy.cell? ⟨w.heap.size, 42, none⟩ = some (.float .f64 (Y 4)) := blk_cell (blk_later CM.out.r0 hb0) (k := 42) (by decide)
            exact wpo_val (v := .float .f64 (Y 4)) (run_load e38 (by simp [go_sem, cc])) (k _ _ rfl (hB.add z 7 _ (by decide) (Below.refl _ _)))
          | 8, ho =>
            obtain rfl := Option.some.inj ho
            intro Az Lz vz wy Kz Ez hB k
            have z : Lz 14 = false := Ez.late 14 _ rfl (by kernel_rfl)
            have hb0 := hB.1 z
            have e39 : Az.eval (.tmp 39) = .float .f64 (Y 4) := Ez.dep 7 39 (by kernel_rfl) rfl
            refine wpo_call (run_callW (fun _ _ => by kernel_rfl)) (R := fun ez w' => ez = .returned (.bool (nanB (Y 4))) ∧ w' = wy) ?_ ?_
            · simp only [List.map_toArray, List.map_cons, List.map_nil, eval_const, e39]
              exact isnan_any (Y 4) wy
            · rintro ez w' ⟨rfl, rfl⟩
              exact ⟨_, rfl, k _ _ rfl (hB.add z 8 _ (by decide) (Below.refl _ _))⟩
          | 9, ho =>
            obtain rfl := Option.some.inj ho
            intro Az Lz vz wy Kz Ez hB k
            have z : Lz 14 = false := Ez.late 14 _ rfl (by kernel_rfl)
            have hb0 := hB.1 z
            have e1 : Az.eval (.tmp 1) = .pointer (some ⟨w.heap.size, 0, none⟩) := Ez.out 1 (by kernel_rfl)
            exact wpo_val (v := .pointer (some ⟨w.heap.size, 48, none⟩)) (run_field e1 (by simp [go_sem])) (k _ _ rfl (hB.add z 9 _ (by decide) (Below.refl _ _)))
          | 10, ho =>
            obtain rfl := Option.some.inj ho
            intro Az Lz vz wy Kz Ez hB k
            have z : Lz 14 = false := Ez.late 14 _ rfl (by kernel_rfl)
            have hb0 := hB.1 z
            have e41 : Az.eval (.tmp 41) = .pointer (some ⟨w.heap.size, 48, none⟩) := Ez.dep 9 41 (by kernel_rfl) rfl
            exact wpo_val (v := .agg (arr 12 (intF W))) (run_load e41 (load_part (g := intF W) (d := .array 12 3) (blk_later CM.out.r0 hb0) (by decide) raw_wrd (by kernel_rfl) rfl (by kernel_rfl))) (k _ _ rfl (hB.add z 10 _ (by decide) (Below.refl _ _)))
          | 11, ho =>
            obtain rfl := Option.some.inj ho
            intro Az Lz vz wy Kz Ez hB k
            have z : Lz 14 = false := Ez.late 14 _ rfl (by kernel_rfl)
            have hb0 := hB.1 z
            have e1 : Az.eval (.tmp 1) = .pointer (some ⟨w.heap.size, 0, none⟩) := Ez.out 1 (by kernel_rfl)
            exact wpo_val (v := .pointer (some ⟨w.heap.size, 64, none⟩)) (run_field e1 (by simp [go_sem])) (k _ _ rfl (hB.add z 11 _ (by decide) (Below.refl _ _)))
          | 12, ho =>
            obtain rfl := Option.some.inj ho
            intro Az Lz vz wy Kz Ez hB k
            have z : Lz 14 = false := Ez.late 14 _ rfl (by kernel_rfl)
            have hb0 := hB.1 z
            have e43 : Az.eval (.tmp 43) = .pointer (some ⟨w.heap.size, 64, none⟩) := Ez.dep 11 43 (by kernel_rfl) rfl
            have cc : wy.cell? ⟨w.heap.size, 64, none⟩ = some (.int .u8 C) := blk_cell (blk_later CM.out.r0 hb0) (k := 64) (by decide)
            exact wpo_val (v := .int .u8 C) (run_load e43 (by simp [go_sem, cc])) (k _ _ rfl (hB.add z 12 _ (by decide) (Below.refl _ _)))
          | 13, ho =>
            obtain rfl := Option.some.inj ho
            intro Az Lz vz wy Kz Ez hB k
            have z : Lz 14 = false := Ez.late 14 _ rfl (by kernel_rfl)
            have hb0 := hB.1 z
            have e32 : Az.eval (.tmp 32) = .agg (arr 38 (valF (dK X P) (dN X P))) := Ez.dep 0 32 (by kernel_rfl) rfl
            have e36 : Az.eval (.tmp 36) = .agg (arr 10 (intF (brd (cN Y) Li))) := Ez.dep 4 36 (by kernel_rfl) rfl
            have e40 : Az.eval (.tmp 40) = .bool (nanB (Y 4)) := Ez.dep 8 40 (by kernel_rfl) rfl
            have e42 : Az.eval (.tmp 42) = .agg (arr 12 (intF W)) := Ez.dep 10 42 (by kernel_rfl) rfl
            have e44 : Az.eval (.tmp 44) = .int .u8 C := Ez.dep 12 44 (by kernel_rfl) rfl
            exact wpo_val (v := .agg (arr 62 (styF (dK X P) (dN X P) (brd (cN Y) Li) (nanB (Y 4)) W C))) (run_build (l' := #[(0, .agg (arr 38 (valF (dK X P) (dN X P)))), (1, .agg (arr 10 (intF (brd (cN Y) Li)))), (2, .bool (nanB (Y 4))), (3, .agg (arr 12 (intF W))), (4, .int .u8 C)]) (by simp only [List.map_toArray, List.map_cons, List.map_nil, e32, e36, e40, e42, e44]) (build_sty _ _ _ _ _ _ wy)) (k _ _ rfl (hB.add z 13 _ (by decide) (Below.refl _ _)))
          | 14, ho =>
            obtain rfl := Option.some.inj ho
            intro Az Lz vz wy Kz Ez hB k
            have z : Lz 14 = false := Ez.not
            have hb0 := hB.1 z
            have e2 : Az.eval (.tmp 2) = .pointer (some ⟨w.heap.size + 1, 0, none⟩) := Ez.out 2 (by kernel_rfl)
            have e45 : Az.eval (.tmp 45) = .agg (arr 62 (styF (dK X P) (dN X P) (brd (cN Y) Li) (nanB (Y 4)) W C)) := Ez.dep 13 45 (by kernel_rfl) rfl
            exact wpo_skip (w' := wy.setRow (w.heap.size + 1) (arr 62 (styF (dK X P) (dN X P) (brd (cN Y) Li) (nanB (Y 4)) W C))) (run_store e2 e45 (store_whole (blk_later CM.out.r1 hb0) (size_of (by kernel_rfl) _) (by rw [arr_size, arr_size]) (arr_ones fun kk _ => one_sty _ _ _ _ _ _ kk))) (k _ _ trivial ⟨(fun q => by simp [addL] at q), fun _ => ⟨wy, hb0, rfl⟩⟩)
          | 15, ho =>
            obtain rfl := Option.some.inj ho
            intro Az Lz vz wy Kz Ez hB k
            have z : Lz 14 = true := Ez.had 14 (by kernel_rfl)
            exact wpo_val (v := .int .i64 0) (run_assign rfl) (k _ _ rfl ⟨(fun q => by rw [show addL Lz 15 14 = Lz 14 by simp [addL], z] at q; cases q), fun _ => hB.2 z⟩)
          | n + 16, ho => simp at ho
        · obtain ⟨wy, hb0, rfl⟩ := hB.2 (hL 14 (by decide))
          have R2 := blk_later R1.out hb0
          have BX := Lib.hid (bel_tr0 CM.out.b hb0)
          clear hB hL HB0 hb0 CM B4 B6
          simp only [puts2, mix, Act.put, List.setIfInBounds_toArray, List.set_cons_zero, List.set_cons_succ, Nat.zero_add, Nat.reduceAdd, List.getElem?_cons_zero, List.getElem?_cons_succ]
          go_wp2_with fail
          refine bodyPost_ret (results_row_tmp (p := 2) (u := 3) rfl _ _ (w.heap.size + 1) 36 (arr 62 (styF (dK X P) (dN X P) (brd (cN Y) Li) (nanB (Y 4)) W C)) (0, 0) (.struct (Tryd.prog.fieldsOf 36)) rfl (setRow_heap _ _ (arr 62 zsF) _ _ _ R2) (by kernel_rfl) rfl (size_of (by kernel_rfl) _)) rfl ?_
          have CV : cmpE X P Y W = 0 := by rw [CE.out]; simp
          refine ⟨?_, below_setRow BX.out (by omega) _⟩
          rw [show cmpF X P Y W Li C = (styF (dK X P) (dN X P) (brd (cN Y) Li) (nanB (Y 4)) W C) by unfold cmpF; rw [CV, if_pos rfl], CV]
          rfl
end Go.Proofs.YtjemnjboopabpaaDoor
