/- Package style: the default, the borders; what law 11 asks of speaking. Made by gen/styspk.py. -/
import Derived.Test.YtjemnjboopabpaaDoorStyM
import Derived.Test.YtjemnjboopabpaaDoorHairM
import Derived.Test.YtjemnjboopabpaaDoorSpk3b
import Derived.Test.YtjemnjboopabpaaDoorParts
import Derived.Test.YtjemnjboopabpaaDoorArrM
import Derived.IntWalk
import Derived.WalkKit
import Derived.WalkSpells
import Derived.WalkLawsBesides
import Derived.Handy
import Derived.Lib.Hide
import Derived.LoopTactic
import Derived.Outline
import Derived.Laws.Rows
import Derived.Deep.MidRow
import Derived.Laws.CopyOwn
namespace Go.Proofs.YtjemnjboopabpaaDoor
open Go.RowKit Go.Proofs.Flo Go.Proofs.Reg Go.Proofs.Big Go.Proofs.Arr
set_option linter.unusedVariables false
set_option linter.unusedSimpArgs false
set_option maxRecDepth 100000
/-- one store at an end -/
def HS (wa : World) (st : Nat) (S : World → World) (L : Nat → Bool) (vz : Nat → Value) (wy : World) : Prop :=
  (L st = false → Below wa.heap.size wa wy) ∧ (L st = true → ∃ wy0, Below wa.heap.size wa wy0 ∧ wy = S wy0)
theorem HS.add {wa : World} {st : Nat} {S : World → World} {L : Nat → Bool} {vz : Nat → Value} {wy w' : World} (h : HS wa st S L vz wy) (z : L st = false) (ii : Nat) (v : Value) (hi : ii ≠ st) (hb : Below wy.heap.size wy w') : HS wa st S (addL L ii) (upd vz ii v) w' :=
  ⟨fun _ => bel_tr0 (h.1 z) hb, (fun q => by rw [show addL L ii st = L st by simp [addL, Ne.symm hi], z] at q; cases q)⟩
theorem two_cells {w : World} {b : Nat} {x y : Value} {t : TypeId} (h : w.heap[b]? = some (.cells #[x, y] t (0, 0))) : w.cell? ⟨b, 0, none⟩ = some x ∧ w.cell? ⟨b, 1, none⟩ = some y := ⟨cell_of_row w b 0 _ _ _ h, cell_of_row w b 1 _ _ _ h⟩
theorem inf_any (w : World) : Calls Tryd.prog 42 #[.int .i64 1] w fun e w' => e = .returned (.float .f64 9218868437227405312) ∧ w' = w := by
  have q := run_frombits 9218868437227405312
  go_enter Tryd.func42, Tryd.ntmps42
  go_wp2_with fail
  go_returns
  exact ⟨rfl, rfl⟩
/-- the default -/
def Xd (i : Nat) : Nat := if i ≤ 3 ∨ 14 ≤ i then 9221120237041090561 else if i = 4 ∨ i = 5 then 9218868437227405312 else 0
def Pd (_ : Nat) : Bool := false
def Yd (i : Nat) : Nat := if i = 4 ∨ i = 9 then 9221120237041090561 else if i = 6 then 4607182418800017408 else 0
def Wd (i : Nat) : Int := if i = 4 ∨ i = 9 then 0 else 1
def Ld (_ : Nat) : Bool := false
def dftF : Nat → Value := rawF Xd Pd Yd Wd Ld 0
def zrF : Nat → Value := rawF (fun _ => 0) Pd (fun _ => 0) (fun _ => 0) Ld 0
theorem zero65 : Tryd.zeroCells46 = arr 65 zrF := by kernel_rfl
theorem one_raw (X : Nat → Nat) (P : Nat → Bool) (Y : Nat → Nat) (W : Nat → Int) (L : Nat → Bool) (C : Int) (k : Nat) : (rawF X P Y W L C k).oneCell' = true := by
  unfold rawF
  split
  · unfold lenF pairF; split <;> rfl
  · split
    · rfl
    · split
      · rfl
      · split <;> rfl
theorem build_d38 (w : World) : (Instr.build 43 #[(0, .agg #[.float .f64 9221120237041090561, .bool false]), (1, .agg #[.float .f64 9221120237041090561, .bool false]), (2, .agg #[.float .f64 9221120237041090561, .bool false]), (3, .agg #[.float .f64 9221120237041090561, .bool false]), (4, .agg #[.float .f64 9218868437227405312, .bool false]), (5, .agg #[.float .f64 9218868437227405312, .bool false]), (14, .agg #[.float .f64 9221120237041090561, .bool false]), (15, .agg #[.float .f64 9221120237041090561, .bool false]), (16, .agg #[.float .f64 9221120237041090561, .bool false]), (17, .agg #[.float .f64 9221120237041090561, .bool false]), (18, .agg #[.float .f64 9221120237041090561, .bool false])]).run Tryd.prog w = .ok (.agg (arr 38 (lenF Xd Pd))) w :=
  Go.run_build w _ _ _ (by kernel_rfl)
theorem build_d10 (w : World) : (Instr.build 44 #[(4, .float .f64 9221120237041090561), (6, .float .f64 4607182418800017408), (9, .float .f64 9221120237041090561)]).run Tryd.prog w = .ok (.agg (arr 10 (fltF Yd))) w := Go.run_build w _ _ _ (by kernel_rfl)
theorem build_d12 (w : World) : (Instr.build 26 #[(0, .int .i64 1), (1, .int .i64 1), (2, .int .i64 1), (3, .int .i64 1), (5, .int .i64 1), (6, .int .i64 1), (7, .int .i64 1), (8, .int .i64 1), (10, .int .i64 1), (11, .int .i64 1)]).run Tryd.prog w = .ok (.agg (arr 12 (intF Wd))) w := Go.run_build w _ _ _ (by kernel_rfl)
theorem build_d65 (w : World) : (Instr.build 46 #[(0, .agg (arr 38 (lenF Xd Pd))), (1, .agg (arr 10 (fltF Yd))), (2, .agg (arr 12 (intF Wd)))]).run Tryd.prog w = .ok (.agg (arr 65 dftF)) w := Go.run_build w _ _ _ (by kernel_rfl)
set_option maxHeartbeats 4000000 in
theorem default_any (w : World) : Calls Tryd.prog 14 #[] w fun e w' => e = .returned (.agg (arr 65 dftF)) ∧ Below w.heap.size w w' := by
  have NA := Lib.hid nan_any
  have IN := Lib.hid inf_any
  have ON1 : (#[Value.float .f64 9221120237041090561, Value.bool false] : Array Value).all (·.oneCell') = true := by simp [Value.oneCell']
  have ON2 : (#[Value.float .f64 9218868437227405312, Value.bool false] : Array Value).all (·.oneCell') = true := by simp [Value.oneCell']
  go_enter Tryd.func14, Tryd.ntmps14
  go_wp2_with fail
  refine (NA.out _).mono ?_
  rintro _ w1 ⟨rfl, rfl⟩
  go_wp2_with fail
  refine (IN.out _).mono ?_
  rintro _ w1 ⟨rfl, rfl⟩
  go_wp2_with (first | (refine wpList_store_row rfl 42 (.tmp 1) (.tmp 4) rfl (w.heap.size + 1) #[.float .f64 9221120237041090561, .bool false] rfl rfl 42 #[.float .f64 0, .bool false] (blk_later (heap_alloc2_new _ _ _) (bel_newR _ _)) (by kernel_rfl) rfl ON1 ?_) | (refine wpList_store_row rfl 42 (.tmp 2) (.tmp 6) rfl (w.heap.size + 1 + 1) #[.float .f64 9218868437227405312, .bool false] rfl rfl 42 #[.float .f64 0, .bool false] ((setRow_other _ _ _ _ (Nat.succ_ne_self _)).trans (blk_new _ _ (by simp))) (by kernel_rfl) rfl ON2 ?_))
  rw [zero65]
  obtain ⟨wa, hwa⟩ : ∃ x, (((((w.alloc (.cells (arr 65 zrF) 46)).alloc (.cells #[.float .f64 0, .bool false] 42)).alloc (.cells #[.float .f64 0, .bool false] 42)).setRow (w.heap.size + 1) #[.float .f64 9221120237041090561, .bool false]).setRow (w.heap.size + 1 + 1) #[.float .f64 9218868437227405312, .bool false]) = x := ⟨_, rfl⟩
  have BA : Hid (Below w.heap.size w wa) := Lib.hid (by rw [← hwa]; exact below_setRow (below_setRow (by go_grown) (by omega) _) (by omega) _)
  have R0 : Hid (wa.heap[w.heap.size]? = some (.cells (arr 65 zrF) 46 (0, 0))) := Lib.hid (by
    rw [← hwa, setRow_other _ _ _ _ (by omega), setRow_other _ _ _ _ (by omega)]
    exact blk_later (blk_later (heap_alloc_new _ _) (bel_newR _ _)) (bel_newR _ _))
  have R1 : Hid (wa.heap[w.heap.size + 1]? = some (.cells #[.float .f64 9221120237041090561, .bool false] 42 (0, 0))) := Lib.hid (by
    rw [← hwa, setRow_other _ _ _ _ (by omega)]
    exact setRow_heap _ _ _ _ _ _ (blk_later (heap_alloc2_new _ _ _) (bel_newR _ _)))
  have R2 : Hid (wa.heap[w.heap.size + 1 + 1]? = some (.cells #[.float .f64 9218868437227405312, .bool false] 42 (0, 0))) := Lib.hid (by
    rw [← hwa]
    exact setRow_heap _ _ _ _ _ _ ((setRow_other _ _ _ _ (by omega)).trans (blk_new _ _ (by simp))))
  rw [hwa]
  clear hwa ON1 ON2
  have HB0 : HS wa 17 (fun x => x.setRow w.heap.size (arr 65 dftF)) (fun _ => false) (fun _ => undef) wa.drew := ⟨fun _ => (Below.refl _ _).drew, (fun q => by cases q)⟩
  refine wp_region_vals [some (.agg #[.float .f64 9221120237041090561, .bool false]), some (.agg #[.float .f64 9221120237041090561, .bool false]), some (.agg #[.float .f64 9221120237041090561, .bool false]), some (.agg #[.float .f64 9221120237041090561, .bool false]), some (.agg #[.float .f64 9218868437227405312, .bool false]), some (.agg #[.float .f64 9218868437227405312, .bool false]), some (.agg #[.float .f64 9221120237041090561, .bool false]), some (.agg #[.float .f64 9221120237041090561, .bool false]), some (.agg #[.float .f64 9221120237041090561, .bool false]), some (.agg #[.float .f64 9221120237041090561, .bool false]), some (.agg #[.float .f64 9221120237041090561, .bool false]), some (.agg (arr 38 (lenF Xd Pd))), some (.float .f64 9221120237041090561), some (.float .f64 9221120237041090561), some (.agg (arr 10 (fltF Yd))), some (.agg (arr 12 (intF Wd))), some (.agg (arr 65 dftF)), none] (HS wa 17 (fun x => x.setRow w.heap.size (arr 65 dftF)))
    [some 7, some 8, some 9, some 10, some 11, some 12, some 13, some 14, some 15, some 16, some 17, some 18, some 19, some 20, some 21, some 22, some 23, none] (by kernel_rfl) (by kernel_rfl) (by kernel_rfl) (by kernel_rfl) (by kernel_rfl) (by kernel_rfl) HB0 (fun i o ho => ?_) (fun Lz vz wz hL hB => ?_)
  · match i, ho with
    | 0, ho =>
      obtain rfl := Option.some.inj ho
      intro Az Lz vz wy Kz Ez hB k
      have z : Lz 17 = false := Ez.late 17 _ rfl (by kernel_rfl)
      have hb0 := hB.1 z
      have e1 : Az.eval (.tmp 1) = .pointer (some ⟨w.heap.size + 1, 0, none⟩) := Ez.out 1 (by kernel_rfl)
      obtain ⟨cc0, cc1⟩ := two_cells (blk_later R1.out hb0)
      exact wpo_val (v := .agg #[.float .f64 9221120237041090561, .bool false]) (run_load e1 (by simp [go_sem, cc0, cc1])) (k _ _ rfl (hB.add z 0 _ (by decide) (Below.refl _ _)))
    | 1, ho =>
      obtain rfl := Option.some.inj ho
      intro Az Lz vz wy Kz Ez hB k
      have z : Lz 17 = false := Ez.late 17 _ rfl (by kernel_rfl)
      have hb0 := hB.1 z
      have e1 : Az.eval (.tmp 1) = .pointer (some ⟨w.heap.size + 1, 0, none⟩) := Ez.out 1 (by kernel_rfl)
      obtain ⟨cc0, cc1⟩ := two_cells (blk_later R1.out hb0)
      exact wpo_val (v := .agg #[.float .f64 9221120237041090561, .bool false]) (run_load e1 (by simp [go_sem, cc0, cc1])) (k _ _ rfl (hB.add z 1 _ (by decide) (Below.refl _ _)))
    | 2, ho =>
      obtain rfl := Option.some.inj ho
      intro Az Lz vz wy Kz Ez hB k
      have z : Lz 17 = false := Ez.late 17 _ rfl (by kernel_rfl)
      have hb0 := hB.1 z
      have e1 : Az.eval (.tmp 1) = .pointer (some ⟨w.heap.size + 1, 0, none⟩) := Ez.out 1 (by kernel_rfl)
      obtain ⟨cc0, cc1⟩ := two_cells (blk_later R1.out hb0)
      exact wpo_val (v := .agg #[.float .f64 9221120237041090561, .bool false]) (run_load e1 (by simp [go_sem, cc0, cc1])) (k _ _ rfl (hB.add z 2 _ (by decide) (Below.refl _ _)))
    | 3, ho =>
      obtain rfl := Option.some.inj ho
      intro Az Lz vz wy Kz Ez hB k
      have z : Lz 17 = false := Ez.late 17 _ rfl (by kernel_rfl)
      have hb0 := hB.1 z
      have e1 : Az.eval (.tmp 1) = .pointer (some ⟨w.heap.size + 1, 0, none⟩) := Ez.out 1 (by kernel_rfl)
      obtain ⟨cc0, cc1⟩ := two_cells (blk_later R1.out hb0)
      exact wpo_val (v := .agg #[.float .f64 9221120237041090561, .bool false]) (run_load e1 (by simp [go_sem, cc0, cc1])) (k _ _ rfl (hB.add z 3 _ (by decide) (Below.refl _ _)))
    | 4, ho =>
      obtain rfl := Option.some.inj ho
      intro Az Lz vz wy Kz Ez hB k
      have z : Lz 17 = false := Ez.late 17 _ rfl (by kernel_rfl)
      have hb0 := hB.1 z
      have e2 : Az.eval (.tmp 2) = .pointer (some ⟨w.heap.size + 1 + 1, 0, none⟩) := Ez.out 2 (by kernel_rfl)
      obtain ⟨cc0, cc1⟩ := two_cells (blk_later R2.out hb0)
      exact wpo_val (v := .agg #[.float .f64 9218868437227405312, .bool false]) (run_load e2 (by simp [go_sem, cc0, cc1])) (k _ _ rfl (hB.add z 4 _ (by decide) (Below.refl _ _)))
    | 5, ho =>
      obtain rfl := Option.some.inj ho
      intro Az Lz vz wy Kz Ez hB k
      have z : Lz 17 = false := Ez.late 17 _ rfl (by kernel_rfl)
      have hb0 := hB.1 z
      have e2 : Az.eval (.tmp 2) = .pointer (some ⟨w.heap.size + 1 + 1, 0, none⟩) := Ez.out 2 (by kernel_rfl)
      obtain ⟨cc0, cc1⟩ := two_cells (blk_later R2.out hb0)
      exact wpo_val (v := .agg #[.float .f64 9218868437227405312, .bool false]) (run_load e2 (by simp [go_sem, cc0, cc1])) (k _ _ rfl (hB.add z 5 _ (by decide) (Below.refl _ _)))
    | 6, ho =>
      obtain rfl := Option.some.inj ho
      intro Az Lz vz wy Kz Ez hB k
      have z : Lz 17 = false := Ez.late 17 _ rfl (by kernel_rfl)
      have hb0 := hB.1 z
      have e1 : Az.eval (.tmp 1) = .pointer (some ⟨w.heap.size + 1, 0, none⟩) := Ez.out 1 (by kernel_rfl)
      obtain ⟨cc0, cc1⟩ := two_cells (blk_later R1.out hb0)
      exact wpo_val (v := .agg #[.float .f64 9221120237041090561, .bool false]) (run_load e1 (by simp [go_sem, cc0, cc1])) (k _ _ rfl (hB.add z 6 _ (by decide) (Below.refl _ _)))
    | 7, ho =>
      obtain rfl := Option.some.inj ho
      intro Az Lz vz wy Kz Ez hB k
      have z : Lz 17 = false := Ez.late 17 _ rfl (by kernel_rfl)
      have hb0 := hB.1 z
      have e1 : Az.eval (.tmp 1) = .pointer (some ⟨w.heap.size + 1, 0, none⟩) := Ez.out 1 (by kernel_rfl)
      obtain ⟨cc0, cc1⟩ := two_cells (blk_later R1.out hb0)
      exact wpo_val (v := .agg #[.float .f64 9221120237041090561, .bool false]) (run_load e1 (by simp [go_sem, cc0, cc1])) (k _ _ rfl (hB.add z 7 _ (by decide) (Below.refl _ _)))
    | 8, ho =>
      obtain rfl := Option.some.inj ho
      intro Az Lz vz wy Kz Ez hB k
      have z : Lz 17 = false := Ez.late 17 _ rfl (by kernel_rfl)
      have hb0 := hB.1 z
      have e1 : Az.eval (.tmp 1) = .pointer (some ⟨w.heap.size + 1, 0, none⟩) := Ez.out 1 (by kernel_rfl)
      obtain ⟨cc0, cc1⟩ := two_cells (blk_later R1.out hb0)
      exact wpo_val (v := .agg #[.float .f64 9221120237041090561, .bool false]) (run_load e1 (by simp [go_sem, cc0, cc1])) (k _ _ rfl (hB.add z 8 _ (by decide) (Below.refl _ _)))
    | 9, ho =>
      obtain rfl := Option.some.inj ho
      intro Az Lz vz wy Kz Ez hB k
      have z : Lz 17 = false := Ez.late 17 _ rfl (by kernel_rfl)
      have hb0 := hB.1 z
      have e1 : Az.eval (.tmp 1) = .pointer (some ⟨w.heap.size + 1, 0, none⟩) := Ez.out 1 (by kernel_rfl)
      obtain ⟨cc0, cc1⟩ := two_cells (blk_later R1.out hb0)
      exact wpo_val (v := .agg #[.float .f64 9221120237041090561, .bool false]) (run_load e1 (by simp [go_sem, cc0, cc1])) (k _ _ rfl (hB.add z 9 _ (by decide) (Below.refl _ _)))
    | 10, ho =>
      obtain rfl := Option.some.inj ho
      intro Az Lz vz wy Kz Ez hB k
      have z : Lz 17 = false := Ez.late 17 _ rfl (by kernel_rfl)
      have hb0 := hB.1 z
      have e1 : Az.eval (.tmp 1) = .pointer (some ⟨w.heap.size + 1, 0, none⟩) := Ez.out 1 (by kernel_rfl)
      obtain ⟨cc0, cc1⟩ := two_cells (blk_later R1.out hb0)
      exact wpo_val (v := .agg #[.float .f64 9221120237041090561, .bool false]) (run_load e1 (by simp [go_sem, cc0, cc1])) (k _ _ rfl (hB.add z 10 _ (by decide) (Below.refl _ _)))
    | 11, ho =>
      obtain rfl := Option.some.inj ho
      intro Az Lz vz wy Kz Ez hB k
      have z : Lz 17 = false := Ez.late 17 _ rfl (by kernel_rfl)
      have hb0 := hB.1 z
      have e7 : Az.eval (.tmp 7) = .agg #[.float .f64 9221120237041090561, .bool false] := Ez.dep 0 7 (by kernel_rfl) rfl
      have e8 : Az.eval (.tmp 8) = .agg #[.float .f64 9221120237041090561, .bool false] := Ez.dep 1 8 (by kernel_rfl) rfl
      have e9 : Az.eval (.tmp 9) = .agg #[.float .f64 9221120237041090561, .bool false] := Ez.dep 2 9 (by kernel_rfl) rfl
      have e10 : Az.eval (.tmp 10) = .agg #[.float .f64 9221120237041090561, .bool false] := Ez.dep 3 10 (by kernel_rfl) rfl
      have e11 : Az.eval (.tmp 11) = .agg #[.float .f64 9218868437227405312, .bool false] := Ez.dep 4 11 (by kernel_rfl) rfl
      have e12 : Az.eval (.tmp 12) = .agg #[.float .f64 9218868437227405312, .bool false] := Ez.dep 5 12 (by kernel_rfl) rfl
      have e13 : Az.eval (.tmp 13) = .agg #[.float .f64 9221120237041090561, .bool false] := Ez.dep 6 13 (by kernel_rfl) rfl
      have e14 : Az.eval (.tmp 14) = .agg #[.float .f64 9221120237041090561, .bool false] := Ez.dep 7 14 (by kernel_rfl) rfl
      have e15 : Az.eval (.tmp 15) = .agg #[.float .f64 9221120237041090561, .bool false] := Ez.dep 8 15 (by kernel_rfl) rfl
      have e16 : Az.eval (.tmp 16) = .agg #[.float .f64 9221120237041090561, .bool false] := Ez.dep 9 16 (by kernel_rfl) rfl
      have e17 : Az.eval (.tmp 17) = .agg #[.float .f64 9221120237041090561, .bool false] := Ez.dep 10 17 (by kernel_rfl) rfl
      exact wpo_val (v := .agg (arr 38 (lenF Xd Pd))) (run_build (l' := #[(0, .agg #[.float .f64 9221120237041090561, .bool false]), (1, .agg #[.float .f64 9221120237041090561, .bool false]), (2, .agg #[.float .f64 9221120237041090561, .bool false]), (3, .agg #[.float .f64 9221120237041090561, .bool false]), (4, .agg #[.float .f64 9218868437227405312, .bool false]), (5, .agg #[.float .f64 9218868437227405312, .bool false]), (14, .agg #[.float .f64 9221120237041090561, .bool false]), (15, .agg #[.float .f64 9221120237041090561, .bool false]), (16, .agg #[.float .f64 9221120237041090561, .bool false]), (17, .agg #[.float .f64 9221120237041090561, .bool false]), (18, .agg #[.float .f64 9221120237041090561, .bool false])]) (by simp only [List.map_toArray, List.map_cons, List.map_nil, e7, e8, e9, e10, e11, e12, e13, e14, e15, e16, e17]) (build_d38 wy)) (k _ _ rfl (hB.add z 11 _ (by decide) (Below.refl _ _)))
    | 12, ho =>
      obtain rfl := Option.some.inj ho
      intro Az Lz vz wy Kz Ez hB k
      have z : Lz 17 = false := Ez.late 17 _ rfl (by kernel_rfl)
      have hb0 := hB.1 z
      refine wpo_call (run_callW (fun _ _ => by kernel_rfl)) (R := fun ez w' => ez = .returned (.float .f64 9221120237041090561) ∧ w' = wy) ?_ ?_
      · simp only [List.map_toArray, List.map_cons, List.map_nil, eval_const]
        exact NA.out wy
      · rintro ez w' ⟨rfl, rfl⟩
        exact ⟨_, rfl, k _ _ rfl (hB.add z 12 _ (by decide) (Below.refl _ _))⟩
    | 13, ho =>
      obtain rfl := Option.some.inj ho
      intro Az Lz vz wy Kz Ez hB k
      have z : Lz 17 = false := Ez.late 17 _ rfl (by kernel_rfl)
      have hb0 := hB.1 z
      refine wpo_call (run_callW (fun _ _ => by kernel_rfl)) (R := fun ez w' => ez = .returned (.float .f64 9221120237041090561) ∧ w' = wy) ?_ ?_
      · simp only [List.map_toArray, List.map_cons, List.map_nil, eval_const]
        exact NA.out wy
      · rintro ez w' ⟨rfl, rfl⟩
        exact ⟨_, rfl, k _ _ rfl (hB.add z 13 _ (by decide) (Below.refl _ _))⟩
    | 14, ho =>
      obtain rfl := Option.some.inj ho
      intro Az Lz vz wy Kz Ez hB k
      have z : Lz 17 = false := Ez.late 17 _ rfl (by kernel_rfl)
      have hb0 := hB.1 z
      have e19 : Az.eval (.tmp 19) = .float .f64 9221120237041090561 := Ez.dep 12 19 (by kernel_rfl) rfl
      have e20 : Az.eval (.tmp 20) = .float .f64 9221120237041090561 := Ez.dep 13 20 (by kernel_rfl) rfl
      exact wpo_val (v := .agg (arr 10 (fltF Yd))) (run_build (l' := #[(4, .float .f64 9221120237041090561), (6, .float .f64 4607182418800017408), (9, .float .f64 9221120237041090561)]) (by simp only [List.map_toArray, List.map_cons, List.map_nil, eval_const, e19, e20]) (build_d10 wy)) (k _ _ rfl (hB.add z 14 _ (by decide) (Below.refl _ _)))
    | 15, ho =>
      obtain rfl := Option.some.inj ho
      intro Az Lz vz wy Kz Ez hB k
      have z : Lz 17 = false := Ez.late 17 _ rfl (by kernel_rfl)
      have hb0 := hB.1 z
      exact wpo_val (v := .agg (arr 12 (intF Wd))) (run_build (l' := #[(0, .int .i64 1), (1, .int .i64 1), (2, .int .i64 1), (3, .int .i64 1), (5, .int .i64 1), (6, .int .i64 1), (7, .int .i64 1), (8, .int .i64 1), (10, .int .i64 1), (11, .int .i64 1)]) (by simp only [List.map_toArray, List.map_cons, List.map_nil, eval_const]) (build_d12 wy)) (k _ _ rfl (hB.add z 15 _ (by decide) (Below.refl _ _)))
    | 16, ho =>
      obtain rfl := Option.some.inj ho
      intro Az Lz vz wy Kz Ez hB k
      have z : Lz 17 = false := Ez.late 17 _ rfl (by kernel_rfl)
      have hb0 := hB.1 z
      have e18 : Az.eval (.tmp 18) = .agg (arr 38 (lenF Xd Pd)) := Ez.dep 11 18 (by kernel_rfl) rfl
      have e21 : Az.eval (.tmp 21) = .agg (arr 10 (fltF Yd)) := Ez.dep 14 21 (by kernel_rfl) rfl
      have e22 : Az.eval (.tmp 22) = .agg (arr 12 (intF Wd)) := Ez.dep 15 22 (by kernel_rfl) rfl
      exact wpo_val (v := .agg (arr 65 dftF)) (run_build (l' := #[(0, .agg (arr 38 (lenF Xd Pd))), (1, .agg (arr 10 (fltF Yd))), (2, .agg (arr 12 (intF Wd)))]) (by simp only [List.map_toArray, List.map_cons, List.map_nil, e18, e21, e22]) (build_d65 wy)) (k _ _ rfl (hB.add z 16 _ (by decide) (Below.refl _ _)))
    | 17, ho =>
      obtain rfl := Option.some.inj ho
      intro Az Lz vz wy Kz Ez hB k
      have z : Lz 17 = false := Ez.not
      have hb0 := hB.1 z
      have e0 : Az.eval (.tmp 0) = .pointer (some ⟨w.heap.size, 0, none⟩) := Ez.out 0 (by kernel_rfl)
      have e23 : Az.eval (.tmp 23) = .agg (arr 65 dftF) := Ez.dep 16 23 (by kernel_rfl) rfl
      exact wpo_skip (w' := wy.setRow w.heap.size (arr 65 dftF)) (run_store e0 e23 (store_whole (blk_later R0.out hb0) (size_of (by kernel_rfl) _) (by rw [arr_size, arr_size]) (arr_ones fun kk _ => one_raw _ _ _ _ _ _ kk))) (k _ _ trivial ⟨(fun q => by simp [addL] at q), fun _ => ⟨wy, hb0, rfl⟩⟩)
    | n + 18, ho => simp at ho
  · obtain ⟨wy, hb0, rfl⟩ := hB.2 (hL 17 (by decide))
    have R3 := blk_later R0.out hb0
    have BX := Lib.hid (bel_tr0 BA.out hb0)
    clear hB hL HB0 hb0
    simp only [puts2, mix, Act.put, List.setIfInBounds_toArray, List.set_cons_zero, List.set_cons_succ, Nat.zero_add, Nat.reduceAdd, List.getElem?_cons_zero, List.getElem?_cons_succ]
    go_wp2_with fail
    refine bodyPost_ret (results_cell_row (p := 0) rfl _ _ w.heap.size 46 (arr 65 dftF) (0, 0) (.struct (Tryd.prog.fieldsOf 46)) rfl (setRow_heap _ _ (arr 65 zrF) _ _ _ R3) (by kernel_rfl) rfl (size_of (by kernel_rfl) _)) rfl ?_
    exact ⟨rfl, below_setRow BX.out (by omega) _⟩
theorem zero4 : (#[.int .i64 0, .int .i64 0, .int .i64 0, .int .i64 0] : Array Value) = arr 4 zF := rfl
theorem sty_num {K M B : Nat → Int} {A : Bool} {W : Nat → Int} {C : Int} (k : Nat) (h : k < 10) : styF K M B A W C (38 + k) = intF B k := by unfold styF; rw [if_neg (by omega), if_pos (by omega), show 38 + k - 38 = k by omega]
structure BrM (w wr : World) (S : Nat → Value) (n d : Int) (H : Nat → Int) (j : Nat) : Prop where
  s : wr.heap[w.heap.size]? = some (.cells (arr 62 S) 36 (0, 0))
  q : wr.heap[w.heap.size + 1]? = some (.cells #[.int .i64 n, .int .i64 d] 67 (0, 0))
  r : wr.heap[w.heap.size + 1 + 1]? = some (.cells (arr 4 zF) 101 (0, 0))
  l : wr.heap[w.heap.size + 1 + 1 + 1]? = some (.cells (arr 4 (doneF (intF H) zF j)) 101 (0, 0))
  b : Below w.heap.size w wr
theorem BrM.later {w wr wx : World} {S : Nat → Value} {n d : Int} {H : Nat → Int} {j : Nat} (h : BrM w wr S n d H j) (hb : Below wr.heap.size wr wx) : BrM w wx S n d H j :=
  ⟨blk_later h.s hb, blk_later h.q hb, blk_later h.r hb, blk_later h.l hb, bel_tr0 h.b hb⟩
theorem BrM.step {w wr : World} {S : Nat → Value} {n d : Int} {H : Nat → Int} {j : Nat} (h : BrM w wr S n d H j) : BrM w (wr.setCell ⟨w.heap.size + 1 + 1 + 1, j, none⟩ (.int .i64 (H j))) S n d H (j + 1) := by
  obtain ⟨s, q, r, l, b⟩ := h
  refine ⟨blk_far s (by omega) _, blk_far q (by omega) _, blk_far r (by omega) _, ?_, b.setCell (by show w.heap.size ≤ w.heap.size + 1 + 1 + 1; omega) _⟩
  have := blk_set l j (.int .i64 (H j))
  rwa [show (Value.int .i64 (H j)) = intF H j from rfl, done_1] at this
set_option maxHeartbeats 4000000 in
theorem borders_any (K M B : Nat → Int) (A : Bool) (W : Nat → Int) (C n d : Int) (H : Nat → Int) (hH : ∀ i, i < 4 → ∀ w, Calls Tryd.prog 19 #[.int .i64 (B i), .agg #[.int .i64 n, .int .i64 d]] w fun e w' => e = .returned (.int .i64 (H i)) ∧ Below w.heap.size w w') (w : World) :
    Calls Tryd.prog 30 #[.agg (arr 62 (styF K M B A W C)), .agg #[.int .i64 n, .int .i64 d]] w fun e w' => e = .returned (.agg (arr 4 (intF H))) ∧ Below w.heap.size w w' := by
  have HH := Lib.hid hH
  clear hH
  obtain ⟨S, hS⟩ : ∃ S, styF K M B A W C = S := ⟨_, rfl⟩
  have SN : Hid (∀ k, k < 10 → S (38 + k) = intF B k) := Lib.hid (fun k h => by rw [← hS]; exact sty_num k h)
  rw [hS]
  clear hS
  go_enter Tryd.func30, Tryd.ntmps30
  go_wp2_with fail
  go_loopw [7] (fun s7 wx => ∃ j : Nat, s7 = .int .i64 j ∧ j ≤ 4 ∧ Hid (BrM w wx S n d H j)) (fun s7 _ => 4 - (intOf s7).toNat)
  case atStart =>
    rw [zero4]
    refine ⟨0, rfl, by decide, Lib.hid ⟨blk_later (blk_later (blk_later (heap_alloc_new _ _) (bel_newR _ _)) (bel_newR _ _)) (bel_newR _ _), blk_later (blk_later (heap_alloc2_new _ _ _) (bel_newR _ _)) (bel_newR _ _), ?_, ?_, by go_grown⟩⟩
    · exact blk_later (blk_new _ _ (by simp)) (bel_newR _ _)
    · rw [done_0]; exact blk_new _ _ (by simp)
  case round =>
    obtain ⟨j, rfl, hj, hW⟩ := hrel
    by_cases j19 : j = 4
    · subst j19
      obtain ⟨_, _, r, l, b⟩ := hW.out
      rw [done_all] at l
      have ON2 : (arr 4 (intF H)).all (·.oneCell') = true := arr_ones fun k _ => rfl
      have HB := Lib.hid b
      clear hW b
      go_wp2_with (first | (refine wpList_load_row rfl 101 (.tmp 5) rfl (w.heap.size + 1 + 1 + 1) rfl 101 _ (0, 0) (.array 4 2) l (by kernel_rfl) rfl (size_of (by kernel_rfl) _) ?_) | (refine wpList_store_row rfl 101 (.tmp 4) (.tmp 20) rfl (w.heap.size + 1 + 1) (arr 4 (intF H)) rfl rfl 101 (arr 4 zF) r (size_of (by kernel_rfl) _) (by rw [arr_size, arr_size]) ON2 ?_))
      refine bodyPost_ret (results_cell_row (p := 4) rfl _ _ (w.heap.size + 1 + 1) 101 (arr 4 (intF H)) (0, 0) (.array 4 2) rfl (setRow_heap _ _ (arr 4 zF) _ _ _ r) (by kernel_rfl) rfl (size_of (by kernel_rfl) _)) rfl ?_
      exact ⟨rfl, below_setRow HB.out (by omega) _⟩
    · have jl : j < 4 := by omega
      have jl' : (j : Int) < 4 := by omega
      have jl10 : (j : Int) < 10 := by omega
      have j0 : (0 : Int) ≤ (j : Int) := by omega
      have wj : IntKind.i64.wrap (j : Int) = (j : Int) := IntWalk.i64_in _ (by omega)
      have HC := Lib.hid (fun w => HH.out j jl w)
      obtain ⟨bj, hbj⟩ : ∃ v, B j = v := ⟨_, rfl⟩
      obtain ⟨hjv, hhj⟩ : ∃ v, H j = v := ⟨_, rfl⟩
      rw [hbj, hhj] at HC
      have SJ : Hid (S (38 + j) = .int .i64 bj) := Lib.hid (by rw [SN.out j (by omega)]; unfold intF; rw [hbj])
      have HJ := Lib.hid hhj
      clear hbj hhj
      go_wp2_with fail
      have HB0 : HS wr 9 (fun x => x.setCell ⟨w.heap.size + 1 + 1 + 1, j, none⟩ (.int .i64 hjv)) (fun _ => false) (fun _ => undef) wr.drew := ⟨fun _ => (Below.refl _ _).drew, (fun q => by cases q)⟩
      refine wp_region_vals [some (.int .i64 (j : Int)), some (.int .i64 (j : Int)), some (.int .i64 (j : Int)), some (.pointer (some ⟨w.heap.size, 38, none⟩)), some (.pointer (some ⟨w.heap.size, 38 + j, none⟩)), some (.int .i64 bj), some (.agg #[.int .i64 n, .int .i64 d]), some (.int .i64 hjv), some (.pointer (some ⟨w.heap.size + 1 + 1 + 1, j, none⟩)), none] (HS wr 9 (fun x => x.setCell ⟨w.heap.size + 1 + 1 + 1, j, none⟩ (.int .i64 hjv)))
        [some 10, some 11, some 12, some 13, some 14, some 15, some 16, some 17, some 18, none] (by kernel_rfl) (by kernel_rfl) (by kernel_rfl) (by kernel_rfl) (by kernel_rfl) (by kernel_rfl) HB0 (fun i o ho => ?_) (fun Lz vz wz hL hB => ?_)
      · match i, ho with
        | 0, ho =>
          obtain rfl := Option.some.inj ho
          intro Az Lz vz wy Kz Ez hB k
          have z : Lz 9 = false := Ez.late 9 _ rfl (by kernel_rfl)
          have hb0 := hB.1 z
          have e6 : Az.eval (.tmp 6) = .int .i64 (j : Int) := Ez.out 6 (by kernel_rfl)
          exact wpo_val (v := .int .i64 (j : Int)) (run_move e6) (k _ _ rfl (hB.add z 0 _ (by decide) (Below.refl _ _)))
        | 1, ho =>
          obtain rfl := Option.some.inj ho
          intro Az Lz vz wy Kz Ez hB k
          have z : Lz 9 = false := Ez.late 9 _ rfl (by kernel_rfl)
          have hb0 := hB.1 z
          have e6 : Az.eval (.tmp 6) = .int .i64 (j : Int) := Ez.out 6 (by kernel_rfl)
          exact wpo_val (v := .int .i64 (j : Int)) (run_move e6) (k _ _ rfl (hB.add z 1 _ (by decide) (Below.refl _ _)))
        | 2, ho =>
          obtain rfl := Option.some.inj ho
          intro Az Lz vz wy Kz Ez hB k
          have z : Lz 9 = false := Ez.late 9 _ rfl (by kernel_rfl)
          have hb0 := hB.1 z
          have e11 : Az.eval (.tmp 11) = .int .i64 (j : Int) := Ez.dep 1 11 (by kernel_rfl) rfl
          exact wpo_val (v := .int .i64 (j : Int)) (run_bin rfl e11 (by simp [go_sem]) (by simp [go_sem, wj])) (k _ _ rfl (hB.add z 2 _ (by decide) (Below.refl _ _)))
        | 3, ho =>
          obtain rfl := Option.some.inj ho
          intro Az Lz vz wy Kz Ez hB k
          have z : Lz 9 = false := Ez.late 9 _ rfl (by kernel_rfl)
          have hb0 := hB.1 z
          have e2 : Az.eval (.tmp 2) = .pointer (some ⟨w.heap.size, 0, none⟩) := Ez.out 2 (by kernel_rfl)
          exact wpo_val (v := .pointer (some ⟨w.heap.size, 38, none⟩)) (run_field e2 (by simp [go_sem])) (k _ _ rfl (hB.add z 3 _ (by decide) (Below.refl _ _)))
        | 4, ho =>
          obtain rfl := Option.some.inj ho
          intro Az Lz vz wy Kz Ez hB k
          have z : Lz 9 = false := Ez.late 9 _ rfl (by kernel_rfl)
          have hb0 := hB.1 z
          have e13 : Az.eval (.tmp 13) = .pointer (some ⟨w.heap.size, 38, none⟩) := Ez.dep 3 13 (by kernel_rfl) rfl
          have e12 : Az.eval (.tmp 12) = .int .i64 (j : Int) := Ez.dep 2 12 (by kernel_rfl) rfl
          exact wpo_val (v := .pointer (some ⟨w.heap.size, 38 + j, none⟩)) (run_index e13 e12 (by simp [go_sem, jl10, Addr.add]; try omega)) (k _ _ rfl (hB.add z 4 _ (by decide) (Below.refl _ _)))
        | 5, ho =>
          obtain rfl := Option.some.inj ho
          intro Az Lz vz wy Kz Ez hB k
          have z : Lz 9 = false := Ez.late 9 _ rfl (by kernel_rfl)
          have hb0 := hB.1 z
          have e14 : Az.eval (.tmp 14) = .pointer (some ⟨w.heap.size, 38 + j, none⟩) := Ez.dep 4 14 (by kernel_rfl) rfl
          have cc : wy.cell? ⟨w.heap.size, 38 + j, none⟩ = some (.int .i64 bj) := (blk_cell (blk_later hW.out.s hb0) (k := 38 + j) (by omega)).trans (by rw [SJ.out])
          exact wpo_val (v := .int .i64 bj) (run_load e14 (by simp [go_sem, cc])) (k _ _ rfl (hB.add z 5 _ (by decide) (Below.refl _ _)))
        | 6, ho =>
          obtain rfl := Option.some.inj ho
          intro Az Lz vz wy Kz Ez hB k
          have z : Lz 9 = false := Ez.late 9 _ rfl (by kernel_rfl)
          have hb0 := hB.1 z
          have e3 : Az.eval (.tmp 3) = .pointer (some ⟨w.heap.size + 1, 0, none⟩) := Ez.out 3 (by kernel_rfl)
          obtain ⟨cc0, cc1⟩ := two_cells (blk_later hW.out.q hb0)
          exact wpo_val (v := .agg #[.int .i64 n, .int .i64 d]) (run_load e3 (by simp [go_sem, cc0, cc1])) (k _ _ rfl (hB.add z 6 _ (by decide) (Below.refl _ _)))
        | 7, ho =>
          obtain rfl := Option.some.inj ho
          intro Az Lz vz wy Kz Ez hB k
          have z : Lz 9 = false := Ez.late 9 _ rfl (by kernel_rfl)
          have hb0 := hB.1 z
          have e15 : Az.eval (.tmp 15) = .int .i64 bj := Ez.dep 5 15 (by kernel_rfl) rfl
          have e16 : Az.eval (.tmp 16) = .agg #[.int .i64 n, .int .i64 d] := Ez.dep 6 16 (by kernel_rfl) rfl
          refine wpo_call (run_callW (fun _ _ => by kernel_rfl)) (R := fun ez w' => ez = .returned (.int .i64 hjv) ∧ Below wy.heap.size wy w') ?_ ?_
          · simp only [List.map_toArray, List.map_cons, List.map_nil, eval_const, e15, e16]
            exact HC.out wy
          · rintro ez w' ⟨rfl, hb⟩
            exact ⟨_, rfl, k _ _ rfl (hB.add z 7 _ (by decide) hb)⟩
        | 8, ho =>
          obtain rfl := Option.some.inj ho
          intro Az Lz vz wy Kz Ez hB k
          have z : Lz 9 = false := Ez.late 9 _ rfl (by kernel_rfl)
          have hb0 := hB.1 z
          have e5 : Az.eval (.tmp 5) = .pointer (some ⟨w.heap.size + 1 + 1 + 1, 0, none⟩) := Ez.out 5 (by kernel_rfl)
          have e10 : Az.eval (.tmp 10) = .int .i64 (j : Int) := Ez.dep 0 10 (by kernel_rfl) rfl
          exact wpo_val (v := .pointer (some ⟨w.heap.size + 1 + 1 + 1, j, none⟩)) (run_index e5 e10 (by simp [go_sem, jl', Addr.add]; try omega)) (k _ _ rfl (hB.add z 8 _ (by decide) (Below.refl _ _)))
        | 9, ho =>
          obtain rfl := Option.some.inj ho
          intro Az Lz vz wy Kz Ez hB k
          have z : Lz 9 = false := Ez.not
          have hb0 := hB.1 z
          have e18 : Az.eval (.tmp 18) = .pointer (some ⟨w.heap.size + 1 + 1 + 1, j, none⟩) := Ez.dep 8 18 (by kernel_rfl) rfl
          have e17 : Az.eval (.tmp 17) = .int .i64 hjv := Ez.dep 7 17 (by kernel_rfl) rfl
          have cc : wy.cell? ⟨w.heap.size + 1 + 1 + 1, j, none⟩ = some _ := blk_cell (blk_later hW.out.l hb0) (k := j) (by omega)
          have ff : wy.frozen? ⟨w.heap.size + 1 + 1 + 1, j, none⟩ = false := blk_froz (blk_later hW.out.l hb0) j
          exact wpo_skip (w' := wy.setCell ⟨w.heap.size + 1 + 1 + 1, j, none⟩ (.int .i64 hjv)) (run_store e18 e17 (by simp [go_sem, cc, ff])) (k _ _ trivial ⟨(fun q => by simp [addL] at q), fun _ => ⟨wy, hb0, rfl⟩⟩)
        | n + 10, ho => simp at ho
      · obtain ⟨wy, hb0, rfl⟩ := hB.2 (hL 9 (by decide))
        have NX0 := (hW.out.later hb0).step
        rw [HJ.out] at NX0
        have NX := Lib.hid NX0
        clear hB hL HB0 hb0 NX0 hW
        simp only [puts2, mix, Act.put, List.setIfInBounds_toArray, List.set_cons_zero, List.set_cons_succ, Nat.zero_add, Nat.reduceAdd, List.getElem?_cons_zero, List.getElem?_cons_succ]
        go_wp2_with fail
        go_roundw
        case rel => exact ⟨j + 1, by go_num, by omega, NX⟩
        case measure => simp [intOf]; omega
end Go.Proofs.YtjemnjboopabpaaDoor
/- What law 11 asks of speaking. Made by gen/stysp2.py. -/
namespace Go.Proofs.YtjemnjboopabpaaDoor
open Go.RowKit Go.Proofs.Flo Go.Proofs.Reg Go.Proofs.Big Go.Proofs.Arr
set_option linter.unusedVariables false
set_option linter.unusedSimpArgs false
set_option maxRecDepth 100000
def Ys (i : Nat) : Nat := if i = 0 then 4591870180066957722 else Yd i
def Ls (i : Nat) : Bool := i == 0
def spkF : Nat → Value := rawF Xd Pd Ys Wd Ls 0
theorem xd_lt (i : Nat) (h : i < 19) : Xd i < 18446744073709551616 := by unfold Xd; split <;> (try split) <;> decide
theorem ys_lt (i : Nat) (h : i < 10) : Ys i < 18446744073709551616 := by unfold Ys Yd; split <;> (try split) <;> (try split) <;> decide
theorem spk_ok : cmpE Xd Pd Ys Wd = 0 := by decide +kernel
theorem spk_b0 : brd (cN Ys) Ls 0 = 6 ∧ brd (cN Ys) Ls 1 = 0 ∧ brd (cN Ys) Ls 2 = 0 ∧ brd (cN Ys) Ls 3 = 0 := by decide +kernel
theorem spk_k : dK Xd Pd 0 = 1 ∧ brd (cN Ys) Ls 9 = 1280 ∧ nanB (Ys 4) = true ∧ Wd 0 = 1 := by decide +kernel
theorem spk_cells : styF (dK Xd Pd) (dN Xd Pd) (brd (cN Ys) Ls) (nanB (Ys 4)) Wd 0 0 = .int .i64 1 ∧ styF (dK Xd Pd) (dN Xd Pd) (brd (cN Ys) Ls) (nanB (Ys 4)) Wd 0 47 = .int .i64 1280 ∧ styF (dK Xd Pd) (dN Xd Pd) (brd (cN Ys) Ls) (nanB (Ys 4)) Wd 0 48 = .bool true ∧ styF (dK Xd Pd) (dN Xd Pd) (brd (cN Ys) Ls) (nanB (Ys 4)) Wd 0 49 = .int .i64 1 := by
  obtain ⟨a, b, c, d⟩ := spk_k
  refine ⟨congrArg (Value.int .i64) a, congrArg (Value.int .i64) b, congrArg Value.bool c, congrArg (Value.int .i64) d⟩
theorem spk_hair (i : Nat) (h : i < 4) (w : World) : Calls Tryd.prog 19 #[.int .i64 (brd (cN Ys) Ls i), .agg #[.int .i64 1, .int .i64 1]] w fun e w' => e = .returned (.int .i64 (if i = 0 then 64 else 0)) ∧ Below w.heap.size w w' := by
  obtain ⟨b0, b1, b2, b3⟩ := spk_b0
  have : i = 0 ∨ i = 1 ∨ i = 2 ∨ i = 3 := by omega
  rcases this with rfl | rfl | rfl | rfl
  · rw [b0]; exact hair_in 6 1 1 (by decide) (by decide) (by decide) (by decide) (by decide) (by decide) (by decide) w
  · rw [b1]; exact hair_in 0 1 1 (by decide) (by decide) (by decide) (by decide) (by decide) (by decide) (by decide) w
  · rw [b2]; exact hair_in 0 1 1 (by decide) (by decide) (by decide) (by decide) (by decide) (by decide) (by decide) w
  · rw [b3]; exact hair_in 0 1 1 (by decide) (by decide) (by decide) (by decide) (by decide) (by decide) (by decide) w
theorem spk_eq : arr 65 (upF (upF dftF 38 (.float .f64 4591870180066957722)) 60 (.bool true)) = arr 65 spkF := by kernel_rfl
theorem store_one {w : World} {b k : Nat} {v old : Value} (hv : v.oneCell' = true) (c : w.cell? ⟨b, k, none⟩ = some old) (f : w.frozen? ⟨b, k, none⟩ = false) : (store ⟨b, k, none⟩ v .plain).run Tryd.prog w = .ok () (w.setCell ⟨b, k, none⟩ v) := by
  rw [Go.run_store _ _ _ _ _ hv]
  simp [stored, c, f]
theorem quad_eql (w : World) : (binOp BinOp.eql 101 (.agg #[.int .i64 64, .int .i64 0, .int .i64 0, .int .i64 0]) (.agg #[.int .i64 64, .int .i64 0, .int .i64 0, .int .i64 0])).run Tryd.prog w = .ok (.bool true) w :=
  ints_eql' (T := 101) (E := 2) (n := 4) (q := .i64) (by kernel_rfl) (by kernel_rfl) (by kernel_rfl) (by kernel_rfl) (fun k => if k = 0 then 64 else 0) w
def quadV (g : Nat) : List (Addr × Value) := [(⟨g, 0, none⟩, .int .i64 64), (⟨g, 1, none⟩, .int .i64 0), (⟨g, 2, none⟩, .int .i64 0), (⟨g, 3, none⟩, .int .i64 0)]
set_option maxHeartbeats 1000000 in
theorem spk_close {w : World} {b g : Nat} {S : Nat → Value} (hs : w.heap[b]? = some (.cells (arr 62 S) 36 (0, 0))) (hg : w.heap[g]? = some (.cells #[.int .i64 0, .int .i64 0, .int .i64 0, .int .i64 0] 101 (0, 0)))
    (hb : ∀ w, Calls Tryd.prog 30 #[.agg (arr 62 S), .agg #[.int .i64 1, .int .i64 1]] w fun e w' => e = .returned (.agg #[.int .i64 64, .int .i64 0, .int .i64 0, .int .i64 0]) ∧ Below w.heap.size w w') :
    Calls Tryd.prog 29 #[.pointer (some ⟨b, 0, none⟩), .pointer (some ⟨g, 0, none⟩)] w fun e w' => e = .returned (.tuple #[]) ∧ But [g] w w' ∧ Vars w' (quadV g) := by
  have BO := Lib.hid hb
  have HG := Lib.hid hg
  have E3 : (Tryd.prog.info? 36).map (·.size) = some (arr 62 S).size := size_of (by kernel_rfl) _
  have E4 : Tryd.prog.underlying 36 = some (.struct (Tryd.prog.fieldsOf 36)) := by kernel_rfl
  clear hb hg
  go_enter Tryd.func29, Tryd.ntmps29
  go_wp2_with (refine wpList_load_row rfl 36 (.tmp 0) rfl b rfl 36 (arr 62 S) (0, 0) _ hs E4 rfl E3 ?_)
  refine (BO.out _).mono ?_
  rintro _ w1 ⟨rfl, hb⟩
  have hg1 := blk_later HG.out hb
  have B1 := Lib.hid (But.of (bs := [g]) hb)
  have c0 : w1.cell? ⟨g, 0, none⟩ = some (.int .i64 0) := cell_of_row w1 g 0 _ _ _ hg1
  have c1 : w1.cell? ⟨g, 1, none⟩ = some (.int .i64 0) := cell_of_row w1 g 1 _ _ _ hg1
  have c2 : w1.cell? ⟨g, 2, none⟩ = some (.int .i64 0) := cell_of_row w1 g 2 _ _ _ hg1
  have c3 : w1.cell? ⟨g, 3, none⟩ = some (.int .i64 0) := cell_of_row w1 g 3 _ _ _ hg1
  have f0 := blk_froz hg1 0
  have f1 := blk_froz hg1 1
  have f2 := blk_froz hg1 2
  have f3 := blk_froz hg1 3
  have V0 := Lib.hid (show Var w1 ⟨g, 0, none⟩ (.int .i64 0) from ⟨c0, f0⟩)
  have V1 := Lib.hid (show Var w1 ⟨g, 1, none⟩ (.int .i64 0) from ⟨c1, f1⟩)
  have V2 := Lib.hid (show Var w1 ⟨g, 2, none⟩ (.int .i64 0) from ⟨c2, f2⟩)
  have V3 := Lib.hid (show Var w1 ⟨g, 3, none⟩ (.int .i64 0) from ⟨c3, f3⟩)
  clear hb hg1 E3 E4 hs
  go_wp2_with fail
  go_end0
  refine ⟨rfl, (((B1.out.setCell (.inl (by simp)) _).setCell (.inl (by simp)) _).setCell (.inl (by simp)) _).setCell (.inl (by simp)) _, fun x hx => ?_⟩
  unfold quadV at hx
  rcases List.mem_cons.1 hx with rfl | hx
  · exact (((V0.out.set _).other (by simp) _).other (by simp) _).other (by simp) _
  rcases List.mem_cons.1 hx with rfl | hx
  · exact (((V1.out.other (by simp) _).set _).other (by simp) _).other (by simp) _
  rcases List.mem_cons.1 hx with rfl | hx
  · exact (((V2.out.other (by simp) _).other (by simp) _).set _).other (by simp) _
  obtain rfl : x = _ := List.mem_singleton.1 hx
  exact (((V3.out.other (by simp) _).other (by simp) _).other (by simp) _).set _
/-- what the closure leaves -/
def QuadW (w : World) (g : Nat) : Prop := w.cell? ⟨g, 0, none⟩ = some (.int .i64 64) ∧ w.cell? ⟨g, 1, none⟩ = some (.int .i64 0) ∧ w.cell? ⟨g, 2, none⟩ = some (.int .i64 0) ∧ w.cell? ⟨g, 3, none⟩ = some (.int .i64 0)
theorem spk_try {w : World} {b g : Nat} {S : Nat → Value} (hs : w.heap[b]? = some (.cells (arr 62 S) 36 (0, 0))) (hg : w.heap[g]? = some (.cells #[.int .i64 0, .int .i64 0, .int .i64 0, .int .i64 0] 101 (0, 0)))
    (hb : ∀ w, Calls Tryd.prog 30 #[.agg (arr 62 S), .agg #[.int .i64 1, .int .i64 1]] w fun e w' => e = .returned (.agg #[.int .i64 64, .int .i64 0, .int .i64 0, .int .i64 0]) ∧ Below w.heap.size w w') :
    Calls Tryd.prog 17 #[.func (.func 29) #[] #[.pointer (some ⟨b, 0, none⟩), .pointer (some ⟨g, 0, none⟩)]] w fun e w' => e = .returned (.int .i64 0) ∧ But [g] w w' ∧ QuadW w' g := by
  refine (tryB_ret 29 _ [g] (quadV g) w (fun i hi => by rw [List.mem_singleton.1 hi]; exact blk_lt hg) (fun x hx => by
    have : x.1.block = g := by
      unfold quadV at hx
      rcases List.mem_cons.1 hx with rfl | hx
      · rfl
      rcases List.mem_cons.1 hx with rfl | hx
      · rfl
      rcases List.mem_cons.1 hx with rfl | hx
      · rfl
      obtain rfl : x = _ := List.mem_singleton.1 hx
      rfl
    rw [this]; exact blk_lt hg) (fun _ => by kernel_rfl) (spk_close (blk_later hs (bel_newR _ _)) (blk_later hg (bel_newR _ _)) hb)).mono ?_
  rintro e w' ⟨he, hb, hv⟩
  exact ⟨he, hb, (hv (⟨g, 0, none⟩, .int .i64 64) (by simp [quadV])).c, (hv (⟨g, 1, none⟩, .int .i64 0) (by simp [quadV])).c, (hv (⟨g, 2, none⟩, .int .i64 0) (by simp [quadV])).c, (hv (⟨g, 3, none⟩, .int .i64 0) (by simp [quadV])).c⟩
set_option maxHeartbeats 4000000 in
theorem speaks11_any (w : World) (hS : Sty w) : Calls Tryd.prog 9 #[] w fun e w' => e = .returned (.bool true) ∧ Below w.heap.size w w' := by
  have ST := Lib.hid hS
  have hmf : ∀ (fn : Fn) (first cap : Array Value) (w : World), (Instr.makeFunc fn first cap).run Tryd.prog w = .ok (.func fn first cap) w := fun _ _ _ _ => rfl
  obtain ⟨S, hSS⟩ : ∃ S, styF (dK Xd Pd) (dN Xd Pd) (brd (cN Ys) Ls) (nanB (Ys 4)) Wd 0 = S := ⟨_, rfl⟩
  have CM : Hid (∀ w, Sty w → Calls Tryd.prog 10 #[.agg (arr 65 spkF)] w fun e w' => e = .returned (.tuple #[.agg (arr 62 S), .int .i64 0]) ∧ Below w.heap.size w w') := Lib.hid (fun w h => by
    have := compute_any Xd Pd Ys Wd Ls 0 xd_lt ys_lt w h
    rw [cmpF, if_pos spk_ok, spk_ok, hSS] at this
    exact this)
  have SO : Hid (∀ k, (S k).oneCell' = true) := Lib.hid (fun k => by rw [← hSS]; exact one_sty _ _ _ _ _ _ k)
  have S0 : Hid (S 0 = .int .i64 1 ∧ S 47 = .int .i64 1280 ∧ S 48 = .bool true ∧ S 49 = .int .i64 1) := Lib.hid (by rw [← hSS]; exact spk_cells)
  have BO : Hid (∀ w, Calls Tryd.prog 30 #[.agg (arr 62 S), .agg #[.int .i64 1, .int .i64 1]] w fun e w' => e = .returned (.agg #[.int .i64 64, .int .i64 0, .int .i64 0, .int .i64 0]) ∧ Below w.heap.size w w') := Lib.hid (fun w => by
    have := borders_any (dK Xd Pd) (dN Xd Pd) (brd (cN Ys) Ls) (nanB (Ys 4)) Wd 0 1 1 (fun i => if i = 0 then 64 else 0) spk_hair w
    rw [hSS] at this
    exact this)
  clear hSS
  have DF := default_any
  have ON := arr_ones (n := 65) (f := dftF) fun k _ => one_raw _ _ _ _ _ _ k
  obtain ⟨D, hD⟩ : ∃ D, dftF = D := ⟨_, rfl⟩
  rw [hD] at DF ON
  have DF := Lib.hid DF
  have HD := Lib.hid hD
  clear hD
  clear hS
  go_enter Tryd.func9, Tryd.ntmps9
  go_wp2_with fail
  refine (DF.out _).mono ?_
  rintro _ w1 ⟨rfl, hb⟩
  have K1 := Lib.hid hb
  clear hb
  have E1 : (Tryd.zeroCells46).size = (arr 65 D).size := by rw [zero65, arr_size, arr_size]
  have E2 : (Tryd.prog.info? 46).map (·.size) = some (arr 65 D).size := size_of (by kernel_rfl) _
  go_wp2_with (refine wpList_store_row rfl 46 (.tmp 1) (.tmp 6) rfl w1.heap.size (arr 65 D) rfl rfl 46 Tryd.zeroCells46 (heap_alloc_new _ _) E2 E1 ON ?_)
  obtain ⟨w2, hw2⟩ : ∃ x, (w1.alloc (.cells Tryd.zeroCells46 46)).setRow w1.heap.size (arr 65 D) = x := ⟨_, rfl⟩
  have H0 : w2.heap[w1.heap.size]? = some (.cells (arr 65 D) 46 (0, 0)) := by rw [← hw2]; exact row_got _ _ _ _
  have K2 : Hid (Below w.heap.size w w2) := Lib.hid (by rw [← hw2]; exact bel_tr0 K1.out (row_new _ _ _))
  rw [hw2]
  clear hw2 E1 E2 ON
  have S1 := store_one (v := .float .f64 4591870180066957722) rfl (blk_cell H0 (k := 38) (by decide)) (blk_froz H0 38)
  obtain ⟨w3, hw3⟩ : ∃ x, w2.setCell ⟨w1.heap.size, 38, none⟩ (.float .f64 4591870180066957722) = x := ⟨_, rfl⟩
  have H1 : w3.heap[w1.heap.size]? = some (.cells (arr 65 (upF D 38 (.float .f64 4591870180066957722))) 46 (0, 0)) := by rw [← hw3]; exact blk_set H0 38 _
  have K3 : Hid (Below w.heap.size w w3) := Lib.hid (by rw [← hw3]; exact K2.out.setCell (by have := K1.out.size; simpa using this) _)
  rw [hw3] at S1
  clear hw3
  rw [S1]
  have c60 := blk_cell H1 (k := 60) (by decide)
  have f60 := blk_froz H1 60
  have H2 : (w3.setCell ⟨w1.heap.size, 60, none⟩ (.bool true)).heap[w1.heap.size]? = some (.cells (arr 65 spkF) 46 (0, 0)) := by
    have := blk_set H1 60 (.bool true)
    rwa [← HD.out, spk_eq] at this
  have K4 : Hid (Below w.heap.size w (w3.setCell ⟨w1.heap.size, 60, none⟩ (.bool true))) := Lib.hid (K3.out.setCell (by have := K1.out.size; simpa using this) _)
  clear H0 H1 K2 K3 HD S1
  have E3 : (Tryd.prog.info? 46).map (·.size) = some (arr 65 spkF).size := size_of (by kernel_rfl) _
  have E4 : Tryd.prog.underlying 46 = some (.struct (Tryd.prog.fieldsOf 46)) := by kernel_rfl
  go_wp2_with (refine wpList_load_row rfl 46 (.tmp 1) rfl w1.heap.size rfl 46 (arr 65 spkF) (0, 0) _ H2 E4 rfl E3 ?_)
  clear E3 E4 H2 c60 f60
  refine (CM.out _ (ST.out.later K4.out)).mono ?_
  rintro _ w5 ⟨rfl, hb⟩
  have K5 := Lib.hid (bel_tr0 K4.out hb)
  clear hb K4 ST CM
  have E5 : (Tryd.prog.info? 36).map (·.size) = some (arr 62 S).size := size_of (by kernel_rfl) _
  have ON5 : (arr 62 S).all (·.oneCell') = true := arr_ones fun k _ => SO.out k
  go_wp2_with (refine wpList_store_row rfl 36 (.tmp 2) (.tmp 14) rfl w5.heap.size (arr 62 S) rfl rfl 36 _ (heap_alloc_new _ _) E5 rfl ON5 ?_)
  obtain ⟨w6, hw6⟩ : ∃ x, (w5.alloc (.cells #[.int .i64 0, .int .i64 0, .int .i64 0, .int .i64 0, .int .i64 0, .int .i64 0, .int .i64 0, .int .i64 0, .int .i64 0, .int .i64 0, .int .i64 0, .int .i64 0, .int .i64 0, .int .i64 0, .int .i64 0, .int .i64 0, .int .i64 0, .int .i64 0, .int .i64 0, .int .i64 0, .int .i64 0, .int .i64 0, .int .i64 0, .int .i64 0, .int .i64 0, .int .i64 0, .int .i64 0, .int .i64 0, .int .i64 0, .int .i64 0, .int .i64 0, .int .i64 0, .int .i64 0, .int .i64 0, .int .i64 0, .int .i64 0, .int .i64 0, .int .i64 0, .int .i64 0, .int .i64 0, .int .i64 0, .int .i64 0, .int .i64 0, .int .i64 0, .int .i64 0, .int .i64 0, .int .i64 0, .int .i64 0, .bool false, .int .i64 0, .int .i64 0, .int .i64 0, .int .i64 0, .int .i64 0, .int .i64 0, .int .i64 0, .int .i64 0, .int .i64 0, .int .i64 0, .int .i64 0, .int .i64 0, .int .u8 0] 36)).setRow w5.heap.size (arr 62 S) = x := ⟨_, rfl⟩
  have H6 : w6.heap[w5.heap.size]? = some (.cells (arr 62 S) 36 (0, 0)) := by rw [← hw6]; exact row_got _ _ _ _
  have K6 : Hid (Below w.heap.size w w6) := Lib.hid (by rw [← hw6]; exact bel_tr0 K5.out (row_new _ _ _))
  have z6 : w6.heap.size = w5.heap.size + 1 := by rw [← hw6]; simp
  try rw [hw6]
  clear hw6 E5 ON5
  have H7 : (w6.alloc (.cells #[.int .i64 0, .int .i64 0, .int .i64 0, .int .i64 0] 101)).heap[w5.heap.size]? = some (.cells (arr 62 S) 36 (0, 0)) := blk_later H6 (bel_newR _ _)
  have H8 : (w6.alloc (.cells #[.int .i64 0, .int .i64 0, .int .i64 0, .int .i64 0] 101)).heap[w5.heap.size + 1]? = some (.cells #[.int .i64 0, .int .i64 0, .int .i64 0, .int .i64 0] 101 (0, 0)) := blk_new _ _ z6.symm
  have K7 : Hid (Below w.heap.size w (w6.alloc (.cells #[.int .i64 0, .int .i64 0, .int .i64 0, .int .i64 0] 101))) := Lib.hid (bel_tr0 K6.out (bel_newR _ _))
  have h5 := K5.out.size
  refine (spk_try H7 H8 BO.out).mono ?_
  rintro _ w8 ⟨rfl, hbut, hv⟩
  have H9 : w8.heap[w5.heap.size]? = some (.cells (arr 62 S) 36 (0, 0)) := (hbut.block _ (blk_lt H7) (by simp)).trans H7
  have K8 : Hid (Below w.heap.size w w8) := Lib.hid (But.below K7.out hbut K7.out.size (fun i hi => by simp at hi; omega))
  obtain ⟨v0, v1, v2, v3⟩ := hv
  obtain ⟨s0, s1, s2, s3⟩ := S0.out
  have c0 := blk_cell H9 (k := 0) (by decide)
  have c47 := blk_cell H9 (k := 47) (by decide)
  have c48 := blk_cell H9 (k := 48) (by decide)
  have c49 := blk_cell H9 (k := 49) (by decide)
  rw [s0] at c0
  rw [s1] at c47
  rw [s2] at c48
  rw [s3] at c49
  have EQ := quad_eql
  clear hbut H7 H8 H9 H6 s0 s1 s2 s3 S0 BO SO K5 K6 K7
  go_wp2_with fail
  go_returns
  exact ⟨rfl, K8.out⟩
end Go.Proofs.YtjemnjboopabpaaDoor
/- The walks of StyleBorders and StyleHairlines. -/
namespace Go.Proofs.YtjemnjboopabpaaDoor
open Go.RowKit Go.Proofs.Flo Go.Proofs.Reg Go.Proofs.Big Go.Proofs.Arr
set_option linter.unusedVariables false
set_option linter.unusedSimpArgs false
set_option maxRecDepth 100000
/-- what the closure reads -/
structure B3 (w : World) (b : Nat) (n p q : Int) : Prop where
  c0 : w.cell? ⟨b, 0, none⟩ = some (.int .i64 n)
  c1 : w.cell? ⟨b + 1, 0, none⟩ = some (.int .i64 p)
  c2 : w.cell? ⟨b + 1 + 1, 0, none⟩ = some (.int .i64 q)
theorem B3.later {w w' : World} {b : Nat} {n p q : Int} (h : B3 w b n p q) (k : Below w.heap.size w w') : B3 w' b n p q := ⟨cell_later k h.c0, cell_later k h.c1, cell_later k h.c2⟩
theorem B3.but {w w' : World} {b g : Nat} {n p q : Int} (h : B3 w b n p q) (k : But [g] w w') (hg : b + 1 + 1 < g) : B3 w' b n p q :=
  ⟨k.cell (by simp; omega) h.c0, k.cell (by simp; omega) h.c1, k.cell (by simp; omega) h.c2⟩
def one11 (g : Nat) (v : Int) : List (Addr × Value) := [(⟨g, 0, none⟩, .int .i64 v)]
theorem one11_of {w : World} {g : Nat} {v : Int} (h : Var w ⟨g, 0, none⟩ (.int .i64 v)) : Vars w (one11 g v) := fun x hx => by
  obtain rfl : x = _ := List.mem_singleton.1 hx
  exact h
theorem bor1_ret (b g : Nat) (n p q v : Int) (w : World) (hB : B3 w b n p q) (v1 : Var w ⟨g, 0, none⟩ (.int .i64 0))
    (hF : ∀ w, Calls Tryd.prog 19 #[.int .i64 n, .agg #[.int .i64 p, .int .i64 q]] w fun e w' => e = .returned (.int .i64 v) ∧ Below w.heap.size w w') :
    Calls Tryd.prog 18 #[.pointer (some ⟨b, 0, none⟩), .pointer (some ⟨b + 1, 0, none⟩), .pointer (some ⟨b + 1 + 1, 0, none⟩), .pointer (some ⟨g, 0, none⟩)] w fun e w' => e = .returned (.tuple #[]) ∧ But [g] w w' ∧ Vars w' (one11 g v) := by
  have HF := Lib.hid hF
  have V1 := Lib.hid v1
  obtain ⟨c0, c1, c2⟩ := hB
  clear hF v1
  go_enter Tryd.func18, Tryd.ntmps18
  go_wp2_with fail
  refine (HF.out _).mono ?_
  rintro e w1 ⟨rfl, hb⟩
  have W1 := Lib.hid (V1.out.later hb)
  have BB := Lib.hid (But.of (bs := [g]) hb)
  obtain ⟨e0, z0⟩ := W1.out
  clear hb c0 c1 c2 V1
  go_wp2_with fail
  go_end0
  exact ⟨rfl, BB.out.setCell (.inl (by simp)) _, one11_of (W1.out.set _)⟩
theorem bor1_gave (b g : Nat) (n p q er : Int) (w : World) (hB : B3 w b n p q) (v1 : Var w ⟨g, 0, none⟩ (.int .i64 0))
    (hF : ∀ w, Calls Tryd.prog 19 #[.int .i64 n, .agg #[.int .i64 p, .int .i64 q]] w fun e w' => e = .panicked (gave er) ∧ Below w.heap.size w w') :
    Calls Tryd.prog 18 #[.pointer (some ⟨b, 0, none⟩), .pointer (some ⟨b + 1, 0, none⟩), .pointer (some ⟨b + 1 + 1, 0, none⟩), .pointer (some ⟨g, 0, none⟩)] w fun e w' => e = .panicked (gave er) ∧ But [g] w w' ∧ Vars w' (one11 g 0) := by
  have HF := Lib.hid hF
  have V1 := Lib.hid v1
  obtain ⟨c0, c1, c2⟩ := hB
  clear hF v1
  go_enter Tryd.func18, Tryd.ntmps18
  go_wp2_with fail
  refine (HF.out _).mono ?_
  rintro e w1 ⟨rfl, hb⟩
  exact ⟨rfl, rfl, But.of (bs := [g]) hb, one11_of (V1.out.later hb)⟩
theorem bor1_any (b g : Nat) (n p q v er : Int) (w : World) (hB : B3 w b n p q) (v1 : Var w ⟨g, 0, none⟩ (.int .i64 0)) (h : HairS n p q v er) :
    Calls Tryd.prog 17 #[.func (.func 18) #[] #[.pointer (some ⟨b, 0, none⟩), .pointer (some ⟨b + 1, 0, none⟩), .pointer (some ⟨b + 1 + 1, 0, none⟩), .pointer (some ⟨g, 0, none⟩)]] w fun e w' => e = .returned (.int .i64 er) ∧ But [g] w w' ∧ Vars w' (one11 g v) := by
  have ba : Below w.heap.size w (w.alloc (.cells #[.int .i64 0] 37)) := (Below.refl _ _).alloc (Nat.le_refl _) _
  have l1 := v1.lt
  have hbs : ∀ i ∈ [g], i < w.heap.size := fun i hi => by obtain rfl := List.mem_singleton.1 hi; exact l1
  have hvs : ∀ (v : Int), ∀ x ∈ one11 g v, x.1.block < w.heap.size := fun v x hx => by
    obtain rfl : x = _ := List.mem_singleton.1 hx
    exact l1
  by_cases z : er = 0
  · subst z
    refine tryB_ret 18 _ [g] (one11 g v) w hbs (hvs v) (fun _ => by kernel_rfl) ?_
    refine bor1_ret b g n p q v _ (hB.later ba) (v1.later ba) fun w => (h.prog w).mono ?_
    rintro e w' ⟨he, hb⟩
    rcases he with ⟨_, he⟩ | ⟨hn, _⟩
    · exact ⟨he, hb⟩
    · exact absurd rfl hn
  · have hv := h.zero z
    subst hv
    refine tryB_gave 18 _ er [g] (one11 g 0) w hbs (hvs 0) (fun _ => by kernel_rfl) ?_
    refine bor1_gave b g n p q er _ (hB.later ba) (v1.later ba) fun w => (h.prog w).mono ?_
    rintro e w' ⟨he, hb⟩
    rcases he with ⟨hz, _⟩ | ⟨_, _, he⟩
    · exact absurd hz z
    · exact ⟨he, hb⟩
set_option maxHeartbeats 2000000 in
theorem law_borders (n p q : Int) (kn : -9223372036854775808 ≤ n ∧ n ≤ 9223372036854775807) (kp : -9223372036854775808 ≤ p ∧ p ≤ 9223372036854775807) (kq : -9223372036854775808 ≤ q ∧ q ≤ 9223372036854775807) (w : World) (hS : Sty w) :
    Calls Tryd.prog 5 #[.int .i64 n, .int .i64 p, .int .i64 q] w fun e w' => e = .returned (.bool true) ∧ Below w.heap.size w w' := by
  have hmf : ∀ (fn : Fn) (first cap : Array Value) (w : World), (Instr.makeFunc fn first cap).run Tryd.prog w = .ok (.func fn first cap) w := fun _ _ _ _ => rfl
  have HS := Lib.hid (fun w h => speaks11_any w h)
  obtain ⟨v, er, hI⟩ := hair_ex n p q kn.1 kn.2 kp.1 kp.2 kq.1 kq.2
  have HR := Lib.hid hI.ref
  have HI := Lib.hid hI
  have HD := Lib.hid hS
  clear hS hI kn kp kq
  go_enter Tryd.func5, Tryd.ntmps5
  go_wp2_with fail
  refine (HS.out _ (HD.out.later (by go_grown))).mono ?_
  rintro e w1 ⟨rfl, hb⟩
  have KB := Lib.hid (show Below w.heap.size w w1 from bel_tr0 (by go_grown) hb)
  have pb0 : B3 (((w.alloc (.cells #[.int .i64 n] 2)).alloc (.cells #[.int .i64 p] 2)).alloc (.cells #[.int .i64 q] 2)) w.heap.size n p q := ⟨by simp [go_sem], by simp [go_sem], by simp [go_sem]⟩
  have PB := Lib.hid (pb0.later hb)
  have hs := KB.out.size
  have l3 : w.heap.size + 1 + 1 < w1.heap.size := by have := hb.size; simp at this; omega
  clear hb pb0
  go_wp2_with fail
  have ba : Below w1.heap.size w1 (w1.alloc (.cells #[.int .i64 0] 2)) := bel_newR _ _
  have vv1 : Var (w1.alloc (.cells #[.int .i64 0] 2)) ⟨w1.heap.size, 0, none⟩ (.int .i64 0) := Var.new w1 _ _
  refine (bor1_any w.heap.size w1.heap.size n p q v er _ (PB.out.later ba) vv1 HI.out).mono ?_
  rintro e w2 ⟨rfl, hbut, hv⟩
  have P2 := Lib.hid ((PB.out.later ba).but hbut l3)
  have K2 : Hid (Below w.heap.size w w2) := Lib.hid (But.below (bel_tr0 KB.out ba) hbut (by simp; omega) (fun i hi => by simp at hi; omega))
  have V1 := Lib.hid (hv (⟨w1.heap.size, 0, none⟩, .int .i64 v) (by simp [one11]))
  clear hbut hv vv1 PB ba
  obtain ⟨c0, c1, c2⟩ := P2.out
  go_wp2_with fail
  refine (HR.out _).mono ?_
  rintro e w3 ⟨rfl, hb⟩
  have K3 := Lib.hid (bel_tr0 K2.out hb)
  obtain ⟨e0, _⟩ := V1.out.later hb
  clear hb c0 c1 c2
  go_wp2_with fail
  go_returns
  exact ⟨rfl, K3.out⟩
end Go.Proofs.YtjemnjboopabpaaDoor
