/- The walk of StyleHairlines. -/
import Derived.Test.YtjemnjboopabpaaDoorStyN
import Derived.Deep.QuietTactic
import Derived.BigQuiet
import Derived.RegionTactic
import Derived.BigRegion
import Derived.WalkKit
import Derived.WalkSpells
import Derived.WalkLawsBesides
import Derived.Handy
import Derived.Lib.Hide
import Derived.Outline
import Derived.IntWalk
namespace Go.Proofs.YtjemnjboopabpaaDoor
open Go.RowKit Go.Proofs.Flo Go.Proofs.Reg Go.Proofs.Big Go.Proofs.Arr
set_option linter.unusedVariables false
set_option linter.unusedSimpArgs false
set_option maxRecDepth 100000
/-- the ratio of the law -/
theorem ratio_of11 (s t : Int) (s0 : 1 ≤ s) (s1 : s ≤ 4096) (t0 : 1 ≤ t) (t1 : t ≤ 4096) : ∃ g N D, s = N * g ∧ t = D * g ∧ 1 ≤ g ∧ 1 ≤ N ∧ N ≤ 4096 ∧ 1 ≤ D ∧ D ≤ 4096 ∧ goodB N D = true ∧ ∀ w : World, Calls Tryd.prog 21 #[.int .i64 s, .int .i64 t] w fun e w' => e = .returned (.tuple #[.agg #[.int .i64 N, .int .i64 D], .int .i64 0]) ∧ Below w.heap.size w w' := by
  obtain ⟨g, N, D, L⟩ := lowest_ex s t (by omega) (by omega) (by omega) (by omega) (by omega)
  have D0 := L.Dpos
  have g0 := L.gpos
  obtain ⟨q1, q2⟩ := L.quo
  have eN := L.eN
  have eD := L.eD
  rw [if_neg (show ¬ t < 0 by omega)] at eN q2 eD
  rw [if_neg (show ¬ s < 0 by omega)] at q1
  have D1 : D ≤ 4096 := by have := Int.ediv_le_self g (show 0 ≤ t by omega); omega
  have Nn : (if N < 0 then -N else N) ≤ 4096 := by have := Int.ediv_le_self g (show 0 ≤ s by omega); omega
  have N0 : 1 ≤ N := by
    by_cases h : 1 ≤ N
    · exact h
    · have : N * g ≤ 0 * g := Int.mul_le_mul_of_nonneg_right (by omega) (by omega)
      omega
  have N1 : N ≤ 4096 := by rw [if_neg (show ¬ N < 0 by omega)] at Nn; exact Nn
  exact ⟨g, N, D, eN.symm, eD.symm, by omega, N0, N1, D0, D1, L.good, fun w => of_any' L 0 N D (.inl ⟨by omega, by omega, rfl, rfl, rfl⟩) w⟩
/-- what the law asks of a border -/
theorem hair_law {x n d g N D : Int} (x0 : 0 ≤ x) (hn : n = N * g) (hd : d = D * g) (g0 : 1 ≤ g) (D0 : 1 ≤ D) :
    hairV x (x * N / D) % 64 = 0 ∧ (0 < x → 0 < hairV x (x * N / D)) ∧ (x = 0 → hairV x (x * N / D) = 0) ∧ (0 < x → (hairV x (x * N / D) = 64 ∧ x * n < 128 * d) ∨ (hairV x (x * N / D) * d ≤ x * n ∧ x * n < (hairV x (x * N / D) + 64) * d)) := by
  obtain ⟨s, hs⟩ : ∃ s, x * N / D = s := ⟨_, rfl⟩
  have e1 : x * N = D * s + x * N % D := by rw [← hs]; exact (Int.mul_ediv_add_emod (x * N) D).symm
  have r0 : 0 ≤ x * N % D := Int.emod_nonneg _ (by omega)
  have r1 : x * N % D < D := Int.emod_lt_of_pos _ (by omega)
  obtain ⟨r, hr⟩ : ∃ r, x * N % D = r := ⟨_, rfl⟩
  rw [hr] at e1 r0 r1
  have xn : x * n = D * s * g + r * g := by rw [hn, ← Int.mul_assoc, e1, Int.add_mul]
  have rg0 : 0 ≤ r * g := Int.mul_nonneg r0 (by omega)
  have rg1 : r * g < D * g := Int.mul_lt_mul_of_pos_right r1 (by omega)
  have dpos : 0 < D * g := Int.mul_pos (by omega) (by omega)
  have es : D * s * g = s * d := by rw [hd]; grind
  rw [es] at xn
  rw [hs]
  unfold hairV
  by_cases z : x = 0
  · rw [if_pos z]
    exact ⟨rfl, fun h => by omega, fun _ => rfl, fun h => by omega⟩
  · rw [if_neg z]
    obtain ⟨m, hm⟩ : ∃ m, max (s / 64) 1 = m := ⟨_, rfl⟩
    have m1 : 1 ≤ m := by omega
    rw [hm]
    refine ⟨by omega, fun _ => by omega, fun h => absurd h z, fun _ => ?_⟩
    by_cases c : s < 64
    · left
      have : m = 1 := by omega
      subst this
      refine ⟨rfl, ?_⟩
      have : s * d ≤ 63 * d := Int.mul_le_mul_of_nonneg_right (by omega) (by omega)
      omega
    · right
      have k0 : m * 64 ≤ s := by omega
      have k1 : s + 1 ≤ m * 64 + 64 := by omega
      have a0 : m * 64 * d ≤ s * d := Int.mul_le_mul_of_nonneg_right k0 (by omega)
      have a1 : (s + 1) * d ≤ (m * 64 + 64) * d := Int.mul_le_mul_of_nonneg_right k1 (by omega)
      rw [Int.add_mul] at a1
      omega
theorem hair_mono {x y N D : Int} (x0 : 0 ≤ x) (h : x ≤ y) (N0 : 1 ≤ N) (D0 : 1 ≤ D) : hairV x (x * N / D) ≤ hairV y (y * N / D) := by
  have k : x * N / D ≤ y * N / D := Int.ediv_le_ediv (by omega) (Int.mul_le_mul_of_nonneg_right h (by omega))
  obtain ⟨s, hs⟩ : ∃ s, x * N / D = s := ⟨_, rfl⟩
  obtain ⟨t, ht⟩ : ∃ s, y * N / D = s := ⟨_, rfl⟩
  rw [hs, ht] at k
  rw [hs, ht]
  unfold hairV
  by_cases z : x = 0
  · rw [if_pos z]
    split
    · exact Int.le_refl _
    · omega
  · rw [if_neg z, if_neg (by omega)]
    omega
/- THE WALK, by gen/sty2.py -/
/-- two stores at an end -/
structure H2 (wa : World) (kf s1 s2 : Nat) (S1 S2 : World → World) (L : Nat → Bool) (vz : Nat → Value) (wy : World) : Prop where
  c1 : L kf = false → L s1 = false
  c2 : L s1 = false → L s2 = false
  A : L s1 = false → Below wa.heap.size wa wy
  B : L s1 = true → L s2 = false → ∃ wy0, Below wa.heap.size wa wy0 ∧ wy = S1 wy0
  C : L s2 = true → ∃ wy0, Below wa.heap.size wa wy0 ∧ wy = S2 (S1 wy0)
theorem H2.start (wa : World) (kf s1 s2 : Nat) (S1 S2 : World → World) : H2 wa kf s1 s2 S1 S2 (fun _ => false) (fun _ => undef) wa.drew :=
  ⟨fun _ => rfl, fun _ => rfl, fun _ => (Below.refl _ _).drew, (fun q => by cases q), (fun q => by cases q)⟩
theorem H2.add {wa : World} {kf s1 s2 : Nat} {S1 S2 : World → World} {L : Nat → Bool} {vz : Nat → Value} {wy w' : World} (h : H2 wa kf s1 s2 S1 S2 L vz wy) (z : L s1 = false) (ii : Nat) (v : Value) (i1 : ii ≠ s1) (i2 : ii ≠ s2) (hb : Below wy.heap.size wy w') : H2 wa kf s1 s2 S1 S2 (addL L ii) (upd vz ii v) w' := by
  have z2 := h.c2 z
  have e1 : addL L ii s1 = L s1 := by simp [addL, Ne.symm i1]
  have e2 : addL L ii s2 = L s2 := by simp [addL, Ne.symm i2]
  exact ⟨fun _ => by rw [e1]; exact z, fun _ => by rw [e2]; exact z2, fun _ => bel_tr0 (h.A z) hb, (fun q => by rw [e1, z] at q; cases q), (fun q => by rw [e2, z2] at q; cases q)⟩
theorem H2.put1 {wa : World} {kf s1 s2 : Nat} {S1 S2 : World → World} {L : Nat → Bool} {vz : Nat → Value} {wy : World} (h : H2 wa kf s1 s2 S1 S2 L vz wy) (z : L s1 = false) (kt : L kf = true) (v : Value) (hk : kf ≠ s1) (hs : s1 ≠ s2) : H2 wa kf s1 s2 S1 S2 (addL L s1) (upd vz s1 v) (S1 wy) := by
  have z2 := h.c2 z
  have e0 : addL L s1 kf = L kf := by simp [addL, hk]
  have e1 : addL L s1 s1 = true := by simp [addL]
  have e2 : addL L s1 s2 = L s2 := by simp [addL, Ne.symm hs]
  exact ⟨(fun q => by rw [e0, kt] at q; cases q), (fun q => by rw [e1] at q; cases q), (fun q => by rw [e1] at q; cases q), fun _ _ => ⟨wy, h.A z, rfl⟩, (fun q => by rw [e2, z2] at q; cases q)⟩
theorem H2.put2 {wa : World} {kf s1 s2 : Nat} {S1 S2 : World → World} {L : Nat → Bool} {vz : Nat → Value} {wy : World} (h : H2 wa kf s1 s2 S1 S2 L vz wy) (z : L s2 = false) (kt : L kf = true) (st : L s1 = true) (v : Value) (hk : kf ≠ s2) (hs : s1 ≠ s2) : H2 wa kf s1 s2 S1 S2 (addL L s2) (upd vz s2 v) (S2 wy) := by
  obtain ⟨w0, b0, rfl⟩ := h.B st z
  have e0 : addL L s2 kf = L kf := by simp [addL, hk]
  have e1 : addL L s2 s1 = L s1 := by simp [addL, hs]
  have e2 : addL L s2 s2 = true := by simp [addL]
  exact ⟨(fun q => by rw [e0, kt] at q; cases q), (fun q => by rw [e1, st] at q; cases q), (fun q => by rw [e1, st] at q; cases q), (fun _ q => by rw [e2] at q; cases q), fun _ => ⟨w0, b0, rfl⟩⟩
/-- what the closure of StyleHairlines reads and writes: the two widths and the ratio ahead of the two results -/
structure Hc (w : World) (bx by' br g : Nat) (x y N D p q : Int) : Prop where
  lx : bx < g
  ly : by' < g
  lr : br < g
  cx : w.cell? ⟨bx, 0, none⟩ = some (.int .i64 x)
  cy : w.cell? ⟨by', 0, none⟩ = some (.int .i64 y)
  r0 : w.cell? ⟨br, 0, none⟩ = some (.int .i64 N)
  r1 : w.cell? ⟨br, 1, none⟩ = some (.int .i64 D)
  vp : Var w ⟨g, 0, none⟩ (.int .i64 p)
  vq : Var w ⟨g + 1, 0, none⟩ (.int .i64 q)
theorem Hc.later {w w' : World} {bx by' br g : Nat} {x y N D p q : Int} (h : Hc w bx by' br g x y N D p q) (k : Below w.heap.size w w') : Hc w' bx by' br g x y N D p q :=
  ⟨h.lx, h.ly, h.lr, cell_later k h.cx, cell_later k h.cy, cell_later k h.r0, cell_later k h.r1, h.vp.later k, h.vq.later k⟩
theorem Hc.but {w w' : World} {bx by' br g : Nat} {x y N D p q p' q' : Int} (h : Hc w bx by' br g x y N D p q) (k : But [g, g + 1] w w') (hp : Var w' ⟨g, 0, none⟩ (.int .i64 p')) (hq : Var w' ⟨g + 1, 0, none⟩ (.int .i64 q')) : Hc w' bx by' br g x y N D p' q' := by
  obtain ⟨lx, ly, lr, cx, cy, r0, r1, _, _⟩ := h
  exact ⟨lx, ly, lr, k.cell (by simp; omega) cx, k.cell (by simp; omega) cy, k.cell (by simp; omega) r0, k.cell (by simp; omega) r1, hp, hq⟩
def two11 (g : Nat) (p q : Int) : List (Addr × Value) := [(⟨g, 0, none⟩, .int .i64 p), (⟨g + 1, 0, none⟩, .int .i64 q)]
set_option maxHeartbeats 2000000 in
theorem hlc_ret (bx by' br g : Nat) (x y N D p q : Int) (w : World) (h : Hc w bx by' br g x y N D 0 0)
    (h1 : ∀ w, Calls Tryd.prog 19 #[.int .i64 x, .agg #[.int .i64 N, .int .i64 D]] w fun e w' => e = .returned (.int .i64 p) ∧ Below w.heap.size w w')
    (h2 : ∀ w, Calls Tryd.prog 19 #[.int .i64 y, .agg #[.int .i64 N, .int .i64 D]] w fun e w' => e = .returned (.int .i64 q) ∧ Below w.heap.size w w') :
    Calls Tryd.prog 22 #[.pointer (some ⟨bx, 0, none⟩), .pointer (some ⟨br, 0, none⟩), .pointer (some ⟨by', 0, none⟩), .pointer (some ⟨g, 0, none⟩), .pointer (some ⟨g + 1, 0, none⟩)] w fun e w' => e = .returned (.tuple #[]) ∧ But [g, g + 1] w w' ∧ Vars w' (two11 g p q) := by
  have H1 := Lib.hid h1
  have HY := Lib.hid h2
  have HC := Lib.hid h
  clear h h1 h2
  go_enter Tryd.func22, Tryd.ntmps22
  go_wp2_with fail
  refine wp_region_vals [some (.int .i64 x), some (.agg #[.int .i64 N, .int .i64 D]), some (.int .i64 p), some (.int .i64 y), some (.agg #[.int .i64 N, .int .i64 D]), some (.int .i64 q), none, none] (H2 w 5 6 7 (fun x => x.setCell ⟨g, 0, none⟩ (.int .i64 p)) (fun x => x.setCell ⟨g + 1, 0, none⟩ (.int .i64 q)))
    [some 5, some 6, some 7, some 8, some 9, some 10, none, none] (by kernel_rfl) (by kernel_rfl) (by kernel_rfl) (by kernel_rfl) (by kernel_rfl) (by kernel_rfl) (H2.start _ _ _ _ _ _) (fun i o ho => ?_) (fun Lz vz wz hL hB => ?_)
  · match i, ho with
    | 0, ho =>
      obtain rfl := Option.some.inj ho
      intro Az Lz vz wy Kz Ez hB k
      have z : Lz 6 = false := Ez.late 6 _ rfl (by kernel_rfl)
      have hb0 := hB.A z
      have HX := HC.out.later hb0
      have e0 : Az.eval (.tmp 0) = .pointer (some ⟨bx, 0, none⟩) := Ez.out 0 (by kernel_rfl)
      exact wpo_val (v := .int .i64 x) (run_load e0 (by have hh := HX.cx; simp [go_sem, hh])) (k _ _ rfl (hB.add z 0 _ (by decide) (by decide) (Below.refl _ _)))
    | 1, ho =>
      obtain rfl := Option.some.inj ho
      intro Az Lz vz wy Kz Ez hB k
      have z : Lz 6 = false := Ez.late 6 _ rfl (by kernel_rfl)
      have hb0 := hB.A z
      have HX := HC.out.later hb0
      have e1 : Az.eval (.tmp 1) = .pointer (some ⟨br, 0, none⟩) := Ez.out 1 (by kernel_rfl)
      exact wpo_val (v := .agg #[.int .i64 N, .int .i64 D]) (run_load e1 (by have h0 := HX.r0; have h1 := HX.r1; simp [go_sem, h0, h1])) (k _ _ rfl (hB.add z 1 _ (by decide) (by decide) (Below.refl _ _)))
    | 2, ho =>
      obtain rfl := Option.some.inj ho
      intro Az Lz vz wy Kz Ez hB k
      have z : Lz 6 = false := Ez.late 6 _ rfl (by kernel_rfl)
      have hb0 := hB.A z
      have HX := HC.out.later hb0
      have e5 : Az.eval (.tmp 5) = .int .i64 x := Ez.dep 0 5 (by kernel_rfl) rfl
      have e6 : Az.eval (.tmp 6) = .agg #[.int .i64 N, .int .i64 D] := Ez.dep 1 6 (by kernel_rfl) rfl
      refine wpo_call (run_callW (fun _ _ => by kernel_rfl)) (R := fun ez w' => ez = .returned (.int .i64 p) ∧ Below wy.heap.size wy w') ?_ ?_
      · simp only [List.map_toArray, List.map_cons, List.map_nil, eval_const, e5, e6]
        exact H1.out wy
      · rintro ez w' ⟨rfl, hb⟩
        exact ⟨_, rfl, k _ _ rfl (hB.add z 2 _ (by decide) (by decide) hb)⟩
    | 3, ho =>
      obtain rfl := Option.some.inj ho
      intro Az Lz vz wy Kz Ez hB k
      have z : Lz 6 = false := hB.c1 (Ez.late 5 _ rfl (by kernel_rfl))
      have hb0 := hB.A z
      have HX := HC.out.later hb0
      have e2 : Az.eval (.tmp 2) = .pointer (some ⟨by', 0, none⟩) := Ez.out 2 (by kernel_rfl)
      exact wpo_val (v := .int .i64 y) (run_load e2 (by have hh := HX.cy; simp [go_sem, hh])) (k _ _ rfl (hB.add z 3 _ (by decide) (by decide) (Below.refl _ _)))
    | 4, ho =>
      obtain rfl := Option.some.inj ho
      intro Az Lz vz wy Kz Ez hB k
      have z : Lz 6 = false := hB.c1 (Ez.late 5 _ rfl (by kernel_rfl))
      have hb0 := hB.A z
      have HX := HC.out.later hb0
      have e1 : Az.eval (.tmp 1) = .pointer (some ⟨br, 0, none⟩) := Ez.out 1 (by kernel_rfl)
      exact wpo_val (v := .agg #[.int .i64 N, .int .i64 D]) (run_load e1 (by have h0 := HX.r0; have h1 := HX.r1; simp [go_sem, h0, h1])) (k _ _ rfl (hB.add z 4 _ (by decide) (by decide) (Below.refl _ _)))
    | 5, ho =>
      obtain rfl := Option.some.inj ho
      intro Az Lz vz wy Kz Ez hB k
      have z : Lz 6 = false := Ez.late 6 _ rfl (by kernel_rfl)
      have hb0 := hB.A z
      have HX := HC.out.later hb0
      have e8 : Az.eval (.tmp 8) = .int .i64 y := Ez.dep 3 8 (by kernel_rfl) rfl
      have e9 : Az.eval (.tmp 9) = .agg #[.int .i64 N, .int .i64 D] := Ez.dep 4 9 (by kernel_rfl) rfl
      refine wpo_call (run_callW (fun _ _ => by kernel_rfl)) (R := fun ez w' => ez = .returned (.int .i64 q) ∧ Below wy.heap.size wy w') ?_ ?_
      · simp only [List.map_toArray, List.map_cons, List.map_nil, eval_const, e8, e9]
        exact HY.out wy
      · rintro ez w' ⟨rfl, hb⟩
        exact ⟨_, rfl, k _ _ rfl (hB.add z 5 _ (by decide) (by decide) hb)⟩
    | 6, ho =>
      obtain rfl := Option.some.inj ho
      intro Az Lz vz wy Kz Ez hB k
      have z : Lz 6 = false := Ez.not
      have hb0 := hB.A z
      have HX := HC.out.later hb0
      have e3 : Az.eval (.tmp 3) = .pointer (some ⟨g, 0, none⟩) := Ez.out 3 (by kernel_rfl)
      have e7 : Az.eval (.tmp 7) = .int .i64 p := Ez.dep 2 7 (by kernel_rfl) rfl
      exact wpo_skip (w' := wy.setCell ⟨g, 0, none⟩ (.int .i64 p)) (run_store e3 e7 (by have hh := HX.vp.c; have hz := HX.vp.z; simp [go_sem, hh, hz])) (k _ _ trivial (hB.put1 z (Ez.had 5 (by kernel_rfl)) _ (by decide) (by decide)))
    | 7, ho =>
      obtain rfl := Option.some.inj ho
      intro Az Lz vz wy Kz Ez hB k
      have st : Lz 6 = true := Ez.had 6 (by kernel_rfl)
      obtain ⟨w0, b0, rfl⟩ := hB.B st Ez.not
      have HX := (HC.out.later b0).vq.other (q := ⟨g, 0, none⟩) (by simp) (.int .i64 p)
      have e4 : Az.eval (.tmp 4) = .pointer (some ⟨g + 1, 0, none⟩) := Ez.out 4 (by kernel_rfl)
      have e10 : Az.eval (.tmp 10) = .int .i64 q := Ez.dep 5 10 (by kernel_rfl) rfl
      exact wpo_skip (w' := (w0.setCell ⟨g, 0, none⟩ (.int .i64 p)).setCell ⟨g + 1, 0, none⟩ (.int .i64 q)) (run_store e4 e10 (by have hh := HX.c; have hz := HX.z; simp [go_sem, hh, hz])) (k _ _ trivial (hB.put2 Ez.not (Ez.had 5 (by kernel_rfl)) st _ (by decide) (by decide)))
    | n + 8, ho => simp at ho
  · obtain ⟨w0, b0, rfl⟩ := hB.C (hL 7 (by decide))
    have HX := Lib.hid (HC.out.later b0)
    have BB := Lib.hid (But.of (bs := [g, g + 1]) b0)
    clear hB hL b0
    simp only [puts2, mix, Act.put, List.setIfInBounds_toArray, List.set_cons_zero, List.set_cons_succ, Nat.zero_add, Nat.reduceAdd, List.getElem?_cons_zero, List.getElem?_cons_succ]
    go_wp2_with fail
    go_end0
    refine ⟨rfl, (BB.out.setCell (.inl (by simp)) _).setCell (.inl (by simp)) _, fun v hv => ?_⟩
    unfold two11 at hv
    rcases List.mem_cons.1 hv with rfl | hv
    · exact (HX.out.vp.set _).other (by simp) _
    obtain rfl : v = _ := List.mem_singleton.1 hv
    exact (HX.out.vq.other (by simp) _).set _
theorem hlc_try (bx by' br g : Nat) (x y N D p q : Int) (w : World) (h : Hc w bx by' br g x y N D 0 0)
    (h1 : ∀ w, Calls Tryd.prog 19 #[.int .i64 x, .agg #[.int .i64 N, .int .i64 D]] w fun e w' => e = .returned (.int .i64 p) ∧ Below w.heap.size w w')
    (h2 : ∀ w, Calls Tryd.prog 19 #[.int .i64 y, .agg #[.int .i64 N, .int .i64 D]] w fun e w' => e = .returned (.int .i64 q) ∧ Below w.heap.size w w') :
    Calls Tryd.prog 17 #[.func (.func 22) #[] #[.pointer (some ⟨bx, 0, none⟩), .pointer (some ⟨br, 0, none⟩), .pointer (some ⟨by', 0, none⟩), .pointer (some ⟨g, 0, none⟩), .pointer (some ⟨g + 1, 0, none⟩)]] w fun e w' => e = .returned (.int .i64 0) ∧ But [g, g + 1] w w' ∧ Hc w' bx by' br g x y N D p q := by
  have l1 := h.vp.lt
  have l2 := h.vq.lt
  refine (tryB_ret 22 _ [g, g + 1] (two11 g p q) w (fun i hi => by
    rcases List.mem_cons.1 hi with rfl | hi
    · exact l1
    · obtain rfl := List.mem_singleton.1 hi; exact l2) (fun x hx => by
    unfold two11 at hx
    rcases List.mem_cons.1 hx with rfl | hx
    · exact l1
    · obtain rfl : x = _ := List.mem_singleton.1 hx
      exact l2) (fun _ => by kernel_rfl) (hlc_ret bx by' br g x y N D p q _ (h.later (bel_newR _ _)) h1 h2)).mono ?_
  rintro e w' ⟨he, hb, hv⟩
  exact ⟨he, hb, h.but hb (hv (⟨g, 0, none⟩, .int .i64 p) (by simp [two11])) (hv (⟨g + 1, 0, none⟩, .int .i64 q) (by simp [two11]))⟩
theorem hair_le {y N D : Int} (y0 : 0 ≤ y) (y1 : y ≤ 1073741824) (N0 : 1 ≤ N) (N1 : N ≤ 4096) (D0 : 1 ≤ D) : hairV y (y * N / D) ≤ 4398046511104 := by
  have h1 : y * N ≤ 1073741824 * N := Int.mul_le_mul_of_nonneg_right y1 (by omega)
  have h0 : 0 ≤ y * N := Int.mul_nonneg y0 (by omega)
  have a : y * N / D ≤ 4398046511104 := by
    have := Int.ediv_le_ediv (c := D) (by omega) (show y * N ≤ 4398046511104 by omega)
    have := Int.ediv_le_self D (show (0 : Int) ≤ 4398046511104 by decide)
    omega
  unfold hairV
  split <;> omega
set_option maxHeartbeats 4000000 in
theorem law_hairlines (a b s t : Int) (ka : 0 ≤ a ∧ a ≤ 4294967295) (kb : 0 ≤ b ∧ b ≤ 4294967295) (ks : 0 ≤ s ∧ s ≤ 65535) (kt : 0 ≤ t ∧ t ≤ 65535) (w : World) (hS : Sty w) :
    Calls Tryd.prog 6 #[.int .u32 a, .int .u32 b, .agg #[.int .u16 s, .int .u16 t]] w fun e w' => e = .returned (.bool true) ∧ Below w.heap.size w w' := by
  have hmf : ∀ (fn : Fn) (first cap : Array Value) (w : World), (Instr.makeFunc fn first cap).run Tryd.prog w = .ok (.func fn first cap) w := fun _ _ _ _ => rfl
  have HS := Lib.hid (fun w h => speaks11_any w h)
  have ST := Lib.hid hS
  obtain ⟨a0, a1⟩ := ka
  obtain ⟨b0, b1⟩ := kb
  obtain ⟨s0, s1⟩ := ks
  obtain ⟨t0, t1⟩ := kt
  obtain ⟨m, hm⟩ : ∃ m, min a b = m := ⟨_, rfl⟩
  obtain ⟨M, hM⟩ : ∃ m, max a b = m := ⟨_, rfl⟩
  have m0 : 0 ≤ m := by omega
  have m1 : m ≤ 4294967295 := by omega
  have M0 : 0 ≤ M := by omega
  have M1 : M ≤ 4294967295 := by omega
  have mM : m ≤ M := by omega
  have MM := Lib.hid mM
  clear hS mM
  go_enter Tryd.func6, Tryd.ntmps6
  go_wp2_with fail
  refine (HS.out _ (ST.out.later (by go_grown))).mono ?_
  rintro e w1 ⟨rfl, hb⟩
  have K1 := Lib.hid (show Below w.heap.size w w1 from bel_tr0 (by go_grown) hb)
  have T1 := Lib.hid (((Tab.nil w).new [.int .u16 s, .int .u16 t] 73).later hb)
  clear hb
  have hs1 := K1.out.size
  have u0 := T1.out.cell 0 0 rfl rfl
  have u1 := T1.out.cell 0 1 rfl rfl
  go_wp2_with fail
  obtain ⟨x, hx⟩ : ∃ x, m / 4 = x := ⟨_, rfl⟩
  obtain ⟨y, hy⟩ : ∃ y, M / 4 = y := ⟨_, rfl⟩
  rw [hx, hy]
  have x0 : 0 ≤ x := by omega
  have x1 : x ≤ 1073741824 := by omega
  have y0 : 0 ≤ y := by omega
  have y1 : y ≤ 1073741824 := by omega
  have xy : x ≤ y := by have := MM.out; omega
  obtain ⟨wa, hwa⟩ : ∃ z, (w1.alloc (.cells #[.int .i64 x] 2)).alloc (.cells #[.int .i64 y] 2) = z := ⟨_, rfl⟩
  have KA : Hid (Below w.heap.size w wa) := Lib.hid (by rw [← hwa]; exact bel_tr0 K1.out (by go_grown))
  have TA : Hid (Tab wa [(w1.heap.size + 1, [.int .i64 y]), (w1.heap.size, [.int .i64 x]), (w.heap.size, [.int .u16 s, .int .u16 t])]) := Lib.hid (by rw [← hwa]; exact (T1.out.new [.int .i64 x] 2).new' [.int .i64 y] 2 (by simp))
  have la : w1.heap.size + 1 + 1 = wa.heap.size := by rw [← hwa]; simp
  rw [hwa]
  clear hwa u0 u1 hx hy hm hM m0 m1 M0 M1 MM T1
  obtain ⟨n, hn⟩ : ∃ n, 1 + s % 4096 = n := ⟨_, rfl⟩
  obtain ⟨d, hd⟩ : ∃ d, 1 + t % 4096 = d := ⟨_, rfl⟩
  have ws : IntKind.i64.wrap s = s := IntWalk.i64_in _ (by omega)
  have wt : IntKind.i64.wrap t = t := IntWalk.i64_in _ (by omega)
  have ms : s.tmod 4096 = s % 4096 := Int.tmod_eq_emod_of_nonneg s0
  have mt : t.tmod 4096 = t % 4096 := Int.tmod_eq_emod_of_nonneg t0
  have s4a : IntKind.i64.wrap (1 + s % 4096) = n := (IntWalk.i64_in _ (by omega)).trans hn
  have t4a : IntKind.i64.wrap (1 + t % 4096) = d := (IntWalk.i64_in _ (by omega)).trans hd
  have n0 : 1 ≤ n := by omega
  have n1 : n ≤ 4096 := by omega
  have d0 : 1 ≤ d := by omega
  have d1 : d ≤ 4096 := by omega
  refine wp_region_vals [some (.pointer (some ⟨w.heap.size, 0, none⟩)), some (.int .u16 s), some (.int .i64 s), some (.int .i64 (s % 4096)), some (.int .i64 n), some (.pointer (some ⟨w.heap.size, 1, none⟩)), some (.int .u16 t), some (.int .i64 t), some (.int .i64 (t % 4096)), some (.int .i64 d), some (.int .i64 n), some (.int .i64 d)] (fun _ _ wy => Below wa.heap.size wa wy)
    [some 28, some 29, some 30, some 31, some 32, some 33, some 34, some 35, some 36, some 37, some 9, some 10] (by kernel_rfl) (by kernel_rfl) (by kernel_rfl) (by kernel_rfl) (by kernel_rfl) (by kernel_rfl) ((Below.refl _ _).drew) (fun i o ho => ?_) (fun Lz vz wz hL hB => ?_)
  · match i, ho with
    | 0, ho =>
      obtain rfl := Option.some.inj ho
      intro Az Lz vz wy Kz Ez hB k
      have e5 : Az.eval (.tmp 5) = .pointer (some ⟨w.heap.size, 0, none⟩) := Ez.out 5 (by kernel_rfl)
      exact wpo_val (v := .pointer (some ⟨w.heap.size, 0, none⟩)) (run_index e5 rfl (by simp [go_sem, Addr.add])) (k _ _ rfl hB)
    | 1, ho =>
      obtain rfl := Option.some.inj ho
      intro Az Lz vz wy Kz Ez hB k
      have e28 : Az.eval (.tmp 28) = .pointer (some ⟨w.heap.size, 0, none⟩) := Ez.dep 0 28 (by kernel_rfl) rfl
      exact wpo_val (v := .int .u16 s) (run_load e28 (by have hh := (TA.out.later hB).cell 2 0 rfl rfl; simp [go_sem, hh])) (k _ _ rfl hB)
    | 2, ho =>
      obtain rfl := Option.some.inj ho
      intro Az Lz vz wy Kz Ez hB k
      have e29 : Az.eval (.tmp 29) = .int .u16 s := Ez.dep 1 29 (by kernel_rfl) rfl
      exact wpo_val (v := .int .i64 s) (run_conv e29 (by simp [go_sem, ws])) (k _ _ rfl hB)
    | 3, ho =>
      obtain rfl := Option.some.inj ho
      intro Az Lz vz wy Kz Ez hB k
      have e30 : Az.eval (.tmp 30) = .int .i64 s := Ez.dep 2 30 (by kernel_rfl) rfl
      exact wpo_val (v := .int .i64 (s % 4096)) (run_bin e30 rfl (by simp [go_sem]) (by simp [go_sem, ms])) (k _ _ rfl hB)
    | 4, ho =>
      obtain rfl := Option.some.inj ho
      intro Az Lz vz wy Kz Ez hB k
      have e31 : Az.eval (.tmp 31) = .int .i64 (s % 4096) := Ez.dep 3 31 (by kernel_rfl) rfl
      exact wpo_val (v := .int .i64 n) (run_bin rfl e31 (by simp [go_sem]) (by simp [go_sem, s4a])) (k _ _ rfl hB)
    | 5, ho =>
      obtain rfl := Option.some.inj ho
      intro Az Lz vz wy Kz Ez hB k
      have e5 : Az.eval (.tmp 5) = .pointer (some ⟨w.heap.size, 0, none⟩) := Ez.out 5 (by kernel_rfl)
      exact wpo_val (v := .pointer (some ⟨w.heap.size, 1, none⟩)) (run_index e5 rfl (by simp [go_sem, Addr.add])) (k _ _ rfl hB)
    | 6, ho =>
      obtain rfl := Option.some.inj ho
      intro Az Lz vz wy Kz Ez hB k
      have e33 : Az.eval (.tmp 33) = .pointer (some ⟨w.heap.size, 1, none⟩) := Ez.dep 5 33 (by kernel_rfl) rfl
      exact wpo_val (v := .int .u16 t) (run_load e33 (by have hh := (TA.out.later hB).cell 2 1 rfl rfl; simp [go_sem, hh])) (k _ _ rfl hB)
    | 7, ho =>
      obtain rfl := Option.some.inj ho
      intro Az Lz vz wy Kz Ez hB k
      have e34 : Az.eval (.tmp 34) = .int .u16 t := Ez.dep 6 34 (by kernel_rfl) rfl
      exact wpo_val (v := .int .i64 t) (run_conv e34 (by simp [go_sem, wt])) (k _ _ rfl hB)
    | 8, ho =>
      obtain rfl := Option.some.inj ho
      intro Az Lz vz wy Kz Ez hB k
      have e35 : Az.eval (.tmp 35) = .int .i64 t := Ez.dep 7 35 (by kernel_rfl) rfl
      exact wpo_val (v := .int .i64 (t % 4096)) (run_bin e35 rfl (by simp [go_sem]) (by simp [go_sem, mt])) (k _ _ rfl hB)
    | 9, ho =>
      obtain rfl := Option.some.inj ho
      intro Az Lz vz wy Kz Ez hB k
      have e36 : Az.eval (.tmp 36) = .int .i64 (t % 4096) := Ez.dep 8 36 (by kernel_rfl) rfl
      exact wpo_val (v := .int .i64 d) (run_bin rfl e36 (by simp [go_sem]) (by simp [go_sem, t4a])) (k _ _ rfl hB)
    | 10, ho =>
      obtain rfl := Option.some.inj ho
      intro Az Lz vz wy Kz Ez hB k
      have e32 : Az.eval (.tmp 32) = .int .i64 n := Ez.dep 4 32 (by kernel_rfl) rfl
      exact wpo_val (v := .int .i64 n) (run_assign e32) (k _ _ rfl hB)
    | 11, ho =>
      obtain rfl := Option.some.inj ho
      intro Az Lz vz wy Kz Ez hB k
      have e37 : Az.eval (.tmp 37) = .int .i64 d := Ez.dep 9 37 (by kernel_rfl) rfl
      exact wpo_val (v := .int .i64 d) (run_assign e37) (k _ _ rfl hB)
    | n + 12, ho => simp at ho
  have KZ := Lib.hid (bel_tr0 KA.out hB)
  have TZ := Lib.hid (TA.out.later hB)
  have lz : w1.heap.size + 1 + 1 ≤ wz.heap.size := by have := hB.size; omega
  clear hB hL ws wt ms mt s4a t4a hn hd s0 s1 t0 t1 TA KA la
  simp only [puts2, mix, Act.put, List.setIfInBounds_toArray, List.set_cons_zero, List.set_cons_succ, Nat.zero_add, Nat.reduceAdd, List.getElem?_cons_zero, List.getElem?_cons_succ]
  obtain ⟨g, N, D, en, ed, g0, N0, N1, D0, D1, hg, OF⟩ := ratio_of11 n d n0 n1 d0 d1
  have OFH := Lib.hid OF
  have PX := Lib.hid (hair_in x N D x0 x1 N0 N1 D0 D1 hg)
  have PY := Lib.hid (hair_in y N D y0 y1 N0 N1 D0 D1 hg)
  obtain ⟨q1, q2, q3, q4⟩ := hair_law x0 en ed g0 D0
  obtain ⟨r1, r2, r3, _⟩ := hair_law y0 en ed g0 D0
  have mo := hair_mono x0 xy N0 D0
  obtain ⟨p, hp⟩ : ∃ p, hairV x (x * N / D) = p := ⟨_, rfl⟩
  obtain ⟨q, hq⟩ : ∃ p, hairV y (y * N / D) = p := ⟨_, rfl⟩
  rw [hp] at PX q1 q2 q3 q4 mo
  rw [hq] at PY r1 r2 r3 mo
  have p0 : 0 ≤ p := by
    by_cases z : x = 0
    · rw [q3 z]; omega
    · have := q2 (by omega); omega
  have qb := hair_le y0 y1 N0 N1 D0
  rw [hq] at qb
  have FF : Hid (x * n = x * n) := Lib.hid rfl
  obtain ⟨X, hX⟩ : ∃ X, x * n = X := ⟨_, rfl⟩
  obtain ⟨Y, hY⟩ : ∃ X, p * d = X := ⟨_, rfl⟩
  obtain ⟨Z, hZ⟩ : ∃ X, (p + 64) * d = X := ⟨_, rfl⟩
  have X0 : 0 ≤ X := by rw [← hX]; exact Int.mul_nonneg x0 (by omega)
  have X1 : X ≤ 4398046511104 := by rw [← hX]; have := Int.mul_le_mul x1 n1 (by omega) (by omega : (0 : Int) ≤ 1073741824); omega
  have Y0 : 0 ≤ Y := by rw [← hY]; exact Int.mul_nonneg p0 (by omega)
  have Y1 : Y ≤ 18014398509481984 := by rw [← hY]; have := Int.mul_le_mul (show p ≤ 4398046511104 by omega) d1 (by omega) (by omega : (0 : Int) ≤ 4398046511104); omega
  have Z0 : 0 ≤ Z := by rw [← hZ]; exact Int.mul_nonneg (by omega) (by omega)
  have Z1 : Z ≤ 18014398509744128 := by rw [← hZ]; have := Int.mul_le_mul (show p + 64 ≤ 4398046511168 by omega) d1 (by omega) (by omega : (0 : Int) ≤ 4398046511168); omega
  rw [hX, hY, hZ] at q4
  have Q3 := Lib.hid q3
  have Q2 := Lib.hid q2
  have Q4 := Lib.hid q4
  have Q1 := Lib.hid q1
  have R1 := Lib.hid r1
  have HX := Lib.hid hX
  have HY := Lib.hid hY
  have HZ := Lib.hid hZ
  clear q1 q2 q3 q4 r1 r2 r3 hp hq OF hg en ed FF hX hY hZ
  go_wp2_with fail
  refine (OFH.out _).mono ?_
  rintro e w4 ⟨rfl, hb⟩
  have K4 := Lib.hid (bel_tr0 KZ.out hb)
  have T4 := Lib.hid (TZ.out.later hb)
  have l4 := hb.size
  clear hb TZ KZ
  go_wp2_with fail
  have ba : Below w4.heap.size w4 (((w4.alloc (.cells #[.int .i64 N, .int .i64 D] 67)).alloc (.cells #[.int .i64 0] 2)).alloc (.cells #[.int .i64 0] 2)) := by go_grown
  have hc0 : Hc (((w4.alloc (.cells #[.int .i64 N, .int .i64 D] 67)).alloc (.cells #[.int .i64 0] 2)).alloc (.cells #[.int .i64 0] 2)) w1.heap.size (w1.heap.size + 1) w4.heap.size (w4.heap.size + 1) x y N D 0 0 := by
    have tt := T4.out.later ba
    refine ⟨by omega, by omega, by omega, tt.cell 1 0 rfl rfl, tt.cell 0 0 rfl rfl, by simp [go_sem], by simp [go_sem], ?_, ?_⟩
    · have := (Var.new (w4.alloc (.cells #[.int .i64 N, .int .i64 D] 67)) (.int .i64 0) 2).alloc (.cells #[.int .i64 0] 2)
      simpa using this
    · have := Var.new ((w4.alloc (.cells #[.int .i64 N, .int .i64 D] 67)).alloc (.cells #[.int .i64 0] 2)) (.int .i64 0) 2
      simpa using this
  refine (hlc_try w1.heap.size (w1.heap.size + 1) w4.heap.size (w4.heap.size + 1) x y N D p q _ hc0 PX.out PY.out).mono ?_
  rintro e w5 ⟨rfl, hbut, hc⟩
  have K5 : Hid (Below w.heap.size w w5) := Lib.hid (But.below (bel_tr0 K4.out ba) hbut (by have := K4.out.size; simp; omega) (fun i hi => by have := K4.out.size; simp at hi; omega))
  obtain ⟨_, _, _, cx, cy, _, _, ⟨cp, _⟩, ⟨cq, _⟩⟩ := hc
  clear hbut hc0 ba T4 K4
  have pq : ¬ q < p := by omega
  have pm := Q1.out
  have qm := R1.out
  have q0 : 0 ≤ q := by omega
  by_cases z : x = 0
  · have hp0 := Q3.out z
    subst z hp0
    go_wp2_with fail
    go_returns
    exact ⟨rfl, K5.out⟩
  · have zb : (x == 0) = false := by simpa using z
    have xp : 0 < x := by omega
    have pp := Q2.out xp
    have hX := HX.out
    have hY := HY.out
    have hZ := HZ.out
    have cases4 : (p = 64 ∧ X < 128 * d) ∨ ((p == 64) = false ∧ Y ≤ X ∧ X < Z) := by
      rcases Q4.out xp with ⟨h1, h2⟩ | ⟨h1, h2⟩
      · exact .inl ⟨h1, h2⟩
      · by_cases e : p = 64
        · refine .inl ⟨e, ?_⟩
          rw [← hZ, e] at h2
          omega
        · exact .inr ⟨by simpa using e, h1, h2⟩
    clear Q2 Q3 Q4 z HX HY HZ
    rcases cases4 with ⟨e, h2⟩ | ⟨e, h3, h4⟩
    all_goals
      go_wp2_with fail
      go_returns
      refine ⟨?_, K5.out⟩
      first
      | rfl
      | (show Ending.returned (Value.bool (decide (X < 128 * d))) = _; rw [decide_eq_true h2])
      | (show Ending.returned (Value.bool (decide (X < Z))) = _; rw [decide_eq_true h4])
      | (simp [*]; done)
end Go.Proofs.YtjemnjboopabpaaDoor
