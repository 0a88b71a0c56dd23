/- Law 13: both kinds of items; the reference's Least. Made by gen/linj.py. -/
import Derived.Test.YtmelbgabiklojaaLinEG
import Derived.Test.YtmelbgabiklojaaLinHI
import Derived.WalkKit
import Derived.WalkSpells
import Derived.WalkLawsBesides
import Derived.Handy
import Derived.Lib.Hide
import Derived.Deep.QuietTactic
import Derived.BigQuiet
import Derived.LoopTactic
import Derived.Outline
import Derived.Deep.RegionHeld3
import Derived.Deep.RegionWith
namespace Go.Proofs.Ytmelbgabiklojaa
open Go.RowKit Go.Proofs.Reg Go.Proofs.Big Lin
set_option linter.unusedVariables false
set_option linter.unusedSimpArgs false
set_option maxRecDepth 100000
theorem slt_litem : SlT 25 35 4 (.agg #[.int .i64 0, .int .i64 0, .int .i64 0, .bool false]) 32 := ⟨Try.underlying25, by kernel_rfl, rfl, by decide, by decide⟩
theorem KS.aside {α : Type} {K : Rk α} {w : World} {v : Value} {rs : List α} (h : KS K w v rs) {b : Nat} (hb : ∀ (p : Addr) (n c : Nat), v = .slice (some p) n c → p.block ≠ b) (i : Nat) (u : Value) : KS K (w.setCell ⟨b, i, none⟩ u) v rs := by
  obtain ⟨a, n, c, rfl, hn, hc, hm, h5⟩ := h
  refine ⟨a, n, c, rfl, hn, hc, hm, fun q => ?_⟩
  obtain ⟨g, o, rfl, hk⟩ := h5 q
  refine ⟨g, o, rfl, fun k r hr j x hx => ?_⟩
  rw [World.cell?_setCell_other (h := fun e => by injection e with e _; exact hb _ _ _ rfl e.symm)]
  exact hk k r hr j x hx
end Go.Proofs.Ytmelbgabiklojaa
/- Law 13: what it speaks. -/
namespace Go.Proofs.Ytmelbgabiklojaa
open Go.RowKit Go.Proofs.Reg Go.Proofs.Big Lin
set_option linter.unusedVariables false
set_option linter.unusedSimpArgs false
set_option maxRecDepth 100000
def l3 : List I4 := [(30, 5, 0, true), (30, 5, 0, true), (30, 5, 9, false)]
theorem l3_s0 : segE l3 0 = 1 := segE_brk l3 0 (by decide) (by decide)
theorem l3_s1 : segE l3 1 = 2 := segE_brk l3 1 (by decide) (by decide)
theorem l3_s2 : segE l3 2 = 3 := (segE_next l3 2 (by decide) (by decide)).trans (segE_out l3 3 (by decide))
theorem l3_f0 : firstE l3 70 0 = some (2, 65) := by
  have w1 : wid l3 0 1 = some 30 := by decide +kernel
  rw [firstE, l3_s0, w1]
  show lineE l3 70 0 1 30 = _
  rw [lineE_more l3 70 0 1 30 65 (by decide) (by rw [l3_s1]; decide +kernel) (by decide), l3_s1, lineE_stop l3 70 0 2 65 100 (by decide) (by rw [l3_s2]; decide +kernel) (by decide)]
theorem l3_f2 : firstE l3 70 2 = some (3, 30) := by
  have w1 : wid l3 2 3 = some 30 := by decide +kernel
  rw [firstE, l3_s2, w1]
  show lineE l3 70 2 3 30 = _
  rw [lineE_out l3 70 2 3 30 (by decide)]
theorem l3_fill : fillE l3 70 4 0 = some [(0, 2, 65, 4), (2, 3, 30, 9)] := by
  rw [fillE_some l3 70 4 0 (2, 65) (by decide) l3_f0]
  show (fillE l3 70 4 2).map _ = _
  rw [fillE_some l3 70 4 2 (3, 30) (by decide) l3_f2]
  show ((fillE l3 70 4 3).map _).map _ = _
  rw [fillE_out l3 70 4 3 (by decide)]
  decide +kernel
theorem l3_in : ∀ r ∈ l3, InI r := by
  intro r hr
  simp only [l3, List.mem_cons, List.not_mem_nil, or_false] at hr
  rcases hr with rfl | rfl | rfl <;> exact ⟨⟨by decide, by decide⟩, ⟨by decide, by decide⟩, by decide, by decide⟩
theorem fill3 (a : Option Addr) (c : Nat) (w : World) (h : KS IK w (.slice a 3 c) l3) : Calls Try.prog 14 #[.slice a 3 c, .int .i64 70, .int .i64 4] w fun e w' => (∃ p n cc, e = .returned (.slice (some p) n cc) ∧ KS LK w' (.slice (some p) n cc) [(0, 2, 65, 4), (2, 3, 30, 9)] ∧ w.heap.size ≤ p.block) ∧ Below w.heap.size w w' := by
  refine (lfill_any a 3 c l3 70 4 (by decide) ⟨by decide, by decide⟩ ⟨by decide, by decide⟩ l3_in w h).mono ?_
  rintro e w' ⟨hf, hb⟩
  rw [l3_fill] at hf
  obtain ⟨u, rfl, hk, hp⟩ := hf
  obtain ⟨aa, nn, cc, rfl, hn, _, _, h5⟩ := id hk
  obtain ⟨g, o, rfl, _⟩ := h5 (by rw [hn]; decide)
  exact ⟨⟨_, nn, cc, rfl, hk, hp _ _ _ rfl⟩, hb⟩
theorem offs3 (a : Option Addr) (c : Nat) (w : World) (h : KS IK w (.slice a 3 c) l3) : Calls Try.prog 20 #[.slice a 3 c, .agg #[.int .i64 0, .int .i64 2, .int .i64 65, .int .i64 4], .int .i64 71, .int .i64 4] w fun e w' => (∃ b, e = .returned (.slice (some ⟨b, 0, none⟩) 2 2) ∧ w.heap.size ≤ b ∧ OwnI w' b [0, 41]) ∧ Below w.heap.size w w' := by
  have := loffs_any a 3 c l3 0 1 65 4 71 4 6 0 true (by decide) (by decide) ⟨by decide, by decide⟩ ⟨by decide, by decide⟩ (.inl ⟨by decide, rfl, rfl⟩) (by decide) l3_in w h
  refine Calls.mono (show Calls Try.prog 20 #[.slice a 3 c, .agg #[.int .i64 0, .int .i64 2, .int .i64 65, .int .i64 4], .int .i64 71, .int .i64 4] w _ from this) ?_
  rintro e w' ⟨hf, hb⟩
  rw [if_pos rfl, show offs l3 0 (gapsF 6 1 true) 1 0 (indF 6 4) = some [0, 41] by decide +kernel] at hf
  obtain ⟨b, rfl, h1, _, h2⟩ := hf
  exact ⟨⟨b, rfl, h1, h2⟩, hb⟩
/-- what the region of the law's closure keeps that asks for the offsets -/
structure SpkB (w2 : World) (g3 : Nat) (L : Nat → Bool) (vz : Nat → Value) (wy : World) : Prop where
  pre : L 5 = false → Below w2.heap.size w2 wy
  ans : L 4 = true → ∃ b, vz 4 = .slice (some ⟨b, 0, none⟩) 2 2 ∧ w2.heap.size ≤ b ∧ (L 5 = false → OwnI wy b [0, 41])
  fin : L 5 = true → ∃ wy0 b, Below w2.heap.size w2 wy0 ∧ OwnI wy0 b [0, 41] ∧ w2.heap.size ≤ b ∧ wy = wy0.setCell ⟨g3, 0, none⟩ (.slice (some ⟨b, 0, none⟩) 2 2)
theorem SpkB.start (w2 : World) (g3 : Nat) : SpkB w2 g3 (fun _ => false) (fun _ => undef) w2.drew := ⟨fun _ => (Below.refl _ _).drew, fun h => (by cases h), fun h => (by cases h)⟩
theorem SpkB.pure {w2 : World} {g3 : Nat} {L : Nat → Bool} {vz : Nat → Value} {wy w' : World} (h : SpkB w2 g3 L vz wy) (i : Nat) (v : Value) (z : L 5 = false) (n4 : 4 ≠ i) (n5 : 5 ≠ i) (hb : Below wy.heap.size wy w') : SpkB w2 g3 (addL L i) (upd vz i v) w' := by
  have a4 : addL L i 4 = L 4 := by simp [addL, n4]
  have a5 : addL L i 5 = L 5 := by simp [addL, n5]
  have u4 : upd vz i v 4 = vz 4 := by simp [upd, n4]
  refine ⟨fun _ => bel_tr0 (h.pre z) hb, fun q => ?_, fun q => ?_⟩
  · obtain ⟨b, e, hb0, ho⟩ := h.ans (a4 ▸ q)
    exact ⟨b, u4.trans e, hb0, fun _ => (ho z).later hb⟩
  · rw [a5, z] at q; cases q
theorem SpkB.ret {w2 : World} {g3 : Nat} {L : Nat → Bool} {vz : Nat → Value} {wy w' : World} (h : SpkB w2 g3 L vz wy) (z : L 5 = false) (hb : Below wy.heap.size wy w') {b : Nat} (hb0 : wy.heap.size ≤ b) (ho : OwnI w' b [0, 41]) : SpkB w2 g3 (addL L 4) (upd vz 4 (.slice (some ⟨b, 0, none⟩) 2 2)) w' :=
  ⟨fun _ => bel_tr0 (h.pre z) hb, fun _ => ⟨b, by simp [upd], Nat.le_trans (h.pre z).size hb0, fun _ => ho⟩, fun q => by rw [show addL L 4 5 = L 5 by simp [addL], z] at q; cases q⟩
theorem SpkB.put {w2 : World} {g3 : Nat} {L : Nat → Bool} {vz : Nat → Value} {wy : World} {v : Value} (h : SpkB w2 g3 L vz wy) (z : L 5 = false) (y : L 4 = true) : SpkB w2 g3 (addL L 5) (upd vz 5 v) (wy.setCell ⟨g3, 0, none⟩ (vz 4)) := by
  obtain ⟨b, e, hb0, ho⟩ := h.ans y
  refine ⟨fun q => by simp [addL] at q, fun _ => ⟨b, by simpa [upd] using e, hb0, fun q => by simp [addL] at q⟩, fun _ => ⟨wy, b, h.pre z, ho z, hb0, by rw [e]⟩⟩
set_option maxHeartbeats 4000000 in
theorem spk13_in (g1 g2 g3 c : Nat) (a : Option Addr) (w : World) (h1 : w.cell? ⟨g1, 0, none⟩ = some (.slice a 3 c)) (hk : KS IK w (.slice a 3 c) l3) (v2 : Var w ⟨g2, 0, none⟩ (.slice none 0 0)) (v3 : Var w ⟨g3, 0, none⟩ (.slice none 0 0)) (n12 : g1 ≠ g2) (n13 : g1 ≠ g3) (n23 : g2 ≠ g3) (ka : ∀ p : Addr, a = some p → p.block ≠ g2 ∧ p.block ≠ g3) :
    Calls Try.prog 32 #[.pointer (some ⟨g1, 0, none⟩), .pointer (some ⟨g2, 0, none⟩), .pointer (some ⟨g3, 0, none⟩)] w fun e w' => e = .returned (.tuple #[]) ∧ But [g2, g3] w w' ∧ ∃ p n cc b, w'.cell? ⟨g2, 0, none⟩ = some (.slice (some p) n cc) ∧ KS LK w' (.slice (some p) n cc) [(0, 2, 65, 4), (2, 3, 30, 9)] ∧ w'.cell? ⟨g3, 0, none⟩ = some (.slice (some ⟨b, 0, none⟩) 2 2) ∧ OwnI w' b [0, 41] ∧ w.heap.size ≤ p.block ∧ w.heap.size ≤ b := by
  have HK := Lib.hid hk
  have V2 := Lib.hid v2
  have V3 := Lib.hid v3
  have H1 := Lib.hid h1
  have FI := Lib.hid (fill3 a c)
  have OF := Lib.hid (offs3 a c)
  have KA := Lib.hid ka
  have lg2 : g2 < w.heap.size := v2.lt
  have lg3 : g3 < w.heap.size := v3.lt
  clear hk v2 v3 ka
  go_enter Try.func32, Try.ntmps32
  go_wp2_with fail
  refine (FI.out _ HK.out).mono ?_
  rintro e w1 ⟨⟨p, n, cc, rfl, hkl, hp⟩, hb⟩
  have B1 := Lib.hid hb
  have KL := Lib.hid hkl
  have W2 := Lib.hid (V2.out.later hb)
  have W3 := Lib.hid (V3.out.later hb)
  have HP := Lib.hid hp
  have HK1 := Lib.hid (HK.out.later hb)
  obtain ⟨e2, z2⟩ := W2.out
  have e1 := kcell_on hb h1
  have n21 : ¬ g2 = g1 := fun h => n12 h.symm
  have n31 : ¬ g3 = g1 := fun h => n13 h.symm
  have n32 : ¬ g3 = g2 := fun h => n23 h.symm
  have KL2 : Hid (KS LK (w1.setCell ⟨g2, 0, none⟩ (.slice (some p) n cc)) (.slice (some p) n cc) [(0, 2, 65, 4), (2, 3, 30, 9)]) := Lib.hid (KS.aside hkl (fun q _ _ e => by cases e; omega) 0 _)
  have HK2 : Hid (KS IK (w1.setCell ⟨g2, 0, none⟩ (.slice (some p) n cc)) (.slice a 3 c) l3) := Lib.hid (KS.aside HK1.out (fun q _ _ e => by cases e; exact (KA.out _ rfl).1) 0 _)
  have C1 : (w1.setCell ⟨g2, 0, none⟩ (.slice (some p) n cc)).cell? ⟨g1, 0, none⟩ = some (.slice a 3 c) := by
    rw [World.cell?_setCell_other (h := fun e => by injection e with e _; exact n12 e.symm)]; exact e1
  have W22 : Hid (Var (w1.setCell ⟨g2, 0, none⟩ (.slice (some p) n cc)) ⟨g2, 0, none⟩ (.slice (some p) n cc)) := Lib.hid (W2.out.set _)
  have W32 : Hid (Var (w1.setCell ⟨g2, 0, none⟩ (.slice (some p) n cc)) ⟨g3, 0, none⟩ (.slice none 0 0)) := Lib.hid (W3.out.other (fun e => by injection e with e _; exact n23 e) _)
  have U2 : Hid (But [g2, g3] w (w1.setCell ⟨g2, 0, none⟩ (.slice (some p) n cc))) := Lib.hid ((But.of (bs := [g2, g3]) hb).setCell (.inl (by simp)) _)
  have sz : (w1.setCell ⟨g2, 0, none⟩ (.slice (some p) n cc)).heap.size = w1.heap.size := by simp [World.setCell]
  have s1 := hb.size
  clear hb hkl hp
  obtain ⟨w2, hw2⟩ : ∃ w2, w1.setCell ⟨g2, 0, none⟩ (.slice (some p) n cc) = w2 := ⟨_, rfl⟩
  rw [hw2] at KL2 HK2 C1 W22 W32 U2 sz
  obtain ⟨_, _, _, ee, hnn, _, _, h5⟩ := id KL2.out
  simp only [Value.slice.injEq] at ee
  obtain ⟨rfl, rfl, rfl⟩ := ee
  obtain rfl : n = 2 := hnn
  obtain ⟨gL, oL, eL, hL5⟩ := h5 (by decide)
  obtain rfl := Option.some.inj eL
  have r0 := hL5 0 _ rfl 0 _ rfl
  have r1 := hL5 0 _ rfl 1 _ rfl
  have r2 := hL5 0 _ rfl 2 _ rfl
  have r3 := hL5 0 _ rfl 3 _ rfl
  simp only [Nat.zero_mul, Nat.add_zero] at r0 r1 r2 r3
  have C2 := W22.out.c
  have V32 := W32
  have ixl : ∀ wy : World, (Instr.indexAt 27 (.slice (some ⟨gL, oL, none⟩) 2 cc) (.int .i64 0)).run Try.prog wy = .ok (.pointer (some ⟨gL, oL, none⟩)) wy := fun wy => by simp [go_sem, Addr.add]
  go_upto_region 1 with fail
  try rw [hw2]
  -- REGION
  refine wp_region_vals [some (.slice a 3 c), some (.slice (some ⟨gL, oL, none⟩) 2 cc), some (.pointer (some ⟨gL, oL, none⟩)), some (.agg #[.int .i64 0, .int .i64 2, .int .i64 65, .int .i64 4]), none, some (undef)] (SpkB w2 g3)
    [some 5, some 6, some 7, some 8, some 9, none] (by kernel_rfl) (by kernel_rfl) (by kernel_rfl) (by kernel_rfl) (by kernel_rfl) (by kernel_rfl) (SpkB.start w2 g3) (fun ie oe ho => ?_) (fun Lz vz wz hL hB => ?_)
  · match ie, ho with
    | 0, ho =>
      obtain rfl := Option.some.inj ho
      intro Az Lz vz wy Kz Ez hB k
      have e0 : Az.eval (.tmp 0) = .pointer (some ⟨g1, 0, none⟩) := Ez.out 0 (by kernel_rfl)
      have q0 := kcell_on (hB.pre (Ez.late 5 _ rfl (by kernel_rfl))) C1
      exact wpo_val (v := .slice a 3 c) (run_load e0 (by simp [go_sem, q0])) (k _ _ rfl (hB.pure 0 _ (Ez.late 5 _ rfl (by kernel_rfl)) (by decide) (by decide) (Below.refl _ _)))
    | 1, ho =>
      obtain rfl := Option.some.inj ho
      intro Az Lz vz wy Kz Ez hB k
      have e1 : Az.eval (.tmp 1) = .pointer (some ⟨g2, 0, none⟩) := Ez.out 1 (by kernel_rfl)
      have q0 := kcell_on (hB.pre (Ez.late 5 _ rfl (by kernel_rfl))) C2
      exact wpo_val (v := .slice (some ⟨gL, oL, none⟩) 2 cc) (run_load e1 (by simp [go_sem, q0])) (k _ _ rfl (hB.pure 1 _ (Ez.late 5 _ rfl (by kernel_rfl)) (by decide) (by decide) (Below.refl _ _)))
    | 2, ho =>
      obtain rfl := Option.some.inj ho
      intro Az Lz vz wy Kz Ez hB k
      have e6 : Az.eval (.tmp 6) = .slice (some ⟨gL, oL, none⟩) 2 cc := Ez.dep 1 6 (by kernel_rfl) rfl
      exact wpo_val (v := .pointer (some ⟨gL, oL, none⟩)) (run_index e6 rfl (ixl wy)) (k _ _ rfl (hB.pure 2 _ (Ez.late 5 _ rfl (by kernel_rfl)) (by decide) (by decide) (Below.refl _ _)))
    | 3, ho =>
      obtain rfl := Option.some.inj ho
      intro Az Lz vz wy Kz Ez hB k
      have e7 : Az.eval (.tmp 7) = .pointer (some ⟨gL, oL, none⟩) := Ez.dep 2 7 (by kernel_rfl) rfl
      have q0 := kcell_on (hB.pre (Ez.late 5 _ rfl (by kernel_rfl))) r0
      have q1 := kcell_on (hB.pre (Ez.late 5 _ rfl (by kernel_rfl))) r1
      have q2 := kcell_on (hB.pre (Ez.late 5 _ rfl (by kernel_rfl))) r2
      have q3 := kcell_on (hB.pre (Ez.late 5 _ rfl (by kernel_rfl))) r3
      exact wpo_val (v := .agg #[.int .i64 0, .int .i64 2, .int .i64 65, .int .i64 4]) (run_load e7 (by simp [go_sem, q0, q1, q2, q3])) (k _ _ rfl (hB.pure 3 _ (Ez.late 5 _ rfl (by kernel_rfl)) (by decide) (by decide) (Below.refl _ _)))
    | 4, ho =>
      obtain rfl := Option.some.inj ho
      intro Az Lz vz wy Kz Ez hB k
      have e5 : Az.eval (.tmp 5) = .slice a 3 c := Ez.dep 0 5 (by kernel_rfl) rfl
      have e8 : Az.eval (.tmp 8) = .agg #[.int .i64 0, .int .i64 2, .int .i64 65, .int .i64 4] := Ez.dep 3 8 (by kernel_rfl) rfl
      refine wpo_call (run_callW (fun _ _ => by kernel_rfl)) (R := fun ez w' => (∃ b, ez = .returned (.slice (some ⟨b, 0, none⟩) 2 2) ∧ wy.heap.size ≤ b ∧ OwnI w' b [0, 41]) ∧ Below wy.heap.size wy w') ?_ ?_
      · simp only [List.map_toArray, List.map_cons, List.map_nil, eval_const, e5, e8]
        exact OF.out wy (HK2.out.later (hB.pre (Ez.late 5 _ rfl (by kernel_rfl))))
      · rintro ez w' ⟨⟨b, rfl, hb0, ho⟩, hb⟩
        exact ⟨_, rfl, k _ _ trivial (hB.ret (Ez.late 5 _ rfl (by kernel_rfl)) hb hb0 ho)⟩
    | 5, ho =>
      obtain rfl := Option.some.inj ho
      intro Az Lz vz wy Kz Ez hB k
      have e2 : Az.eval (.tmp 2) = .pointer (some ⟨g3, 0, none⟩) := Ez.out 2 (by kernel_rfl)
      have e9 : Az.eval (.tmp 9) = vz 4 := Ez.dep 4 9 (by kernel_rfl) rfl
      obtain ⟨b, hv, hb0, ho⟩ := hB.ans (Ez.had 4 (by kernel_rfl))
      obtain ⟨c3, f3⟩ := V32.out.later (hB.pre Ez.not)
      refine wpo_skip (run_store e2 e9 (w' := wy.setCell ⟨g3, 0, none⟩ (vz 4)) ?_) (k _ _ rfl (hB.put Ez.not (Ez.had 4 (by kernel_rfl))))
      rw [hv]
      simp [go_sem, c3, f3]
    | ne + 6, ho => simp at ho
  -- END REGION
  obtain ⟨wy0, b, hb1, ho, hb0, rfl⟩ := hB.fin (hL 5 (by decide))
  have BB : Hid (But [g2, g3] w (wy0.setCell ⟨g3, 0, none⟩ (.slice (some ⟨b, 0, none⟩) 2 2))) := Lib.hid ((U2.out.trans (But.of hb1)).setCell (.inl (by simp)) _)
  have R2 : Hid ((wy0.setCell ⟨g3, 0, none⟩ (.slice (some ⟨b, 0, none⟩) 2 2)).cell? ⟨g2, 0, none⟩ = some (.slice (some ⟨gL, oL, none⟩) 2 cc)) := Lib.hid (by
    rw [World.cell?_setCell_other (h := fun e => by injection e with e _; exact n32 e)]; exact kcell_on hb1 C2)
  have RK : Hid (KS LK (wy0.setCell ⟨g3, 0, none⟩ (.slice (some ⟨b, 0, none⟩) 2 2)) (.slice (some ⟨gL, oL, none⟩) 2 cc) [(0, 2, 65, 4), (2, 3, 30, 9)]) := Lib.hid (KS.aside (KL2.out.later hb1) (fun q _ _ e => by cases e; have h9 : w.heap.size ≤ gL := HP.out; show gL ≠ g3; omega) 0 _)
  have R3 : Hid ((wy0.setCell ⟨g3, 0, none⟩ (.slice (some ⟨b, 0, none⟩) 2 2)).cell? ⟨g3, 0, none⟩ = some (.slice (some ⟨b, 0, none⟩) 2 2)) := Lib.hid (((W32.out.later hb1).set _).c)
  have RO : Hid (OwnI (wy0.setCell ⟨g3, 0, none⟩ (.slice (some ⟨b, 0, none⟩) 2 2)) b [0, 41]) := Lib.hid (ownI_aside ho (by omega) 0 _)
  have hbw : w.heap.size ≤ b := by omega
  clear hL hB hb1 ho
  simp only [puts2, mix, Act.put, List.setIfInBounds_toArray, List.set_cons_zero, List.set_cons_succ, Nat.zero_add, Nat.reduceAdd, List.getElem?_cons_zero, List.getElem?_cons_succ]
  go_wp2_with fail
  go_end0
  exact ⟨rfl, BB.out, ⟨gL, oL, none⟩, 2, cc, b, R2.out, RK.out, R3.out, RO.out, HP.out, hbw⟩
/-- Try of the law's first closure -/
theorem spk13_try (g1 g2 g3 c : Nat) (a : Option Addr) (w : World) (h1 : w.cell? ⟨g1, 0, none⟩ = some (.slice a 3 c)) (hk : KS IK w (.slice a 3 c) l3) (v2 : Var w ⟨g2, 0, none⟩ (.slice none 0 0)) (v3 : Var w ⟨g3, 0, none⟩ (.slice none 0 0)) (n12 : g1 ≠ g2) (n13 : g1 ≠ g3) (n23 : g2 ≠ g3) (ka : ∀ p : Addr, a = some p → p.block ≠ g2 ∧ p.block ≠ g3) :
    Calls Try.prog 12 #[.func (.func 32) #[] #[.pointer (some ⟨g1, 0, none⟩), .pointer (some ⟨g2, 0, none⟩), .pointer (some ⟨g3, 0, none⟩)]] w fun e w' => e = .returned (.int .i64 0) ∧ But [g2, g3] w w' ∧ ∃ p n cc b, w'.cell? ⟨g2, 0, none⟩ = some (.slice (some p) n cc) ∧ KS LK w' (.slice (some p) n cc) [(0, 2, 65, 4), (2, 3, 30, 9)] ∧ w'.cell? ⟨g3, 0, none⟩ = some (.slice (some ⟨b, 0, none⟩) 2 2) ∧ OwnI w' b [0, 41] := by
  have ba : Below w.heap.size w (w.alloc (.cells #[.int .i64 0] 28)) := (Below.refl _ _).alloc (Nat.le_refl _) _
  have l2 : g2 < w.heap.size := v2.lt
  have l3' : g3 < w.heap.size := v3.lt
  have C := spk13_in g1 g2 g3 c a _ (kcell_on ba h1) (hk.later ba) (v2.later ba) (v3.later ba) n12 n13 n23 ka
  have ns : w.heap.size ∉ [g2, g3] := fun m => by simp at m; omega
  refine (try_ret 32 _ w (fun w' => But [g2, g3] (w.alloc (.cells #[.int .i64 0] 28)) w' ∧ ∃ p n cc b, w'.cell? ⟨g2, 0, none⟩ = some (.slice (some p) n cc) ∧ KS LK w' (.slice (some p) n cc) [(0, 2, 65, 4), (2, 3, 30, 9)] ∧ w'.cell? ⟨g3, 0, none⟩ = some (.slice (some ⟨b, 0, none⟩) 2 2) ∧ OwnI w' b [0, 41] ∧ (w.alloc (.cells #[.int .i64 0] 28)).heap.size ≤ p.block ∧ (w.alloc (.cells #[.int .i64 0] 28)).heap.size ≤ b) (fun _ => by kernel_rfl) (C.mono ?_)).mono ?_
  · rintro e w' ⟨he, hb, hq⟩
    have v := (Var.new w (.int .i64 0) 28).but hb ns
    exact ⟨he, ⟨hb, hq⟩, v.c, v.z⟩
  · rintro e w' ⟨he, w2, ⟨hb, p, n, cc, b, q1, q2, q3, q4, q5, q6⟩, rfl⟩
    have h1 : But [g2, g3] w (w.alloc (.cells #[.int .i64 0] 28)) := (But.refl [g2, g3] w).alloc _
    rw [World.size_alloc] at q5 q6
    refine ⟨he, (h1.trans hb).setCell (.inr (Nat.le_refl _)) _, p, n, cc, b, ?_, KS.aside q2 (fun q _ _ e => by cases e; omega) 0 _, ?_, ownI_aside q4 (by omega) 0 _⟩
    · rw [World.cell?_setCell_other (h := fun e => by injection e with e _; omega)]; exact q1
    · rw [World.cell?_setCell_other (h := fun e => by injection e with e _; omega)]; exact q3
set_option maxHeartbeats 4000000 in
theorem speaks13_any (w : World) : Calls Try.prog 10 #[] w fun e w' => e = .returned (.bool true) ∧ Below w.heap.size w w' := by
  have hmf : ∀ (fn : Fn) (first cap : Array Value) (w : World), (Instr.makeFunc fn first cap).run Try.prog w = .ok (.func fn first cap) w := fun _ _ _ _ => rfl
  have eqs : ∀ (x y z t : Int) (wy : World), (binOp BinOp.eql 33 (.agg #[.int .i64 x, .int .i64 y, .int .i64 z, .int .i64 t]) (.agg #[.int .i64 x, .int .i64 y, .int .i64 z, .int .i64 t])).run Try.prog wy = .ok (.bool true) wy := fun _ _ _ _ _ => by simp [go_sem]
  go_enter Try.func10, Try.ntmps10
  go_wp2_with fail
  obtain ⟨w0, hw0⟩ : ∃ x, (((w.alloc (.cells #[.int .i64 30, .int .i64 5, .int .i64 0, .bool true, .int .i64 30, .int .i64 5, .int .i64 0, .bool true, .int .i64 30, .int .i64 5, .int .i64 9, .bool false] 35)).alloc (.cells #[.slice (some ⟨w.heap.size, 0, none⟩) 3 3] 25)).alloc (.cells #[.slice none 0 0] 27)).alloc (.cells #[.slice none 0 0] 37) = x := ⟨_, rfl⟩
  have T0 : Hid (Tab w0 [(w.heap.size + 3, [.slice none 0 0]), (w.heap.size + 2, [.slice none 0 0]), (w.heap.size + 1, [.slice (some ⟨w.heap.size, 0, none⟩) 3 3]), (w.heap.size, [.int .i64 30, .int .i64 5, .int .i64 0, .bool true, .int .i64 30, .int .i64 5, .int .i64 0, .bool true, .int .i64 30, .int .i64 5, .int .i64 9, .bool false])]) := Lib.hid (by
    rw [← hw0]
    exact ((((Tab.nil w).new' _ _ rfl).new' _ _ (by simp)).new' _ _ (by simp)).new' _ _ (by simp))
  have K0 : Hid (Below w.heap.size w w0) := Lib.hid (by rw [← hw0]; exact bel_tr0 (bel_tr0 (bel_tr0 (bel_newR _ _) (bel_newR _ _)) (bel_newR _ _)) (bel_newR _ _))
  have KI : Hid (KS IK w0 (.slice (some ⟨w.heap.size, 0, none⟩) 3 3) l3) := Lib.hid ⟨_, 3, 3, rfl, rfl, Nat.le_refl _, by decide, fun _ => ⟨_, 0, rfl, fun k r hr i x hx => by
    have lk := (List.getElem?_eq_some_iff.1 hr).1
    have li := (List.getElem?_eq_some_iff.1 hx).1
    rw [IK.len] at li
    have e : k = 0 ∨ k = 1 ∨ k = 2 := by simp [l3] at lk; omega
    have e' : i = 0 ∨ i = 1 ∨ i = 2 ∨ i = 3 := by simp only [IK] at li; omega
    rcases e with rfl | rfl | rfl
    all_goals
      obtain rfl := Option.some.inj hr
      rcases e' with rfl | rfl | rfl | rfl
      all_goals
        obtain rfl := Option.some.inj hx
        exact T0.out.cell 3 _ rfl rfl⟩⟩
  rw [hw0]
  clear hw0
  refine (spk13_try (w.heap.size + 1) (w.heap.size + 2) (w.heap.size + 3) 3 (some ⟨w.heap.size, 0, none⟩) _ (T0.out.cell 2 0 rfl rfl) KI.out ⟨T0.out.cell 1 0 rfl rfl, T0.out.froz 1 0 rfl rfl⟩ ⟨T0.out.cell 0 0 rfl rfl, T0.out.froz 0 0 rfl rfl⟩ (by omega) (by omega) (by omega) (fun p e => by injection e with e; subst e; exact ⟨by show w.heap.size ≠ _; omega, by show w.heap.size ≠ _; omega⟩)).mono ?_
  rintro e w2 ⟨rfl, hb, p, n, cc, b, q1, q2, q3, q4⟩
  have K2 : Hid (Below w.heap.size w w2) := Lib.hid (But.below K0.out hb K0.out.size (fun i hi => by simp at hi; omega))
  obtain ⟨_, _, _, ee, hnn, _, _, h5⟩ := q2
  simp only [Value.slice.injEq] at ee
  obtain ⟨rfl, rfl, rfl⟩ := ee
  obtain rfl : n = 2 := hnn
  obtain ⟨gL, oL, eL, hL5⟩ := h5 (by decide)
  obtain rfl := Option.some.inj eL
  have r0 := hL5 0 _ rfl 0 _ rfl
  have r1 := hL5 0 _ rfl 1 _ rfl
  have r2 := hL5 0 _ rfl 2 _ rfl
  have r3 := hL5 0 _ rfl 3 _ rfl
  have s0 := hL5 1 _ rfl 0 _ rfl
  have s1 := hL5 1 _ rfl 1 _ rfl
  have s2 := hL5 1 _ rfl 2 _ rfl
  have s3 := hL5 1 _ rfl 3 _ rfl
  have o0 := q4.cell 0 (by decide)
  have o1 := q4.cell 1 (by decide)
  have ez : LK.z = 4 := rfl
  simp only [Nat.zero_mul, Nat.one_mul, Nat.add_zero, ez] at r0 r1 r2 r3 s0 s1 s2 s3
  have ixl : ∀ wy : World, (Instr.indexAt 27 (.slice (some ⟨gL, oL, none⟩) 2 cc) (.int .i64 0)).run Try.prog wy = .ok (.pointer (some ⟨gL, oL, none⟩)) wy := fun wy => by simp [go_sem, Addr.add]
  have ixm : ∀ wy : World, (Instr.indexAt 27 (.slice (some ⟨gL, oL, none⟩) 2 cc) (.int .i64 1)).run Try.prog wy = .ok (.pointer (some ⟨gL, oL + 4, none⟩)) wy := fun wy => by simp [go_sem, Addr.add]
  clear hb hL5 h5 q4 T0 KI
  go_wp2_with fail
  go_returns
  exact ⟨rfl, K2.out⟩
end Go.Proofs.Ytmelbgabiklojaa
