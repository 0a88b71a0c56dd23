/- Law 13: both kinds of items; the reference's Least. Made by gen/linj.py. -/
import Derived.Test.YtbolifjkhoiphaaLinEG
import Derived.Test.YtbolifjkhoiphaaLinHI
import Derived.WalkKit
import Derived.WalkSpells
import Derived.WalkLawsBesides
import Derived.Handy
import Derived.Lib.Hide
import Derived.Deep.QuietTactic
import Derived.BigQuiet
import Derived.LoopTactic
import Derived.Outline
import Derived.Deep.RegionHeld3
import Derived.Deep.RegionWith
namespace Go.Proofs.Ytbolifjkhoiphaa
open Go.RowKit Go.Proofs.Reg Go.Proofs.Big Lin
set_option linter.unusedVariables false
set_option linter.unusedSimpArgs false
set_option maxRecDepth 100000
theorem slt_litem : SlT 24 55 4 (.agg #[.int .i64 0, .int .i64 0, .int .i64 0, .bool false]) 32 := ⟨Try.underlying24, by kernel_rfl, rfl, by decide, by decide⟩
theorem slt_item13 : SlT 25 90 4 (.agg #[.int .i64 0, .int .i64 0, .int .i64 0, .bool false]) 32 := ⟨Try.underlying25, by kernel_rfl, rfl, by decide, by decide⟩
set_option maxHeartbeats 8000000 in
theorem both13_any (a0 : Option Addr) (n c0 : Nat) (l : List I4) (w : World) (h : KS IK w (.slice a0 n c0) l) :
    Calls Try.prog 11 #[.slice a0 n c0] w fun e w' => ∃ u1 u2, e = .returned (.tuple #[u1, u2]) ∧ KS IK w' u1 (l.take 30) ∧ KS IK w' u2 (l.take 30) ∧ Below w.heap.size w w' := by
  obtain ⟨hn, hc, hm⟩ := h.len
  have HK := Lib.hid h
  have HN := Lib.hid hn
  clear h hn
  go_enter Try.func11, Try.ntmps11
  go_wp2_with fail
  go_loopw [4, 5, 6] (fun s4 s5 s6 wr => ∃ (j : Nat) (pe1 : Option Addr) (ce1 : Nat) (pe2 : Option Addr) (ce2 : Nat), s4 = .slice pe1 j ce1 ∧ s5 = .slice pe2 j ce2 ∧ s6 = .int .i64 j ∧ j ≤ n ∧ j ≤ 30 ∧ Hid (KM IK 55 w.heap.size w wr pe1 j ce1 (l.take j)) ∧ Hid (KM IK 90 w.heap.size w wr pe2 j ce2 (l.take j))) (fun _ _ s6 _ => 30 - (intOf s6).toNat)
  case atStart => exact ⟨0, none, 0, none, 0, rfl, rfl, rfl, by omega, by omega, Lib.hid (by rw [List.take_zero]; exact KM.start IK _ (Nat.le_refl _) (Below.refl _ _)), Lib.hid (by rw [List.take_zero]; exact KM.start IK _ (Nat.le_refl _) (Below.refl _ _))⟩
  case round =>
    obtain ⟨j, pe1, ce1, pe2, ce2, rfl, rfl, rfl, jn, j30, HM1, HM2⟩ := hrel
    by_cases lt : j < n ∧ j < 30
    · obtain ⟨l1, l2⟩ := lt
      have l1' : (j : Int) < (n : Int) := by omega
      have l2' : (j : Int) < 30 := by omega
      obtain ⟨g, o, a, b, c, d, rfl, hit, hr, y0, y1, y2, y3⟩ := IK.at HK.out l1
      have HR := Lib.hid hr
      have CL : Hid (∀ wy, Below w.heap.size w wy → wy.cell? ⟨g, o + j * 4, none⟩ = some (.int .i64 a) ∧ wy.cell? ⟨g, o + j * 4 + 1, none⟩ = some (.int .i64 b) ∧ wy.cell? ⟨g, o + j * 4 + 2, none⟩ = some (.int .i64 c) ∧ wy.cell? ⟨g, o + j * 4 + 3, none⟩ = some (.bool d)) := Lib.hid (fun wy hb => ⟨kcell_on hb y0, kcell_on hb y1, kcell_on hb y2, kcell_on hb y3⟩)
      have ix : ∀ wy : World, (Instr.indexAt 22 (.slice (some ⟨g, o, none⟩) n c0) (.int .i64 j)).run Try.prog wy = .ok (.pointer (some ⟨g, o + j * 4, none⟩)) wy := fun wy => by
        have k0 : (0 : Int) ≤ (j : Int) := by omega
        simp [go_sem, k0, l1', Addr.add]
        try omega
      clear hr hit y0 y1 y2 y3
      have D : Apart2 (⟨5, 6, 24, 55, 4, .agg #[.int .i64 0, .int .i64 0, .int .i64 0, .bool false], 32, .slice pe1 j ce1, j, IK.flat (l.take j), [.int .i64 a, .int .i64 b, .int .i64 c, .bool d]⟩ : Jb) (⟨12, 13, 25, 90, 4, .agg #[.int .i64 0, .int .i64 0, .int .i64 0, .bool false], 32, .slice pe2 j ce2, j, IK.flat (l.take j), [.int .i64 a, .int .i64 b, .int .i64 c, .bool d]⟩ : Jb) := ⟨⟨slt_litem, rfl, fun u hu => (by simp at hu; rcases hu with rfl | rfl | rfl | rfl <;> rfl), (by show j + 1 ≤ 1000000; omega), (show (5 : Nat) ≠ 6 by decide)⟩, ⟨slt_item13, rfl, fun u hu => (by simp at hu; rcases hu with rfl | rfl | rfl | rfl <;> rfl), (by show j + 1 ≤ 1000000; omega), (show (12 : Nat) ≠ 13 by decide)⟩, (show 55 ≠ 90 by decide), (show (5 : Nat) ≠ 12 by decide), (show (5 : Nat) ≠ 13 by decide), (show (6 : Nat) ≠ 12 by decide), (show (6 : Nat) ≠ 13 by decide)⟩
      have MB : Hid (Ap2 w.heap.size w (⟨5, 6, 24, 55, 4, .agg #[.int .i64 0, .int .i64 0, .int .i64 0, .bool false], 32, .slice pe1 j ce1, j, IK.flat (l.take j), [.int .i64 a, .int .i64 b, .int .i64 c, .bool d]⟩ : Jb) (⟨12, 13, 25, 90, 4, .agg #[.int .i64 0, .int .i64 0, .int .i64 0, .bool false], 32, .slice pe2 j ce2, j, IK.flat (l.take j), [.int .i64 a, .int .i64 b, .int .i64 c, .bool d]⟩ : Jb) (fun _ => false) (fun _ => undef) wr.drew) := Lib.hid ⟨HM1.out.bel.drew, HM1.out.lt, ⟨fun _ => HM1.out.own, fun h => (by cases h), fun h => (by cases h)⟩, ⟨fun _ => HM2.out.own, fun h => (by cases h), fun h => (by cases h)⟩⟩
      go_wp2_with fail
      refine wp_region_vals [some (.slice pe1 j ce1), some (.slice (some ⟨g, o, none⟩) n c0), some (.int .i64 (j : Int)), some (.pointer (some ⟨g, o + j * 4, none⟩)), some (.agg #[.int .i64 a, .int .i64 b, .int .i64 c, .bool d]), none, none, some (.slice pe2 j ce2), some (.slice (some ⟨g, o, none⟩) n c0), some (.int .i64 (j : Int)), some (.pointer (some ⟨g, o + j * 4, none⟩)), some (.agg #[.int .i64 a, .int .i64 b, .int .i64 c, .bool d]), none, none, none, none] (fun Lz vz wy => Ap2 w.heap.size w (⟨5, 6, 24, 55, 4, .agg #[.int .i64 0, .int .i64 0, .int .i64 0, .bool false], 32, .slice pe1 j ce1, j, IK.flat (l.take j), [.int .i64 a, .int .i64 b, .int .i64 c, .bool d]⟩ : Jb) (⟨12, 13, 25, 90, 4, .agg #[.int .i64 0, .int .i64 0, .int .i64 0, .bool false], 32, .slice pe2 j ce2, j, IK.flat (l.take j), [.int .i64 a, .int .i64 b, .int .i64 c, .bool d]⟩ : Jb) Lz vz wy ∧ Asn 14 6 Lz vz ∧ Asn 15 13 Lz vz)
        [some 17, some 18, some 19, some 20, some 21, some 22, some 23, some 24, some 25, some 26, some 27, some 28, some 29, some 30, some 4, some 5] (by kernel_rfl) (by kernel_rfl) (by kernel_rfl) (by kernel_rfl) (by kernel_rfl) (by kernel_rfl) ⟨MB.out, Asn.start 14 6 _, Asn.start 15 13 _⟩ (fun ie oe ho => ?_) (fun Lz vz wz hL hB => ?_)
      · match ie, ho with
        | 0, ho =>
          obtain rfl := Option.some.inj ho
          intro Az Lz vz wy Kz Ez hB k
          have e4 : Az.eval (.tmp 4) = .slice pe1 j ce1 := Ez.keep1 4 14 (Ez.late 14 _ rfl (by kernel_rfl)) (by kernel_rfl)
          exact wpo_val (v := .slice pe1 j ce1) (run_move e4) (k _ _ rfl (⟨hB.1.pure 0 _ (show (5 : Nat) ≠ 0 by decide) (show (6 : Nat) ≠ 0 by decide) (show (12 : Nat) ≠ 0 by decide) (show (13 : Nat) ≠ 0 by decide) (Below.refl _ _), hB.2.1.add 0 _ (by decide) (.inl (by decide)), hB.2.2.add 0 _ (by decide) (.inl (by decide))⟩))
        | 1, ho =>
          obtain rfl := Option.some.inj ho
          intro Az Lz vz wy Kz Ez hB k
          have e0 : Az.eval (.tmp 0) = .slice (some ⟨g, o, none⟩) n c0 := Ez.out 0 (by kernel_rfl)
          exact wpo_val (v := .slice (some ⟨g, o, none⟩) n c0) (run_move e0) (k _ _ rfl (⟨hB.1.pure 1 _ (show (5 : Nat) ≠ 1 by decide) (show (6 : Nat) ≠ 1 by decide) (show (12 : Nat) ≠ 1 by decide) (show (13 : Nat) ≠ 1 by decide) (Below.refl _ _), hB.2.1.add 1 _ (by decide) (.inl (by decide)), hB.2.2.add 1 _ (by decide) (.inl (by decide))⟩))
        | 2, ho =>
          obtain rfl := Option.some.inj ho
          intro Az Lz vz wy Kz Ez hB k
          have e6 : Az.eval (.tmp 6) = .int .i64 (j : Int) := Ez.out 6 (by kernel_rfl)
          exact wpo_val (v := .int .i64 (j : Int)) (run_move e6) (k _ _ rfl (⟨hB.1.pure 2 _ (show (5 : Nat) ≠ 2 by decide) (show (6 : Nat) ≠ 2 by decide) (show (12 : Nat) ≠ 2 by decide) (show (13 : Nat) ≠ 2 by decide) (Below.refl _ _), hB.2.1.add 2 _ (by decide) (.inl (by decide)), hB.2.2.add 2 _ (by decide) (.inl (by decide))⟩))
        | 3, ho =>
          obtain rfl := Option.some.inj ho
          intro Az Lz vz wy Kz Ez hB k
          have e18 : Az.eval (.tmp 18) = .slice (some ⟨g, o, none⟩) n c0 := Ez.dep 1 18 (by kernel_rfl) rfl
          have e19 : Az.eval (.tmp 19) = .int .i64 (j : Int) := Ez.dep 2 19 (by kernel_rfl) rfl
          exact wpo_val (v := .pointer (some ⟨g, o + j * 4, none⟩)) (run_index e18 e19 (ix wy)) (k _ _ rfl (⟨hB.1.pure 3 _ (show (5 : Nat) ≠ 3 by decide) (show (6 : Nat) ≠ 3 by decide) (show (12 : Nat) ≠ 3 by decide) (show (13 : Nat) ≠ 3 by decide) (Below.refl _ _), hB.2.1.add 3 _ (by decide) (.inl (by decide)), hB.2.2.add 3 _ (by decide) (.inl (by decide))⟩))
        | 4, ho =>
          obtain rfl := Option.some.inj ho
          intro Az Lz vz wy Kz Ez hB k
          have e20 : Az.eval (.tmp 20) = .pointer (some ⟨g, o + j * 4, none⟩) := Ez.dep 3 20 (by kernel_rfl) rfl
          have q0 := (CL.out wy hB.1.bel).1
          have q1 := (CL.out wy hB.1.bel).2.1
          have q2 := (CL.out wy hB.1.bel).2.2.1
          have q3 := (CL.out wy hB.1.bel).2.2.2
          exact wpo_val (v := .agg #[.int .i64 a, .int .i64 b, .int .i64 c, .bool d]) (run_load e20 (by simp [go_sem, q0, q1, q2, q3])) (k _ _ rfl (⟨hB.1.pure 4 _ (show (5 : Nat) ≠ 4 by decide) (show (6 : Nat) ≠ 4 by decide) (show (12 : Nat) ≠ 4 by decide) (show (13 : Nat) ≠ 4 by decide) (Below.refl _ _), hB.2.1.add 4 _ (by decide) (.inl (by decide)), hB.2.2.add 4 _ (by decide) (.inl (by decide))⟩))
        | 5, ho =>
          obtain rfl := Option.some.inj ho
          intro Az Lz vz wy Kz Ez hB k
          have e21 : Az.eval (.tmp 21) = .agg #[.int .i64 a, .int .i64 b, .int .i64 c, .bool d] := Ez.dep 4 21 (by kernel_rfl) rfl
          exact wpo_val (run_bsl1 e21 (by simp [go_sem])) (k _ _ trivial ⟨hB.1.build D (Ez.late 6 _ rfl (by kernel_rfl)), hB.2.1.add 5 _ (by decide) (.inl (by decide)), hB.2.2.add 5 _ (by decide) (.inl (by decide))⟩)
        | 6, ho =>
          obtain rfl := Option.some.inj ho
          intro Az Lz vz wy Kz Ez hB k
          have e17 : Az.eval (.tmp 17) = .slice pe1 j ce1 := Ez.dep 0 17 (by kernel_rfl) rfl
          have e22 : Az.eval (.tmp 22) = vz 5 := Ez.dep 5 22 (by kernel_rfl) rfl
          obtain ⟨x, v', w', hx, r, hB'⟩ := hB.1.app D Ez.not (Ez.had 5 (by kernel_rfl)) 24
          exact wpo_val (run_app2 e17 (e22.trans hx) r) (k _ _ trivial ⟨hB', hB.2.1.add 6 _ (by decide) (.inr Ez.not), hB.2.2.add 6 _ (by decide) (.inl (by decide))⟩)
        | 7, ho =>
          obtain rfl := Option.some.inj ho
          intro Az Lz vz wy Kz Ez hB k
          have e5 : Az.eval (.tmp 5) = .slice pe2 j ce2 := Ez.keep1 5 15 (Ez.late 15 _ rfl (by kernel_rfl)) (by kernel_rfl)
          exact wpo_val (v := .slice pe2 j ce2) (run_move e5) (k _ _ rfl (⟨hB.1.pure 7 _ (show (5 : Nat) ≠ 7 by decide) (show (6 : Nat) ≠ 7 by decide) (show (12 : Nat) ≠ 7 by decide) (show (13 : Nat) ≠ 7 by decide) (Below.refl _ _), hB.2.1.add 7 _ (by decide) (.inl (by decide)), hB.2.2.add 7 _ (by decide) (.inl (by decide))⟩))
        | 8, ho =>
          obtain rfl := Option.some.inj ho
          intro Az Lz vz wy Kz Ez hB k
          have e0 : Az.eval (.tmp 0) = .slice (some ⟨g, o, none⟩) n c0 := Ez.out 0 (by kernel_rfl)
          exact wpo_val (v := .slice (some ⟨g, o, none⟩) n c0) (run_move e0) (k _ _ rfl (⟨hB.1.pure 8 _ (show (5 : Nat) ≠ 8 by decide) (show (6 : Nat) ≠ 8 by decide) (show (12 : Nat) ≠ 8 by decide) (show (13 : Nat) ≠ 8 by decide) (Below.refl _ _), hB.2.1.add 8 _ (by decide) (.inl (by decide)), hB.2.2.add 8 _ (by decide) (.inl (by decide))⟩))
        | 9, ho =>
          obtain rfl := Option.some.inj ho
          intro Az Lz vz wy Kz Ez hB k
          have e6 : Az.eval (.tmp 6) = .int .i64 (j : Int) := Ez.out 6 (by kernel_rfl)
          exact wpo_val (v := .int .i64 (j : Int)) (run_move e6) (k _ _ rfl (⟨hB.1.pure 9 _ (show (5 : Nat) ≠ 9 by decide) (show (6 : Nat) ≠ 9 by decide) (show (12 : Nat) ≠ 9 by decide) (show (13 : Nat) ≠ 9 by decide) (Below.refl _ _), hB.2.1.add 9 _ (by decide) (.inl (by decide)), hB.2.2.add 9 _ (by decide) (.inl (by decide))⟩))
        | 10, ho =>
          obtain rfl := Option.some.inj ho
          intro Az Lz vz wy Kz Ez hB k
          have e25 : Az.eval (.tmp 25) = .slice (some ⟨g, o, none⟩) n c0 := Ez.dep 8 25 (by kernel_rfl) rfl
          have e26 : Az.eval (.tmp 26) = .int .i64 (j : Int) := Ez.dep 9 26 (by kernel_rfl) rfl
          exact wpo_val (v := .pointer (some ⟨g, o + j * 4, none⟩)) (run_index e25 e26 (ix wy)) (k _ _ rfl (⟨hB.1.pure 10 _ (show (5 : Nat) ≠ 10 by decide) (show (6 : Nat) ≠ 10 by decide) (show (12 : Nat) ≠ 10 by decide) (show (13 : Nat) ≠ 10 by decide) (Below.refl _ _), hB.2.1.add 10 _ (by decide) (.inl (by decide)), hB.2.2.add 10 _ (by decide) (.inl (by decide))⟩))
        | 11, ho =>
          obtain rfl := Option.some.inj ho
          intro Az Lz vz wy Kz Ez hB k
          have e27 : Az.eval (.tmp 27) = .pointer (some ⟨g, o + j * 4, none⟩) := Ez.dep 10 27 (by kernel_rfl) rfl
          have q0 := (CL.out wy hB.1.bel).1
          have q1 := (CL.out wy hB.1.bel).2.1
          have q2 := (CL.out wy hB.1.bel).2.2.1
          have q3 := (CL.out wy hB.1.bel).2.2.2
          exact wpo_val (v := .agg #[.int .i64 a, .int .i64 b, .int .i64 c, .bool d]) (run_load e27 (by simp [go_sem, q0, q1, q2, q3])) (k _ _ rfl (⟨hB.1.pure 11 _ (show (5 : Nat) ≠ 11 by decide) (show (6 : Nat) ≠ 11 by decide) (show (12 : Nat) ≠ 11 by decide) (show (13 : Nat) ≠ 11 by decide) (Below.refl _ _), hB.2.1.add 11 _ (by decide) (.inl (by decide)), hB.2.2.add 11 _ (by decide) (.inl (by decide))⟩))
        | 12, ho =>
          obtain rfl := Option.some.inj ho
          intro Az Lz vz wy Kz Ez hB k
          have e28 : Az.eval (.tmp 28) = .agg #[.int .i64 a, .int .i64 b, .int .i64 c, .bool d] := Ez.dep 11 28 (by kernel_rfl) rfl
          exact wpo_val (run_bsl1 e28 (by simp [go_sem])) (k _ _ trivial ⟨hB.1.build' D (Ez.late 13 _ rfl (by kernel_rfl)), hB.2.1.add 12 _ (by decide) (.inl (by decide)), hB.2.2.add 12 _ (by decide) (.inl (by decide))⟩)
        | 13, ho =>
          obtain rfl := Option.some.inj ho
          intro Az Lz vz wy Kz Ez hB k
          have e24 : Az.eval (.tmp 24) = .slice pe2 j ce2 := Ez.dep 7 24 (by kernel_rfl) rfl
          have e29 : Az.eval (.tmp 29) = vz 12 := Ez.dep 12 29 (by kernel_rfl) rfl
          obtain ⟨x, v', w', hx, r, hB'⟩ := hB.1.app' D Ez.not (Ez.had 12 (by kernel_rfl)) 25
          exact wpo_val (run_app2 e24 (e29.trans hx) r) (k _ _ trivial ⟨hB', hB.2.1.add 13 _ (by decide) (.inl (by decide)), hB.2.2.add 13 _ (by decide) (.inr Ez.not)⟩)
        | 14, ho =>
          obtain rfl := Option.some.inj ho
          intro Az Lz vz wy Kz Ez hB k
          have e23 : Az.eval (.tmp 23) = vz 6 := Ez.dep 6 23 (by kernel_rfl) rfl
          exact wpo_val (run_assign e23) (k _ _ trivial ⟨hB.1.pure 14 _ (show (5 : Nat) ≠ 14 by decide) (show (6 : Nat) ≠ 14 by decide) (show (12 : Nat) ≠ 14 by decide) (show (13 : Nat) ≠ 14 by decide) (Below.refl _ _), Asn.put (by decide) (Ez.had 6 (by kernel_rfl)), hB.2.2.add 14 _ (by decide) (.inl (by decide))⟩)
        | 15, ho =>
          obtain rfl := Option.some.inj ho
          intro Az Lz vz wy Kz Ez hB k
          have e30 : Az.eval (.tmp 30) = vz 13 := Ez.dep 13 30 (by kernel_rfl) rfl
          exact wpo_val (run_assign e30) (k _ _ trivial ⟨hB.1.pure 15 _ (show (5 : Nat) ≠ 15 by decide) (show (6 : Nat) ≠ 15 by decide) (show (12 : Nat) ≠ 15 by decide) (show (13 : Nat) ≠ 15 by decide) (Below.refl _ _), hB.2.1.add 15 _ (by decide) (.inl (by decide)), Asn.put (by decide) (Ez.had 13 (by kernel_rfl))⟩)
        | ne + 16, ho => simp at ho
      obtain ⟨x1, d1, hv6, o1⟩ := hB.1.j.2.1 (hL 6 (by decide))
      obtain ⟨x2, d2, hv13, o2⟩ := hB.1.j'.2.1 (hL 13 (by decide))
      have hv14 := (hB.2.1 (hL 14 (by decide))).2
      have hv15 := (hB.2.2 (hL 15 (by decide))).2
      rw [hv6] at hv14
      rw [hv13] at hv15
      have TK : l.take (j + 1) = l.take j ++ [(a, b, c, d)] := by rw [List.take_add_one, HR.out]; rfl
      have M1 : Hid (KM IK 55 w.heap.size w wz x1 (j + 1) d1 (l.take (j + 1))) := Lib.hid ⟨by rw [TK, IK.flat_append, IK.flat_one1]; exact o1, hB.1.lt, by rw [List.length_take]; have := HN.out; omega, hB.1.bel⟩
      have M2 : Hid (KM IK 90 w.heap.size w wz x2 (j + 1) d2 (l.take (j + 1))) := Lib.hid ⟨by rw [TK, IK.flat_append, IK.flat_one1]; exact o2, hB.1.lt, by rw [List.length_take]; have := HN.out; omega, hB.1.bel⟩
      simp only [puts2, mix, Act.put, List.setIfInBounds_toArray, List.set_cons_zero, List.set_cons_succ, Nat.zero_add, Nat.reduceAdd, List.getElem?_cons_zero, List.getElem?_cons_succ, hv14, hv15]
      clear hL hB hv6 hv13 hv14 hv15 o1 o2 TK MB D HM1 HM2 ix
      go_wp2_with fail
      go_roundw
      case rel => exact ⟨j + 1, x1, d1, x2, d2, rfl, rfl, by simp, by omega, by omega, M1, M2⟩
      case measure => simp [intOf]; omega
    · have TK : Hid (l.take j = l.take 30) := Lib.hid (by
        by_cases e : j = 30
        · rw [e]
        · rw [List.take_of_length_le (by have := HN.out; omega), List.take_of_length_le (by have := HN.out; omega)])
      have F1 : Hid (KS IK wr (.slice pe1 j ce1) (l.take 30)) := Lib.hid (by rw [← TK.out]; exact HM1.out.ks (by decide))
      have F2 : Hid (KS IK wr (.slice pe2 j ce2) (l.take 30)) := Lib.hid (by rw [← TK.out]; exact HM2.out.ks (by decide))
      have q2 : (¬ (j : Int) < (n : Int)) ∨ ((j : Int) < (n : Int) ∧ ¬ (j : Int) < 30) := by
        by_cases e : j < n
        · exact .inr ⟨by omega, by omega⟩
        · exact .inl (by omega)
      clear lt
      rcases q2 with q2 | ⟨q2, q3⟩
      all_goals
        go_wp2_with fail
        go_returns
        exact ⟨_, _, rfl, F1.out, F2.out, HM1.out.bel⟩
set_option maxHeartbeats 8000000 in
theorem r13least_any (a : Option Addr) (n c : Nat) (l : List I4) (v er : Int) (hl : n ≤ 200000) (hi : ∀ r ∈ l, InI r) (hts : Ts (leastE l 0 0) v er) (w : World) (h : KS IK w (.slice a n c) l) :
    Calls Try.prog 20 #[.slice a n c] w fun e w' => e = .returned (.tuple #[.int .i64 v, .int .i64 er]) ∧ Below w.heap.size w w' := by
  obtain ⟨hn, hc, hm⟩ := h.len
  have WD := Lib.hid (fun f b v er hf hb ht w h => r13width_any a n c l f b v er hf hb (by omega) hi ht w h)
  have HK := Lib.hid h
  have HN := Lib.hid hn
  have HT := Lib.hid hts
  obtain ⟨R, hR⟩ : ∃ R, leastE l 0 0 = R := ⟨_, rfl⟩
  have HR := Lib.hid hR
  clear h hi hn hR hts
  go_enter Try.func20, Try.ntmps20
  go_wp2_with fail
  refine (r13ends_any a n c l (by omega) _ HK.out).mono ?_
  rintro e w1 ⟨u, rfl, hE, hb⟩
  obtain ⟨E, hEE⟩ : ∃ E, endsE l 0 = E := ⟨_, rfl⟩
  rw [hEE] at hE
  obtain ⟨ea, en, ec, rfl, hen, _, _, _⟩ := id hE
  have HE := Lib.hid hE
  have HEE := Lib.hid hEE
  have HEN := Lib.hid hen
  have en0 : en ≤ n := by have := endsE_len l (l.length - 0) 0 rfl; rw [hEE] at this; have := HN.out; omega
  have K1 := Lib.hid hb
  clear hE hEE hen hb
  go_wp2_with fail
  go_loopw [5, 6, 7] (fun s5 s6 s7 wr => ∃ (f k : Nat) (m : Int), s5 = .int .i64 f ∧ s6 = .int .i64 m ∧ s7 = .int .i64 k ∧ f ≤ n ∧ k ≤ en ∧ (k = 0 ↔ f = 0) ∧ Hid (E.drop k = endsE l f) ∧ Hid (leastE l f m = R) ∧ Hid (Below w1.heap.size w1 wr)) (fun _ _ s7 _ => en - (intOf s7).toNat)
  case atStart => exact ⟨0, 0, 0, rfl, rfl, rfl, by omega, by omega, by simp, Lib.hid (by rw [List.drop_zero]; exact HEE.out.symm), HR, Lib.hid (Below.refl _ _)⟩
  case round =>
    obtain ⟨f, k, m, rfl, rfl, rfl, fn, ken, kf, ED, ER, HB⟩ := hrel
    by_cases lt : k < en
    · have lt' : (k : Int) < (en : Int) := by omega
      obtain ⟨fl, ek, ed⟩ := ends_drop ED.out (show k < E.length by have := HEN.out; omega)
      have sg := segE_le l f (by omega)
      have s1 : segE l f ≤ n := by have := HN.out; omega
      have s2 : f < segE l f := sg.2 fl
      obtain ⟨ge, oe, rfl, ce0⟩ := KS.at1 (HE.out.later HB.out) ek
      have CE : Hid (∀ wy, Below w1.heap.size w1 wy → wy.cell? ⟨ge, oe + k, none⟩ = some (.int .i64 (segE l f : Nat))) := Lib.hid (fun wy hb => by
        obtain ⟨g', o', e', c'⟩ := KS.at1 (HE.out.later hb) ek
        simp only [Option.some.injEq, Addr.mk.injEq] at e'
        obtain ⟨rfl, rfl, _⟩ := e'
        exact c')
      have ix : ∀ wy : World, (Instr.indexAt 97 (.slice (some ⟨ge, oe, none⟩) en ec) (.int .i64 k)).run Try.prog wy = .ok (.pointer (some ⟨ge, oe + k, none⟩)) wy := fun wy => by
        have k0 : (0 : Int) ≤ (k : Int) := by omega
        simp [go_sem, k0, lt', Addr.add]
        try omega
      have ED2 := Lib.hid ed
      obtain ⟨v1, er1, ht⟩ := ts_ex (wid l f (segE l f))
      have WD0 := Lib.hid (WD.out f (segE l f) v1 er1 (by omega) s1 ht)
      cases hw : wid l f (segE l f) with
      | none =>
        rw [hw] at ht
        obtain ⟨rfl, rfl⟩ := ht
        have hRn : R = none := by rw [← ER.out]; exact leastE_none l f m (by have := HN.out; omega) hw
        have hve : v = 0 ∧ er = 2 := by
          have := HT.out
          rw [HR.out, hRn] at this
          exact this
        obtain ⟨rfl, rfl⟩ := hve
        clear hw ek ed sg
        go_wp2_with fail
        refine (WD0.out _ (HK.out.later (bel_tr0 K1.out HB.out))).mono ?_
        rintro e w2 ⟨rfl, hb⟩
        have FIN : Hid (Below w.heap.size w w2) := Lib.hid (bel_tr0 K1.out (bel_tr0 HB.out hb))
        clear hb ce0
        go_wp2_with fail
        go_returns
        exact ⟨rfl, FIN.out⟩
      | some x =>
        rw [hw] at ht
        obtain ⟨rfl, rfl⟩ := ht
        have ER2 : Hid (leastE l (segE l f) (if f = 0 ∨ m < v1 then v1 else m) = R) := Lib.hid (by rw [← ER.out, leastE_some l f m v1 (by have := HN.out; omega) hw])
        obtain ⟨tt, htt⟩ : ∃ tt, segE l f = tt := ⟨_, rfl⟩
        rw [htt] at ER2 ED2 CE s1 s2 WD0 ce0
        clear hw ek ed sg htt
        go_wp2_with fail
        refine (WD0.out _ (HK.out.later (bel_tr0 K1.out HB.out))).mono ?_
        rintro e w2 ⟨rfl, hb⟩
        have B2 := Lib.hid (bel_tr0 HB.out hb)
        clear hb ce0
        have ce0 := CE.out w2 B2.out
        by_cases z : k = 0
        · have f0 := kf.1 z
          subst z f0
          simp only [Nat.add_zero] at ce0
          have ER3 : Hid (leastE l tt v1 = R) := Lib.hid (by have := ER2.out; rwa [if_pos (.inl rfl)] at this)
          go_wp2_with fail
          go_roundw
          case rel => exact ⟨tt, 1, v1, rfl, rfl, rfl, s1, by omega, by omega, ED2, ER3, B2⟩
          case measure => simp [intOf]; omega
        · have f0 : f ≠ 0 := fun e => z (kf.2 e)
          have zb : ((k : Int) == 0) = false := by simpa using z
          by_cases cm : m < v1
          · have ER3 : Hid (leastE l tt v1 = R) := Lib.hid (by have := ER2.out; rwa [if_pos (.inr cm)] at this)
            go_wp2_with fail
            go_roundw
            case rel => exact ⟨tt, k + 1, v1, rfl, rfl, by simp, s1, by omega, by omega, ED2, ER3, B2⟩
            case measure => simp [intOf]; omega
          · have ER3 : Hid (leastE l tt m = R) := Lib.hid (by have := ER2.out; rwa [if_neg (by omega)] at this)
            go_wp2_with fail
            go_roundw
            case rel => exact ⟨tt, k + 1, m, rfl, rfl, by simp, s1, by omega, by omega, ED2, ER3, B2⟩
            case measure => simp [intOf]; omega
    · obtain rfl : k = en := by omega
      have nl := ends_done ED.out (by have := HEN.out; omega)
      have hRs : R = some m := by rw [← ER.out]; exact leastE_out l f m nl
      have hve : v = m ∧ er = 0 := by
        have := HT.out
        rw [HR.out, hRs] at this
        exact this
      obtain ⟨rfl, rfl⟩ := hve
      have FIN : Hid (Below w.heap.size w wr) := Lib.hid (bel_tr0 K1.out HB.out)
      go_wp2_with fail
      go_returns
      exact ⟨rfl, FIN.out⟩
theorem KS.aside {α : Type} {K : Rk α} {w : World} {v : Value} {rs : List α} (h : KS K w v rs) {b : Nat} (hb : ∀ (p : Addr) (n c : Nat), v = .slice (some p) n c → p.block ≠ b) (i : Nat) (u : Value) : KS K (w.setCell ⟨b, i, none⟩ u) v rs := by
  obtain ⟨a, n, c, rfl, hn, hc, hm, h5⟩ := h
  refine ⟨a, n, c, rfl, hn, hc, hm, fun q => ?_⟩
  obtain ⟨g, o, rfl, hk⟩ := h5 q
  refine ⟨g, o, rfl, fun k r hr j x hx => ?_⟩
  rw [World.cell?_setCell_other (h := fun e => by injection e with e _; exact hb _ _ _ rfl e.symm)]
  exact hk k r hr j x hx
end Go.Proofs.Ytbolifjkhoiphaa
/- Law 13: what it speaks. -/
namespace Go.Proofs.Ytbolifjkhoiphaa
open Go.RowKit Go.Proofs.Reg Go.Proofs.Big Lin
set_option linter.unusedVariables false
set_option linter.unusedSimpArgs false
set_option maxRecDepth 100000
def l3 : List I4 := [(30, 5, 0, true), (30, 5, 0, true), (30, 5, 9, false)]
theorem l3_s0 : segE l3 0 = 1 := segE_brk l3 0 (by decide) (by decide)
theorem l3_s1 : segE l3 1 = 2 := segE_brk l3 1 (by decide) (by decide)
theorem l3_s2 : segE l3 2 = 3 := (segE_next l3 2 (by decide) (by decide)).trans (segE_out l3 3 (by decide))
theorem l3_f0 : firstE l3 70 0 = some (2, 65) := by
  have w1 : wid l3 0 1 = some 30 := by decide +kernel
  rw [firstE, l3_s0, w1]
  show lineE l3 70 0 1 30 = _
  rw [lineE_more l3 70 0 1 30 65 (by decide) (by rw [l3_s1]; decide +kernel) (by decide), l3_s1, lineE_stop l3 70 0 2 65 100 (by decide) (by rw [l3_s2]; decide +kernel) (by decide)]
theorem l3_f2 : firstE l3 70 2 = some (3, 30) := by
  have w1 : wid l3 2 3 = some 30 := by decide +kernel
  rw [firstE, l3_s2, w1]
  show lineE l3 70 2 3 30 = _
  rw [lineE_out l3 70 2 3 30 (by decide)]
theorem l3_fill : fillE l3 70 4 0 = some [(0, 2, 65, 4), (2, 3, 30, 9)] := by
  rw [fillE_some l3 70 4 0 (2, 65) (by decide) l3_f0]
  show (fillE l3 70 4 2).map _ = _
  rw [fillE_some l3 70 4 2 (3, 30) (by decide) l3_f2]
  show ((fillE l3 70 4 3).map _).map _ = _
  rw [fillE_out l3 70 4 3 (by decide)]
  decide +kernel
theorem l3_in : ∀ r ∈ l3, InI r := by
  intro r hr
  simp only [l3, List.mem_cons, List.not_mem_nil, or_false] at hr
  rcases hr with rfl | rfl | rfl <;> exact ⟨⟨by decide, by decide⟩, ⟨by decide, by decide⟩, by decide, by decide⟩
theorem fill3 (a : Option Addr) (c : Nat) (w : World) (h : KS IK w (.slice a 3 c) l3) : Calls Try.prog 14 #[.slice a 3 c, .int .i64 70, .int .i64 4] w fun e w' => (∃ p n cc, e = .returned (.slice (some p) n cc) ∧ KS LK w' (.slice (some p) n cc) [(0, 2, 65, 4), (2, 3, 30, 9)] ∧ w.heap.size ≤ p.block) ∧ Below w.heap.size w w' := by
  refine (lfill_any a 3 c l3 70 4 (by decide) ⟨by decide, by decide⟩ ⟨by decide, by decide⟩ l3_in w h).mono ?_
  rintro e w' ⟨hf, hb⟩
  rw [l3_fill] at hf
  obtain ⟨u, rfl, hk, hp⟩ := hf
  obtain ⟨aa, nn, cc, rfl, hn, _, _, h5⟩ := id hk
  obtain ⟨g, o, rfl, _⟩ := h5 (by rw [hn]; decide)
  exact ⟨⟨_, nn, cc, rfl, hk, hp _ _ _ rfl⟩, hb⟩
theorem offs3 (a : Option Addr) (c : Nat) (w : World) (h : KS IK w (.slice a 3 c) l3) : Calls Try.prog 23 #[.slice a 3 c, .agg #[.int .i64 0, .int .i64 2, .int .i64 65, .int .i64 4], .int .i64 71, .int .i64 4] w fun e w' => (∃ b, e = .returned (.slice (some ⟨b, 0, none⟩) 2 2) ∧ w.heap.size ≤ b ∧ OwnI w' b [0, 41]) ∧ Below w.heap.size w w' := by
  have := loffs_any a 3 c l3 0 1 65 4 71 4 6 0 true (by decide) (by decide) ⟨by decide, by decide⟩ ⟨by decide, by decide⟩ (.inl ⟨by decide, rfl, rfl⟩) (by decide) l3_in w h
  refine Calls.mono (show Calls Try.prog 23 #[.slice a 3 c, .agg #[.int .i64 0, .int .i64 2, .int .i64 65, .int .i64 4], .int .i64 71, .int .i64 4] w _ from this) ?_
  rintro e w' ⟨hf, hb⟩
  rw [if_pos rfl, show offs l3 0 (gapsF 6 1 true) 1 0 (indF 6 4) = some [0, 41] by decide +kernel] at hf
  obtain ⟨b, rfl, h1, _, h2⟩ := hf
  exact ⟨⟨b, rfl, h1, h2⟩, hb⟩
/-- what the region of the law's closure keeps that asks for the offsets -/
structure SpkB (w2 : World) (g3 : Nat) (L : Nat → Bool) (vz : Nat → Value) (wy : World) : Prop where
  pre : L 5 = false → Below w2.heap.size w2 wy
  ans : L 4 = true → ∃ b, vz 4 = .slice (some ⟨b, 0, none⟩) 2 2 ∧ w2.heap.size ≤ b ∧ (L 5 = false → OwnI wy b [0, 41])
  fin : L 5 = true → ∃ wy0 b, Below w2.heap.size w2 wy0 ∧ OwnI wy0 b [0, 41] ∧ w2.heap.size ≤ b ∧ wy = wy0.setCell ⟨g3, 0, none⟩ (.slice (some ⟨b, 0, none⟩) 2 2)
theorem SpkB.start (w2 : World) (g3 : Nat) : SpkB w2 g3 (fun _ => false) (fun _ => undef) w2.drew := ⟨fun _ => (Below.refl _ _).drew, fun h => (by cases h), fun h => (by cases h)⟩
theorem SpkB.pure {w2 : World} {g3 : Nat} {L : Nat → Bool} {vz : Nat → Value} {wy w' : World} (h : SpkB w2 g3 L vz wy) (i : Nat) (v : Value) (z : L 5 = false) (n4 : 4 ≠ i) (n5 : 5 ≠ i) (hb : Below wy.heap.size wy w') : SpkB w2 g3 (addL L i) (upd vz i v) w' := by
  have a4 : addL L i 4 = L 4 := by simp [addL, n4]
  have a5 : addL L i 5 = L 5 := by simp [addL, n5]
  have u4 : upd vz i v 4 = vz 4 := by simp [upd, n4]
  refine ⟨fun _ => bel_tr0 (h.pre z) hb, fun q => ?_, fun q => ?_⟩
  · obtain ⟨b, e, hb0, ho⟩ := h.ans (a4 ▸ q)
    exact ⟨b, u4.trans e, hb0, fun _ => (ho z).later hb⟩
  · rw [a5, z] at q; cases q
theorem SpkB.ret {w2 : World} {g3 : Nat} {L : Nat → Bool} {vz : Nat → Value} {wy w' : World} (h : SpkB w2 g3 L vz wy) (z : L 5 = false) (hb : Below wy.heap.size wy w') {b : Nat} (hb0 : wy.heap.size ≤ b) (ho : OwnI w' b [0, 41]) : SpkB w2 g3 (addL L 4) (upd vz 4 (.slice (some ⟨b, 0, none⟩) 2 2)) w' :=
  ⟨fun _ => bel_tr0 (h.pre z) hb, fun _ => ⟨b, by simp [upd], Nat.le_trans (h.pre z).size hb0, fun _ => ho⟩, fun q => by rw [show addL L 4 5 = L 5 by simp [addL], z] at q; cases q⟩
theorem SpkB.put {w2 : World} {g3 : Nat} {L : Nat → Bool} {vz : Nat → Value} {wy : World} {v : Value} (h : SpkB w2 g3 L vz wy) (z : L 5 = false) (y : L 4 = true) : SpkB w2 g3 (addL L 5) (upd vz 5 v) (wy.setCell ⟨g3, 0, none⟩ (vz 4)) := by
  obtain ⟨b, e, hb0, ho⟩ := h.ans y
  refine ⟨fun q => by simp [addL] at q, fun _ => ⟨b, by simpa [upd] using e, hb0, fun q => by simp [addL] at q⟩, fun _ => ⟨wy, b, h.pre z, ho z, hb0, by rw [e]⟩⟩
set_option maxHeartbeats 4000000 in
theorem spk13_in (g1 g2 g3 c : Nat) (a : Option Addr) (w : World) (h1 : w.cell? ⟨g1, 0, none⟩ = some (.slice a 3 c)) (hk : KS IK w (.slice a 3 c) l3) (v2 : Var w ⟨g2, 0, none⟩ (.slice none 0 0)) (v3 : Var w ⟨g3, 0, none⟩ (.slice none 0 0)) (n12 : g1 ≠ g2) (n13 : g1 ≠ g3) (n23 : g2 ≠ g3) (ka : ∀ p : Addr, a = some p → p.block ≠ g2 ∧ p.block ≠ g3) :
    Calls Try.prog 40 #[.pointer (some ⟨g1, 0, none⟩), .pointer (some ⟨g2, 0, none⟩), .pointer (some ⟨g3, 0, none⟩)] w fun e w' => e = .returned (.tuple #[]) ∧ But [g2, g3] w w' ∧ ∃ p n cc b, w'.cell? ⟨g2, 0, none⟩ = some (.slice (some p) n cc) ∧ KS LK w' (.slice (some p) n cc) [(0, 2, 65, 4), (2, 3, 30, 9)] ∧ w'.cell? ⟨g3, 0, none⟩ = some (.slice (some ⟨b, 0, none⟩) 2 2) ∧ OwnI w' b [0, 41] ∧ w.heap.size ≤ p.block ∧ w.heap.size ≤ b := by
  have HK := Lib.hid hk
  have V2 := Lib.hid v2
  have V3 := Lib.hid v3
  have H1 := Lib.hid h1
  have FI := Lib.hid (fill3 a c)
  have OF := Lib.hid (offs3 a c)
  have KA := Lib.hid ka
  have lg2 : g2 < w.heap.size := v2.lt
  have lg3 : g3 < w.heap.size := v3.lt
  clear hk v2 v3 ka
  go_enter Try.func40, Try.ntmps40
  go_wp2_with fail
  refine (FI.out _ HK.out).mono ?_
  rintro e w1 ⟨⟨p, n, cc, rfl, hkl, hp⟩, hb⟩
  have B1 := Lib.hid hb
  have KL := Lib.hid hkl
  have W2 := Lib.hid (V2.out.later hb)
  have W3 := Lib.hid (V3.out.later hb)
  have HP := Lib.hid hp
  have HK1 := Lib.hid (HK.out.later hb)
  obtain ⟨e2, z2⟩ := W2.out
  have e1 := kcell_on hb h1
  have n21 : ¬ g2 = g1 := fun h => n12 h.symm
  have n31 : ¬ g3 = g1 := fun h => n13 h.symm
  have n32 : ¬ g3 = g2 := fun h => n23 h.symm
  have KL2 : Hid (KS LK (w1.setCell ⟨g2, 0, none⟩ (.slice (some p) n cc)) (.slice (some p) n cc) [(0, 2, 65, 4), (2, 3, 30, 9)]) := Lib.hid (KS.aside hkl (fun q _ _ e => by cases e; omega) 0 _)
  have HK2 : Hid (KS IK (w1.setCell ⟨g2, 0, none⟩ (.slice (some p) n cc)) (.slice a 3 c) l3) := Lib.hid (KS.aside HK1.out (fun q _ _ e => by cases e; exact (KA.out _ rfl).1) 0 _)
  have C1 : (w1.setCell ⟨g2, 0, none⟩ (.slice (some p) n cc)).cell? ⟨g1, 0, none⟩ = some (.slice a 3 c) := by
    rw [World.cell?_setCell_other (h := fun e => by injection e with e _; exact n12 e.symm)]; exact e1
  have W22 : Hid (Var (w1.setCell ⟨g2, 0, none⟩ (.slice (some p) n cc)) ⟨g2, 0, none⟩ (.slice (some p) n cc)) := Lib.hid (W2.out.set _)
  have W32 : Hid (Var (w1.setCell ⟨g2, 0, none⟩ (.slice (some p) n cc)) ⟨g3, 0, none⟩ (.slice none 0 0)) := Lib.hid (W3.out.other (fun e => by injection e with e _; exact n23 e) _)
  have U2 : Hid (But [g2, g3] w (w1.setCell ⟨g2, 0, none⟩ (.slice (some p) n cc))) := Lib.hid ((But.of (bs := [g2, g3]) hb).setCell (.inl (by simp)) _)
  have sz : (w1.setCell ⟨g2, 0, none⟩ (.slice (some p) n cc)).heap.size = w1.heap.size := by simp [World.setCell]
  have s1 := hb.size
  clear hb hkl hp
  obtain ⟨w2, hw2⟩ : ∃ w2, w1.setCell ⟨g2, 0, none⟩ (.slice (some p) n cc) = w2 := ⟨_, rfl⟩
  rw [hw2] at KL2 HK2 C1 W22 W32 U2 sz
  obtain ⟨_, _, _, ee, hnn, _, _, h5⟩ := id KL2.out
  simp only [Value.slice.injEq] at ee
  obtain ⟨rfl, rfl, rfl⟩ := ee
  obtain rfl : n = 2 := hnn
  obtain ⟨gL, oL, eL, hL5⟩ := h5 (by decide)
  obtain rfl := Option.some.inj eL
  have r0 := hL5 0 _ rfl 0 _ rfl
  have r1 := hL5 0 _ rfl 1 _ rfl
  have r2 := hL5 0 _ rfl 2 _ rfl
  have r3 := hL5 0 _ rfl 3 _ rfl
  simp only [Nat.zero_mul, Nat.add_zero] at r0 r1 r2 r3
  have C2 := W22.out.c
  have V32 := W32
  have ixl : ∀ wy : World, (Instr.indexAt 28 (.slice (some ⟨gL, oL, none⟩) 2 cc) (.int .i64 0)).run Try.prog wy = .ok (.pointer (some ⟨gL, oL, none⟩)) wy := fun wy => by simp [go_sem, Addr.add]
  go_upto_region 1 with fail
  try rw [hw2]
  -- REGION
  refine wp_region_vals [some (.slice a 3 c), some (.slice (some ⟨gL, oL, none⟩) 2 cc), some (.pointer (some ⟨gL, oL, none⟩)), some (.agg #[.int .i64 0, .int .i64 2, .int .i64 65, .int .i64 4]), none, some (undef)] (SpkB w2 g3)
    [some 5, some 6, some 7, some 8, some 9, none] (by kernel_rfl) (by kernel_rfl) (by kernel_rfl) (by kernel_rfl) (by kernel_rfl) (by kernel_rfl) (SpkB.start w2 g3) (fun ie oe ho => ?_) (fun Lz vz wz hL hB => ?_)
  · match ie, ho with
    | 0, ho =>
      obtain rfl := Option.some.inj ho
      intro Az Lz vz wy Kz Ez hB k
      have e0 : Az.eval (.tmp 0) = .pointer (some ⟨g1, 0, none⟩) := Ez.out 0 (by kernel_rfl)
      have q0 := kcell_on (hB.pre (Ez.late 5 _ rfl (by kernel_rfl))) C1
      exact wpo_val (v := .slice a 3 c) (run_load e0 (by simp [go_sem, q0])) (k _ _ rfl (hB.pure 0 _ (Ez.late 5 _ rfl (by kernel_rfl)) (by decide) (by decide) (Below.refl _ _)))
    | 1, ho =>
      obtain rfl := Option.some.inj ho
      intro Az Lz vz wy Kz Ez hB k
      have e1 : Az.eval (.tmp 1) = .pointer (some ⟨g2, 0, none⟩) := Ez.out 1 (by kernel_rfl)
      have q0 := kcell_on (hB.pre (Ez.late 5 _ rfl (by kernel_rfl))) C2
      exact wpo_val (v := .slice (some ⟨gL, oL, none⟩) 2 cc) (run_load e1 (by simp [go_sem, q0])) (k _ _ rfl (hB.pure 1 _ (Ez.late 5 _ rfl (by kernel_rfl)) (by decide) (by decide) (Below.refl _ _)))
    | 2, ho =>
      obtain rfl := Option.some.inj ho
      intro Az Lz vz wy Kz Ez hB k
      have e6 : Az.eval (.tmp 6) = .slice (some ⟨gL, oL, none⟩) 2 cc := Ez.dep 1 6 (by kernel_rfl) rfl
      exact wpo_val (v := .pointer (some ⟨gL, oL, none⟩)) (run_index e6 rfl (ixl wy)) (k _ _ rfl (hB.pure 2 _ (Ez.late 5 _ rfl (by kernel_rfl)) (by decide) (by decide) (Below.refl _ _)))
    | 3, ho =>
      obtain rfl := Option.some.inj ho
      intro Az Lz vz wy Kz Ez hB k
      have e7 : Az.eval (.tmp 7) = .pointer (some ⟨gL, oL, none⟩) := Ez.dep 2 7 (by kernel_rfl) rfl
      have q0 := kcell_on (hB.pre (Ez.late 5 _ rfl (by kernel_rfl))) r0
      have q1 := kcell_on (hB.pre (Ez.late 5 _ rfl (by kernel_rfl))) r1
      have q2 := kcell_on (hB.pre (Ez.late 5 _ rfl (by kernel_rfl))) r2
      have q3 := kcell_on (hB.pre (Ez.late 5 _ rfl (by kernel_rfl))) r3
      exact wpo_val (v := .agg #[.int .i64 0, .int .i64 2, .int .i64 65, .int .i64 4]) (run_load e7 (by simp [go_sem, q0, q1, q2, q3])) (k _ _ rfl (hB.pure 3 _ (Ez.late 5 _ rfl (by kernel_rfl)) (by decide) (by decide) (Below.refl _ _)))
    | 4, ho =>
      obtain rfl := Option.some.inj ho
      intro Az Lz vz wy Kz Ez hB k
      have e5 : Az.eval (.tmp 5) = .slice a 3 c := Ez.dep 0 5 (by kernel_rfl) rfl
      have e8 : Az.eval (.tmp 8) = .agg #[.int .i64 0, .int .i64 2, .int .i64 65, .int .i64 4] := Ez.dep 3 8 (by kernel_rfl) rfl
      refine wpo_call (run_callW (fun _ _ => by kernel_rfl)) (R := fun ez w' => (∃ b, ez = .returned (.slice (some ⟨b, 0, none⟩) 2 2) ∧ wy.heap.size ≤ b ∧ OwnI w' b [0, 41]) ∧ Below wy.heap.size wy w') ?_ ?_
      · simp only [List.map_toArray, List.map_cons, List.map_nil, eval_const, e5, e8]
        exact OF.out wy (HK2.out.later (hB.pre (Ez.late 5 _ rfl (by kernel_rfl))))
      · rintro ez w' ⟨⟨b, rfl, hb0, ho⟩, hb⟩
        exact ⟨_, rfl, k _ _ trivial (hB.ret (Ez.late 5 _ rfl (by kernel_rfl)) hb hb0 ho)⟩
    | 5, ho =>
      obtain rfl := Option.some.inj ho
      intro Az Lz vz wy Kz Ez hB k
      have e2 : Az.eval (.tmp 2) = .pointer (some ⟨g3, 0, none⟩) := Ez.out 2 (by kernel_rfl)
      have e9 : Az.eval (.tmp 9) = vz 4 := Ez.dep 4 9 (by kernel_rfl) rfl
      obtain ⟨b, hv, hb0, ho⟩ := hB.ans (Ez.had 4 (by kernel_rfl))
      obtain ⟨c3, f3⟩ := V32.out.later (hB.pre Ez.not)
      refine wpo_skip (run_store e2 e9 (w' := wy.setCell ⟨g3, 0, none⟩ (vz 4)) ?_) (k _ _ rfl (hB.put Ez.not (Ez.had 4 (by kernel_rfl))))
      rw [hv]
      simp [go_sem, c3, f3]
    | ne + 6, ho => simp at ho
  -- END REGION
  obtain ⟨wy0, b, hb1, ho, hb0, rfl⟩ := hB.fin (hL 5 (by decide))
  have BB : Hid (But [g2, g3] w (wy0.setCell ⟨g3, 0, none⟩ (.slice (some ⟨b, 0, none⟩) 2 2))) := Lib.hid ((U2.out.trans (But.of hb1)).setCell (.inl (by simp)) _)
  have R2 : Hid ((wy0.setCell ⟨g3, 0, none⟩ (.slice (some ⟨b, 0, none⟩) 2 2)).cell? ⟨g2, 0, none⟩ = some (.slice (some ⟨gL, oL, none⟩) 2 cc)) := Lib.hid (by
    rw [World.cell?_setCell_other (h := fun e => by injection e with e _; exact n32 e)]; exact kcell_on hb1 C2)
  have RK : Hid (KS LK (wy0.setCell ⟨g3, 0, none⟩ (.slice (some ⟨b, 0, none⟩) 2 2)) (.slice (some ⟨gL, oL, none⟩) 2 cc) [(0, 2, 65, 4), (2, 3, 30, 9)]) := Lib.hid (KS.aside (KL2.out.later hb1) (fun q _ _ e => by cases e; have h9 : w.heap.size ≤ gL := HP.out; show gL ≠ g3; omega) 0 _)
  have R3 : Hid ((wy0.setCell ⟨g3, 0, none⟩ (.slice (some ⟨b, 0, none⟩) 2 2)).cell? ⟨g3, 0, none⟩ = some (.slice (some ⟨b, 0, none⟩) 2 2)) := Lib.hid (((W32.out.later hb1).set _).c)
  have RO : Hid (OwnI (wy0.setCell ⟨g3, 0, none⟩ (.slice (some ⟨b, 0, none⟩) 2 2)) b [0, 41]) := Lib.hid (ownI_aside ho (by omega) 0 _)
  have hbw : w.heap.size ≤ b := by omega
  clear hL hB hb1 ho
  simp only [puts2, mix, Act.put, List.setIfInBounds_toArray, List.set_cons_zero, List.set_cons_succ, Nat.zero_add, Nat.reduceAdd, List.getElem?_cons_zero, List.getElem?_cons_succ]
  go_wp2_with fail
  go_end0
  exact ⟨rfl, BB.out, ⟨gL, oL, none⟩, 2, cc, b, R2.out, RK.out, R3.out, RO.out, HP.out, hbw⟩
/-- Try of the law's first closure -/
theorem spk13_try (g1 g2 g3 c : Nat) (a : Option Addr) (w : World) (h1 : w.cell? ⟨g1, 0, none⟩ = some (.slice a 3 c)) (hk : KS IK w (.slice a 3 c) l3) (v2 : Var w ⟨g2, 0, none⟩ (.slice none 0 0)) (v3 : Var w ⟨g3, 0, none⟩ (.slice none 0 0)) (n12 : g1 ≠ g2) (n13 : g1 ≠ g3) (n23 : g2 ≠ g3) (ka : ∀ p : Addr, a = some p → p.block ≠ g2 ∧ p.block ≠ g3) :
    Calls Try.prog 12 #[.func (.func 40) #[] #[.pointer (some ⟨g1, 0, none⟩), .pointer (some ⟨g2, 0, none⟩), .pointer (some ⟨g3, 0, none⟩)]] w fun e w' => e = .returned (.int .i64 0) ∧ But [g2, g3] w w' ∧ ∃ p n cc b, w'.cell? ⟨g2, 0, none⟩ = some (.slice (some p) n cc) ∧ KS LK w' (.slice (some p) n cc) [(0, 2, 65, 4), (2, 3, 30, 9)] ∧ w'.cell? ⟨g3, 0, none⟩ = some (.slice (some ⟨b, 0, none⟩) 2 2) ∧ OwnI w' b [0, 41] := by
  have ba : Below w.heap.size w (w.alloc (.cells #[.int .i64 0] 29)) := (Below.refl _ _).alloc (Nat.le_refl _) _
  have l2 : g2 < w.heap.size := v2.lt
  have l3' : g3 < w.heap.size := v3.lt
  have C := spk13_in g1 g2 g3 c a _ (kcell_on ba h1) (hk.later ba) (v2.later ba) (v3.later ba) n12 n13 n23 ka
  have ns : w.heap.size ∉ [g2, g3] := fun m => by simp at m; omega
  refine (try_ret 40 _ w (fun w' => But [g2, g3] (w.alloc (.cells #[.int .i64 0] 29)) w' ∧ ∃ p n cc b, w'.cell? ⟨g2, 0, none⟩ = some (.slice (some p) n cc) ∧ KS LK w' (.slice (some p) n cc) [(0, 2, 65, 4), (2, 3, 30, 9)] ∧ w'.cell? ⟨g3, 0, none⟩ = some (.slice (some ⟨b, 0, none⟩) 2 2) ∧ OwnI w' b [0, 41] ∧ (w.alloc (.cells #[.int .i64 0] 29)).heap.size ≤ p.block ∧ (w.alloc (.cells #[.int .i64 0] 29)).heap.size ≤ b) (fun _ => by kernel_rfl) (C.mono ?_)).mono ?_
  · rintro e w' ⟨he, hb, hq⟩
    have v := (Var.new w (.int .i64 0) 29).but hb ns
    exact ⟨he, ⟨hb, hq⟩, v.c, v.z⟩
  · rintro e w' ⟨he, w2, ⟨hb, p, n, cc, b, q1, q2, q3, q4, q5, q6⟩, rfl⟩
    have h1 : But [g2, g3] w (w.alloc (.cells #[.int .i64 0] 29)) := (But.refl [g2, g3] w).alloc _
    rw [World.size_alloc] at q5 q6
    refine ⟨he, (h1.trans hb).setCell (.inr (Nat.le_refl _)) _, p, n, cc, b, ?_, KS.aside q2 (fun q _ _ e => by cases e; omega) 0 _, ?_, ownI_aside q4 (by omega) 0 _⟩
    · rw [World.cell?_setCell_other (h := fun e => by injection e with e _; omega)]; exact q1
    · rw [World.cell?_setCell_other (h := fun e => by injection e with e _; omega)]; exact q3
set_option maxHeartbeats 4000000 in
theorem speaks13_any (w : World) : Calls Try.prog 10 #[] w fun e w' => e = .returned (.bool true) ∧ Below w.heap.size w w' := by
  have hmf : ∀ (fn : Fn) (first cap : Array Value) (w : World), (Instr.makeFunc fn first cap).run Try.prog w = .ok (.func fn first cap) w := fun _ _ _ _ => rfl
  have eqs : ∀ (x y z t : Int) (wy : World), (binOp BinOp.eql 41 (.agg #[.int .i64 x, .int .i64 y, .int .i64 z, .int .i64 t]) (.agg #[.int .i64 x, .int .i64 y, .int .i64 z, .int .i64 t])).run Try.prog wy = .ok (.bool true) wy := fun _ _ _ _ _ => by simp [go_sem]
  go_enter Try.func10, Try.ntmps10
  go_wp2_with fail
  obtain ⟨w0, hw0⟩ : ∃ x, (((w.alloc (.cells #[.int .i64 30, .int .i64 5, .int .i64 0, .bool true, .int .i64 30, .int .i64 5, .int .i64 0, .bool true, .int .i64 30, .int .i64 5, .int .i64 9, .bool false] 55)).alloc (.cells #[.slice (some ⟨w.heap.size, 0, none⟩) 3 3] 24)).alloc (.cells #[.slice none 0 0] 28)).alloc (.cells #[.slice none 0 0] 46) = x := ⟨_, rfl⟩
  have T0 : Hid (Tab w0 [(w.heap.size + 3, [.slice none 0 0]), (w.heap.size + 2, [.slice none 0 0]), (w.heap.size + 1, [.slice (some ⟨w.heap.size, 0, none⟩) 3 3]), (w.heap.size, [.int .i64 30, .int .i64 5, .int .i64 0, .bool true, .int .i64 30, .int .i64 5, .int .i64 0, .bool true, .int .i64 30, .int .i64 5, .int .i64 9, .bool false])]) := Lib.hid (by
    rw [← hw0]
    exact ((((Tab.nil w).new' _ _ rfl).new' _ _ (by simp)).new' _ _ (by simp)).new' _ _ (by simp))
  have K0 : Hid (Below w.heap.size w w0) := Lib.hid (by rw [← hw0]; exact bel_tr0 (bel_tr0 (bel_tr0 (bel_newR _ _) (bel_newR _ _)) (bel_newR _ _)) (bel_newR _ _))
  have KI : Hid (KS IK w0 (.slice (some ⟨w.heap.size, 0, none⟩) 3 3) l3) := Lib.hid ⟨_, 3, 3, rfl, rfl, Nat.le_refl _, by decide, fun _ => ⟨_, 0, rfl, fun k r hr i x hx => by
    have lk := (List.getElem?_eq_some_iff.1 hr).1
    have li := (List.getElem?_eq_some_iff.1 hx).1
    rw [IK.len] at li
    have e : k = 0 ∨ k = 1 ∨ k = 2 := by simp [l3] at lk; omega
    have e' : i = 0 ∨ i = 1 ∨ i = 2 ∨ i = 3 := by simp only [IK] at li; omega
    rcases e with rfl | rfl | rfl
    all_goals
      obtain rfl := Option.some.inj hr
      rcases e' with rfl | rfl | rfl | rfl
      all_goals
        obtain rfl := Option.some.inj hx
        exact T0.out.cell 3 _ rfl rfl⟩⟩
  rw [hw0]
  clear hw0
  refine (spk13_try (w.heap.size + 1) (w.heap.size + 2) (w.heap.size + 3) 3 (some ⟨w.heap.size, 0, none⟩) _ (T0.out.cell 2 0 rfl rfl) KI.out ⟨T0.out.cell 1 0 rfl rfl, T0.out.froz 1 0 rfl rfl⟩ ⟨T0.out.cell 0 0 rfl rfl, T0.out.froz 0 0 rfl rfl⟩ (by omega) (by omega) (by omega) (fun p e => by injection e with e; subst e; exact ⟨by show w.heap.size ≠ _; omega, by show w.heap.size ≠ _; omega⟩)).mono ?_
  rintro e w2 ⟨rfl, hb, p, n, cc, b, q1, q2, q3, q4⟩
  have K2 : Hid (Below w.heap.size w w2) := Lib.hid (But.below K0.out hb K0.out.size (fun i hi => by simp at hi; omega))
  obtain ⟨_, _, _, ee, hnn, _, _, h5⟩ := q2
  simp only [Value.slice.injEq] at ee
  obtain ⟨rfl, rfl, rfl⟩ := ee
  obtain rfl : n = 2 := hnn
  obtain ⟨gL, oL, eL, hL5⟩ := h5 (by decide)
  obtain rfl := Option.some.inj eL
  have r0 := hL5 0 _ rfl 0 _ rfl
  have r1 := hL5 0 _ rfl 1 _ rfl
  have r2 := hL5 0 _ rfl 2 _ rfl
  have r3 := hL5 0 _ rfl 3 _ rfl
  have s0 := hL5 1 _ rfl 0 _ rfl
  have s1 := hL5 1 _ rfl 1 _ rfl
  have s2 := hL5 1 _ rfl 2 _ rfl
  have s3 := hL5 1 _ rfl 3 _ rfl
  have o0 := q4.cell 0 (by decide)
  have o1 := q4.cell 1 (by decide)
  have ez : LK.z = 4 := rfl
  simp only [Nat.zero_mul, Nat.one_mul, Nat.add_zero, ez] at r0 r1 r2 r3 s0 s1 s2 s3
  have ixl : ∀ wy : World, (Instr.indexAt 28 (.slice (some ⟨gL, oL, none⟩) 2 cc) (.int .i64 0)).run Try.prog wy = .ok (.pointer (some ⟨gL, oL, none⟩)) wy := fun wy => by simp [go_sem, Addr.add]
  have ixm : ∀ wy : World, (Instr.indexAt 28 (.slice (some ⟨gL, oL, none⟩) 2 cc) (.int .i64 1)).run Try.prog wy = .ok (.pointer (some ⟨gL, oL + 4, none⟩)) wy := fun wy => by simp [go_sem, Addr.add]
  clear hb hL5 h5 q4 T0 KI
  go_wp2_with fail
  go_returns
  exact ⟨rfl, K2.out⟩
end Go.Proofs.Ytbolifjkhoiphaa
