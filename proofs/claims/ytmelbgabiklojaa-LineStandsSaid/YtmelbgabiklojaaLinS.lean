/- Law 13: small items, made into the program's. Made by gen/lins.py. -/
import Derived.Test.YtmelbgabiklojaaLinJK
import Derived.WalkKit
import Derived.WalkSpells
import Derived.WalkLawsBesides
import Derived.Handy
import Derived.Lib.Hide
import Derived.Deep.QuietTactic
import Derived.BigQuiet
import Derived.LoopTactic
import Derived.Outline
namespace Go.Proofs.Ytmelbgabiklojaa
open Go.RowKit Go.Proofs.Reg Go.Proofs.Big Lin
set_option linter.unusedVariables false
set_option linter.unusedSimpArgs false
set_option maxRecDepth 100000
def SmK : Rk (Int × Int × Bool) := ⟨3, fun r => [.int .u16 r.1, .int .u16 r.2.1, .bool r.2.2], fun _ => rfl, fun r u hu => by simp at hu; rcases hu with rfl | rfl | rfl <;> rfl⟩
def InS (r : Int × Int × Bool) : Prop := (0 ≤ r.1 ∧ r.1 ≤ 65535) ∧ 0 ≤ r.2.1 ∧ r.2.1 ≤ 65535
def smI (r : Int × Int × Bool) : I4 := (r.1, r.2.1, r.1 % 50, r.2.2)
theorem SmK.at {w : World} {a : Option Addr} {n c : Nat} {l : List (Int × Int × Bool)} (h : KS SmK w (.slice a n c) l) {k : Nat} (lt : k < n) : ∃ g o x y b, a = some ⟨g, o, none⟩ ∧ l[k]? = some (x, y, b) ∧ w.cell? ⟨g, o + k * 3, none⟩ = some (.int .u16 x) ∧ w.cell? ⟨g, o + k * 3 + 1, none⟩ = some (.int .u16 y) ∧ w.cell? ⟨g, o + k * 3 + 2, none⟩ = some (.bool b) := by
  obtain ⟨a', n', c', e, hn, hc, hm, h5⟩ := h
  simp only [Value.slice.injEq] at e
  obtain ⟨rfl, rfl, rfl⟩ := e
  obtain ⟨g, o, rfl, hk⟩ := h5 (by omega)
  obtain ⟨⟨x, y, b⟩, hr⟩ : ∃ r, l[k]? = some r := ⟨_, List.getElem?_eq_getElem (by omega)⟩
  have H := hk k _ hr
  exact ⟨g, o, x, y, b, rfl, hr, H 0 _ rfl, H 1 _ rfl, H 2 _ rfl⟩
theorem cv16 (x : Int) (h : 0 ≤ x ∧ x ≤ 65535) (wy : World) : (convert 23 2 (.int .u16 x)).run Try.prog wy = .ok (.int .i64 x) wy := by
  simp [go_sem, IntKind.wrap_i64]
  try omega
theorem rm16 (x : Int) (h : 0 ≤ x ∧ x ≤ 65535) (wy : World) : (binOp BinOp.rem 23 (.int .u16 x) (.int .u16 50)).run Try.prog wy = .ok (.int .u16 (x % 50)) wy := by
  have t : x.tmod 50 = x % 50 := Int.tmod_eq_emod_of_nonneg h.1
  simp [go_sem, t, IntKind.wrap]
  try omega
set_option maxHeartbeats 8000000 in
theorem items13_any (a0 : Option Addr) (n c0 : Nat) (l : List (Int × Int × Bool)) (hi : ∀ r ∈ l, InS r) (w : World) (h : KS SmK w (.slice a0 n c0) l) :
    Calls Try.prog 11 #[.slice a0 n c0] w fun e w' => ∃ u, e = .returned u ∧ KS IK w' u ((l.take 40).map smI) ∧ Below w.heap.size w w' := by
  obtain ⟨hn, hc, hm⟩ := h.len
  have HK := Lib.hid h
  have HN := Lib.hid hn
  have HI := Lib.hid hi
  clear h hn hi
  go_enter Try.func11, Try.ntmps11
  go_wp2_with fail
  go_loopw [3, 4] (fun s3 s4 wr => ∃ (j : Nat) (pe1 : Option Addr) (ce1 : Nat), s3 = .slice pe1 j ce1 ∧ s4 = .int .i64 j ∧ j ≤ n ∧ j ≤ 40 ∧ Hid (KM IK 35 w.heap.size w wr pe1 j ce1 ((l.take j).map smI))) (fun _ s4 _ => 40 - (intOf s4).toNat)
  case atStart => exact ⟨0, none, 0, rfl, rfl, by omega, by omega, Lib.hid (by rw [List.take_zero]; exact KM.start IK _ (Nat.le_refl _) (Below.refl _ _))⟩
  case round =>
    obtain ⟨j, pe1, ce1, rfl, rfl, jn, j40, HM1⟩ := hrel
    by_cases lt : j < n ∧ j < 40
    · obtain ⟨l1, l2⟩ := lt
      have l1' : (j : Int) < (n : Int) := by omega
      have l2' : (j : Int) < 40 := by omega
      obtain ⟨g, o, x0, x1, d, rfl, hr, y0, y1, y2⟩ := SmK.at HK.out l1
      have HR := Lib.hid hr
      have IR := HI.out _ (List.mem_of_getElem? hr)
      have cv0 := cv16 x0 IR.1
      have cv1 := cv16 x1 IR.2
      have rm := rm16 x0 IR.1
      have cv2 := cv16 (x0 % 50) (by have := IR.1; simp only at this; omega)
      have CL : Hid (∀ wy, Below w.heap.size w wy → wy.cell? ⟨g, o + j * 3, none⟩ = some (.int .u16 x0) ∧ wy.cell? ⟨g, o + j * 3 + 1, none⟩ = some (.int .u16 x1) ∧ wy.cell? ⟨g, o + j * 3 + 2, none⟩ = some (.bool d)) := Lib.hid (fun wy hb => ⟨kcell_on hb y0, kcell_on hb y1, kcell_on hb y2⟩)
      have ix : ∀ wy : World, (Instr.indexAt 22 (.slice (some ⟨g, o, none⟩) n c0) (.int .i64 j)).run Try.prog wy = .ok (.pointer (some ⟨g, o + j * 3, none⟩)) wy := fun wy => by
        have k0 : (0 : Int) ≤ (j : Int) := by omega
        simp [go_sem, k0, l1', Addr.add]
        try omega
      clear hr IR y0 y1 y2
      have D : Apart2 (⟨26, 27, 25, 35, 4, .agg #[.int .i64 0, .int .i64 0, .int .i64 0, .bool false], 32, .slice pe1 j ce1, j, IK.flat ((l.take j).map smI), [.int .i64 x0, .int .i64 x1, .int .i64 (x0 % 50), .bool d]⟩ : Jb) (⟨126, 127, 37, 2, 1, .int .i64 0, 8, .slice none 0 0, 0, [], [.int .i64 0]⟩ : Jb) := ⟨⟨slt_litem, rfl, fun u hu => (by simp at hu; rcases hu with rfl | rfl | rfl | rfl <;> rfl), (by show j + 1 ≤ 1000000; omega), (show (26 : Nat) ≠ 27 by decide)⟩, ⟨slt_i64, rfl, fun u hu => (by simp at hu; subst hu; rfl), (by show 0 + 1 ≤ 1000000; omega), (show (126 : Nat) ≠ 127 by decide)⟩, (show 35 ≠ 2 by decide), (show (26 : Nat) ≠ 126 by decide), (show (26 : Nat) ≠ 127 by decide), (show (27 : Nat) ≠ 126 by decide), (show (27 : Nat) ≠ 127 by decide)⟩
      have MB : Hid (Ap2 w.heap.size w (⟨26, 27, 25, 35, 4, .agg #[.int .i64 0, .int .i64 0, .int .i64 0, .bool false], 32, .slice pe1 j ce1, j, IK.flat ((l.take j).map smI), [.int .i64 x0, .int .i64 x1, .int .i64 (x0 % 50), .bool d]⟩ : Jb) (⟨126, 127, 37, 2, 1, .int .i64 0, 8, .slice none 0 0, 0, [], [.int .i64 0]⟩ : Jb) (fun _ => false) (fun _ => undef) wr.drew) := Lib.hid ⟨HM1.out.bel.drew, HM1.out.lt, ⟨fun _ => HM1.out.own, fun h => (by cases h), fun h => (by cases h)⟩, ⟨fun _ => World.ownsRow_nil _ _ _ _, fun h => (by cases h), fun h => (by cases h)⟩⟩
      go_wp2_with fail
      refine wp_region_vals [some (.slice pe1 j ce1), some (.slice (some ⟨g, o, none⟩) n c0), some (.int .i64 (j : Int)), some (.pointer (some ⟨g, o + j * 3, none⟩)), some (.pointer (some ⟨g, o + j * 3, none⟩)), some (.int .u16 x0), some (.int .i64 x0), some (.slice (some ⟨g, o, none⟩) n c0), some (.int .i64 (j : Int)), some (.pointer (some ⟨g, o + j * 3, none⟩)), some (.pointer (some ⟨g, o + j * 3 + 1, none⟩)), some (.int .u16 x1), some (.int .i64 x1), some (.slice (some ⟨g, o, none⟩) n c0), some (.int .i64 (j : Int)), some (.pointer (some ⟨g, o + j * 3, none⟩)), some (.pointer (some ⟨g, o + j * 3, none⟩)), some (.int .u16 x0), some (.int .u16 (x0 % 50)), some (.int .i64 (x0 % 50)), some (.slice (some ⟨g, o, none⟩) n c0), some (.int .i64 (j : Int)), some (.pointer (some ⟨g, o + j * 3, none⟩)), some (.pointer (some ⟨g, o + j * 3 + 2, none⟩)), some (.bool d), some (.agg #[.int .i64 x0, .int .i64 x1, .int .i64 (x0 % 50), .bool d]), none, none, none] (fun Lz vz wy => Ap2 w.heap.size w (⟨26, 27, 25, 35, 4, .agg #[.int .i64 0, .int .i64 0, .int .i64 0, .bool false], 32, .slice pe1 j ce1, j, IK.flat ((l.take j).map smI), [.int .i64 x0, .int .i64 x1, .int .i64 (x0 % 50), .bool d]⟩ : Jb) (⟨126, 127, 37, 2, 1, .int .i64 0, 8, .slice none 0 0, 0, [], [.int .i64 0]⟩ : Jb) Lz vz wy ∧ Asn 28 27 Lz vz)
        [some 15, some 16, some 17, some 18, some 19, some 20, some 21, some 22, some 23, some 24, some 25, some 26, some 27, some 28, some 29, some 30, some 31, some 32, some 33, some 34, some 35, some 36, some 37, some 38, some 39, some 40, some 41, some 42, some 3] (by kernel_rfl) (by kernel_rfl) (by kernel_rfl) (by kernel_rfl) (by kernel_rfl) (by kernel_rfl) ⟨MB.out, Asn.start 28 27 _⟩ (fun ie oe ho => ?_) (fun Lz vz wz hL hB => ?_)
      · match ie, ho with
        | 0, ho =>
          obtain rfl := Option.some.inj ho
          intro Az Lz vz wy Kz Ez hB k
          have e3 : Az.eval (.tmp 3) = .slice pe1 j ce1 := Ez.keep1 3 28 (Ez.late 28 _ rfl (by kernel_rfl)) (by kernel_rfl)
          exact wpo_val (v := .slice pe1 j ce1) (run_move e3) (k _ _ rfl (⟨hB.1.pure 0 _ (show (26 : Nat) ≠ 0 by decide) (show (27 : Nat) ≠ 0 by decide) (show (126 : Nat) ≠ 0 by decide) (show (127 : Nat) ≠ 0 by decide) (Below.refl _ _), hB.2.add 0 _ (by decide) (.inl (by decide))⟩))
        | 1, ho =>
          obtain rfl := Option.some.inj ho
          intro Az Lz vz wy Kz Ez hB k
          have e0 : Az.eval (.tmp 0) = .slice (some ⟨g, o, none⟩) n c0 := Ez.out 0 (by kernel_rfl)
          exact wpo_val (v := .slice (some ⟨g, o, none⟩) n c0) (run_move e0) (k _ _ rfl (⟨hB.1.pure 1 _ (show (26 : Nat) ≠ 1 by decide) (show (27 : Nat) ≠ 1 by decide) (show (126 : Nat) ≠ 1 by decide) (show (127 : Nat) ≠ 1 by decide) (Below.refl _ _), hB.2.add 1 _ (by decide) (.inl (by decide))⟩))
        | 2, ho =>
          obtain rfl := Option.some.inj ho
          intro Az Lz vz wy Kz Ez hB k
          have e4 : Az.eval (.tmp 4) = .int .i64 (j : Int) := Ez.out 4 (by kernel_rfl)
          exact wpo_val (v := .int .i64 (j : Int)) (run_move e4) (k _ _ rfl (⟨hB.1.pure 2 _ (show (26 : Nat) ≠ 2 by decide) (show (27 : Nat) ≠ 2 by decide) (show (126 : Nat) ≠ 2 by decide) (show (127 : Nat) ≠ 2 by decide) (Below.refl _ _), hB.2.add 2 _ (by decide) (.inl (by decide))⟩))
        | 3, ho =>
          obtain rfl := Option.some.inj ho
          intro Az Lz vz wy Kz Ez hB k
          have e16 : Az.eval (.tmp 16) = .slice (some ⟨g, o, none⟩) n c0 := Ez.dep 1 16 (by kernel_rfl) rfl
          have e17 : Az.eval (.tmp 17) = .int .i64 (j : Int) := Ez.dep 2 17 (by kernel_rfl) rfl
          exact wpo_val (v := .pointer (some ⟨g, o + j * 3, none⟩)) (run_index e16 e17 (ix wy)) (k _ _ rfl (⟨hB.1.pure 3 _ (show (26 : Nat) ≠ 3 by decide) (show (27 : Nat) ≠ 3 by decide) (show (126 : Nat) ≠ 3 by decide) (show (127 : Nat) ≠ 3 by decide) (Below.refl _ _), hB.2.add 3 _ (by decide) (.inl (by decide))⟩))
        | 4, ho =>
          obtain rfl := Option.some.inj ho
          intro Az Lz vz wy Kz Ez hB k
          have e18 : Az.eval (.tmp 18) = .pointer (some ⟨g, o + j * 3, none⟩) := Ez.dep 3 18 (by kernel_rfl) rfl
          exact wpo_val (v := .pointer (some ⟨g, o + j * 3, none⟩)) (run_field e18 (by simp [go_sem])) (k _ _ rfl (⟨hB.1.pure 4 _ (show (26 : Nat) ≠ 4 by decide) (show (27 : Nat) ≠ 4 by decide) (show (126 : Nat) ≠ 4 by decide) (show (127 : Nat) ≠ 4 by decide) (Below.refl _ _), hB.2.add 4 _ (by decide) (.inl (by decide))⟩))
        | 5, ho =>
          obtain rfl := Option.some.inj ho
          intro Az Lz vz wy Kz Ez hB k
          have e19 : Az.eval (.tmp 19) = .pointer (some ⟨g, o + j * 3, none⟩) := Ez.dep 4 19 (by kernel_rfl) rfl
          have q0 := (CL.out wy hB.1.bel).1
          exact wpo_val (v := .int .u16 x0) (run_load e19 (by simp [go_sem, q0])) (k _ _ rfl (⟨hB.1.pure 5 _ (show (26 : Nat) ≠ 5 by decide) (show (27 : Nat) ≠ 5 by decide) (show (126 : Nat) ≠ 5 by decide) (show (127 : Nat) ≠ 5 by decide) (Below.refl _ _), hB.2.add 5 _ (by decide) (.inl (by decide))⟩))
        | 6, ho =>
          obtain rfl := Option.some.inj ho
          intro Az Lz vz wy Kz Ez hB k
          have e20 : Az.eval (.tmp 20) = .int .u16 x0 := Ez.dep 5 20 (by kernel_rfl) rfl
          exact wpo_val (v := .int .i64 x0) (run_conv e20 (cv0 wy)) (k _ _ rfl (⟨hB.1.pure 6 _ (show (26 : Nat) ≠ 6 by decide) (show (27 : Nat) ≠ 6 by decide) (show (126 : Nat) ≠ 6 by decide) (show (127 : Nat) ≠ 6 by decide) (Below.refl _ _), hB.2.add 6 _ (by decide) (.inl (by decide))⟩))
        | 7, ho =>
          obtain rfl := Option.some.inj ho
          intro Az Lz vz wy Kz Ez hB k
          have e0 : Az.eval (.tmp 0) = .slice (some ⟨g, o, none⟩) n c0 := Ez.out 0 (by kernel_rfl)
          exact wpo_val (v := .slice (some ⟨g, o, none⟩) n c0) (run_move e0) (k _ _ rfl (⟨hB.1.pure 7 _ (show (26 : Nat) ≠ 7 by decide) (show (27 : Nat) ≠ 7 by decide) (show (126 : Nat) ≠ 7 by decide) (show (127 : Nat) ≠ 7 by decide) (Below.refl _ _), hB.2.add 7 _ (by decide) (.inl (by decide))⟩))
        | 8, ho =>
          obtain rfl := Option.some.inj ho
          intro Az Lz vz wy Kz Ez hB k
          have e4 : Az.eval (.tmp 4) = .int .i64 (j : Int) := Ez.out 4 (by kernel_rfl)
          exact wpo_val (v := .int .i64 (j : Int)) (run_move e4) (k _ _ rfl (⟨hB.1.pure 8 _ (show (26 : Nat) ≠ 8 by decide) (show (27 : Nat) ≠ 8 by decide) (show (126 : Nat) ≠ 8 by decide) (show (127 : Nat) ≠ 8 by decide) (Below.refl _ _), hB.2.add 8 _ (by decide) (.inl (by decide))⟩))
        | 9, ho =>
          obtain rfl := Option.some.inj ho
          intro Az Lz vz wy Kz Ez hB k
          have e22 : Az.eval (.tmp 22) = .slice (some ⟨g, o, none⟩) n c0 := Ez.dep 7 22 (by kernel_rfl) rfl
          have e23 : Az.eval (.tmp 23) = .int .i64 (j : Int) := Ez.dep 8 23 (by kernel_rfl) rfl
          exact wpo_val (v := .pointer (some ⟨g, o + j * 3, none⟩)) (run_index e22 e23 (ix wy)) (k _ _ rfl (⟨hB.1.pure 9 _ (show (26 : Nat) ≠ 9 by decide) (show (27 : Nat) ≠ 9 by decide) (show (126 : Nat) ≠ 9 by decide) (show (127 : Nat) ≠ 9 by decide) (Below.refl _ _), hB.2.add 9 _ (by decide) (.inl (by decide))⟩))
        | 10, ho =>
          obtain rfl := Option.some.inj ho
          intro Az Lz vz wy Kz Ez hB k
          have e24 : Az.eval (.tmp 24) = .pointer (some ⟨g, o + j * 3, none⟩) := Ez.dep 9 24 (by kernel_rfl) rfl
          exact wpo_val (v := .pointer (some ⟨g, o + j * 3 + 1, none⟩)) (run_field e24 (by simp [go_sem])) (k _ _ rfl (⟨hB.1.pure 10 _ (show (26 : Nat) ≠ 10 by decide) (show (27 : Nat) ≠ 10 by decide) (show (126 : Nat) ≠ 10 by decide) (show (127 : Nat) ≠ 10 by decide) (Below.refl _ _), hB.2.add 10 _ (by decide) (.inl (by decide))⟩))
        | 11, ho =>
          obtain rfl := Option.some.inj ho
          intro Az Lz vz wy Kz Ez hB k
          have e25 : Az.eval (.tmp 25) = .pointer (some ⟨g, o + j * 3 + 1, none⟩) := Ez.dep 10 25 (by kernel_rfl) rfl
          have q0 := (CL.out wy hB.1.bel).2.1
          exact wpo_val (v := .int .u16 x1) (run_load e25 (by simp [go_sem, q0])) (k _ _ rfl (⟨hB.1.pure 11 _ (show (26 : Nat) ≠ 11 by decide) (show (27 : Nat) ≠ 11 by decide) (show (126 : Nat) ≠ 11 by decide) (show (127 : Nat) ≠ 11 by decide) (Below.refl _ _), hB.2.add 11 _ (by decide) (.inl (by decide))⟩))
        | 12, ho =>
          obtain rfl := Option.some.inj ho
          intro Az Lz vz wy Kz Ez hB k
          have e26 : Az.eval (.tmp 26) = .int .u16 x1 := Ez.dep 11 26 (by kernel_rfl) rfl
          exact wpo_val (v := .int .i64 x1) (run_conv e26 (cv1 wy)) (k _ _ rfl (⟨hB.1.pure 12 _ (show (26 : Nat) ≠ 12 by decide) (show (27 : Nat) ≠ 12 by decide) (show (126 : Nat) ≠ 12 by decide) (show (127 : Nat) ≠ 12 by decide) (Below.refl _ _), hB.2.add 12 _ (by decide) (.inl (by decide))⟩))
        | 13, ho =>
          obtain rfl := Option.some.inj ho
          intro Az Lz vz wy Kz Ez hB k
          have e0 : Az.eval (.tmp 0) = .slice (some ⟨g, o, none⟩) n c0 := Ez.out 0 (by kernel_rfl)
          exact wpo_val (v := .slice (some ⟨g, o, none⟩) n c0) (run_move e0) (k _ _ rfl (⟨hB.1.pure 13 _ (show (26 : Nat) ≠ 13 by decide) (show (27 : Nat) ≠ 13 by decide) (show (126 : Nat) ≠ 13 by decide) (show (127 : Nat) ≠ 13 by decide) (Below.refl _ _), hB.2.add 13 _ (by decide) (.inl (by decide))⟩))
        | 14, ho =>
          obtain rfl := Option.some.inj ho
          intro Az Lz vz wy Kz Ez hB k
          have e4 : Az.eval (.tmp 4) = .int .i64 (j : Int) := Ez.out 4 (by kernel_rfl)
          exact wpo_val (v := .int .i64 (j : Int)) (run_move e4) (k _ _ rfl (⟨hB.1.pure 14 _ (show (26 : Nat) ≠ 14 by decide) (show (27 : Nat) ≠ 14 by decide) (show (126 : Nat) ≠ 14 by decide) (show (127 : Nat) ≠ 14 by decide) (Below.refl _ _), hB.2.add 14 _ (by decide) (.inl (by decide))⟩))
        | 15, ho =>
          obtain rfl := Option.some.inj ho
          intro Az Lz vz wy Kz Ez hB k
          have e28 : Az.eval (.tmp 28) = .slice (some ⟨g, o, none⟩) n c0 := Ez.dep 13 28 (by kernel_rfl) rfl
          have e29 : Az.eval (.tmp 29) = .int .i64 (j : Int) := Ez.dep 14 29 (by kernel_rfl) rfl
          exact wpo_val (v := .pointer (some ⟨g, o + j * 3, none⟩)) (run_index e28 e29 (ix wy)) (k _ _ rfl (⟨hB.1.pure 15 _ (show (26 : Nat) ≠ 15 by decide) (show (27 : Nat) ≠ 15 by decide) (show (126 : Nat) ≠ 15 by decide) (show (127 : Nat) ≠ 15 by decide) (Below.refl _ _), hB.2.add 15 _ (by decide) (.inl (by decide))⟩))
        | 16, ho =>
          obtain rfl := Option.some.inj ho
          intro Az Lz vz wy Kz Ez hB k
          have e30 : Az.eval (.tmp 30) = .pointer (some ⟨g, o + j * 3, none⟩) := Ez.dep 15 30 (by kernel_rfl) rfl
          exact wpo_val (v := .pointer (some ⟨g, o + j * 3, none⟩)) (run_field e30 (by simp [go_sem])) (k _ _ rfl (⟨hB.1.pure 16 _ (show (26 : Nat) ≠ 16 by decide) (show (27 : Nat) ≠ 16 by decide) (show (126 : Nat) ≠ 16 by decide) (show (127 : Nat) ≠ 16 by decide) (Below.refl _ _), hB.2.add 16 _ (by decide) (.inl (by decide))⟩))
        | 17, ho =>
          obtain rfl := Option.some.inj ho
          intro Az Lz vz wy Kz Ez hB k
          have e31 : Az.eval (.tmp 31) = .pointer (some ⟨g, o + j * 3, none⟩) := Ez.dep 16 31 (by kernel_rfl) rfl
          have q0 := (CL.out wy hB.1.bel).1
          exact wpo_val (v := .int .u16 x0) (run_load e31 (by simp [go_sem, q0])) (k _ _ rfl (⟨hB.1.pure 17 _ (show (26 : Nat) ≠ 17 by decide) (show (27 : Nat) ≠ 17 by decide) (show (126 : Nat) ≠ 17 by decide) (show (127 : Nat) ≠ 17 by decide) (Below.refl _ _), hB.2.add 17 _ (by decide) (.inl (by decide))⟩))
        | 18, ho =>
          obtain rfl := Option.some.inj ho
          intro Az Lz vz wy Kz Ez hB k
          have e32 : Az.eval (.tmp 32) = .int .u16 x0 := Ez.dep 17 32 (by kernel_rfl) rfl
          exact wpo_val (v := .int .u16 (x0 % 50)) (run_bin e32 rfl (by simp [go_sem]) (rm wy)) (k _ _ rfl (⟨hB.1.pure 18 _ (show (26 : Nat) ≠ 18 by decide) (show (27 : Nat) ≠ 18 by decide) (show (126 : Nat) ≠ 18 by decide) (show (127 : Nat) ≠ 18 by decide) (Below.refl _ _), hB.2.add 18 _ (by decide) (.inl (by decide))⟩))
        | 19, ho =>
          obtain rfl := Option.some.inj ho
          intro Az Lz vz wy Kz Ez hB k
          have e33 : Az.eval (.tmp 33) = .int .u16 (x0 % 50) := Ez.dep 18 33 (by kernel_rfl) rfl
          exact wpo_val (v := .int .i64 (x0 % 50)) (run_conv e33 (cv2 wy)) (k _ _ rfl (⟨hB.1.pure 19 _ (show (26 : Nat) ≠ 19 by decide) (show (27 : Nat) ≠ 19 by decide) (show (126 : Nat) ≠ 19 by decide) (show (127 : Nat) ≠ 19 by decide) (Below.refl _ _), hB.2.add 19 _ (by decide) (.inl (by decide))⟩))
        | 20, ho =>
          obtain rfl := Option.some.inj ho
          intro Az Lz vz wy Kz Ez hB k
          have e0 : Az.eval (.tmp 0) = .slice (some ⟨g, o, none⟩) n c0 := Ez.out 0 (by kernel_rfl)
          exact wpo_val (v := .slice (some ⟨g, o, none⟩) n c0) (run_move e0) (k _ _ rfl (⟨hB.1.pure 20 _ (show (26 : Nat) ≠ 20 by decide) (show (27 : Nat) ≠ 20 by decide) (show (126 : Nat) ≠ 20 by decide) (show (127 : Nat) ≠ 20 by decide) (Below.refl _ _), hB.2.add 20 _ (by decide) (.inl (by decide))⟩))
        | 21, ho =>
          obtain rfl := Option.some.inj ho
          intro Az Lz vz wy Kz Ez hB k
          have e4 : Az.eval (.tmp 4) = .int .i64 (j : Int) := Ez.out 4 (by kernel_rfl)
          exact wpo_val (v := .int .i64 (j : Int)) (run_move e4) (k _ _ rfl (⟨hB.1.pure 21 _ (show (26 : Nat) ≠ 21 by decide) (show (27 : Nat) ≠ 21 by decide) (show (126 : Nat) ≠ 21 by decide) (show (127 : Nat) ≠ 21 by decide) (Below.refl _ _), hB.2.add 21 _ (by decide) (.inl (by decide))⟩))
        | 22, ho =>
          obtain rfl := Option.some.inj ho
          intro Az Lz vz wy Kz Ez hB k
          have e35 : Az.eval (.tmp 35) = .slice (some ⟨g, o, none⟩) n c0 := Ez.dep 20 35 (by kernel_rfl) rfl
          have e36 : Az.eval (.tmp 36) = .int .i64 (j : Int) := Ez.dep 21 36 (by kernel_rfl) rfl
          exact wpo_val (v := .pointer (some ⟨g, o + j * 3, none⟩)) (run_index e35 e36 (ix wy)) (k _ _ rfl (⟨hB.1.pure 22 _ (show (26 : Nat) ≠ 22 by decide) (show (27 : Nat) ≠ 22 by decide) (show (126 : Nat) ≠ 22 by decide) (show (127 : Nat) ≠ 22 by decide) (Below.refl _ _), hB.2.add 22 _ (by decide) (.inl (by decide))⟩))
        | 23, ho =>
          obtain rfl := Option.some.inj ho
          intro Az Lz vz wy Kz Ez hB k
          have e37 : Az.eval (.tmp 37) = .pointer (some ⟨g, o + j * 3, none⟩) := Ez.dep 22 37 (by kernel_rfl) rfl
          exact wpo_val (v := .pointer (some ⟨g, o + j * 3 + 2, none⟩)) (run_field e37 (by simp [go_sem])) (k _ _ rfl (⟨hB.1.pure 23 _ (show (26 : Nat) ≠ 23 by decide) (show (27 : Nat) ≠ 23 by decide) (show (126 : Nat) ≠ 23 by decide) (show (127 : Nat) ≠ 23 by decide) (Below.refl _ _), hB.2.add 23 _ (by decide) (.inl (by decide))⟩))
        | 24, ho =>
          obtain rfl := Option.some.inj ho
          intro Az Lz vz wy Kz Ez hB k
          have e38 : Az.eval (.tmp 38) = .pointer (some ⟨g, o + j * 3 + 2, none⟩) := Ez.dep 23 38 (by kernel_rfl) rfl
          have q0 := (CL.out wy hB.1.bel).2.2
          exact wpo_val (v := .bool d) (run_load e38 (by simp [go_sem, q0])) (k _ _ rfl (⟨hB.1.pure 24 _ (show (26 : Nat) ≠ 24 by decide) (show (27 : Nat) ≠ 24 by decide) (show (126 : Nat) ≠ 24 by decide) (show (127 : Nat) ≠ 24 by decide) (Below.refl _ _), hB.2.add 24 _ (by decide) (.inl (by decide))⟩))
        | 25, ho =>
          obtain rfl := Option.some.inj ho
          intro Az Lz vz wy Kz Ez hB k
          have e21 : Az.eval (.tmp 21) = .int .i64 x0 := Ez.dep 6 21 (by kernel_rfl) rfl
          have e27 : Az.eval (.tmp 27) = .int .i64 x1 := Ez.dep 12 27 (by kernel_rfl) rfl
          have e34 : Az.eval (.tmp 34) = .int .i64 (x0 % 50) := Ez.dep 19 34 (by kernel_rfl) rfl
          have e39 : Az.eval (.tmp 39) = .bool d := Ez.dep 24 39 (by kernel_rfl) rfl
          exact wpo_val (v := .agg #[.int .i64 x0, .int .i64 x1, .int .i64 (x0 % 50), .bool d]) (run_build (l' := #[(0, .int .i64 x0), (1, .int .i64 x1), (2, .int .i64 (x0 % 50)), (3, .bool d)]) (by simp only [List.map_toArray, List.map_cons, List.map_nil, e21, e27, e34, e39]) (by simp [go_sem])) (k _ _ rfl (⟨hB.1.pure 25 _ (show (26 : Nat) ≠ 25 by decide) (show (27 : Nat) ≠ 25 by decide) (show (126 : Nat) ≠ 25 by decide) (show (127 : Nat) ≠ 25 by decide) (Below.refl _ _), hB.2.add 25 _ (by decide) (.inl (by decide))⟩))
        | 26, ho =>
          obtain rfl := Option.some.inj ho
          intro Az Lz vz wy Kz Ez hB k
          have e40 : Az.eval (.tmp 40) = .agg #[.int .i64 x0, .int .i64 x1, .int .i64 (x0 % 50), .bool d] := Ez.dep 25 40 (by kernel_rfl) rfl
          exact wpo_val (run_bsl1 e40 (by simp [go_sem])) (k _ _ trivial ⟨hB.1.build D (Ez.late 27 _ rfl (by kernel_rfl)), hB.2.add 26 _ (by decide) (.inl (by decide))⟩)
        | 27, ho =>
          obtain rfl := Option.some.inj ho
          intro Az Lz vz wy Kz Ez hB k
          have e15 : Az.eval (.tmp 15) = .slice pe1 j ce1 := Ez.dep 0 15 (by kernel_rfl) rfl
          have e41 : Az.eval (.tmp 41) = vz 26 := Ez.dep 26 41 (by kernel_rfl) rfl
          obtain ⟨x, v', w', hx, r, hB'⟩ := hB.1.app D Ez.not (Ez.had 26 (by kernel_rfl)) 25
          exact wpo_val (run_app2 e15 (e41.trans hx) r) (k _ _ trivial ⟨hB', hB.2.add 27 _ (by decide) (.inr Ez.not)⟩)
        | 28, ho =>
          obtain rfl := Option.some.inj ho
          intro Az Lz vz wy Kz Ez hB k
          have e42 : Az.eval (.tmp 42) = vz 27 := Ez.dep 27 42 (by kernel_rfl) rfl
          exact wpo_val (run_assign e42) (k _ _ trivial ⟨hB.1.pure 28 _ (show (26 : Nat) ≠ 28 by decide) (show (27 : Nat) ≠ 28 by decide) (show (126 : Nat) ≠ 28 by decide) (show (127 : Nat) ≠ 28 by decide) (Below.refl _ _), Asn.put (by decide) (Ez.had 27 (by kernel_rfl))⟩)
        | ne + 29, ho => simp at ho
      obtain ⟨z1, d1, hv27, o1⟩ := hB.1.j.2.1 (hL 27 (by decide))
      have hv28 := (hB.2 (hL 28 (by decide))).2
      rw [hv27] at hv28
      have TK : (l.take (j + 1)).map smI = (l.take j).map smI ++ [(x0, x1, x0 % 50, d)] := by rw [List.take_add_one, HR.out, List.map_append]; rfl
      have M1 : Hid (KM IK 35 w.heap.size w wz z1 (j + 1) d1 ((l.take (j + 1)).map smI)) := Lib.hid ⟨by rw [TK, IK.flat_append, IK.flat_one1]; exact o1, hB.1.lt, by rw [List.length_map, List.length_take]; have := HN.out; omega, hB.1.bel⟩
      simp only [puts2, mix, Act.put, List.setIfInBounds_toArray, List.set_cons_zero, List.set_cons_succ, Nat.zero_add, Nat.reduceAdd, List.getElem?_cons_zero, List.getElem?_cons_succ, hv28]
      clear hL hB hv27 hv28 o1 TK MB D HM1 ix
      go_wp2_with fail
      go_roundw
      case rel => exact ⟨j + 1, z1, d1, rfl, by simp, by omega, by omega, M1⟩
      case measure => simp [intOf]; omega
    · have TK : Hid (l.take j = l.take 40) := Lib.hid (by
        by_cases e : j = 40
        · rw [e]
        · rw [List.take_of_length_le (by have := HN.out; omega), List.take_of_length_le (by have := HN.out; omega)])
      have F1 : Hid (KS IK wr (.slice pe1 j ce1) ((l.take 40).map smI)) := Lib.hid (by rw [← TK.out]; exact HM1.out.ks (by decide))
      have q2 : (¬ (j : Int) < (n : Int)) ∨ ((j : Int) < (n : Int) ∧ ¬ (j : Int) < 40) := by
        by_cases e : j < n
        · exact .inr ⟨by omega, by omega⟩
        · exact .inl (by omega)
      clear lt
      rcases q2 with q2 | ⟨q2, q3⟩
      all_goals
        go_wp2_with fail
        go_returns
        exact ⟨_, rfl, (by rw [← List.map_take]; exact F1.out), HM1.out.bel⟩
end Go.Proofs.Ytmelbgabiklojaa
