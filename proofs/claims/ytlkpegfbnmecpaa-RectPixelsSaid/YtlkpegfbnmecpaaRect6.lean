/- The reference's rectangles, and the law's own small functions. -/
import Derived.Test.YtlkpegfbnmecpaaRectC
import Derived.WalkKit
import Derived.WalkSpells
import Derived.WalkLawsBesides
import Derived.Handy
import Derived.Lib.Hide
import Derived.Deep.QuietTactic
import Derived.BigQuiet
import Derived.LoopTactic
import Derived.Deep.RegionHeld3
import Derived.Deep.RegionWith
import Derived.Outline
import Derived.Deep.DeepCutAuto
namespace Go.Proofs.Ytlkpegfbnmecpaa
open Go.RowKit Go.Proofs.Reg
set_option linter.unusedVariables false
set_option linter.unusedSimpArgs false
set_option maxRecDepth 100000
theorem r6bound_any (n : Int) (n0 : I64 n) (w : World) : Calls Try.prog 48 #[.int .i64 n] w fun e w' => e = .returned (.int .i64 (lim n)) ∧ w' = w := by
  obtain ⟨n0, n1⟩ := n0
  have cs : (n < -1073741824 ∧ lim n = -1073741824) ∨ (-1073741824 ≤ n ∧ 1073741824 < n ∧ lim n = 1073741824) ∨ (-1073741824 ≤ n ∧ n ≤ 1073741824 ∧ lim n = n) := by unfold lim; omega
  rcases cs with ⟨h1, h⟩ | ⟨h1, h2, h⟩ | ⟨h1, h2, h⟩
  all_goals
    rw [h]
    clear h
    go_enter Try.func48, Try.ntmps48
    go_wp2_with fail
    go_returns
    exact ⟨rfl, rfl⟩
/-- the four cells in the course of it -/
structure R6 (w wr : World) (k : Nat) (a b c d x y z t : Int) : Prop where
  T : Tab wr [(w.heap.size, [.int .i64 (if 0 < k then x else a), .int .i64 (if 1 < k then y else b), .int .i64 (if 2 < k then z else c), .int .i64 (if 3 < k then t else d)]), (w.heap.size + 1, [.int .i64 0, .int .i64 0, .int .i64 0, .int .i64 0])]
  B : Below w.heap.size w wr
set_option maxHeartbeats 2000000 in
theorem r6right_any (a b c d A B C D : Int) (a0 : I64 a) (b0 : I64 b) (c0 : I64 c) (d0 : I64 d) (h : Nrm a b c d A B C D) (w : World) :
    Calls Try.prog 18 #[rv a b c d] w fun e w' => e = .returned (rv A B C D) ∧ Below w.heap.size w w' := by
  have LA := Lib.hid (r6bound_any a a0)
  have LB := Lib.hid (r6bound_any b b0)
  have LC := Lib.hid (r6bound_any c c0)
  have LD := Lib.hid (r6bound_any d d0)
  have HD : Hid ([w.heap.size, w.heap.size + 1].Nodup) := Lib.hid (by simp)
  obtain ⟨x, hx⟩ : ∃ x, lim a = x := ⟨_, rfl⟩
  obtain ⟨y, hy⟩ : ∃ x, lim b = x := ⟨_, rfl⟩
  obtain ⟨z, hz⟩ : ∃ x, lim c = x := ⟨_, rfl⟩
  obtain ⟨t, ht⟩ : ∃ x, lim d = x := ⟨_, rfl⟩
  unfold Nrm at h
  rw [hx, hy, hz, ht] at h
  rw [hx] at LA
  rw [hy] at LB
  rw [hz] at LC
  rw [ht] at LD
  have split : (A = x ∧ B = y ∧ C = z ∧ D = t ∧ x < z ∧ y < t) ∨ (A = 0 ∧ B = 0 ∧ C = 0 ∧ D = 0 ∧ z ≤ x) ∨ (A = 0 ∧ B = 0 ∧ C = 0 ∧ D = 0 ∧ x < z ∧ t ≤ y) := by omega
  have SP := Lib.hid split
  clear h split hx hy hz ht
  unfold rv
  go_enter Try.func18, Try.ntmps18
  go_wp2_with fail
  have KB : Hid (Below w.heap.size w ((w.alloc (.cells #[.int .i64 a, .int .i64 b, .int .i64 c, .int .i64 d] 42)).alloc (.cells #[.int .i64 0, .int .i64 0, .int .i64 0, .int .i64 0] 42))) := Lib.hid (by go_grown)
  have KT : Hid (Tab ((w.alloc (.cells #[.int .i64 a, .int .i64 b, .int .i64 c, .int .i64 d] 42)).alloc (.cells #[.int .i64 0, .int .i64 0, .int .i64 0, .int .i64 0] 42)) [(w.heap.size, [.int .i64 a, .int .i64 b, .int .i64 c, .int .i64 d]), (w.heap.size + 1, [.int .i64 0, .int .i64 0, .int .i64 0, .int .i64 0])]) := by
    refine Lib.hid (Tab.cons (Tab.new' (Tab.nil _) [.int .i64 0, .int .i64 0, .int .i64 0, .int .i64 0] 42 (by simp)) fun i v hi => ?_)
    have := ((Tab.nil w).new [.int .i64 a, .int .i64 b, .int .i64 c, .int .i64 d] 42).alloc (.cells #[.int .i64 0, .int .i64 0, .int .i64 0, .int .i64 0] 42)
    exact ⟨this.cell 0 i rfl hi, this.froz 0 i rfl hi⟩
  go_loopw [3] (fun s wr => ∃ k : Nat, s = .int .i64 k ∧ k ≤ 4 ∧ Hid (R6 w wr k a b c d x y z t)) (fun s _ => 4 - (intOf s).toNat)
  case atStart => exact ⟨0, rfl, by decide, Lib.hid ⟨by simpa using KT.out, KB.out⟩⟩
  case round =>
    clear KB KT
    obtain ⟨k, rfl, hk, HR⟩ := hrel
    have cs : k = 0 ∨ k = 1 ∨ k = 2 ∨ k = 3 ∨ k = 4 := by omega
    rcases cs with rfl | rfl | rfl | rfl | rfl
    · have KT := Lib.hid HR.out.T
      have KB := Lib.hid HR.out.B
      have x0 := KT.out.cell 0 0 rfl rfl
      have xf0 := KT.out.froz 0 0 rfl rfl
      have lx := KT.out.lt 0 rfl
      clear HR SP
      simp only [Nat.lt_irrefl, if_false] at x0
      go_wp2_with fail
      refine (LA.out _).mono ?_
      rintro e w1 ⟨rfl, rfl⟩
      go_wp2_with fail
      go_round
      case rel => exact ⟨1, rfl, by decide, Lib.hid ⟨KT.out.set1 0 0 (.int .i64 x) rfl HD.out, KB.out.setCell (Nat.le_refl _) _⟩⟩
      case measure => simp [intOf]
    · have KT := Lib.hid HR.out.T
      have KB := Lib.hid HR.out.B
      have x0 := KT.out.cell 0 1 rfl rfl
      have xf0 := KT.out.froz 0 1 rfl rfl
      have lx := KT.out.lt 0 rfl
      clear HR SP
      simp only [Nat.lt_irrefl, if_false] at x0
      go_wp2_with fail
      refine (LB.out _).mono ?_
      rintro e w1 ⟨rfl, rfl⟩
      go_wp2_with fail
      go_round
      case rel => exact ⟨2, rfl, by decide, Lib.hid ⟨KT.out.set1 0 1 (.int .i64 y) rfl HD.out, KB.out.setCell (Nat.le_refl _) _⟩⟩
      case measure => simp [intOf]
    · have KT := Lib.hid HR.out.T
      have KB := Lib.hid HR.out.B
      have x0 := KT.out.cell 0 2 rfl rfl
      have xf0 := KT.out.froz 0 2 rfl rfl
      have lx := KT.out.lt 0 rfl
      clear HR SP
      simp only [Nat.lt_irrefl, if_false] at x0
      go_wp2_with fail
      refine (LC.out _).mono ?_
      rintro e w1 ⟨rfl, rfl⟩
      go_wp2_with fail
      go_round
      case rel => exact ⟨3, rfl, by decide, Lib.hid ⟨KT.out.set1 0 2 (.int .i64 z) rfl HD.out, KB.out.setCell (Nat.le_refl _) _⟩⟩
      case measure => simp [intOf]
    · have KT := Lib.hid HR.out.T
      have KB := Lib.hid HR.out.B
      have x0 := KT.out.cell 0 3 rfl rfl
      have xf0 := KT.out.froz 0 3 rfl rfl
      have lx := KT.out.lt 0 rfl
      clear HR SP
      simp only [Nat.lt_irrefl, if_false] at x0
      go_wp2_with fail
      refine (LD.out _).mono ?_
      rintro e w1 ⟨rfl, rfl⟩
      go_wp2_with fail
      go_round
      case rel => exact ⟨4, rfl, by decide, Lib.hid ⟨KT.out.set1 0 3 (.int .i64 t) rfl HD.out, KB.out.setCell (Nat.le_refl _) _⟩⟩
      case measure => simp [intOf]
    · have KT : Hid (Tab wr [(w.heap.size, [.int .i64 x, .int .i64 y, .int .i64 z, .int .i64 t]), (w.heap.size + 1, [.int .i64 0, .int .i64 0, .int .i64 0, .int .i64 0])]) := Lib.hid HR.out.T
      have KB := Lib.hid HR.out.B
      have x0 := KT.out.cell 0 0 rfl rfl
      have x1 := KT.out.cell 0 1 rfl rfl
      have x2 := KT.out.cell 0 2 rfl rfl
      have x3 := KT.out.cell 0 3 rfl rfl
      have z0 := KT.out.cell 1 0 rfl rfl
      have z1 := KT.out.cell 1 1 rfl rfl
      have z2 := KT.out.cell 1 2 rfl rfl
      have z3 := KT.out.cell 1 3 rfl rfl
      have zf0 := KT.out.froz 1 0 rfl rfl
      have zf1 := KT.out.froz 1 1 rfl rfl
      have zf2 := KT.out.froz 1 2 rfl rfl
      have zf3 := KT.out.froz 1 3 rfl rfl
      have lz := KT.out.lt 1 rfl
      have sp := SP.out
      clear HR SP
      rcases sp with ⟨rfl, rfl, rfl, rfl, h1, h2⟩ | ⟨rfl, rfl, rfl, rfl, h1⟩ | ⟨rfl, rfl, rfl, rfl, h1, h2⟩
      · go_wp2_with fail
        refine bodyPost_ret (v := .agg #[.int .i64 A, .int .i64 B, .int .i64 C, .int .i64 D]) (by simp [results, Try.results18, go_sem, z0, z1, z2, z3]) rfl ?_
        exact ⟨rfl, (by have hk := KB.out; repeat' (first | exact hk | (with_reducible refine Below.drew ?_) | (with_reducible refine Below.alloc ?_ ?_ _) | (with_reducible refine Below.setCell ?_ ?_ _) | (with_reducible refine below_drewN ?_ _) | go_size))⟩
      · go_wp2_with fail
        refine bodyPost_ret (v := .agg #[.int .i64 0, .int .i64 0, .int .i64 0, .int .i64 0]) (by simp [results, Try.results18, go_sem, z0, z1, z2, z3]) rfl ?_
        exact ⟨rfl, (by have hk := KB.out; repeat' (first | exact hk | (with_reducible refine Below.drew ?_) | (with_reducible refine Below.alloc ?_ ?_ _) | (with_reducible refine Below.setCell ?_ ?_ _) | (with_reducible refine below_drewN ?_ _) | go_size))⟩
      · go_wp2_with fail
        refine bodyPost_ret (v := .agg #[.int .i64 0, .int .i64 0, .int .i64 0, .int .i64 0]) (by simp [results, Try.results18, go_sem, z0, z1, z2, z3]) rfl ?_
        exact ⟨rfl, (by have hk := KB.out; repeat' (first | exact hk | (with_reducible refine Below.drew ?_) | (with_reducible refine Below.alloc ?_ ?_ _) | (with_reducible refine Below.setCell ?_ ?_ _) | (with_reducible refine below_drewN ?_ _) | go_size))⟩
/-- a side moved -/
theorem r6plus_any (a n : Int) (a0 : -1073741824 ≤ a) (a1 : a ≤ 1073741824) (n0 : I64 n) (w : World) : Calls Try.prog 28 #[.int .i64 a, .int .i64 n] w fun e w' => e = .returned (.int .i64 (lim (a + nr n))) ∧ Below w.heap.size w w' := by
  obtain ⟨n0, n1⟩ := n0
  obtain ⟨m, hm⟩ : ∃ m, m = (if n < -3000000000 then -3000000000 else if 3000000000 < n then 3000000000 else n) := ⟨_, rfl⟩
  have hl : lim (a + m) = lim (a + nr n) := by unfold lim nr; omega
  have mb : -3000000000 ≤ m ∧ m ≤ 3000000000 := by omega
  have L := Lib.hid (r6bound_any (a + m) ⟨by omega, by omega⟩)
  rw [hl] at L
  have cs : (3000000000 < n ∧ m = 3000000000) ∨ (n ≤ 3000000000 ∧ n < -3000000000 ∧ m = -3000000000) ∨ (n ≤ 3000000000 ∧ -3000000000 ≤ n ∧ m = n) := by omega
  obtain ⟨v, hv⟩ : ∃ v, lim (a + nr n) = v := ⟨_, rfl⟩
  rw [hv] at L ⊢
  clear hm hl hv
  rcases cs with ⟨h1, rfl⟩ | ⟨h1, h2, rfl⟩ | ⟨h1, h2, rfl⟩
  all_goals
    go_enter Try.func28, Try.ntmps28
    go_wp2_with fail
    refine (L.out _).mono ?_
    rintro e w1 ⟨rfl, rfl⟩
    go_wp2_with fail
    go_returns
    exact ⟨rfl, Below.refl _ _⟩
theorem r6has_any (a b c d A B C D x y : Int) (a0 : I64 a) (b0 : I64 b) (c0 : I64 c) (d0 : I64 d) (h : Nrm a b c d A B C D) (w : World) :
    Calls Try.prog 27 #[rv a b c d, .int .i64 x, .int .i64 y] w fun e w' => e = .returned (.bool (hasB A B C D x y)) ∧ Below w.heap.size w w' := by
  have N := Lib.hid (r6right_any a b c d A B C D a0 b0 c0 d0 h)
  have cs : (A ≤ x ∧ x < C ∧ B ≤ y ∧ y < D ∧ hasB A B C D x y = true) ∨ (x < A ∧ hasB A B C D x y = false) ∨ (A ≤ x ∧ C ≤ x ∧ hasB A B C D x y = false) ∨ (A ≤ x ∧ x < C ∧ y < B ∧ hasB A B C D x y = false) ∨ (A ≤ x ∧ x < C ∧ B ≤ y ∧ D ≤ y ∧ hasB A B C D x y = false) := by
    unfold hasB
    by_cases p1 : A ≤ x <;> by_cases p2 : x < C <;> by_cases p3 : B ≤ y <;> by_cases p4 : y < D <;> simp [p1, p2, p3, p4] <;> omega
  obtain ⟨f, hf⟩ : ∃ f, hasB A B C D x y = f := ⟨_, rfl⟩
  rw [hf] at cs ⊢
  clear h hf
  unfold rv at N ⊢
  rcases cs with ⟨h1, h2, h3, h4, rfl⟩ | ⟨h1, rfl⟩ | ⟨h1, h2, rfl⟩ | ⟨h1, h2, h3, rfl⟩ | ⟨h1, h2, h3, h4, rfl⟩
  all_goals
    go_enter Try.func27, Try.ntmps27
    go_wp2_with fail
    refine (N.out _).mono ?_
    rintro e w1 ⟨rfl, hb⟩
    have KB : Hid (Below w.heap.size w w1) := Lib.hid (bel_tr0 (by go_grown) hb)
    have R := (B4.new w a b c d 42).later hb
    obtain ⟨k0, k1, k2, k3, f0, f1, f2, f3⟩ := R
    have hz := hb.size
    simp only [World.size_alloc] at hz
    clear hb
    go_wp2_with fail
    go_returns
    exact ⟨by first | rfl | (simp; done) | (simp; omega), (by have hk := KB.out; repeat' (first | exact hk | (with_reducible refine Below.drew ?_) | (with_reducible refine Below.alloc ?_ ?_ _) | (with_reducible refine Below.setCell ?_ ?_ _) | (with_reducible refine below_drewN ?_ _) | go_size))⟩
theorem made6_any (a b c d : Int) (w : World) : Calls Try.prog 17 #[rv a b c d] w fun e w' => e = .returned (rv a b c d) ∧ Below w.heap.size w w' := by
  unfold rv
  go_enter Try.func17, Try.ntmps17
  go_wp2_with fail
  go_returns
  exact ⟨rfl, by go_grown⟩
theorem plain6_any (a b c d : Int) (w : World) : Calls Try.prog 19 #[rv a b c d] w fun e w' => e = .returned (rv a b c d) ∧ Below w.heap.size w w' := by
  unfold rv
  go_enter Try.func19, Try.ntmps19
  go_wp2_with fail
  go_returns
  exact ⟨rfl, by go_grown⟩
end Go.Proofs.Ytlkpegfbnmecpaa
