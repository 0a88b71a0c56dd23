/- Package rect: its calls. -/
import Derived.Test.YtjemnjboopabpaaWideE
import Derived.Test.YtjemnjboopabpaaRegW
import Derived.WalkKit
import Derived.WalkSpells
import Derived.WalkLawsBesides
import Derived.Handy
import Derived.Lib.Hide
import Derived.Deep.QuietTactic
import Derived.BigQuiet
import Derived.LoopTactic
import Derived.Deep.RegionHeld3
import Derived.Deep.RegionWith
import Derived.Outline
import Derived.Deep.DeepCutAuto
namespace Go.Proofs.Ytjemnjboopabpaa
open Go.RowKit Go.Proofs.Reg
set_option linter.unusedVariables false
set_option linter.unusedSimpArgs false
set_option maxRecDepth 100000
theorem xlimited_any (n m : Int) (n0 : -9223372036854775808 ≤ n) (n1 : n ≤ 9223372036854775807) (m0 : 0 ≤ m) (m1 : m ≤ 2147483648) (w : World) :
    Calls Try.prog 68 #[.int .i64 n, .int .i64 m] w fun e w' => e = .returned (.int .i64 (min (max n (-m)) m)) ∧ w' = w := by
  go_enter Try.func68, Try.ntmps68
  go_wp2_with fail
  go_returns
  exact ⟨rfl, rfl⟩
/-- a side, limited -/
def lim (n : Int) : Int := min (max n (-1073741824)) 1073741824
theorem lim_bd (n : Int) : -1073741824 ≤ lim n ∧ lim n ≤ 1073741824 := by unfold lim; omega
theorem xlim_any (n : Int) (n0 : -9223372036854775808 ≤ n) (n1 : n ≤ 9223372036854775807) (w : World) :
    Calls Try.prog 68 #[.int .i64 n, .int .i64 1073741824] w fun e w' => e = .returned (.int .i64 (lim n)) ∧ w' = w :=
  xlimited_any n 1073741824 n0 n1 (by decide) (by decide) w
/-- four numbers put right -/
def Nrm (a b c d A B C D : Int) : Prop :=
  (lim a < lim c ∧ lim b < lim d ∧ A = lim a ∧ B = lim b ∧ C = lim c ∧ D = lim d) ∨ ((lim c ≤ lim a ∨ lim d ≤ lim b) ∧ A = 0 ∧ B = 0 ∧ C = 0 ∧ D = 0)
theorem nrm_ex (a b c d : Int) : ∃ A B C D, Nrm a b c d A B C D := by
  by_cases h : lim a < lim c ∧ lim b < lim d
  · exact ⟨_, _, _, _, .inl ⟨h.1, h.2, rfl, rfl, rfl, rfl⟩⟩
  · exact ⟨0, 0, 0, 0, .inr ⟨by omega, rfl, rfl, rfl, rfl⟩⟩
/-- put right: it is empty, or its sides stand as they should -/
def Rgt (A B C D : Int) : Prop := (A = 0 ∧ B = 0 ∧ C = 0 ∧ D = 0) ∨ (-1073741824 ≤ A ∧ A < C ∧ C ≤ 1073741824 ∧ -1073741824 ≤ B ∧ B < D ∧ D ≤ 1073741824)
theorem Nrm.rgt {a b c d A B C D : Int} (h : Nrm a b c d A B C D) : Rgt A B C D := by
  have := lim_bd a; have := lim_bd b; have := lim_bd c; have := lim_bd d
  unfold Nrm at h; unfold Rgt
  omega
theorem Rgt.nrm {A B C D : Int} (h : Rgt A B C D) : Nrm A B C D A B C D := by
  unfold Rgt at h; unfold Nrm lim
  omega
theorem Nrm.uniq {a b c d A B C D A' B' C' D' : Int} (h : Nrm a b c d A B C D) (k : Nrm a b c d A' B' C' D') : A' = A ∧ B' = B ∧ C' = C ∧ D' = D := by
  unfold Nrm at h k
  omega
abbrev I64 (n : Int) : Prop := -9223372036854775808 ≤ n ∧ n ≤ 9223372036854775807
theorem Rgt.i64 {A B C D : Int} (h : Rgt A B C D) : I64 A ∧ I64 B ∧ I64 C ∧ I64 D := by
  unfold Rgt at h
  refine ⟨⟨?_, ?_⟩, ⟨?_, ?_⟩, ⟨?_, ?_⟩, ?_, ?_⟩ <;> omega
def rv (a b c d : Int) : Value := .agg #[.int .i64 a, .int .i64 b, .int .i64 c, .int .i64 d]
theorem xnew_any (a b c d A B C D : Int) (a0 : I64 a) (b0 : I64 b) (c0 : I64 c) (d0 : I64 d) (h : Nrm a b c d A B C D) (w : World) :
    Calls Try.prog 34 #[.int .i64 a, .int .i64 b, .int .i64 c, .int .i64 d] w fun e w' => e = .returned (rv A B C D) ∧ Below w.heap.size w w' := by
  have LA := Lib.hid (xlim_any a a0.1 a0.2)
  have LB := Lib.hid (xlim_any b b0.1 b0.2)
  have LC := Lib.hid (xlim_any c c0.1 c0.2)
  have LD := Lib.hid (xlim_any d d0.1 d0.2)
  obtain ⟨x, hx⟩ : ∃ x, lim a = x := ⟨_, rfl⟩
  obtain ⟨y, hy⟩ : ∃ x, lim b = x := ⟨_, rfl⟩
  obtain ⟨z, hz⟩ : ∃ x, lim c = x := ⟨_, rfl⟩
  obtain ⟨t, ht⟩ : ∃ x, lim d = x := ⟨_, rfl⟩
  unfold Nrm at h
  rw [hx, hy, hz, ht] at h
  rw [hx] at LA
  rw [hy] at LB
  rw [hz] at LC
  rw [ht] at LD
  clear hx hy hz ht
  unfold rv
  have split : (A = x ∧ B = y ∧ C = z ∧ D = t ∧ x < z ∧ y < t) ∨ (A = 0 ∧ B = 0 ∧ C = 0 ∧ D = 0 ∧ z ≤ x) ∨ (A = 0 ∧ B = 0 ∧ C = 0 ∧ D = 0 ∧ x < z ∧ t ≤ y) := by omega
  clear h
  rcases split with ⟨rfl, rfl, rfl, rfl, h1, h2⟩ | ⟨rfl, rfl, rfl, rfl, h1⟩ | ⟨rfl, rfl, rfl, rfl, h1, h2⟩
  all_goals
    go_enter Try.func34, Try.ntmps34
    go_wp2_with fail
    refine (LA.out _).mono ?_
    rintro e w1 ⟨rfl, rfl⟩
    go_wp2_with fail
    refine (LB.out _).mono ?_
    rintro e w1 ⟨rfl, rfl⟩
    go_wp2_with fail
    refine (LC.out _).mono ?_
    rintro e w1 ⟨rfl, rfl⟩
    go_wp2_with fail
    refine (LD.out _).mono ?_
    rintro e w1 ⟨rfl, rfl⟩
    go_wp2_with fail
    go_returns
    exact ⟨rfl, by go_grown⟩
/-- a box that holds four ints -/
structure B4 (w : World) (b : Nat) (A B C D : Int) : Prop where
  c0 : w.cell? ⟨b, 0, none⟩ = some (.int .i64 A)
  c1 : w.cell? ⟨b, 1, none⟩ = some (.int .i64 B)
  c2 : w.cell? ⟨b, 2, none⟩ = some (.int .i64 C)
  c3 : w.cell? ⟨b, 3, none⟩ = some (.int .i64 D)
  f0 : w.frozen? ⟨b, 0, none⟩ = false
  f1 : w.frozen? ⟨b, 1, none⟩ = false
  f2 : w.frozen? ⟨b, 2, none⟩ = false
  f3 : w.frozen? ⟨b, 3, none⟩ = false
theorem B4.lt {w : World} {b : Nat} {A B C D : Int} (h : B4 w b A B C D) : b < w.heap.size := World.block_lt_of_cell? w _ h.c0
theorem B4.later {w w' : World} {b : Nat} {A B C D : Int} (h : B4 w b A B C D) (hb : Below w.heap.size w w') : B4 w' b A B C D :=
  ⟨cell_later hb h.c0, cell_later hb h.c1, cell_later hb h.c2, cell_later hb h.c3, (hb.frozen (p := ⟨b, 0, none⟩) h.lt).trans h.f0, (hb.frozen (p := ⟨b, 1, none⟩) h.lt).trans h.f1, (hb.frozen (p := ⟨b, 2, none⟩) h.lt).trans h.f2, (hb.frozen (p := ⟨b, 3, none⟩) h.lt).trans h.f3⟩
theorem B4.alloc {w : World} {b : Nat} {A B C D : Int} (h : B4 w b A B C D) (o : Obj) : B4 (w.alloc o) b A B C D :=
  h.later ((Below.refl _ _).alloc (Nat.le_refl _) o)
theorem B4.new (w : World) (A B C D : Int) (t : TypeId) : B4 (w.alloc (.cells #[.int .i64 A, .int .i64 B, .int .i64 C, .int .i64 D] t)) w.heap.size A B C D :=
  ⟨by simp [go_sem], by simp [go_sem], by simp [go_sem], by simp [go_sem], by simp [go_sem], by simp [go_sem], by simp [go_sem], by simp [go_sem]⟩
theorem xright_any (a b c d A B C D : Int) (a0 : I64 a) (b0 : I64 b) (c0 : I64 c) (d0 : I64 d) (h : Nrm a b c d A B C D) (w : World) :
    Calls Try.prog 41 #[rv a b c d] w fun e w' => e = .returned (rv A B C D) ∧ Below w.heap.size w w' := by
  have N := Lib.hid (xnew_any a b c d A B C D a0 b0 c0 d0 h)
  clear h
  unfold rv at N ⊢
  go_enter Try.func41, Try.ntmps41
  go_wp2_with fail
  refine (N.out _).mono ?_
  rintro e w1 ⟨rfl, hb⟩
  have K : Hid (Below w.heap.size w w1) := Lib.hid (bel_tr0 (by go_grown) hb)
  have R := (B4.new (w.alloc (.cells #[.int .i64 a, .int .i64 b, .int .i64 c, .int .i64 d] 40)) 0 0 0 0 40).later hb
  rw [World.size_alloc] at R
  obtain ⟨k0, k1, k2, k3, f0, f1, f2, f3⟩ := R
  have hz := hb.size
  simp only [World.size_alloc] at hz
  clear hb
  go_wp2_with fail
  refine bodyPost_ret (v := .agg #[.int .i64 A, .int .i64 B, .int .i64 C, .int .i64 D]) (by simp [results, Try.results41, go_sem, k0, k1, k2, k3]) rfl ?_
  exact ⟨rfl, (by have hk := K.out; repeat' (first | exact hk | (with_reducible refine Below.drew ?_) | (with_reducible refine Below.alloc ?_ ?_ _) | (with_reducible refine Below.setCell ?_ ?_ _) | (with_reducible refine below_drewN ?_ _) | go_size))⟩
/-- is it empty? -/
def emB (A B C D : Int) : Bool := (A == 0) && (B == 0) && (C == 0) && (D == 0)
theorem rect_eql (a b c d e f g h : Int) (w : World) : (binOp BinOp.eql 40 (rv a b c d) (rv e f g h)).run Try.prog w = .ok (.bool ((a == e) && (b == f) && (c == g) && (d == h))) w := by
  unfold rv
  by_cases h1 : a = e
  · subst h1
    by_cases h2 : b = f
    · subst h2
      by_cases h3 : c = g
      · subst h3
        by_cases h4 : d = h
        · subst h4
          simp [go_sem]
        · simp [go_sem, h4]
      · simp [go_sem, h3]
    · simp [go_sem, h2]
  · simp [go_sem, h1]
theorem xempty_any (a b c d A B C D : Int) (a0 : I64 a) (b0 : I64 b) (c0 : I64 c) (d0 : I64 d) (h : Nrm a b c d A B C D) (w : World) :
    Calls Try.prog 75 #[rv a b c d] w fun e w' => e = .returned (.bool (emB A B C D)) ∧ Below w.heap.size w w' := by
  have N := Lib.hid (xright_any a b c d A B C D a0 b0 c0 d0 h)
  have Q : ∀ w : World, (binOp BinOp.eql 40 (.agg #[.int .i64 A, .int .i64 B, .int .i64 C, .int .i64 D]) (.agg #[.int .i64 0, .int .i64 0, .int .i64 0, .int .i64 0])).run Try.prog w = .ok (.bool (emB A B C D)) w := rect_eql A B C D 0 0 0 0
  clear h
  obtain ⟨f, hf⟩ : ∃ f, emB A B C D = f := ⟨_, rfl⟩
  rw [hf] at Q ⊢
  clear hf
  unfold rv at N ⊢
  go_enter Try.func75, Try.ntmps75
  go_wp2_with fail
  refine (N.out _).mono ?_
  rintro e w1 ⟨rfl, hb⟩
  have K : Hid (Below w.heap.size w w1) := Lib.hid (bel_tr0 (by go_grown) hb)
  clear hb
  go_wp2_with fail
  go_returns
  exact ⟨rfl, K.out⟩
end Go.Proofs.Ytjemnjboopabpaa
