/- Law 15: what its helpers and the document's answer say. Made by gen/widd.py. -/
import Derived.Test.YtmelbgabiklojaaWidC
import Derived.Test.YtmelbgabiklojaaFixC
import Derived.Deep.DeepCutAuto
import Derived.Deep.CutBlock
import Derived.WalkKit
import Derived.WalkSpells
import Derived.WalkLawsBesides
import Derived.Handy
import Derived.Lib.Hide
import Derived.Deep.QuietTactic
import Derived.BigQuiet
import Derived.LoopTactic
import Derived.Outline
namespace Go.Proofs.Ytmelbgabiklojaa
open Go.RowKit Go.Proofs.Reg Go.Proofs.Big Wid
set_option linter.unusedVariables false
set_option linter.unusedSimpArgs false
set_option maxRecDepth 100000
theorem told15_any (A W L R E Lo Hi : Int) (a al ar bd : Bool) (w : World) : Calls Try.prog 44 #[.agg #[.int .i64 A, .int .i64 W, .bool a, .int .i64 L, .int .i64 R, .bool al, .bool ar, .int .i64 E, .int .i64 Lo, .int .i64 Hi, .bool bd]] w fun e w' => e = .returned (.agg #[.int .i64 A, .int .i64 W, .bool a, .int .i64 L, .int .i64 R, .bool al, .bool ar, .int .i64 E, .int .i64 Lo, .int .i64 Hi, .bool bd]) ∧ Below w.heap.size w w' := by
  go_enter Try.func44, Try.ntmps44
  go_wp2_with fail
  go_returns
  exact ⟨rfl, by go_grown⟩
theorem rm40 (x : Int) (h : In64 x) (wy : World) : (binOp BinOp.rem 2 (.int .i64 x) (.int .i64 1099511627776)).run Try.prog wy = .ok (.int .i64 (x.tmod 1099511627776)) wy := by
  simp [go_sem]
theorem cu_of (x : Int) : Cu (x.tmod 1099511627776) := ⟨Int.lt_tmod_of_pos x (by decide), Int.tmod_lt_of_pos x (by decide)⟩
theorem cut15_any (A W L R E Lo Hi : Int) (a al ar bd : Bool) (hA : In64 A) (hW : In64 W) (hL : In64 L) (hR : In64 R) (hE : In64 E) (h0 : In64 Lo) (h1 : In64 Hi) (w : World) : Calls Try.prog 22 #[.agg #[.int .i64 A, .int .i64 W, .bool a, .int .i64 L, .int .i64 R, .bool al, .bool ar, .int .i64 E, .int .i64 Lo, .int .i64 Hi, .bool bd]] w fun e w' => e = .returned (.agg #[.int .i64 (A.tmod 1099511627776), .int .i64 (W.tmod 1099511627776), .bool a, .int .i64 (L.tmod 1099511627776), .int .i64 (R.tmod 1099511627776), .bool al, .bool ar, .int .i64 (E.tmod 1099511627776), .int .i64 (Lo.tmod 1099511627776), .int .i64 (Hi.tmod 1099511627776), .bool bd]) ∧ Below w.heap.size w w' := by
  have rA := rm40 A hA
  have rW := rm40 W hW
  have rL := rm40 L hL
  have rR := rm40 R hR
  have rE := rm40 E hE
  have r0 := rm40 Lo h0
  have r1 := rm40 Hi h1
  clear hA hW hL hR hE h0 h1
  go_enter Try.func22, Try.ntmps22
  go_wp2_with fail
  go_returns
  exact ⟨rfl, by go_grown⟩
theorem tz_cu {n : Int} {b : Bool} (h : Cu n) : Cu (tz n b) := by
  obtain ⟨h0, h1⟩ := h
  unfold tz; cases b
  · exact ⟨by simpa using h0, by simpa using h1⟩
  · rw [if_pos rfl]; exact ⟨by decide, by decide⟩
set_option maxHeartbeats 16000000 in
theorem r15once_any (A W L R E Lo Hi : Int) (a al ar bd : Bool) (hA : Cu A) (hW : Cu W) (hL : Cu L) (hR : Cu R) (hE : Cu E) (w : World) : Calls Try.prog 46 #[.agg #[.int .i64 A, .int .i64 W, .bool a, .int .i64 L, .int .i64 R, .bool al, .bool ar, .int .i64 E, .int .i64 Lo, .int .i64 Hi, .bool bd]] w fun e w' => e = .returned (.agg #[.int .i64 (onceT A W L R E a al ar).1, .int .i64 (onceT A W L R E a al ar).2.1, .int .i64 (onceT A W L R E a al ar).2.2]) ∧ Below w.heap.size w w' := by
  obtain ⟨A0, A1⟩ := hA
  obtain ⟨W0, W1⟩ := hW
  obtain ⟨L0, L1⟩ := hL
  obtain ⟨R0, R1⟩ := hR
  obtain ⟨E0, E1⟩ := hE
  have P0 : a = true → al = true → ar = true → A - 0 - E - 0 < 0 → onceT A W L R E a al ar = (0, 0, A - (0) - (0) - E) := fun h1 h2 h3 h4 => by
    subst h1 h2 h3
    unfold onceT restW
    simp only [tz, wW, lW, if_true, if_false, Bool.false_eq_true, Prod.mk.injEq]
    refine ⟨?_, ?_, ?_⟩ <;> first | trivial | omega | (split <;> omega)
  have P1 : a = true → al = true → ar = true → ¬ A - 0 - E - 0 < 0 → onceT A W L R E a al ar = (A - 0 - E - 0, 0, A - (0) - (A - 0 - E - 0) - E) := fun h1 h2 h3 h4 => by
    subst h1 h2 h3
    unfold onceT restW
    simp only [tz, wW, lW, if_true, if_false, Bool.false_eq_true, Prod.mk.injEq]
    refine ⟨?_, ?_, ?_⟩ <;> first | trivial | omega | (split <;> omega)
  have P2 : a = true → al = true → ar = false → A - 0 - E - R < 0 → onceT A W L R E a al ar = (0, 0, A - (0) - (0) - E) := fun h1 h2 h3 h4 => by
    subst h1 h2 h3
    unfold onceT restW
    simp only [tz, wW, lW, if_true, if_false, Bool.false_eq_true, Prod.mk.injEq]
    refine ⟨?_, ?_, ?_⟩ <;> first | trivial | omega | (split <;> omega)
  have P3 : a = true → al = true → ar = false → ¬ A - 0 - E - R < 0 → onceT A W L R E a al ar = (A - 0 - E - R, 0, A - (0) - (A - 0 - E - R) - E) := fun h1 h2 h3 h4 => by
    subst h1 h2 h3
    unfold onceT restW
    simp only [tz, wW, lW, if_true, if_false, Bool.false_eq_true, Prod.mk.injEq]
    refine ⟨?_, ?_, ?_⟩ <;> first | trivial | omega | (split <;> omega)
  have P4 : a = true → al = false → ar = true → A - L - E - 0 < 0 → onceT A W L R E a al ar = (0, L, A - (L) - (0) - E) := fun h1 h2 h3 h4 => by
    subst h1 h2 h3
    unfold onceT restW
    simp only [tz, wW, lW, if_true, if_false, Bool.false_eq_true, Prod.mk.injEq]
    refine ⟨?_, ?_, ?_⟩ <;> first | trivial | omega | (split <;> omega)
  have P5 : a = true → al = false → ar = true → ¬ A - L - E - 0 < 0 → onceT A W L R E a al ar = (A - L - E - 0, L, A - (L) - (A - L - E - 0) - E) := fun h1 h2 h3 h4 => by
    subst h1 h2 h3
    unfold onceT restW
    simp only [tz, wW, lW, if_true, if_false, Bool.false_eq_true, Prod.mk.injEq]
    refine ⟨?_, ?_, ?_⟩ <;> first | trivial | omega | (split <;> omega)
  have P6 : a = true → al = false → ar = false → A - L - E - R < 0 → onceT A W L R E a al ar = (0, L, A - (L) - (0) - E) := fun h1 h2 h3 h4 => by
    subst h1 h2 h3
    unfold onceT restW
    simp only [tz, wW, lW, if_true, if_false, Bool.false_eq_true, Prod.mk.injEq]
    refine ⟨?_, ?_, ?_⟩ <;> first | trivial | omega | (split <;> omega)
  have P7 : a = true → al = false → ar = false → ¬ A - L - E - R < 0 → onceT A W L R E a al ar = (A - L - E - R, L, A - (L) - (A - L - E - R) - E) := fun h1 h2 h3 h4 => by
    subst h1 h2 h3
    unfold onceT restW
    simp only [tz, wW, lW, if_true, if_false, Bool.false_eq_true, Prod.mk.injEq]
    refine ⟨?_, ?_, ?_⟩ <;> first | trivial | omega | (split <;> omega)
  have P8 : a = false → al = true → ar = true → 0 ≤ A - W - E - 0 - 0 → onceT A W L R E a al ar = (W, (A - W - E - 0 - 0) / 2, A - ((A - W - E - 0 - 0) / 2) - (W) - E) := fun h1 h2 h3 h4 => by
    subst h1 h2 h3
    unfold onceT restW
    simp only [tz, wW, lW, if_true, if_false, Bool.false_eq_true, Prod.mk.injEq]
    refine ⟨?_, ?_, ?_⟩ <;> first | trivial | omega | (split <;> omega)
  have P9 : a = false → al = true → ar = true → ¬ 0 ≤ A - W - E - 0 - 0 → onceT A W L R E a al ar = (W, 0, A - (0) - (W) - E) := fun h1 h2 h3 h4 => by
    subst h1 h2 h3
    unfold onceT restW
    simp only [tz, wW, lW, if_true, if_false, Bool.false_eq_true, Prod.mk.injEq]
    refine ⟨?_, ?_, ?_⟩ <;> first | trivial | omega | (split <;> omega)
  have P10 : a = false → al = true → ar = false → 0 ≤ A - W - E - 0 - R → onceT A W L R E a al ar = (W, A - W - E - 0 - R, A - (A - W - E - 0 - R) - (W) - E) := fun h1 h2 h3 h4 => by
    subst h1 h2 h3
    unfold onceT restW
    simp only [tz, wW, lW, if_true, if_false, Bool.false_eq_true, Prod.mk.injEq]
    refine ⟨?_, ?_, ?_⟩ <;> first | trivial | omega | (split <;> omega)
  have P11 : a = false → al = true → ar = false → ¬ 0 ≤ A - W - E - 0 - R → onceT A W L R E a al ar = (W, 0, A - (0) - (W) - E) := fun h1 h2 h3 h4 => by
    subst h1 h2 h3
    unfold onceT restW
    simp only [tz, wW, lW, if_true, if_false, Bool.false_eq_true, Prod.mk.injEq]
    refine ⟨?_, ?_, ?_⟩ <;> first | trivial | omega | (split <;> omega)
  have P12 : a = false → al = false → ar = true → 0 ≤ A - W - E - L - 0 → onceT A W L R E a al ar = (W, L, A - (L) - (W) - E) := fun h1 h2 h3 h4 => by
    subst h1 h2 h3
    unfold onceT restW
    simp only [tz, wW, lW, if_true, if_false, Bool.false_eq_true, Prod.mk.injEq]
    refine ⟨?_, ?_, ?_⟩ <;> first | trivial | omega | (split <;> omega)
  have P13 : a = false → al = false → ar = true → ¬ 0 ≤ A - W - E - L - 0 → onceT A W L R E a al ar = (W, L, A - (L) - (W) - E) := fun h1 h2 h3 h4 => by
    subst h1 h2 h3
    unfold onceT restW
    simp only [tz, wW, lW, if_true, if_false, Bool.false_eq_true, Prod.mk.injEq]
    refine ⟨?_, ?_, ?_⟩ <;> first | trivial | omega | (split <;> omega)
  have P14 : a = false → al = false → ar = false → 0 ≤ A - W - E - L - R → onceT A W L R E a al ar = (W, L, A - (L) - (W) - E) := fun h1 h2 h3 h4 => by
    subst h1 h2 h3
    unfold onceT restW
    simp only [tz, wW, lW, if_true, if_false, Bool.false_eq_true, Prod.mk.injEq]
    refine ⟨?_, ?_, ?_⟩ <;> first | trivial | omega | (split <;> omega)
  have P15 : a = false → al = false → ar = false → ¬ 0 ≤ A - W - E - L - R → onceT A W L R E a al ar = (W, L, A - (L) - (W) - E) := fun h1 h2 h3 h4 => by
    subst h1 h2 h3
    unfold onceT restW
    simp only [tz, wW, lW, if_true, if_false, Bool.false_eq_true, Prod.mk.injEq]
    refine ⟨?_, ?_, ?_⟩ <;> first | trivial | omega | (split <;> omega)
  rcases Bool.eq_false_or_eq_true a with rfl | rfl
  · rcases Bool.eq_false_or_eq_true al with rfl | rfl
    · rcases Bool.eq_false_or_eq_true ar with rfl | rfl
      · by_cases q : A - 0 - E - 0 < 0
        · have Q := P0 rfl rfl rfl q
          rw [Q]
          clear Q P0 P1 P2 P3 P4 P5 P6 P7 P8 P9 P10 P11 P12 P13 P14 P15
          go_enter Try.func46, Try.ntmps46
          go_wp2_with fail
          go_returns
          exact ⟨by first | rfl | simp only [Int.sub_zero], by go_grown⟩
        · have Q := P1 rfl rfl rfl q
          rw [Q]
          clear Q P0 P1 P2 P3 P4 P5 P6 P7 P8 P9 P10 P11 P12 P13 P14 P15
          go_enter Try.func46, Try.ntmps46
          go_wp2_with fail
          go_returns
          exact ⟨by first | rfl | simp only [Int.sub_zero], by go_grown⟩
      · by_cases q : A - 0 - E - R < 0
        · have Q := P2 rfl rfl rfl q
          rw [Q]
          clear Q P0 P1 P2 P3 P4 P5 P6 P7 P8 P9 P10 P11 P12 P13 P14 P15
          go_enter Try.func46, Try.ntmps46
          go_wp2_with fail
          go_returns
          exact ⟨by first | rfl | simp only [Int.sub_zero], by go_grown⟩
        · have Q := P3 rfl rfl rfl q
          rw [Q]
          clear Q P0 P1 P2 P3 P4 P5 P6 P7 P8 P9 P10 P11 P12 P13 P14 P15
          go_enter Try.func46, Try.ntmps46
          go_wp2_with fail
          go_returns
          exact ⟨by first | rfl | simp only [Int.sub_zero], by go_grown⟩
    · rcases Bool.eq_false_or_eq_true ar with rfl | rfl
      · by_cases q : A - L - E - 0 < 0
        · have Q := P4 rfl rfl rfl q
          rw [Q]
          clear Q P0 P1 P2 P3 P4 P5 P6 P7 P8 P9 P10 P11 P12 P13 P14 P15
          go_enter Try.func46, Try.ntmps46
          go_wp2_with fail
          go_returns
          exact ⟨by first | rfl | simp only [Int.sub_zero], by go_grown⟩
        · have Q := P5 rfl rfl rfl q
          rw [Q]
          clear Q P0 P1 P2 P3 P4 P5 P6 P7 P8 P9 P10 P11 P12 P13 P14 P15
          go_enter Try.func46, Try.ntmps46
          go_wp2_with fail
          go_returns
          exact ⟨by first | rfl | simp only [Int.sub_zero], by go_grown⟩
      · by_cases q : A - L - E - R < 0
        · have Q := P6 rfl rfl rfl q
          rw [Q]
          clear Q P0 P1 P2 P3 P4 P5 P6 P7 P8 P9 P10 P11 P12 P13 P14 P15
          go_enter Try.func46, Try.ntmps46
          go_wp2_with fail
          go_returns
          exact ⟨by first | rfl | simp only [Int.sub_zero], by go_grown⟩
        · have Q := P7 rfl rfl rfl q
          rw [Q]
          clear Q P0 P1 P2 P3 P4 P5 P6 P7 P8 P9 P10 P11 P12 P13 P14 P15
          go_enter Try.func46, Try.ntmps46
          go_wp2_with fail
          go_returns
          exact ⟨by first | rfl | simp only [Int.sub_zero], by go_grown⟩
  · rcases Bool.eq_false_or_eq_true al with rfl | rfl
    · rcases Bool.eq_false_or_eq_true ar with rfl | rfl
      · by_cases q : 0 ≤ A - W - E - 0 - 0
        · have Q := P8 rfl rfl rfl q
          rw [Q]
          clear Q P0 P1 P2 P3 P4 P5 P6 P7 P8 P9 P10 P11 P12 P13 P14 P15
          have t2 : (A - W - E - 0 - 0).tdiv 2 = (A - W - E - 0 - 0) / 2 := Int.tdiv_eq_ediv_of_nonneg (by omega)
          go_enter Try.func46, Try.ntmps46
          go_wp2_with fail
          go_returns
          exact ⟨by first | rfl | simp only [Int.sub_zero], by go_grown⟩
        · have Q := P9 rfl rfl rfl q
          rw [Q]
          clear Q P0 P1 P2 P3 P4 P5 P6 P7 P8 P9 P10 P11 P12 P13 P14 P15
          go_enter Try.func46, Try.ntmps46
          go_wp2_with fail
          go_returns
          exact ⟨by first | rfl | simp only [Int.sub_zero], by go_grown⟩
      · by_cases q : 0 ≤ A - W - E - 0 - R
        · have Q := P10 rfl rfl rfl q
          rw [Q]
          clear Q P0 P1 P2 P3 P4 P5 P6 P7 P8 P9 P10 P11 P12 P13 P14 P15
          go_enter Try.func46, Try.ntmps46
          go_wp2_with fail
          go_returns
          exact ⟨by first | rfl | simp only [Int.sub_zero], by go_grown⟩
        · have Q := P11 rfl rfl rfl q
          rw [Q]
          clear Q P0 P1 P2 P3 P4 P5 P6 P7 P8 P9 P10 P11 P12 P13 P14 P15
          go_enter Try.func46, Try.ntmps46
          go_wp2_with fail
          go_returns
          exact ⟨by first | rfl | simp only [Int.sub_zero], by go_grown⟩
    · rcases Bool.eq_false_or_eq_true ar with rfl | rfl
      · by_cases q : 0 ≤ A - W - E - L - 0
        · have Q := P12 rfl rfl rfl q
          rw [Q]
          clear Q P0 P1 P2 P3 P4 P5 P6 P7 P8 P9 P10 P11 P12 P13 P14 P15
          go_enter Try.func46, Try.ntmps46
          go_wp2_with fail
          go_returns
          exact ⟨by first | rfl | simp only [Int.sub_zero], by go_grown⟩
        · have Q := P13 rfl rfl rfl q
          rw [Q]
          clear Q P0 P1 P2 P3 P4 P5 P6 P7 P8 P9 P10 P11 P12 P13 P14 P15
          go_enter Try.func46, Try.ntmps46
          go_wp2_with fail
          go_returns
          exact ⟨by first | rfl | simp only [Int.sub_zero], by go_grown⟩
      · by_cases q : 0 ≤ A - W - E - L - R
        · have Q := P14 rfl rfl rfl q
          rw [Q]
          clear Q P0 P1 P2 P3 P4 P5 P6 P7 P8 P9 P10 P11 P12 P13 P14 P15
          go_enter Try.func46, Try.ntmps46
          go_wp2_with fail
          go_returns
          exact ⟨by first | rfl | simp only [Int.sub_zero], by go_grown⟩
        · have Q := P15 rfl rfl rfl q
          rw [Q]
          clear Q P0 P1 P2 P3 P4 P5 P6 P7 P8 P9 P10 P11 P12 P13 P14 P15
          go_enter Try.func46, Try.ntmps46
          go_wp2_with fail
          go_returns
          exact ⟨by first | rfl | simp only [Int.sub_zero], by go_grown⟩
end Go.Proofs.Ytmelbgabiklojaa
