/- Package real at the floats that the law's speaks asks: one and a half, three quarters. -/
import Derived.Test.YtlkpegfbnmecpaaDoorRealD
import Derived.WalkKit
import Derived.WalkSpells
import Derived.WalkLawsBesides
import Derived.Handy
import Derived.Lib.Hide
import Derived.Outline
namespace Go.Proofs.YtlkpegfbnmecpaaDoor
open Go.RowKit Go.Proofs.Flo
set_option linter.unusedVariables false
set_option linter.unusedSimpArgs false
set_option maxRecDepth 100000
theorem trunc_a (w : World) : Calls Tryd.prog 54 #[.float .f64 4609434218613702656] w fun e w' => e = .returned (.float .f64 4607182418800017408) ∧ w' = w := by
  have r : ∀ w : World, (callFunc 70 #[.float .f64 4609434218613702656]).run Tryd.prog w = .ok (.value (.float .f64 4607182418800017408)) w := fun w => by kernel_rfl
  go_enter Tryd.func54, Tryd.ntmps54
  go_wp2_with fail
  go_returns
  exact ⟨rfl, rfl⟩
theorem trunc_b (w : World) : Calls Tryd.prog 54 #[.float .f64 13828302655841107968] w fun e w' => e = .returned (.float .f64 9223372036854775808) ∧ w' = w := by
  have r : ∀ w : World, (callFunc 70 #[.float .f64 13828302655841107968]).run Tryd.prog w = .ok (.value (.float .f64 9223372036854775808)) w := fun w => by kernel_rfl
  go_enter Tryd.func54, Tryd.ntmps54
  go_wp2_with fail
  go_returns
  exact ⟨rfl, rfl⟩
theorem normal_a (w : World) : Calls Tryd.prog 81 #[.float .f64 4609434218613702656] w fun e w' => e = .returned (.tuple #[.float .f64 4609434218613702656, .int .i64 0]) ∧ w' = w := by
  have A := Lib.hid (abs_any 4609434218613702656 (by decide))
  rw [show rung 4609434218613702656 = 4609434218613702656 from by decide] at A
  have e : (FloatKind.f64.format.order 4609434218613702656 4503599627370496 == some Ordering.lt) = false := by decide +kernel
  go_enter Tryd.func81, Tryd.ntmps81
  go_wp2_with fail
  refine (A.out _).mono ?_
  rintro e w1 ⟨rfl, rfl⟩
  go_wp2_with fail
  go_returns
  exact ⟨rfl, rfl⟩
theorem frexp_a (w : World) : Calls Tryd.prog 55 #[.float .f64 4609434218613702656] w fun e w' => e = .returned (.tuple #[.float .f64 4604930618986332160, .int .i64 1]) ∧ w' = w := by
  have H : Hid (∀ w : World, Calls Tryd.prog 73 #[.float .f64 4609434218613702656] w fun e w' => e = .returned (.tuple #[.float .f64 4604930618986332160, .int .i64 1]) ∧ w' = w) := by
    refine Lib.hid fun w => ?_
    have I := Lib.hid (isinf_any 4609434218613702656 (by decide))
    have N := Lib.hid (isnan_any 4609434218613702656)
    rw [show infB 4609434218613702656 = false from by decide] at I
    rw [show nanB 4609434218613702656 = false from by decide] at N
    have M := Lib.hid normal_a
    have e : (FloatKind.f64.format.order 4609434218613702656 0 == some Ordering.eq) = false := by decide +kernel
    have r := run_bits 4609434218613702656
    have q := run_frombits
    have b1 : bits BinOp.and IntKind.u64 1023 2047 = 1023 := by decide +kernel
    have b2 : bits BinOp.andNot IntKind.u64 4609434218613702656 9218868437227405312 = 2251799813685248 := by decide +kernel
    have b3 : bits BinOp.or IntKind.u64 2251799813685248 4602678819172646912 = 4604930618986332160 := by decide +kernel
    go_enter Tryd.func73, Tryd.ntmps73
    go_wp2_with fail
    refine (I.out _).mono ?_
    rintro e w1 ⟨rfl, rfl⟩
    go_wp2_with fail
    refine (N.out _).mono ?_
    rintro e w1 ⟨rfl, rfl⟩
    go_wp2_with fail
    refine (M.out _).mono ?_
    rintro e w1 ⟨rfl, rfl⟩
    go_wp2_with fail
    go_returns
    exact ⟨rfl, rfl⟩
  go_enter Tryd.func55, Tryd.ntmps55
  go_wp2_with fail
  refine (H.out _).mono ?_
  rintro e w1 ⟨rfl, rfl⟩
  go_wp2_with fail
  go_returns
  exact ⟨rfl, rfl⟩
theorem normal_b (w : World) : Calls Tryd.prog 81 #[.float .f64 13828302655841107968] w fun e w' => e = .returned (.tuple #[.float .f64 13828302655841107968, .int .i64 0]) ∧ w' = w := by
  have A := Lib.hid (abs_any 13828302655841107968 (by decide))
  rw [show rung 13828302655841107968 = 4604930618986332160 from by decide] at A
  have e : (FloatKind.f64.format.order 4604930618986332160 4503599627370496 == some Ordering.lt) = false := by decide +kernel
  go_enter Tryd.func81, Tryd.ntmps81
  go_wp2_with fail
  refine (A.out _).mono ?_
  rintro e w1 ⟨rfl, rfl⟩
  go_wp2_with fail
  go_returns
  exact ⟨rfl, rfl⟩
theorem frexp_b (w : World) : Calls Tryd.prog 55 #[.float .f64 13828302655841107968] w fun e w' => e = .returned (.tuple #[.float .f64 13828302655841107968, .int .i64 0]) ∧ w' = w := by
  have H : Hid (∀ w : World, Calls Tryd.prog 73 #[.float .f64 13828302655841107968] w fun e w' => e = .returned (.tuple #[.float .f64 13828302655841107968, .int .i64 0]) ∧ w' = w) := by
    refine Lib.hid fun w => ?_
    have I := Lib.hid (isinf_any 13828302655841107968 (by decide))
    have N := Lib.hid (isnan_any 13828302655841107968)
    rw [show infB 13828302655841107968 = false from by decide] at I
    rw [show nanB 13828302655841107968 = false from by decide] at N
    have M := Lib.hid normal_b
    have e : (FloatKind.f64.format.order 13828302655841107968 0 == some Ordering.eq) = false := by decide +kernel
    have r := run_bits 13828302655841107968
    have q := run_frombits
    have b1 : bits BinOp.and IntKind.u64 3070 2047 = 1022 := by decide +kernel
    have b2 : bits BinOp.andNot IntKind.u64 13828302655841107968 9218868437227405312 = 9225623836668461056 := by decide +kernel
    have b3 : bits BinOp.or IntKind.u64 9225623836668461056 4602678819172646912 = 13828302655841107968 := by decide +kernel
    go_enter Tryd.func73, Tryd.ntmps73
    go_wp2_with fail
    refine (I.out _).mono ?_
    rintro e w1 ⟨rfl, rfl⟩
    go_wp2_with fail
    refine (N.out _).mono ?_
    rintro e w1 ⟨rfl, rfl⟩
    go_wp2_with fail
    refine (M.out _).mono ?_
    rintro e w1 ⟨rfl, rfl⟩
    go_wp2_with fail
    go_returns
    exact ⟨rfl, rfl⟩
  go_enter Tryd.func55, Tryd.ntmps55
  go_wp2_with fail
  refine (H.out _).mono ?_
  rintro e w1 ⟨rfl, rfl⟩
  go_wp2_with fail
  go_returns
  exact ⟨rfl, rfl⟩
/-- a cell of the table of trailing zeros -/
def Deb (w : World) : Prop := w.cell? ⟨1, 22, none⟩ = some (.int .u8 51)
theorem Deb.later {w w' : World} (h : Deb w) (hb : Below w.heap.size w w') : Deb w' := cell_later hb h
theorem tz_a (w : World) (h : Deb w) : Calls Tryd.prog 56 #[.int .u64 6755399441055744] w fun e w' => e = .returned (.int .i64 51) ∧ w' = w := by
  have b1 : bits BinOp.and IntKind.u64 6755399441055744 18439988674268495872 = 2251799813685248 := by decide +kernel
  have b2 : IntKind.u64.wrap (-6755399441055744) = 18439988674268495872 := by decide +kernel
  have b3 : IntKind.u64.wrap 643722492487200784356841378283520 = 6361334473660825600 := by decide +kernel
  have hc : w.cell? ⟨1, 22, none⟩ = some (.int .u8 51) := h
  go_enter Tryd.func56, Tryd.ntmps56
  go_wp2_with fail
  go_returns
  exact ⟨rfl, rfl⟩
theorem tz_b (w : World) (h : Deb w) : Calls Tryd.prog 56 #[.int .u64 18439988674268495872] w fun e w' => e = .returned (.int .i64 51) ∧ w' = w := by
  have b1 : bits BinOp.and IntKind.u64 18439988674268495872 6755399441055744 = 2251799813685248 := by decide +kernel
  have b2 : IntKind.u64.wrap (-18439988674268495872) = 6755399441055744 := by decide +kernel
  have b3 : IntKind.u64.wrap 643722492487200784356841378283520 = 6361334473660825600 := by decide +kernel
  have hc : w.cell? ⟨1, 22, none⟩ = some (.int .u8 51) := h
  go_enter Tryd.func56, Tryd.ntmps56
  go_wp2_with fail
  go_returns
  exact ⟨rfl, rfl⟩
theorem split_a (w : World) (h : Deb w) : Calls Tryd.prog 36 #[.float .f64 4609434218613702656] w fun e w' => e = .returned (.tuple #[.int .i64 3, .int .i64 1]) ∧ w' = w := by
  have T := Lib.hid trunc_a
  have F := Lib.hid frexp_a
  have Z := Lib.hid (tz_a)
  have hd := Lib.hid h
  have e1 : (FloatKind.f64.format.order 4609434218613702656 4607182418800017408 == some Ordering.eq) = false := by decide +kernel
  have rm : ∀ w : World, (binOp BinOp.mul 26 (.float .f64 4604930618986332160) (.float .f64 4845873199050653696)).run Tryd.prog w = .ok (.float .f64 4843621399236968448) w := fun w => by kernel_rfl
  have rc : ∀ w : World, (convert 26 2 (.float .f64 4843621399236968448)).run Tryd.prog w = .ok (.int .i64 6755399441055744) w := fun w => by kernel_rfl
  clear h
  go_enter Tryd.func36, Tryd.ntmps36
  go_wp2_with fail
  refine (T.out _).mono ?_
  rintro e w1 ⟨rfl, rfl⟩
  go_wp2_with fail
  refine (F.out _).mono ?_
  rintro e w1 ⟨rfl, rfl⟩
  go_wp2_with fail
  refine (Z.out _ hd.out).mono ?_
  rintro e w1 ⟨rfl, rfl⟩
  go_wp2_with fail
  go_returns
  exact ⟨rfl, rfl⟩
theorem split_b (w : World) (h : Deb w) : Calls Tryd.prog 36 #[.float .f64 13828302655841107968] w fun e w' => e = .returned (.tuple #[.int .i64 (-3), .int .i64 2]) ∧ w' = w := by
  have T := Lib.hid trunc_b
  have F := Lib.hid frexp_b
  have Z := Lib.hid (tz_b)
  have hd := Lib.hid h
  have e1 : (FloatKind.f64.format.order 13828302655841107968 9223372036854775808 == some Ordering.eq) = false := by decide +kernel
  have rm : ∀ w : World, (binOp BinOp.mul 26 (.float .f64 13828302655841107968) (.float .f64 4845873199050653696)).run Tryd.prog w = .ok (.float .f64 14066993436091744256) w := fun w => by kernel_rfl
  have rc : ∀ w : World, (convert 26 2 (.float .f64 14066993436091744256)).run Tryd.prog w = .ok (.int .i64 (-6755399441055744)) w := fun w => by kernel_rfl
  clear h
  go_enter Tryd.func36, Tryd.ntmps36
  go_wp2_with fail
  refine (T.out _).mono ?_
  rintro e w1 ⟨rfl, rfl⟩
  go_wp2_with fail
  refine (F.out _).mono ?_
  rintro e w1 ⟨rfl, rfl⟩
  go_wp2_with fail
  refine (Z.out _ hd.out).mono ?_
  rintro e w1 ⟨rfl, rfl⟩
  go_wp2_with fail
  go_returns
  exact ⟨rfl, rfl⟩
end Go.Proofs.YtlkpegfbnmecpaaDoor
