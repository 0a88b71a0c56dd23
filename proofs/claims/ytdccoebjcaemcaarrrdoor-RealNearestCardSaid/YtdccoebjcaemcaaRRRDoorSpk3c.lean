/- What the law's speaks asks of package real: an exact value, the nearest float, and speaks itself. -/
import Derived.Test.YtdccoebjcaemcaaRRRDoorSpk3b
import Derived.Test.YtdccoebjcaemcaaRRRDoorRatioB
import Derived.Test.YtdccoebjcaemcaaRRRDoorSpk2
import Derived.Test.YtdccoebjcaemcaaRRRDoorDiv64
import Derived.WalkKit
import Derived.WalkSpells
import Derived.WalkLawsBesides
import Derived.Handy
import Derived.Lib.Hide
import Derived.Deep.QuietTactic
import Derived.BigQuiet
import Derived.LoopTactic
import Derived.Outline
namespace Go.Proofs.YtdccoebjcaemcaaRRRDoor
open Go.RowKit Go.Proofs.Flo Go.Proofs.Reg
set_option linter.unusedVariables false
set_option linter.unusedSimpArgs false
set_option maxRecDepth 100000
theorem exact_b (w : World) (hD : Deb w) : Calls Tryd.prog 9 #[.float .f64 13828302655841107968] w fun e w' => e = .returned (.tuple #[.agg #[.int .i64 (-3), .int .i64 4], .int .i64 0]) ∧ Below w.heap.size w w' := by
  have L : Lowest (-3) 4 1 (-3) 4 := ⟨by decide, by decide, by decide, by decide, by decide, by decide, by decide, by decide⟩
  have O := Lib.hid (of_any' L 0 (-3) 4 (by decide))
  have N := Lib.hid (isnan_any 13828302655841107968)
  rw [show nanB 13828302655841107968 = false from by decide] at N
  have I := Lib.hid (isinf_any 13828302655841107968 (by decide))
  rw [show infB 13828302655841107968 = false from by decide] at I
  have B := Lib.hid bounded_b
  have S := Lib.hid split_b
  have HD := Lib.hid (hD.later (bel_new w (.cells #[.int .i64 0, .int .i64 0] 25)))
  clear hD L
  go_enter Tryd.func9, Tryd.ntmps9
  go_wp2_with fail
  refine (N.out _).mono ?_
  rintro e w1 ⟨rfl, rfl⟩
  go_wp2_with fail
  refine (I.out _).mono ?_
  rintro e w1 ⟨rfl, rfl⟩
  go_wp2_with fail
  refine (B.out _).mono ?_
  rintro e w1 ⟨rfl, rfl⟩
  go_wp2_with fail
  refine (S.out _ HD.out).mono ?_
  rintro e w1 ⟨rfl, rfl⟩
  go_wp2_with fail
  refine (O.out _).mono ?_
  rintro e w2 ⟨rfl, hb⟩
  have KT := Lib.hid (((Tab.nil w).new [.int .i64 0, .int .i64 0] 25).later hb)
  have KB : Hid (Below w.heap.size w w2) := Lib.hid (bel_tr0 (by go_grown) hb)
  have z0 := KT.out.cell 0 0 rfl rfl
  have z1 := KT.out.cell 0 1 rfl rfl
  have zf0 := KT.out.froz 0 0 rfl rfl
  have zf1 := KT.out.froz 0 1 rfl rfl
  have lz := KT.out.lt 0 rfl
  clear hb
  go_wp2_with fail
  refine bodyPost_ret (v := .tuple #[.agg #[.int .i64 (-3), .int .i64 4], .int .i64 0]) (by simp [results, Tryd.results9, go_sem, z0, z1, lz]) rfl ?_
  exact ⟨rfl, (by have hk := KB.out; repeat' (first | exact hk | (with_reducible refine Below.drew ?_) | (with_reducible refine Below.alloc ?_ ?_ _) | (with_reducible refine Below.setCell ?_ ?_ _) | (with_reducible refine below_drewN ?_ _) | go_size))⟩
theorem normal_c (w : World) : Calls Tryd.prog 76 #[.float .f64 4888657395510673408] w fun e w' => e = .returned (.tuple #[.float .f64 4888657395510673408, .int .i64 0]) ∧ w' = w := by
  have A := Lib.hid (abs_any 4888657395510673408 (by decide))
  rw [show rung 4888657395510673408 = 4888657395510673408 from by decide] at A
  have e : (FloatKind.f64.format.order 4888657395510673408 4503599627370496 == some Ordering.lt) = false := by decide +kernel
  go_enter Tryd.func76, Tryd.ntmps76
  go_wp2_with fail
  refine (A.out _).mono ?_
  rintro e w1 ⟨rfl, rfl⟩
  go_wp2_with fail
  go_returns
  exact ⟨rfl, rfl⟩
theorem ldexp_c (w : World) : Calls Tryd.prog 57 #[.float .f64 4888657395510673408, .int .i64 (-63)] w fun e w' => e = .returned (.float .f64 4604930618986332160) ∧ w' = w := by
  have H : Hid (∀ w : World, Calls Tryd.prog 71 #[.float .f64 4888657395510673408, .int .i64 (-63)] w fun e w' => e = .returned (.float .f64 4604930618986332160) ∧ w' = w) := by
    refine Lib.hid fun w => ?_
    have I := Lib.hid (isinf_any 4888657395510673408 (by decide))
    have N := Lib.hid (isnan_any 4888657395510673408)
    rw [show infB 4888657395510673408 = false from by decide] at I
    rw [show nanB 4888657395510673408 = false from by decide] at N
    have M := Lib.hid normal_c
    have e : (FloatKind.f64.format.order 4888657395510673408 0 == some Ordering.eq) = false := by decide +kernel
    have r := run_bits 4888657395510673408
    have q := run_frombits
    have b1 : bits BinOp.and IntKind.i64 1085 2047 = 1085 := by decide +kernel
    have b2 : bits BinOp.andNot IntKind.u64 4888657395510673408 9218868437227405312 = 2251799813685248 := by decide +kernel
    have b3 : bits BinOp.or IntKind.u64 2251799813685248 4602678819172646912 = 4604930618986332160 := by decide +kernel
    have rm : ∀ w : World, (binOp BinOp.mul 29 (.float .f64 4607182418800017408) (.float .f64 4604930618986332160)).run Tryd.prog w = .ok (.float .f64 4604930618986332160) w := fun w => by kernel_rfl
    go_enter Tryd.func71, Tryd.ntmps71
    go_wp2_with fail
    refine (I.out _).mono ?_
    rintro e w1 ⟨rfl, rfl⟩
    go_wp2_with fail
    refine (N.out _).mono ?_
    rintro e w1 ⟨rfl, rfl⟩
    go_wp2_with fail
    refine (M.out _).mono ?_
    rintro e w1 ⟨rfl, rfl⟩
    go_wp2_with fail
    go_returns
    exact ⟨rfl, rfl⟩
  go_enter Tryd.func57, Tryd.ntmps57
  go_wp2_with fail
  refine (H.out _).mono ?_
  rintro e w1 ⟨rfl, rfl⟩
  go_wp2_with fail
  go_returns
  exact ⟨rfl, rfl⟩
theorem quotient_c (w : World) : Calls Tryd.prog 35 #[.int .u64 3, .int .u64 4] w fun e w' => e = .returned (.float .f64 4604930618986332160) ∧ Below w.heap.size w w' := by
  have l1 : (64 - (Lib.bitLen (Int.toNat 3) : Int)) = 62 := by decide +kernel
  have l2 : (64 - (Lib.bitLen (Int.toNat 4) : Int)) = 61 := by decide +kernel
  have A := Lib.hid (fun w => Tryd.bits_LeadingZeros64 3 w (by decide) (by decide))
  have B := Lib.hid (fun w => Tryd.bits_LeadingZeros64 4 w (by decide) (by decide))
  rw [l1] at A
  rw [l2] at B
  have D := Lib.hid (fun w => div64_any 3458764513820540928 0 9223372036854775808 (by decide) (by decide) (by decide) (by decide) (by decide) w)
  rw [show (3458764513820540928 * 18446744073709551616 + 0 : Int) / 9223372036854775808 = 6917529027641081856 from by decide, show (3458764513820540928 * 18446744073709551616 + 0 : Int) % 9223372036854775808 = 0 from by decide] at D
  have rc : ∀ w : World, (convert 2 29 (.int .i64 6917529027641081856)).run Tryd.prog w = .ok (.float .f64 4888657395510673408) w := fun w => by kernel_rfl
  have X := Lib.hid ldexp_c
  clear l1 l2
  go_enter Tryd.func35, Tryd.ntmps35
  go_wp2_with fail
  refine (A.out _).mono ?_
  rintro e w1 ⟨rfl, rfl⟩
  go_wp2_with fail
  refine (B.out _).mono ?_
  rintro e w1 ⟨rfl, rfl⟩
  go_wp2_with fail
  go_quiet (fail)
  go_wp2_with fail
  refine (D.out _).mono ?_
  rintro e w2 ⟨rfl, n, rfl⟩
  go_wp2_with fail
  refine (X.out _).mono ?_
  rintro e w2 ⟨rfl, rfl⟩
  go_wp2_with fail
  go_returns
  exact ⟨rfl, by repeat' (first | exact Below.refl _ _ | (with_reducible refine below_drewN ?_ _) | (with_reducible refine Below.drew ?_) | go_size)⟩
theorem nearest_c (w : World) : Calls Tryd.prog 14 #[.agg #[.int .i64 (-3), .int .i64 4]] w fun e w' => e = .returned (.float .f64 13828302655841107968) ∧ Below w.heap.size w w' := by
  have G := Lib.hid (good_any (-3) 4 (by decide) (by decide) (by decide) (by decide))
  rw [show goodB (-3) 4 = true from by decide] at G
  have Q := Lib.hid quotient_c
  have b1 : IntKind.u64.wrap (-3) = 18446744073709551613 := by decide +kernel
  have b2 : IntKind.u64.wrap (-18446744073709551613) = 3 := by decide +kernel
  have rn : ∀ w : World, (Op.unary UnOp.neg (.float .f64 4604930618986332160)).run Tryd.prog w = .ok (.float .f64 13828302655841107968) w := fun w => by kernel_rfl
  go_enter Tryd.func14, Tryd.ntmps14
  go_wp2_with fail
  refine (G.out _).mono ?_
  rintro e w1 ⟨rfl, hb⟩
  have KT := Lib.hid (((Tab.nil w).new [.int .i64 (-3), .int .i64 4] 25).later hb)
  have KB : Hid (Below w.heap.size w w1) := Lib.hid (bel_tr0 (by go_grown) hb)
  have z0 := KT.out.cell 0 0 rfl rfl
  have z1 := KT.out.cell 0 1 rfl rfl
  clear hb
  go_wp2_with fail
  refine (Q.out _).mono ?_
  rintro e w2 ⟨rfl, hb⟩
  have KB := Lib.hid (bel_tr0 KB.out hb)
  clear hb
  go_wp2_with fail
  go_returns
  exact ⟨rfl, KB.out⟩
set_option maxHeartbeats 1000000 in
theorem speaks3_any (w : World) (hD : Deb w) : Calls Tryd.prog 8 #[] w fun e w' => e = .returned (.bool true) ∧ Below w.heap.size w w' := by
  have A := Lib.hid grid_a
  have N := Lib.hid nan_any
  have B := Lib.hid (grid_nan 9221120237041090561 64 0 1000 (by decide) (by decide) (by decide) (by decide))
  have E := Lib.hid exact_b
  have C := Lib.hid copysign_a
  have K := Lib.hid (kkind_any 9223372036854775808 (by decide))
  rw [show kindN 9223372036854775808 = 3 from by decide, show kindS 9223372036854775808 = true from by decide] at K
  have X := Lib.hid nearest_c
  have eq : (FloatKind.f64.format.order 13828302655841107968 13828302655841107968 == some Ordering.eq) = true := by decide +kernel
  have HD := Lib.hid hD
  clear hD
  go_enter Tryd.func8, Tryd.ntmps8
  go_wp2_with fail
  refine (A.out _ HD.out).mono ?_
  rintro e w1 ⟨rfl, hb⟩
  have KB := Lib.hid hb
  have HD := Lib.hid (HD.out.later hb)
  clear hb
  go_wp2_with fail
  refine (N.out _).mono ?_
  rintro e w2 ⟨rfl, rfl⟩
  go_wp2_with fail
  refine (B.out _).mono ?_
  rintro e w2 ⟨rfl, hb⟩
  have KB := Lib.hid (bel_tr0 KB.out hb)
  have HD := Lib.hid (HD.out.later hb)
  clear hb
  go_wp2_with fail
  refine (E.out _ HD.out).mono ?_
  rintro e w3 ⟨rfl, hb⟩
  have KB : Hid (Below w.heap.size w (w3.alloc (.cells #[.int .i64 (-3), .int .i64 4] 25))) := Lib.hid (by have := bel_tr0 KB.out hb; exact this.alloc this.size _)
  have KT := Lib.hid ((Tab.nil w3).new [.int .i64 (-3), .int .i64 4] 25)
  clear hb
  go_wp2_with fail
  refine (C.out _).mono ?_
  rintro e w4 ⟨rfl, rfl⟩
  go_wp2_with fail
  refine (K.out _).mono ?_
  rintro e w4 ⟨rfl, rfl⟩
  have z0 := KT.out.cell 0 0 rfl rfl
  have z1 := KT.out.cell 0 1 rfl rfl
  go_wp2_with fail
  refine (X.out _).mono ?_
  rintro e w5 ⟨rfl, hb⟩
  have KB := Lib.hid (bel_tr0 KB.out hb)
  clear hb
  go_wp2_with fail
  go_returns
  exact ⟨rfl, KB.out⟩
end Go.Proofs.YtdccoebjcaemcaaRRRDoor
