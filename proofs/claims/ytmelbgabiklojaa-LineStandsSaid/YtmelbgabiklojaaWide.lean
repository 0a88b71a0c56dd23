/- Package wide: what each function returns, and that of memory only new blocks are laid. -/
import Derived.Test.YtmelbgabiklojaaRows
import Derived.Test.YtmelbgabiklojaaShelf
import Derived.Test.YtmelbgabiklojaaNum
import Derived.Test.YtmelbgabiklojaaDiv64
import Derived.WalkKit
import Derived.WalkSpells
import Derived.WalkLawsBesides
import Derived.Handy
import Derived.Lib.Hide
import Derived.Deep.QuietTactic
import Derived.BigQuiet
import Derived.Deep.RegionHeld3
import Derived.Shelf.Spec.BitsCarry
namespace Go.Proofs.Ytmelbgabiklojaa
open Go.RowKit
set_option linter.unusedVariables false

theorem bcell {W w1 : World} (hb : Below W.heap.size W w1) : (∀ b o, b < W.heap.size → w1.cell? ⟨b, o, none⟩ = W.cell? ⟨b, o, none⟩) ∧ (∀ b o, b < W.heap.size → w1.frozen? ⟨b, o, none⟩ = W.frozen? ⟨b, o, none⟩) :=
  ⟨fun b o h => hb.cell (p := ⟨b, o, none⟩) h, fun b o h => hb.frozen (p := ⟨b, o, none⟩) h⟩

/-! ### the carries -/
theorem add64 (x y c : Int) (hx : 0 ≤ x) (hy : 0 ≤ y) (hc0 : 0 ≤ c) (hc : c ≤ 1) (w : World) : (callFunc 62 #[.int .u64 x, .int .u64 y, .int .u64 c]).run Try.prog w =
    .ok (.value (.tuple #[.int .u64 ((x + y + c) % 18446744073709551616), .int .u64 ((x + y + c) / 18446744073709551616)])) w := by
  rw [run_callFunc_extern Try.func62 (by kernel_rfl) (by kernel_rfl) (by kernel_rfl) (e := add64Entry) (by kernel_rfl), run_add64 x y c (by omega) (by omega) (by omega) (by omega)]
  simp only [Result.andThen]
theorem add64_0 (x y : Int) (hx : 0 ≤ x) (hy : 0 ≤ y) (w : World) : (callFunc 62 #[.int .u64 x, .int .u64 y, .int .u64 0]).run Try.prog w =
    .ok (.value (.tuple #[.int .u64 ((x + y) % 18446744073709551616), .int .u64 ((x + y) / 18446744073709551616)])) w := by
  simpa using add64 x y 0 hx hy (Int.le_refl 0) (by decide) w
def bor (x y : Int) : Int := if x < y then 1 else 0
theorem sub64 (x y b : Int) (hx : 0 ≤ x) (hy : 0 ≤ y) (hy' : y < 18446744073709551616) (hb0 : 0 ≤ b) (hb : b ≤ 1) (w : World) : (callFunc 68 #[.int .u64 x, .int .u64 y, .int .u64 b]).run Try.prog w =
    .ok (.value (.tuple #[.int .u64 ((x - y - b) % 18446744073709551616), .int .u64 (bor x (y + b))])) w := by
  obtain ⟨x, rfl⟩ := Int.eq_ofNat_of_zero_le hx
  obtain ⟨y, rfl⟩ := Int.eq_ofNat_of_zero_le hy
  obtain ⟨b, rfl⟩ := Int.eq_ofNat_of_zero_le hb0
  have e1 : (((x + 18446744073709551616 - y - b) % 18446744073709551616 : Nat) : Int) = ((x : Int) - y - b) % 18446744073709551616 := by omega
  have e2 : ((if x < y + b then 1 else 0 : Nat) : Int) = bor x (y + b) := by unfold bor; split <;> split <;> omega
  rw [← e1, ← e2]
  rw [run_callFunc_extern Try.func68 (by kernel_rfl) (by kernel_rfl) (by kernel_rfl) (e := sub64Entry) (by kernel_rfl), run_sub64 x y b (by omega)]
  rfl

/-! ### small ones: the world written out -/
theorem of_any (n h l : Int) (h0 : -9223372036854775808 ≤ n) (h1 : n ≤ 9223372036854775807) (l0 : 0 ≤ l) (l1 : l < 18446744073709551616) (e : h * 18446744073709551616 + l = n) (w : World) :
    Calls Try.prog 50 #[.int .i64 n] w fun e w' => e = .returned (.agg #[.int .i64 h, .int .u64 l]) ∧ w' = w.alloc (.cells #[.int .i64 h, .int .u64 l] 84) := by
  have e1 : n / 9223372036854775808 = h := by omega
  have e2 : IntKind.u64.wrap n = l := by rw [IntKind.wrap_u64]; omega
  clear e
  go_enter Try.func50, Try.ntmps50
  go_wp2
  go_returns
  exact ⟨rfl, rfl⟩
theorem neg_any (a b : Int) (w : World) :
    Calls Try.prog 63 #[.agg #[.int .i64 a, .int .u64 b]] w fun e w' => e = .returned (.bool (decide (a < 0))) ∧ w' = w.alloc (.cells #[.int .i64 a, .int .u64 b] 84) := by
  go_enter Try.func63, Try.ntmps63
  go_wp2
  go_returns
  exact ⟨rfl, rfl⟩
theorem opp_any (a b h l : Int) (h0 : -9223372036854775808 ≤ a) (h1 : a ≤ 9223372036854775807) (h2 : 0 ≤ b) (h3 : b < 18446744073709551616)
    (p0 : -9223372036854775808 ≤ h) (p1 : h ≤ 9223372036854775807) (p2 : 0 ≤ l) (p3 : l < 18446744073709551616)
    (e : (h * 18446744073709551616 + l + (a * 18446744073709551616 + b)) % 340282366920938463463374607431768211456 = 0) (w : World) :
    Calls Try.prog 61 #[.agg #[.int .i64 a, .int .u64 b]] w fun e w' => e = .returned (.agg #[.int .i64 h, .int .u64 l]) ∧ w' = (w.alloc (.cells #[.int .i64 a, .int .u64 b] 84)).alloc (.cells #[.int .i64 h, .int .u64 l] 84) := by
  have k0 : 0 ≤ bor 0 b := by unfold bor; split <;> decide
  have k1 : bor 0 b ≤ 1 := by unfold bor; split <;> decide
  have e1 := fun w => sub64 0 b 0 (by decide) h2 h3 (by decide) (by decide) w
  have e2 := fun w => sub64 0 (IntKind.u64.wrap a) (bor 0 b) (by decide) (by simp [IntKind.wrap_u64]; omega) (by simp [IntKind.wrap_u64]; omega) k0 k1 w
  simp only [Int.sub_zero, Int.add_zero] at e1
  have f1 : -b % 18446744073709551616 = l := by omega
  have f2 : wrap64 ((-IntKind.u64.wrap a - bor 0 b) % 18446744073709551616) = h := by
    have : bor 0 b = if b = 0 then 0 else 1 := by unfold bor; split <;> split <;> omega
    simp only [wrap64, IntKind.wrap_u64, this]
    split <;> omega
  clear e k0 k1
  go_enter Try.func61, Try.ntmps61
  go_wp2
  go_returns
  exact ⟨rfl, rfl⟩
theorem isize_any (n m : Int) (h0 : -9223372036854775808 ≤ n) (h1 : n ≤ 9223372036854775807) (hm : m = if n < 0 then -n else n) (w : World) :
    Calls Try.prog 81 #[.int .i64 n] w fun e w' => e = .returned (.int .u64 m) ∧ w' = w := by
  by_cases c : n < 0
  · have f1 : IntKind.u64.wrap (-IntKind.u64.wrap n) = m := by simp only [IntKind.wrap_u64, hm]; split <;> omega
    clear hm
    go_enter Try.func81, Try.ntmps81
    go_wp2
    go_returns
    exact ⟨rfl, rfl⟩
  · obtain rfl : m = n := by rw [hm]; split <;> omega
    clear hm
    have f1 : IntKind.u64.wrap m = m := by simp only [IntKind.wrap_u64]; omega
    go_enter Try.func81, Try.ntmps81
    go_wp2
    go_returns
    exact ⟨rfl, rfl⟩
theorem signed_any (n d m : Int) (h0 : 0 ≤ n) (h1 : n ≤ 9223372036854775807) (hm : m = if d < 0 then -n else n) (w : World) :
    Calls Try.prog 84 #[.int .u64 n, .int .i64 d] w fun e w' => e = .returned (.int .i64 m) ∧ w' = w := by
  by_cases c : d < 0
  · obtain rfl : m = -n := by rw [hm]; split <;> omega
    clear hm
    go_enter Try.func84, Try.ntmps84
    go_wp2
    go_returns
    exact ⟨rfl, rfl⟩
  · obtain rfl : m = n := by rw [hm]; split <;> omega
    clear hm
    go_enter Try.func84, Try.ntmps84
    go_wp2
    go_returns
    exact ⟨rfl, rfl⟩
theorem next_any (a b h l : Int) (h0 : -9223372036854775808 ≤ a) (h1 : a ≤ 9223372036854775807) (h2 : 0 ≤ b) (h3 : b < 18446744073709551616)
    (p0 : -9223372036854775808 ≤ h) (p1 : h ≤ 9223372036854775807) (p2 : 0 ≤ l) (p3 : l < 18446744073709551616)
    (e : h * 18446744073709551616 + l = a * 18446744073709551616 + b + 1) (w : World) :
    Calls Try.prog 85 #[.agg #[.int .i64 a, .int .u64 b]] w fun e w' => e = .returned (.agg #[.int .i64 h, .int .u64 l]) ∧ w' = (w.alloc (.cells #[.int .i64 a, .int .u64 b] 84)).alloc (.cells #[.int .i64 h, .int .u64 l] 84) := by
  have e1 := fun w => add64_0 b 1 h2 (by decide) w
  have f1 : (b + 1) % 18446744073709551616 = l := by omega
  have f2 : a + (b + 1) / 18446744073709551616 = h := by omega
  have f3 : wrap64 (a + (b + 1) / 18446744073709551616) = h := by rw [f2]; simp only [wrap64]; omega
  clear e
  go_enter Try.func85, Try.ntmps85
  go_wp2
  go_returns
  exact ⟨rfl, rfl⟩

/-! ### those of several blocks -/
theorem wsize_any (a b h l : Int) (h0 : -9223372036854775808 ≤ a) (h1 : a ≤ 9223372036854775807) (h2 : 0 ≤ b) (h3 : b < 18446744073709551616)
    (p0 : -9223372036854775808 ≤ h) (p1 : h ≤ 9223372036854775807) (p2 : 0 ≤ l) (p3 : l < 18446744073709551616)
    (e : a < 0 → (h * 18446744073709551616 + l + (a * 18446744073709551616 + b)) % 340282366920938463463374607431768211456 = 0) (e' : ¬ a < 0 → h = a ∧ l = b) (w : World) :
    Calls Try.prog 82 #[.agg #[.int .i64 a, .int .u64 b]] w fun e w' => e = .returned (.agg #[.int .i64 h, .int .u64 l]) ∧ Below w.heap.size w w' := by
  by_cases c : a < 0
  · have H := Lib.hid (e c)
    clear e e'
    go_enter Try.func82, Try.ntmps82
    go_wp2_with (first | (go_at_call 63; refine (neg_any _ _ _).mono ?_; rintro e w' ⟨rfl, rfl⟩) | (go_at_call 61; refine (opp_any a b h l h0 h1 h2 h3 p0 p1 p2 p3 H.out _).mono ?_; rintro e w' ⟨rfl, rfl⟩))
    go_returns
    exact ⟨rfl, by go_grown⟩
  · obtain ⟨rfl, rfl⟩ := e' c
    clear e e'
    go_enter Try.func82, Try.ntmps82
    go_wp2_with (first | (go_at_call 63; refine (neg_any _ _ _).mono ?_; rintro e w' ⟨rfl, rfl⟩))
    go_returns
    exact ⟨rfl, by go_grown⟩
theorem wneg_ok (a b h l : Int) (h0 : -9223372036854775808 ≤ a) (h1 : a ≤ 9223372036854775807) (h2 : 0 ≤ b) (h3 : b < 18446744073709551616)
    (p0 : -9223372036854775808 ≤ h) (p1 : h ≤ 9223372036854775807) (p2 : 0 ≤ l) (p3 : l < 18446744073709551616)
    (e : h * 18446744073709551616 + l = -(a * 18446744073709551616 + b)) (w : World) :
    Calls Try.prog 51 #[.agg #[.int .i64 a, .int .u64 b]] w fun e w' => e = .returned (.tuple #[.agg #[.int .i64 h, .int .u64 l], .bool true]) ∧ Below w.heap.size w w' := by
  have H := Lib.hid e
  have ne : (a == -9223372036854775808 && b == 0) = false := by
    rw [Bool.and_eq_false_iff, beq_eq_false_iff_ne, beq_eq_false_iff_ne]; omega
  by_cases c : a = -9223372036854775808
  · have c2 : ¬ b = 0 := by omega
    clear e
    go_enter Try.func51, Try.ntmps51
    go_wp2_with (first | (go_at_call 61; refine (opp_any _ b h l (by omega) (by omega) h2 h3 p0 p1 p2 p3 (by have := H.out; omega) _).mono ?_; rintro e w' ⟨rfl, rfl⟩))
    go_returns
    exact ⟨rfl, by go_grown⟩
  · clear e
    go_enter Try.func51, Try.ntmps51
    go_wp2_with (first | (go_at_call 61; refine (opp_any a b h l h0 h1 h2 h3 p0 p1 p2 p3 (by have := H.out; omega) _).mono ?_; rintro e w' ⟨rfl, rfl⟩))
    go_returns
    exact ⟨rfl, by go_grown⟩
theorem wneg_no (w : World) :
    Calls Try.prog 51 #[.agg #[.int .i64 (-9223372036854775808), .int .u64 0]] w fun e w' => e = .returned (.tuple #[.agg #[.int .i64 0, .int .u64 0], .bool false]) ∧ Below w.heap.size w w' := by
  go_enter Try.func51, Try.ntmps51
  go_wp2
  go_returns
  exact ⟨rfl, by go_grown⟩
end Go.Proofs.Ytmelbgabiklojaa
