/- Package fixed: sums, parts, pixels. -/
import Derived.Test.YtlkpegfbnmecpaaFixA
import Derived.WalkKit
import Derived.WalkSpells
import Derived.WalkLawsBesides
import Derived.Handy
import Derived.Lib.Hide
import Derived.Deep.QuietTactic
import Derived.BigQuiet
import Derived.LoopTactic
import Derived.Defers
import Derived.Recover
import Derived.Deep.RegionHeld3
import Derived.Deep.RegionWith
import Derived.Outline
import Derived.Deep.DeepCutAuto
namespace Go.Proofs.Ytlkpegfbnmecpaa
open Go.RowKit
set_option linter.unusedVariables false
set_option linter.unusedSimpArgs false
set_option maxRecDepth 100000
/-- A slice in memory reads as a list of ints. -/
structure Ri (w : World) (a : Option Addr) (len cap : Nat) (xs : List Int) : Prop where
  hlen : xs.length = len
  hmax : len ≤ 9223372036854775807
  addr : 0 < len → ∃ p : Addr, a = some p ∧ ∀ k, k < len → w.cell? (p.add k) = some (.int .i64 (xs.getD k 0))
/-- sums on the way, as long as they are lengths -/
def addAll : Int → List Int → Option Int
  | s, [] => some s
  | s, x :: xs => if -17592186044416 ≤ s + x ∧ s + x ≤ 17592186044416 then addAll (s + x) xs else none
/-- a number, or giving up -/
def Told (o : Option Int) (e : Ending) : Prop := match o with
  | some s => e = .returned (.int .i64 s)
  | none => e = .panicked (gave 2)
theorem addAll_drop (s : Int) (xs : List Int) (k : Nat) (hk : k < xs.length) : addAll s (xs.drop k) = if -17592186044416 ≤ s + xs.getD k 0 ∧ s + xs.getD k 0 ≤ 17592186044416 then addAll (s + xs.getD k 0) (xs.drop (k + 1)) else none := by
  rw [List.drop_eq_getElem_cons hk, addAll, List.getD_eq_getElem?_getD, List.getElem?_eq_getElem hk]
  rfl
/-- a part -/
theorem fpart_zero (a n : Int) (w : World) :
    Calls Try.prog 53 #[.int .i64 a, .int .i64 n, .int .i64 0] w fun e w' => e = .panicked (gave 3) ∧ w' = w := by
  go_enter Try.func53, Try.ntmps53
  go_wp2_with fail
  refine (fail_no 3 (by decide) _).mono ?_
  rintro e w' ⟨rfl, rfl⟩
  exact ⟨rfl, rfl, rfl⟩
/-- is it a length? -/
def asLen (q : Int) : Option Int := if -17592186044416 ≤ q ∧ q ≤ 17592186044416 then some q else none
theorem fpart_any (a n d q r : Int) (h0 : -9223372036854775808 ≤ a) (h1 : a ≤ 9223372036854775807) (g0 : -9223372036854775808 ≤ n) (g1 : n ≤ 9223372036854775807) (d0 : -9223372036854775808 ≤ d) (d1 : d ≤ 9223372036854775807) (dz : d ≠ 0)
    (e : a * n = q * d + r) (er : (0 ≤ r ∧ r < d) ∨ (d < r ∧ r ≤ 0)) (w : World) :
    Calls Try.prog 53 #[.int .i64 a, .int .i64 n, .int .i64 d] w fun e w' => Told (asLen q) e ∧ Below w.heap.size w w' := by
  have dzb : (d == 0) = false := by simpa using dz
  have E := Lib.hid e
  have ER := Lib.hid er
  have DZ := Lib.hid dz
  clear e er dz
  by_cases c : -9223372036854775808 ≤ q ∧ q ≤ 9223372036854775807
  · by_cases c2 : -17592186044416 ≤ q ∧ q ≤ 17592186044416
    · have A := Lib.hid (show asLen q = some q by rw [asLen, if_pos c2])
      go_enter Try.func53, Try.ntmps53
      go_wp2_with fail
      refine (muldiv_ok a n d q r h0 h1 g0 g1 d0 d1 DZ.out c.1 c.2 E.out ER.out _).mono ?_
      rintro x w1 ⟨rfl, hb⟩
      have HB := Lib.hid hb
      clear hb
      go_wp2_with fail
      refine (length_ok q c2.1 c2.2 _).mono ?_
      rintro x w2 ⟨rfl, rfl⟩
      go_wp2_with fail
      go_returns
      rw [A.out]
      exact ⟨rfl, HB.out⟩
    · have A := Lib.hid (show asLen q = none by rw [asLen, if_neg c2])
      have C2 := Lib.hid c2
      clear c2
      go_enter Try.func53, Try.ntmps53
      go_wp2_with fail
      refine (muldiv_ok a n d q r h0 h1 g0 g1 d0 d1 DZ.out c.1 c.2 E.out ER.out _).mono ?_
      rintro x w1 ⟨rfl, hb⟩
      have HB := Lib.hid hb
      clear hb
      go_wp2_with fail
      refine (length_far q (by have := C2.out; omega) _).mono ?_
      rintro x w2 ⟨rfl, rfl⟩
      refine ⟨rfl, ?_, HB.out⟩
      rw [A.out]
      rfl
  · have A := Lib.hid (show asLen q = none by rw [asLen, if_neg (by omega)])
    have C := Lib.hid c
    clear c
    go_enter Try.func53, Try.ntmps53
    go_wp2_with fail
    refine (muldiv_no a n d q r h0 h1 g0 g1 d0 d1 DZ.out (by have := C.out; omega) E.out ER.out _).mono ?_
    rintro x w1 ⟨rfl, hb⟩
    have HB := Lib.hid hb
    clear hb
    go_wp2_with fail
    refine (length_no 0 _).mono ?_
    rintro x w2 ⟨rfl, rfl⟩
    refine ⟨rfl, ?_, HB.out⟩
    rw [A.out]
    rfl
end Go.Proofs.Ytlkpegfbnmecpaa
