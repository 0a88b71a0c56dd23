/- Package fixed: the calls that round, and those that give up. -/
import Derived.Test.YtlkpegfbnmecpaaKit0
import Derived.WalkKit
import Derived.WalkSpells
import Derived.WalkLawsBesides
import Derived.Handy
import Derived.Lib.Hide
import Derived.Deep.QuietTactic
import Derived.BigQuiet
import Derived.LoopTactic
import Derived.Defers
import Derived.Recover
import Derived.Deep.RegionHeld3
import Derived.Deep.RegionWith
import Derived.Outline
import Derived.Deep.DeepCutAuto
namespace Go.Proofs.Ytlkpegfbnmecpaa
open Go.RowKit
set_option linter.unusedVariables false
set_option linter.unusedSimpArgs false
set_option maxRecDepth 100000
theorem tdiv64 (n : Int) : n.tdiv 64 = if n < 0 ∧ n % 64 ≠ 0 then n / 64 + 1 else n / 64 := by
  by_cases h : 0 ≤ n
  · rw [Int.tdiv_eq_ediv_of_nonneg h, if_neg (by omega)]
  · have := Int.neg_tdiv n 64
    have e := Int.tdiv_eq_ediv_of_nonneg (a := -n) (b := 64) (by omega)
    split <;> omega
theorem tmod64 (n : Int) : n.tmod 64 = if n < 0 ∧ n % 64 ≠ 0 then n % 64 - 64 else n % 64 := by
  rw [Int.tmod_def, tdiv64]
  split <;> omega
/-- rounded up -/
def up64 (n : Int) : Int := if 0 < n % 64 then n / 64 + 1 else n / 64
/-- rounded to the nearest -/
def near64 (n : Int) : Int := if 32 ≤ n % 64 then n / 64 + 1 else n / 64
/-- what giving up looks like -/
def gave (e : Int) : List PanicEntry := [{ v := .iface 79 (.agg #[.int .i64 e]), recovered := false }]
theorem fail_no (e : Int) (h : e ≠ 0) (w : World) :
    Calls Try.prog 54 #[.int .i64 e] w fun x w' => x = .panicked (gave e) ∧ w' = w := by
  have hb : (e == 0) = false := by simpa using h
  have hb2 : (e != 0) = true := by simpa using h
  go_enter Try.func54, Try.ntmps54
  go_wp2
  exact ⟨rfl, rfl, rfl⟩
theorem fail_ok (w : World) :
    Calls Try.prog 54 #[.int .i64 0] w fun x w' => x = .returned (.tuple #[]) ∧ w' = w := by
  go_enter Try.func54, Try.ntmps54
  go_wp2
  go_end0
  exact ⟨rfl, rfl⟩
theorem fof_ok (n : Int) (h0 : -17592186044416 ≤ n) (h1 : n ≤ 17592186044416) (w : World) :
    Calls Try.prog 39 #[.int .i64 n] w fun x w' => x = .returned (.int .i64 n) ∧ w' = w := by
  go_enter Try.func39, Try.ntmps39
  go_wp2
  go_returns
  exact ⟨rfl, rfl⟩
theorem fof_no (n : Int) (h : n < -17592186044416 ∨ 17592186044416 < n) (w : World) :
    Calls Try.prog 39 #[.int .i64 n] w fun x w' => x = .panicked (gave 2) ∧ w' = w := by
  rcases h with h | h
  · go_enter Try.func39, Try.ntmps39
    go_wp2_with fail
    refine (fail_no 2 (by decide) _).mono ?_
    rintro e w' ⟨rfl, rfl⟩
    exact ⟨rfl, rfl, rfl⟩
  · have h2 : decide (n < -17592186044416) = false := by simp; omega
    go_enter Try.func39, Try.ntmps39
    go_wp2_with fail
    refine (fail_no 2 (by decide) _).mono ?_
    rintro e w' ⟨rfl, rfl⟩
    exact ⟨rfl, rfl, rfl⟩
theorem length_ok (n : Int) (h0 : -17592186044416 ≤ n) (h1 : n ≤ 17592186044416) (w : World) :
    Calls Try.prog 63 #[.int .i64 n, .bool true] w fun x w' => x = .returned (.int .i64 n) ∧ w' = w := by
  go_enter Try.func63, Try.ntmps63
  go_wp2_with (go_at_call 39; refine (fof_ok n h0 h1 _).mono ?_; rintro e w' ⟨rfl, rfl⟩)
  go_returns
  exact ⟨rfl, rfl⟩
theorem length_far (n : Int) (h : n < -17592186044416 ∨ 17592186044416 < n) (w : World) :
    Calls Try.prog 63 #[.int .i64 n, .bool true] w fun x w' => x = .panicked (gave 2) ∧ w' = w := by
  go_enter Try.func63, Try.ntmps63
  go_wp2_with fail
  refine (fof_no n h _).mono ?_
  rintro e w' ⟨rfl, rfl⟩
  exact ⟨rfl, rfl, rfl⟩
theorem length_no (n : Int) (w : World) :
    Calls Try.prog 63 #[.int .i64 n, .bool false] w fun x w' => x = .panicked (gave 2) ∧ w' = w := by
  go_enter Try.func63, Try.ntmps63
  go_wp2_with fail
  refine (fail_no 2 (by decide) _).mono ?_
  rintro e w' ⟨rfl, rfl⟩
  exact ⟨rfl, rfl, rfl⟩
/-! ### Try -/
theorem tryD_idle (p : Addr) (w : World) :
    CallsD Try.prog 52 #[.pointer (some p)] .returning w fun e u' w' => e = .returned (.tuple #[]) ∧ u' = .returning ∧ w' = w := by
  have hnil : ∀ w : World, (binOp BinOp.eql 20 .nilIface .nilIface).run Try.prog w = .ok (.bool true) w := fun _ => by kernel_rfl
  refine callsD_of_wpS Try.func52 rfl fun c₀ cs hu => ?_
  apply wpS_seq
  apply wpS_region
  simp [wpOpsS, go_sem, recoverD, hu, Try.ntmps52, Exit.thenS]
  refine wpS_of_wp ?_
  rw [show (#[Value.pointer (some p)] ++ (Array.replicate 11 undef).setIfInBounds 3 Value.nilIface) = #[Value.pointer (some p), undef, undef, undef, .nilIface, undef, undef, undef, undef, undef, undef, undef] from rfl]
  go_wp2
  exact ⟨rfl, .returning, by rw [← hu], .tuple #[], by simp [results, Try.results52], rfl, rfl, rfl⟩
theorem tryD_gave (b : Nat) (e x : Int) (w : World) (hc : w.cell? ⟨b, 0, none⟩ = some (.int .i64 x)) (hz : w.frozen? ⟨b, 0, none⟩ = false) :
    CallsD Try.prog 52 #[.pointer (some ⟨b, 0, none⟩)] (.panicking (gave e)) w fun r u' w' =>
      r = .returned (.tuple #[]) ∧ u' = .panicking [{ v := .iface 79 (.agg #[.int .i64 e]), recovered := true }] ∧ w' = (w.setCell ⟨b, 0, none⟩ (.int .i64 e)).alloc (.cells #[.int .i64 e] 79) := by
  have hlt : b < w.heap.size := World.block_lt_of_cell? w _ hc
  have hta : ∀ w : World, (Instr.typeAssert (.iface 79 (.agg #[.int .i64 e])) 20 79 true).run Try.prog w = .ok (.tuple #[.agg #[.int .i64 e], .bool true]) w := fun _ => by kernel_rfl
  refine callsD_of_wpS Try.func52 rfl fun c₀ cs hu => ?_
  apply wpS_seq
  apply wpS_region
  simp [wpOpsS, go_sem, recoverD, hu, Try.ntmps52, Exit.thenS, gave]
  refine wpS_of_wp ?_
  rw [show (#[Value.pointer (some ⟨b, 0, none⟩)] ++ (Array.replicate 11 undef).setIfInBounds 3 (Value.iface 79 (.agg #[.int .i64 e]))) = #[Value.pointer (some ⟨b, 0, none⟩), undef, undef, undef, (Value.iface 79 (.agg #[.int .i64 e])), undef, undef, undef, undef, undef, undef, undef] from rfl]
  go_wp2
  exact ⟨rfl, _, rfl, .tuple #[], by simp [results, Try.results52], rfl, rfl, rfl⟩
/-- another panic's word -/
def other (s : ByteArray) : PanicEntry := { v := .iface 9 (.string s), recovered := false }
theorem tryD_other (p : Addr) (s : ByteArray) (w : World) :
    CallsD Try.prog 52 #[.pointer (some p)] (.panicking [other s]) w fun r u' w' =>
      r = .panicked [other s] ∧ u' = .panicking [{ v := .iface 9 (.string s), recovered := true }] ∧ w' = w := by
  have hta : ∀ w : World, (Instr.typeAssert (.iface 9 (.string s)) 20 79 true).run Try.prog w = .ok (.tuple #[.agg #[.int .i64 0], .bool false]) w := fun _ => by kernel_rfl
  refine callsD_of_wpS Try.func52 rfl fun c₀ cs hu => ?_
  apply wpS_seq
  apply wpS_region
  simp [wpOpsS, go_sem, recoverD, hu, Try.ntmps52, Exit.thenS, other]
  refine wpS_of_wp ?_
  rw [show (#[Value.pointer (some p)] ++ (Array.replicate 11 undef).setIfInBounds 3 (Value.iface 9 (.string s))) = #[Value.pointer (some p), undef, undef, undef, (Value.iface 9 (.string s)), undef, undef, undef, undef, undef, undef, undef] from rfl]
  go_wp2
  exact ⟨rfl, _, rfl, rfl, rfl, rfl⟩
/-- Try of a function that returns -/
theorem try_ret (F : FuncId) (cap : Array Value) (w : World) (Q : World → Prop) (hcf : ∀ w : World, (callFunc F cap).run Try.prog w = .ok (.enter F cap) w)
    (hF : Calls Try.prog F cap (w.alloc (.cells #[.int .i64 0] 24)) fun e w' => e = .returned (.tuple #[]) ∧ Q w' ∧ w'.cell? ⟨w.heap.size, 0, none⟩ = some (.int .i64 0) ∧ w'.frozen? ⟨w.heap.size, 0, none⟩ = false) :
    Calls Try.prog 36 #[.func (.func F) #[] cap] w fun e w' => e = .returned (.int .i64 0) ∧ ∃ w2, Q w2 ∧ w' = w2.setCell ⟨w.heap.size, 0, none⟩ (.int .i64 0) := by
  have hmf : ∀ (fn : Fn) (first cap : Array Value) (w : World), (Instr.makeFunc fn first cap).run Try.prog w = .ok (.func fn first cap) w := fun _ _ _ _ => rfl
  have hne : ∀ w : World, (binOp BinOp.eql 1 (.func (.func F) #[] cap) .nilFunc).run Try.prog w = .ok (.bool false) w := fun _ => by kernel_rfl
  have HF := Lib.hid hF
  clear hF
  go_enter_defers Try.func36, Try.ntmps36
  go_wp2_with fail
  refine HF.out.mono ?_
  rintro e w1 ⟨rfl, h1, h2, h3⟩
  have H1 := Lib.hid h1
  clear h1
  go_wp2
  refine leaves_cons (f := 52) (args := #[.pointer (some ⟨w.heap.size, 0, none⟩)]) (by simp) (by simp [go_sem]) ?_
  refine (tryD_idle ⟨w.heap.size, 0, none⟩ _).mono ?_
  rintro e u' w'' ⟨rfl, rfl, rfl⟩
  have hlt := World.block_lt_of_cell? w1 _ h2
  refine ⟨.int .i64 0, by simp [results, Try.results36, go_sem, h2], rfl, w1, H1.out, rfl⟩
/-- Try of a function that gives up -/
theorem try_gave (F : FuncId) (cap : Array Value) (er : Int) (w : World) (Q : World → Prop) (hcf : ∀ w : World, (callFunc F cap).run Try.prog w = .ok (.enter F cap) w)
    (hF : Calls Try.prog F cap (w.alloc (.cells #[.int .i64 0] 24)) fun e w' => e = .panicked (gave er) ∧ Q w' ∧ w'.cell? ⟨w.heap.size, 0, none⟩ = some (.int .i64 0) ∧ w'.frozen? ⟨w.heap.size, 0, none⟩ = false) :
    Calls Try.prog 36 #[.func (.func F) #[] cap] w fun e w' => e = .returned (.int .i64 er) ∧ ∃ w2, Q w2 ∧ w' = (w2.setCell ⟨w.heap.size, 0, none⟩ (.int .i64 er)).alloc (.cells #[.int .i64 er] 79) := by
  have hmf : ∀ (fn : Fn) (first cap : Array Value) (w : World), (Instr.makeFunc fn first cap).run Try.prog w = .ok (.func fn first cap) w := fun _ _ _ _ => rfl
  have hne : ∀ w : World, (binOp BinOp.eql 1 (.func (.func F) #[] cap) .nilFunc).run Try.prog w = .ok (.bool false) w := fun _ => by kernel_rfl
  have HF := Lib.hid hF
  clear hF
  go_enter_defers Try.func36, Try.ntmps36
  go_wp2_with fail
  refine HF.out.mono ?_
  rintro e w1 ⟨rfl, h1, h2, h3⟩
  have H1 := Lib.hid h1
  clear h1
  refine leaves_cons (f := 52) (args := #[.pointer (some ⟨w.heap.size, 0, none⟩)]) (by simp) (by simp [go_sem]) ?_
  refine (tryD_gave w.heap.size er 0 _ h2 h3).mono ?_
  rintro e u' w'' ⟨rfl, rfl, rfl⟩
  have hlt := World.block_lt_of_cell? w1 _ h2
  refine ⟨.int .i64 er, by simp [results, Try.results36, go_sem, h2, hlt], rfl, w1, H1.out, rfl⟩
/-- Try of a function that panics otherwise -/
theorem try_other (F : FuncId) (cap : Array Value) (s : ByteArray) (w : World) (Q : World → Prop) (hcf : ∀ w : World, (callFunc F cap).run Try.prog w = .ok (.enter F cap) w)
    (hF : Calls Try.prog F cap (w.alloc (.cells #[.int .i64 0] 24)) fun e w' => e = .panicked [other s] ∧ Q w') :
    Calls Try.prog 36 #[.func (.func F) #[] cap] w fun e w' => e = .panicked [other s, { v := .iface 9 (.string s), recovered := true }] ∧ Q w' := by
  have hmf : ∀ (fn : Fn) (first cap : Array Value) (w : World), (Instr.makeFunc fn first cap).run Try.prog w = .ok (.func fn first cap) w := fun _ _ _ _ => rfl
  have hne : ∀ w : World, (binOp BinOp.eql 1 (.func (.func F) #[] cap) .nilFunc).run Try.prog w = .ok (.bool false) w := fun _ => by kernel_rfl
  have HF := Lib.hid hF
  clear hF
  go_enter_defers Try.func36, Try.ntmps36
  go_wp2_with fail
  refine HF.out.mono ?_
  rintro e w1 ⟨rfl, h1⟩
  have H1 := Lib.hid h1
  clear h1
  refine leaves_cons (f := 52) (args := #[.pointer (some ⟨w.heap.size, 0, none⟩)]) (by simp) (by simp [go_sem]) ?_
  refine (tryD_other ⟨w.heap.size, 0, none⟩ s _).mono ?_
  rintro e u' w'' ⟨rfl, rfl, rfl⟩
  exact ⟨rfl, H1.out⟩
/-- Try of nothing -/
theorem try_nil (w : World) : Calls Try.prog 36 #[.nilFunc] w fun e w' => e = .returned (.int .i64 1) ∧ Below w.heap.size w w' := by
  have hne : ∀ w : World, (binOp BinOp.eql 1 .nilFunc .nilFunc).run Try.prog w = .ok (.bool true) w := fun _ => by kernel_rfl
  go_enter_defers Try.func36, Try.ntmps36
  go_wp2
  exact ⟨.int .i64 1, by simp [results, Try.results36, go_sem], rfl, by go_grown⟩
end Go.Proofs.Ytlkpegfbnmecpaa
