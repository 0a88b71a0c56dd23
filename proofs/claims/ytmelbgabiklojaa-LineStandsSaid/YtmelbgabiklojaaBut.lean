/- Package fixed: the calls that round, and those that give up. -/
import Derived.Test.YtmelbgabiklojaaWideE
import Derived.WalkKit
import Derived.WalkSpells
import Derived.WalkLawsBesides
import Derived.Handy
import Derived.Lib.Hide
import Derived.Deep.QuietTactic
import Derived.BigQuiet
import Derived.LoopTactic
import Derived.Defers
import Derived.Recover
import Derived.Deep.RegionHeld3
import Derived.Deep.RegionWith
import Derived.Outline
import Derived.Deep.DeepCutAuto
namespace Go.Proofs.Ytmelbgabiklojaa
open Go.RowKit
set_option linter.unusedVariables false
set_option linter.unusedSimpArgs false
set_option maxRecDepth 100000
theorem tdiv64 (n : Int) : n.tdiv 64 = if n < 0 ∧ n % 64 ≠ 0 then n / 64 + 1 else n / 64 := by
  by_cases h : 0 ≤ n
  · rw [Int.tdiv_eq_ediv_of_nonneg h, if_neg (by omega)]
  · have := Int.neg_tdiv n 64
    have e := Int.tdiv_eq_ediv_of_nonneg (a := -n) (b := 64) (by omega)
    split <;> omega
theorem tmod64 (n : Int) : n.tmod 64 = if n < 0 ∧ n % 64 ≠ 0 then n % 64 - 64 else n % 64 := by
  rw [Int.tmod_def, tdiv64]
  split <;> omega
/-- rounded up -/
def up64 (n : Int) : Int := if 0 < n % 64 then n / 64 + 1 else n / 64
/-- rounded to the nearest -/
def near64 (n : Int) : Int := if 32 ≤ n % 64 then n / 64 + 1 else n / 64
/-- what giving up looks like -/
def gave (e : Int) : List PanicEntry := [{ v := .iface 63 (.agg #[.int .i64 e]), recovered := false }]
theorem fail_no (e : Int) (h : e ≠ 0) (w : World) :
    Calls Try.prog 56 #[.int .i64 e] w fun x w' => x = .panicked (gave e) ∧ w' = w := by
  have hb : (e == 0) = false := by simpa using h
  have hb2 : (e != 0) = true := by simpa using h
  go_enter Try.func56, Try.ntmps56
  go_wp2
  exact ⟨rfl, rfl, rfl⟩
theorem fail_ok (w : World) :
    Calls Try.prog 56 #[.int .i64 0] w fun x w' => x = .returned (.tuple #[]) ∧ w' = w := by
  go_enter Try.func56, Try.ntmps56
  go_wp2
  go_end0
  exact ⟨rfl, rfl⟩
theorem fof_ok (n : Int) (h0 : -17592186044416 ≤ n) (h1 : n ≤ 17592186044416) (w : World) :
    Calls Try.prog 58 #[.int .i64 n] w fun x w' => x = .returned (.int .i64 n) ∧ w' = w := by
  go_enter Try.func58, Try.ntmps58
  go_wp2
  go_returns
  exact ⟨rfl, rfl⟩
theorem fof_no (n : Int) (h : n < -17592186044416 ∨ 17592186044416 < n) (w : World) :
    Calls Try.prog 58 #[.int .i64 n] w fun x w' => x = .panicked (gave 2) ∧ w' = w := by
  rcases h with h | h
  · go_enter Try.func58, Try.ntmps58
    go_wp2_with fail
    refine (fail_no 2 (by decide) _).mono ?_
    rintro e w' ⟨rfl, rfl⟩
    exact ⟨rfl, rfl, rfl⟩
  · have h2 : decide (n < -17592186044416) = false := by simp; omega
    go_enter Try.func58, Try.ntmps58
    go_wp2_with fail
    refine (fail_no 2 (by decide) _).mono ?_
    rintro e w' ⟨rfl, rfl⟩
    exact ⟨rfl, rfl, rfl⟩
theorem length_ok (n : Int) (h0 : -17592186044416 ≤ n) (h1 : n ≤ 17592186044416) (w : World) :
    Calls Try.prog 53 #[.int .i64 n, .bool true] w fun x w' => x = .returned (.int .i64 n) ∧ w' = w := by
  go_enter Try.func53, Try.ntmps53
  go_wp2_with (go_at_call 58; refine (fof_ok n h0 h1 _).mono ?_; rintro e w' ⟨rfl, rfl⟩)
  go_returns
  exact ⟨rfl, rfl⟩
theorem length_far (n : Int) (h : n < -17592186044416 ∨ 17592186044416 < n) (w : World) :
    Calls Try.prog 53 #[.int .i64 n, .bool true] w fun x w' => x = .panicked (gave 2) ∧ w' = w := by
  go_enter Try.func53, Try.ntmps53
  go_wp2_with fail
  refine (fof_no n h _).mono ?_
  rintro e w' ⟨rfl, rfl⟩
  exact ⟨rfl, rfl, rfl⟩
theorem length_no (n : Int) (w : World) :
    Calls Try.prog 53 #[.int .i64 n, .bool false] w fun x w' => x = .panicked (gave 2) ∧ w' = w := by
  go_enter Try.func53, Try.ntmps53
  go_wp2_with fail
  refine (fail_no 2 (by decide) _).mono ?_
  rintro e w' ⟨rfl, rfl⟩
  exact ⟨rfl, rfl, rfl⟩
/-! ### Try -/
theorem tryD_idle (p : Addr) (w : World) :
    CallsD Try.prog 33 #[.pointer (some p)] .returning w fun e u' w' => e = .returned (.tuple #[]) ∧ u' = .returning ∧ w' = w := by
  have hnil : ∀ w : World, (binOp BinOp.eql 20 .nilIface .nilIface).run Try.prog w = .ok (.bool true) w := fun _ => by kernel_rfl
  refine callsD_of_wpS Try.func33 rfl fun c₀ cs hu => ?_
  apply wpS_seq
  apply wpS_region
  simp [wpOpsS, go_sem, recoverD, hu, Try.ntmps33, Exit.thenS]
  refine wpS_of_wp ?_
  rw [show (#[Value.pointer (some p)] ++ (Array.replicate 11 undef).setIfInBounds 3 Value.nilIface) = #[Value.pointer (some p), undef, undef, undef, .nilIface, undef, undef, undef, undef, undef, undef, undef] from rfl]
  go_wp2
  exact ⟨rfl, .returning, by rw [← hu], .tuple #[], by simp [results, Try.results33], rfl, rfl, rfl⟩
theorem tryD_gave (b : Nat) (e x : Int) (w : World) (hc : w.cell? ⟨b, 0, none⟩ = some (.int .i64 x)) (hz : w.frozen? ⟨b, 0, none⟩ = false) :
    CallsD Try.prog 33 #[.pointer (some ⟨b, 0, none⟩)] (.panicking (gave e)) w fun r u' w' =>
      r = .returned (.tuple #[]) ∧ u' = .panicking [{ v := .iface 63 (.agg #[.int .i64 e]), recovered := true }] ∧ w' = (w.setCell ⟨b, 0, none⟩ (.int .i64 e)).alloc (.cells #[.int .i64 e] 63) := by
  have hlt : b < w.heap.size := World.block_lt_of_cell? w _ hc
  have hta : ∀ w : World, (Instr.typeAssert (.iface 63 (.agg #[.int .i64 e])) 20 63 true).run Try.prog w = .ok (.tuple #[.agg #[.int .i64 e], .bool true]) w := fun _ => by kernel_rfl
  refine callsD_of_wpS Try.func33 rfl fun c₀ cs hu => ?_
  apply wpS_seq
  apply wpS_region
  simp [wpOpsS, go_sem, recoverD, hu, Try.ntmps33, Exit.thenS, gave]
  refine wpS_of_wp ?_
  rw [show (#[Value.pointer (some ⟨b, 0, none⟩)] ++ (Array.replicate 11 undef).setIfInBounds 3 (Value.iface 63 (.agg #[.int .i64 e]))) = #[Value.pointer (some ⟨b, 0, none⟩), undef, undef, undef, (Value.iface 63 (.agg #[.int .i64 e])), undef, undef, undef, undef, undef, undef, undef] from rfl]
  go_wp2
  exact ⟨rfl, _, rfl, .tuple #[], by simp [results, Try.results33], rfl, rfl, rfl⟩
/-- another panic's word -/
def other (s : ByteArray) : PanicEntry := { v := .iface 9 (.string s), recovered := false }
theorem tryD_other (p : Addr) (s : ByteArray) (w : World) :
    CallsD Try.prog 33 #[.pointer (some p)] (.panicking [other s]) w fun r u' w' =>
      r = .panicked [other s] ∧ u' = .panicking [{ v := .iface 9 (.string s), recovered := true }] ∧ w' = w := by
  have hta : ∀ w : World, (Instr.typeAssert (.iface 9 (.string s)) 20 63 true).run Try.prog w = .ok (.tuple #[.agg #[.int .i64 0], .bool false]) w := fun _ => by kernel_rfl
  refine callsD_of_wpS Try.func33 rfl fun c₀ cs hu => ?_
  apply wpS_seq
  apply wpS_region
  simp [wpOpsS, go_sem, recoverD, hu, Try.ntmps33, Exit.thenS, other]
  refine wpS_of_wp ?_
  rw [show (#[Value.pointer (some p)] ++ (Array.replicate 11 undef).setIfInBounds 3 (Value.iface 9 (.string s))) = #[Value.pointer (some p), undef, undef, undef, (Value.iface 9 (.string s)), undef, undef, undef, undef, undef, undef, undef] from rfl]
  go_wp2
  exact ⟨rfl, _, rfl, rfl, rfl, rfl⟩
/-- Try of a function that returns -/
theorem try_ret (F : FuncId) (cap : Array Value) (w : World) (Q : World → Prop) (hcf : ∀ w : World, (callFunc F cap).run Try.prog w = .ok (.enter F cap) w)
    (hF : Calls Try.prog F cap (w.alloc (.cells #[.int .i64 0] 28)) fun e w' => e = .returned (.tuple #[]) ∧ Q w' ∧ w'.cell? ⟨w.heap.size, 0, none⟩ = some (.int .i64 0) ∧ w'.frozen? ⟨w.heap.size, 0, none⟩ = false) :
    Calls Try.prog 12 #[.func (.func F) #[] cap] w fun e w' => e = .returned (.int .i64 0) ∧ ∃ w2, Q w2 ∧ w' = w2.setCell ⟨w.heap.size, 0, none⟩ (.int .i64 0) := by
  have hmf : ∀ (fn : Fn) (first cap : Array Value) (w : World), (Instr.makeFunc fn first cap).run Try.prog w = .ok (.func fn first cap) w := fun _ _ _ _ => rfl
  have hne : ∀ w : World, (binOp BinOp.eql 1 (.func (.func F) #[] cap) .nilFunc).run Try.prog w = .ok (.bool false) w := fun _ => by kernel_rfl
  have HF := Lib.hid hF
  clear hF
  go_enter_defers Try.func12, Try.ntmps12
  go_wp2_with fail
  refine HF.out.mono ?_
  rintro e w1 ⟨rfl, h1, h2, h3⟩
  have H1 := Lib.hid h1
  clear h1
  go_wp2
  refine leaves_cons (f := 33) (args := #[.pointer (some ⟨w.heap.size, 0, none⟩)]) (by simp) (by simp [go_sem]) ?_
  refine (tryD_idle ⟨w.heap.size, 0, none⟩ _).mono ?_
  rintro e u' w'' ⟨rfl, rfl, rfl⟩
  have hlt := World.block_lt_of_cell? w1 _ h2
  refine ⟨.int .i64 0, by simp [results, Try.results12, go_sem, h2], rfl, w1, H1.out, rfl⟩
/-- Try of a function that gives up -/
theorem try_gave (F : FuncId) (cap : Array Value) (er : Int) (w : World) (Q : World → Prop) (hcf : ∀ w : World, (callFunc F cap).run Try.prog w = .ok (.enter F cap) w)
    (hF : Calls Try.prog F cap (w.alloc (.cells #[.int .i64 0] 28)) fun e w' => e = .panicked (gave er) ∧ Q w' ∧ w'.cell? ⟨w.heap.size, 0, none⟩ = some (.int .i64 0) ∧ w'.frozen? ⟨w.heap.size, 0, none⟩ = false) :
    Calls Try.prog 12 #[.func (.func F) #[] cap] w fun e w' => e = .returned (.int .i64 er) ∧ ∃ w2, Q w2 ∧ w' = (w2.setCell ⟨w.heap.size, 0, none⟩ (.int .i64 er)).alloc (.cells #[.int .i64 er] 63) := by
  have hmf : ∀ (fn : Fn) (first cap : Array Value) (w : World), (Instr.makeFunc fn first cap).run Try.prog w = .ok (.func fn first cap) w := fun _ _ _ _ => rfl
  have hne : ∀ w : World, (binOp BinOp.eql 1 (.func (.func F) #[] cap) .nilFunc).run Try.prog w = .ok (.bool false) w := fun _ => by kernel_rfl
  have HF := Lib.hid hF
  clear hF
  go_enter_defers Try.func12, Try.ntmps12
  go_wp2_with fail
  refine HF.out.mono ?_
  rintro e w1 ⟨rfl, h1, h2, h3⟩
  have H1 := Lib.hid h1
  clear h1
  refine leaves_cons (f := 33) (args := #[.pointer (some ⟨w.heap.size, 0, none⟩)]) (by simp) (by simp [go_sem]) ?_
  refine (tryD_gave w.heap.size er 0 _ h2 h3).mono ?_
  rintro e u' w'' ⟨rfl, rfl, rfl⟩
  have hlt := World.block_lt_of_cell? w1 _ h2
  refine ⟨.int .i64 er, by simp [results, Try.results12, go_sem, h2, hlt], rfl, w1, H1.out, rfl⟩
/-- Try of a function that panics otherwise -/
theorem try_other (F : FuncId) (cap : Array Value) (s : ByteArray) (w : World) (Q : World → Prop) (hcf : ∀ w : World, (callFunc F cap).run Try.prog w = .ok (.enter F cap) w)
    (hF : Calls Try.prog F cap (w.alloc (.cells #[.int .i64 0] 28)) fun e w' => e = .panicked [other s] ∧ Q w') :
    Calls Try.prog 12 #[.func (.func F) #[] cap] w fun e w' => e = .panicked [other s, { v := .iface 9 (.string s), recovered := true }] ∧ Q w' := by
  have hmf : ∀ (fn : Fn) (first cap : Array Value) (w : World), (Instr.makeFunc fn first cap).run Try.prog w = .ok (.func fn first cap) w := fun _ _ _ _ => rfl
  have hne : ∀ w : World, (binOp BinOp.eql 1 (.func (.func F) #[] cap) .nilFunc).run Try.prog w = .ok (.bool false) w := fun _ => by kernel_rfl
  have HF := Lib.hid hF
  clear hF
  go_enter_defers Try.func12, Try.ntmps12
  go_wp2_with fail
  refine HF.out.mono ?_
  rintro e w1 ⟨rfl, h1⟩
  have H1 := Lib.hid h1
  clear h1
  refine leaves_cons (f := 33) (args := #[.pointer (some ⟨w.heap.size, 0, none⟩)]) (by simp) (by simp [go_sem]) ?_
  refine (tryD_other ⟨w.heap.size, 0, none⟩ s _).mono ?_
  rintro e u' w'' ⟨rfl, rfl, rfl⟩
  exact ⟨rfl, H1.out⟩
/-- Try of nothing -/
theorem try_nil (w : World) : Calls Try.prog 12 #[.nilFunc] w fun e w' => e = .returned (.int .i64 1) ∧ Below w.heap.size w w' := by
  have hne : ∀ w : World, (binOp BinOp.eql 1 .nilFunc .nilFunc).run Try.prog w = .ok (.bool true) w := fun _ => by kernel_rfl
  go_enter_defers Try.func12, Try.ntmps12
  go_wp2
  exact ⟨.int .i64 1, by simp [results, Try.results12, go_sem], rfl, by go_grown⟩
end Go.Proofs.Ytmelbgabiklojaa
/- Package fixed: sums, parts, pixels. -/
namespace Go.Proofs.Ytmelbgabiklojaa
open Go.RowKit
set_option linter.unusedVariables false
set_option linter.unusedSimpArgs false
set_option maxRecDepth 100000
/-- A slice in memory reads as a list of ints. -/
structure Ri (w : World) (a : Option Addr) (len cap : Nat) (xs : List Int) : Prop where
  hlen : xs.length = len
  hmax : len ≤ 9223372036854775807
  addr : 0 < len → ∃ p : Addr, a = some p ∧ ∀ k, k < len → w.cell? (p.add k) = some (.int .i64 (xs.getD k 0))
/-- sums on the way, as long as they are lengths -/
def addAll : Int → List Int → Option Int
  | s, [] => some s
  | s, x :: xs => if -17592186044416 ≤ s + x ∧ s + x ≤ 17592186044416 then addAll (s + x) xs else none
/-- a number, or giving up -/
def Told (o : Option Int) (e : Ending) : Prop := match o with
  | some s => e = .returned (.int .i64 s)
  | none => e = .panicked (gave 2)
theorem addAll_drop (s : Int) (xs : List Int) (k : Nat) (hk : k < xs.length) : addAll s (xs.drop k) = if -17592186044416 ≤ s + xs.getD k 0 ∧ s + xs.getD k 0 ≤ 17592186044416 then addAll (s + xs.getD k 0) (xs.drop (k + 1)) else none := by
  rw [List.drop_eq_getElem_cons hk, addAll, List.getD_eq_getElem?_getD, List.getElem?_eq_getElem hk]
  rfl
set_option maxHeartbeats 1000000 in
theorem fadd_any (a : Option Addr) (len cap : Nat) (xs : List Int) (o : Option Int) (w : World) (h : Ri w a len cap xs) (hx : Hid (∀ x ∈ xs, -9223372036854775808 ≤ x ∧ x ≤ 9223372036854775807)) (ho : Hid (addAll 0 xs = o)) :
    Calls Try.prog 41 #[.slice a len cap] w fun e w' => Told o e ∧ w' = w := by
  have hl := h.hlen
  have hm := h.hmax
  have H := Lib.hid h
  clear h
  go_enter Try.func41, Try.ntmps41
  go_wp2
  go_loop [3, 8] (fun s i => ∃ (k : Nat) (t : Int), i = .int .i64 k ∧ s = .int .i64 t ∧ k ≤ len ∧ -17592186044416 ≤ t ∧ t ≤ 17592186044416 ∧ Hid (addAll t (xs.drop k) = o)) (fun _ i => len - (intOf i).toNat)
  case atStart => exact ⟨0, 0, rfl, rfl, Nat.zero_le _, by decide, by decide, ho⟩
  case round =>
    obtain ⟨k, t, rfl, rfl, hk, t0, t1, hs⟩ := hrel
    by_cases hlt : k < len
    · obtain ⟨p, rfl, hc⟩ := H.out.addr (by omega)
      obtain ⟨x, hxk⟩ : ∃ x, xs.getD k 0 = x := ⟨_, rfl⟩
      have d1 := hc k hlt
      rw [hxk] at d1
      have xb : -9223372036854775808 ≤ x ∧ x ≤ 9223372036854775807 := by
        rw [← hxk, List.getD_eq_getElem?_getD, List.getElem?_eq_getElem (by omega)]
        exact hx.out _ (List.getElem_mem _)
      have hs2 := hs.out
      rw [addAll_drop t xs k (by omega), hxk] at hs2
      have kl : (k : Int) < (len : Int) := by omega
      clear hc hxk hs
      by_cases r : -17592186044416 ≤ t + x ∧ t + x ≤ 17592186044416
      · rw [if_pos r] at hs2
        obtain ⟨r0, r1⟩ := r
        have HS := Lib.hid hs2
        clear hs2
        have xl := xb.1
        have xh := xb.2
        clear xb
        go_wp2_with fail
        refine (fof_ok (t + x) r0 r1 _).mono ?_
        rintro e w' ⟨rfl, rfl⟩
        go_wp2_with fail
        go_round
        case rel => exact ⟨k + 1, t + x, by go_num, rfl, by omega, r0, r1, HS⟩
        case measure => simp [intOf]; omega
      · rw [if_neg r] at hs2
        obtain ⟨y, hy⟩ : ∃ y, wrap64 (t + x) = y := ⟨_, rfl⟩
        have yb : y < -17592186044416 ∨ 17592186044416 < y := by rw [← hy]; simp only [wrap64]; omega
        have HS := Lib.hid hs2
        have YB := Lib.hid yb
        clear hs2 yb r xb
        go_wp2_with fail
        refine (fof_no y YB.out _).mono ?_
        rintro e w' ⟨rfl, rfl⟩
        refine ⟨rfl, ?_, rfl⟩
        rw [← HS.out]
        rfl
    · have kl : ¬ (k : Int) < (len : Int) := by omega
      have HS : Hid (o = some t) := Lib.hid (by
        have := hs.out
        rw [List.drop_of_length_le (by omega)] at this
        exact this.symm)
      clear hs
      go_wp2
      go_ret
      refine ⟨?_, rfl⟩
      rw [HS.out]
      rfl
/-- a part -/
theorem fpart_zero (a n : Int) (w : World) :
    Calls Try.prog 57 #[.int .i64 a, .int .i64 n, .int .i64 0] w fun e w' => e = .panicked (gave 3) ∧ w' = w := by
  go_enter Try.func57, Try.ntmps57
  go_wp2_with fail
  refine (fail_no 3 (by decide) _).mono ?_
  rintro e w' ⟨rfl, rfl⟩
  exact ⟨rfl, rfl, rfl⟩
/-- is it a length? -/
def asLen (q : Int) : Option Int := if -17592186044416 ≤ q ∧ q ≤ 17592186044416 then some q else none
theorem fpart_any (a n d q r : Int) (h0 : -9223372036854775808 ≤ a) (h1 : a ≤ 9223372036854775807) (g0 : -9223372036854775808 ≤ n) (g1 : n ≤ 9223372036854775807) (d0 : -9223372036854775808 ≤ d) (d1 : d ≤ 9223372036854775807) (dz : d ≠ 0)
    (e : a * n = q * d + r) (er : (0 ≤ r ∧ r < d) ∨ (d < r ∧ r ≤ 0)) (w : World) :
    Calls Try.prog 57 #[.int .i64 a, .int .i64 n, .int .i64 d] w fun e w' => Told (asLen q) e ∧ Below w.heap.size w w' := by
  have dzb : (d == 0) = false := by simpa using dz
  have E := Lib.hid e
  have ER := Lib.hid er
  have DZ := Lib.hid dz
  clear e er dz
  by_cases c : -9223372036854775808 ≤ q ∧ q ≤ 9223372036854775807
  · by_cases c2 : -17592186044416 ≤ q ∧ q ≤ 17592186044416
    · have A := Lib.hid (show asLen q = some q by rw [asLen, if_pos c2])
      go_enter Try.func57, Try.ntmps57
      go_wp2_with fail
      refine (muldiv_ok a n d q r h0 h1 g0 g1 d0 d1 DZ.out c.1 c.2 E.out ER.out _).mono ?_
      rintro x w1 ⟨rfl, hb⟩
      have HB := Lib.hid hb
      clear hb
      go_wp2_with fail
      refine (length_ok q c2.1 c2.2 _).mono ?_
      rintro x w2 ⟨rfl, rfl⟩
      go_wp2_with fail
      go_returns
      rw [A.out]
      exact ⟨rfl, HB.out⟩
    · have A := Lib.hid (show asLen q = none by rw [asLen, if_neg c2])
      have C2 := Lib.hid c2
      clear c2
      go_enter Try.func57, Try.ntmps57
      go_wp2_with fail
      refine (muldiv_ok a n d q r h0 h1 g0 g1 d0 d1 DZ.out c.1 c.2 E.out ER.out _).mono ?_
      rintro x w1 ⟨rfl, hb⟩
      have HB := Lib.hid hb
      clear hb
      go_wp2_with fail
      refine (length_far q (by have := C2.out; omega) _).mono ?_
      rintro x w2 ⟨rfl, rfl⟩
      refine ⟨rfl, ?_, HB.out⟩
      rw [A.out]
      rfl
  · have A := Lib.hid (show asLen q = none by rw [asLen, if_neg (by omega)])
    have C := Lib.hid c
    clear c
    go_enter Try.func57, Try.ntmps57
    go_wp2_with fail
    refine (muldiv_no a n d q r h0 h1 g0 g1 d0 d1 DZ.out (by have := C.out; omega) E.out ER.out _).mono ?_
    rintro x w1 ⟨rfl, hb⟩
    have HB := Lib.hid hb
    clear hb
    go_wp2_with fail
    refine (length_no 0 _).mono ?_
    rintro x w2 ⟨rfl, rfl⟩
    refine ⟨rfl, ?_, HB.out⟩
    rw [A.out]
    rfl
end Go.Proofs.Ytmelbgabiklojaa
/- Worlds that differ in some blocks alone: what a closure leaves that writes its captured variables; Try in these words. -/
namespace Go.Proofs.Ytmelbgabiklojaa
open Go.RowKit
set_option linter.unusedVariables false
set_option linter.unusedSimpArgs false
set_option maxRecDepth 100000
/-- nothing that was there has turned, but in the blocks of a list -/
structure But (bs : List Nat) (w w' : World) : Prop where
  os : w'.os = w.os
  tape : w'.tape = w.tape
  output : w'.output = w.output
  size : w.heap.size ≤ w'.heap.size
  block : ∀ k, k < w.heap.size → k ∉ bs → w'.heap[k]? = w.heap[k]?
theorem But.of {bs : List Nat} {w w' : World} (h : Below w.heap.size w w') : But bs w w' := ⟨h.os, h.tape, h.output, h.size, fun k hk _ => h.block k hk⟩
theorem But.refl (bs : List Nat) (w : World) : But bs w w := .of (Below.refl _ _)
theorem But.trans {bs : List Nat} {a b c : World} (h : But bs a b) (k : But bs b c) : But bs a c :=
  ⟨k.os.trans h.os, k.tape.trans h.tape, k.output.trans h.output, Nat.le_trans h.size k.size, fun i hi hn => (k.block i (Nat.lt_of_lt_of_le hi h.size) hn).trans (h.block i hi hn)⟩
theorem But.later {bs : List Nat} {a b c : World} (h : But bs a b) (k : Below b.heap.size b c) : But bs a c := h.trans (.of k)
theorem But.alloc {bs : List Nat} {a b : World} (h : But bs a b) (o : Obj) : But bs a (b.alloc o) := h.later ((Below.refl _ _).alloc (Nat.le_refl _) o)
theorem But.drew {bs : List Nat} {a b : World} (h : But bs a b) : But bs a b.drew := h.later (Below.drew (Below.refl _ _))
theorem But.setCell {bs : List Nat} {a b : World} (h : But bs a b) {p : Addr} (hp : p.block ∈ bs ∨ a.heap.size ≤ p.block) (v : Value) : But bs a (b.setCell p v) := by
  refine ⟨h.os, h.tape, h.output, by simpa [World.setCell] using h.size, fun k hk hn => ?_⟩
  rw [Below.heap_setCell _ _ _ _ (fun e => by
    rcases hp with hp | hp
    · exact hn (e ▸ hp)
    · omega)]
  exact h.block k hk hn
theorem But.below {bs : List Nat} {B : Nat} {a b c : World} (h : Below B a b) (k : But bs b c) (hB : B ≤ b.heap.size) (hb : ∀ i ∈ bs, B ≤ i) : Below B a c :=
  ⟨k.os.trans h.os, k.tape.trans h.tape, k.output.trans h.output, Nat.le_trans h.size k.size, fun i hi => (k.block i (by omega) (fun m => by have := hb i m; omega)).trans (h.block i hi)⟩
theorem But.cell {bs : List Nat} {w w' : World} {p : Addr} {v : Value} (h : But bs w w') (hp : p.block ∉ bs) (hc : w.cell? p = some v) : w'.cell? p = some v := by
  rw [← hc]
  exact World.cell?_of_block (h.block p.block (World.block_lt_of_cell? w p hc) hp)
theorem But.frozen {bs : List Nat} {w w' : World} {p : Addr} (h : But bs w w') (hp : p.block ∉ bs) (hl : p.block < w.heap.size) : w'.frozen? p = w.frozen? p := World.frozen?_of_block (h.block p.block hl hp)
theorem But.mono {bs cs : List Nat} {w w' : World} (h : But bs w w') (hs : ∀ i ∈ bs, i ∈ cs) : But cs w w' := ⟨h.os, h.tape, h.output, h.size, fun k hk hn => h.block k hk (fun m => hn (hs k m))⟩
/-- a variable of one cell, that may be written -/
structure Var (w : World) (p : Addr) (v : Value) : Prop where
  c : w.cell? p = some v
  z : w.frozen? p = false
theorem Var.lt {w : World} {p : Addr} {v : Value} (h : Var w p v) : p.block < w.heap.size := World.block_lt_of_cell? w p h.c
theorem Var.later {w w' : World} {p : Addr} {v : Value} (h : Var w p v) (k : Below w.heap.size w w') : Var w' p v :=
  ⟨by rw [← h.c]; exact k.cell h.lt, by rw [← h.z]; exact k.frozen h.lt⟩
theorem Var.but {bs : List Nat} {w w' : World} {p : Addr} {v : Value} (h : Var w p v) (k : But bs w w') (hp : p.block ∉ bs) : Var w' p v :=
  ⟨k.cell hp h.c, by rw [← h.z]; exact k.frozen hp h.lt⟩
theorem Var.set {w : World} {p : Addr} {u : Value} (h : Var w p u) (v : Value) : Var (w.setCell p v) p v := by
  have hl := h.lt
  refine ⟨?_, by rw [World.frozen?_setCell]; exact h.z⟩
  exact World.cell?_setCell_same _ _ _ h.c
theorem Var.other {w : World} {p q : Addr} {v : Value} (h : Var w p v) (hq : q ≠ p) (u : Value) : Var (w.setCell q u) p v :=
  ⟨by rw [World.cell?_setCell_other _ _ _ _ hq]; exact h.c, by rw [World.frozen?_setCell]; exact h.z⟩
theorem Var.alloc {w : World} {p : Addr} {v : Value} (h : Var w p v) (o : Obj) : Var (w.alloc o) p v := h.later ((Below.refl _ _).alloc (Nat.le_refl _) o)
theorem Var.new (w : World) (v : Value) (t : TypeId) : Var (w.alloc (.cells #[v] t)) ⟨w.heap.size, 0, none⟩ v := ⟨by simp [go_sem], by simp [go_sem]⟩
/-- variables with their values -/
def Vars (w : World) (vs : List (Addr × Value)) : Prop := ∀ x ∈ vs, Var w x.1 x.2
theorem Vars.later {w w' : World} {vs : List (Addr × Value)} (h : Vars w vs) (k : Below w.heap.size w w') : Vars w' vs := fun x hx => (h x hx).later k
theorem Vars.other {w : World} {vs : List (Addr × Value)} {q : Addr} (h : Vars w vs) (hq : ∀ x ∈ vs, q ≠ x.1) (u : Value) : Vars (w.setCell q u) vs := fun x hx => (h x hx).other (hq x hx) u
/-- Try of a closure that returns -/
theorem tryB_ret (F : FuncId) (cap : Array Value) (bs : List Nat) (vs : List (Addr × Value)) (w : World) (hbs : ∀ i ∈ bs, i < w.heap.size) (hvs : ∀ x ∈ vs, x.1.block < w.heap.size) (hcf : ∀ w : World, (callFunc F cap).run Try.prog w = .ok (.enter F cap) w)
    (hF : Calls Try.prog F cap (w.alloc (.cells #[.int .i64 0] 28)) fun e w' => e = .returned (.tuple #[]) ∧ But bs (w.alloc (.cells #[.int .i64 0] 28)) w' ∧ Vars w' vs) :
    Calls Try.prog 12 #[.func (.func F) #[] cap] w fun e w' => e = .returned (.int .i64 0) ∧ But bs w w' ∧ Vars w' vs := by
  have ns : w.heap.size ∉ bs := fun m => by have := hbs _ m; omega
  refine (try_ret F cap w (fun w' => But bs (w.alloc (.cells #[.int .i64 0] 28)) w' ∧ Vars w' vs) hcf (hF.mono ?_)).mono ?_
  · rintro e w' ⟨rfl, hb, hv⟩
    have v := (Var.new w (.int .i64 0) 28).but hb ns
    exact ⟨rfl, ⟨hb, hv⟩, v.c, v.z⟩
  · rintro e w' ⟨rfl, w2, ⟨hb, hv⟩, rfl⟩
    have h1 : But bs w (w.alloc (.cells #[.int .i64 0] 28)) := (But.refl bs w).alloc _
    exact ⟨rfl, (h1.trans hb).setCell (.inr (Nat.le_refl _)) _, hv.other (fun x hx e => by have := hvs x hx; rw [← e] at this; simp at this) _⟩
/-- Try of a closure that gives up -/
theorem tryB_gave (F : FuncId) (cap : Array Value) (er : Int) (bs : List Nat) (vs : List (Addr × Value)) (w : World) (hbs : ∀ i ∈ bs, i < w.heap.size) (hvs : ∀ x ∈ vs, x.1.block < w.heap.size) (hcf : ∀ w : World, (callFunc F cap).run Try.prog w = .ok (.enter F cap) w)
    (hF : Calls Try.prog F cap (w.alloc (.cells #[.int .i64 0] 28)) fun e w' => e = .panicked (gave er) ∧ But bs (w.alloc (.cells #[.int .i64 0] 28)) w' ∧ Vars w' vs) :
    Calls Try.prog 12 #[.func (.func F) #[] cap] w fun e w' => e = .returned (.int .i64 er) ∧ But bs w w' ∧ Vars w' vs := by
  have ns : w.heap.size ∉ bs := fun m => by have := hbs _ m; omega
  refine (try_gave F cap er w (fun w' => But bs (w.alloc (.cells #[.int .i64 0] 28)) w' ∧ Vars w' vs) hcf (hF.mono ?_)).mono ?_
  · rintro e w' ⟨rfl, hb, hv⟩
    have v := (Var.new w (.int .i64 0) 28).but hb ns
    exact ⟨rfl, ⟨hb, hv⟩, v.c, v.z⟩
  · rintro e w' ⟨rfl, w2, ⟨hb, hv⟩, rfl⟩
    have h1 : But bs w (w.alloc (.cells #[.int .i64 0] 28)) := (But.refl bs w).alloc _
    exact ⟨rfl, ((h1.trans hb).setCell (.inr (Nat.le_refl _)) _).alloc _, fun x hx => ((hv.other (fun x hx e => by have := hvs x hx; rw [← e] at this; simp at this) _) x hx).alloc _⟩
/-- Try of a closure that panics otherwise -/
theorem tryB_other (F : FuncId) (cap : Array Value) (s : ByteArray) (bs : List Nat) (vs : List (Addr × Value)) (w : World) (hcf : ∀ w : World, (callFunc F cap).run Try.prog w = .ok (.enter F cap) w)
    (hF : Calls Try.prog F cap (w.alloc (.cells #[.int .i64 0] 28)) fun e w' => e = .panicked [other s] ∧ But bs (w.alloc (.cells #[.int .i64 0] 28)) w' ∧ Vars w' vs) :
    Calls Try.prog 12 #[.func (.func F) #[] cap] w fun e w' => e = .panicked [other s, { v := .iface 9 (.string s), recovered := true }] ∧ But bs w w' ∧ Vars w' vs := by
  refine (try_other F cap s w (fun w' => But bs (w.alloc (.cells #[.int .i64 0] 28)) w' ∧ Vars w' vs) hcf (hF.mono ?_)).mono ?_
  · rintro e w' ⟨rfl, hb, hv⟩
    exact ⟨rfl, hb, hv⟩
  · rintro e w' ⟨rfl, hb, hv⟩
    have h1 : But bs w (w.alloc (.cells #[.int .i64 0] 28)) := (But.refl bs w).alloc _
    exact ⟨rfl, h1.trans hb, hv⟩
end Go.Proofs.Ytmelbgabiklojaa
