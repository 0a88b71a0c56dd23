/- Package fixed: the calls that round, and those that give up. -/
import Derived.Test.YtjemnjboopabpaaWideE
import Derived.WalkKit
import Derived.WalkSpells
import Derived.WalkLawsBesides
import Derived.Handy
import Derived.Lib.Hide
import Derived.Deep.QuietTactic
import Derived.BigQuiet
import Derived.LoopTactic
import Derived.Defers
import Derived.Recover
import Derived.Deep.RegionHeld3
import Derived.Deep.RegionWith
import Derived.Outline
import Derived.Deep.DeepCutAuto
namespace Go.Proofs.Ytjemnjboopabpaa
open Go.RowKit
set_option linter.unusedVariables false
set_option linter.unusedSimpArgs false
set_option maxRecDepth 100000
theorem tdiv64 (n : Int) : n.tdiv 64 = if n < 0 ∧ n % 64 ≠ 0 then n / 64 + 1 else n / 64 := by
  by_cases h : 0 ≤ n
  · rw [Int.tdiv_eq_ediv_of_nonneg h, if_neg (by omega)]
  · have := Int.neg_tdiv n 64
    have e := Int.tdiv_eq_ediv_of_nonneg (a := -n) (b := 64) (by omega)
    split <;> omega
theorem tmod64 (n : Int) : n.tmod 64 = if n < 0 ∧ n % 64 ≠ 0 then n % 64 - 64 else n % 64 := by
  rw [Int.tmod_def, tdiv64]
  split <;> omega
/-- rounded up -/
def up64 (n : Int) : Int := if 0 < n % 64 then n / 64 + 1 else n / 64
/-- rounded to the nearest -/
def near64 (n : Int) : Int := if 32 ≤ n % 64 then n / 64 + 1 else n / 64
/-! ### Try -/
/-- another panic's word -/
def other (s : ByteArray) : PanicEntry := { v := .iface 9 (.string s), recovered := false }
end Go.Proofs.Ytjemnjboopabpaa
/- Package fixed: sums, parts, pixels. -/
namespace Go.Proofs.Ytjemnjboopabpaa
open Go.RowKit
set_option linter.unusedVariables false
set_option linter.unusedSimpArgs false
set_option maxRecDepth 100000
/-- A slice in memory reads as a list of ints. -/
structure Ri (w : World) (a : Option Addr) (len cap : Nat) (xs : List Int) : Prop where
  hlen : xs.length = len
  hmax : len ≤ 9223372036854775807
  addr : 0 < len → ∃ p : Addr, a = some p ∧ ∀ k, k < len → w.cell? (p.add k) = some (.int .i64 (xs.getD k 0))
/-- sums on the way, as long as they are lengths -/
def addAll : Int → List Int → Option Int
  | s, [] => some s
  | s, x :: xs => if -17592186044416 ≤ s + x ∧ s + x ≤ 17592186044416 then addAll (s + x) xs else none
theorem addAll_drop (s : Int) (xs : List Int) (k : Nat) (hk : k < xs.length) : addAll s (xs.drop k) = if -17592186044416 ≤ s + xs.getD k 0 ∧ s + xs.getD k 0 ≤ 17592186044416 then addAll (s + xs.getD k 0) (xs.drop (k + 1)) else none := by
  rw [List.drop_eq_getElem_cons hk, addAll, List.getD_eq_getElem?_getD, List.getElem?_eq_getElem hk]
  rfl
/-- is it a length? -/
def asLen (q : Int) : Option Int := if -17592186044416 ≤ q ∧ q ≤ 17592186044416 then some q else none
end Go.Proofs.Ytjemnjboopabpaa
/- Worlds that differ in some blocks alone: what a closure leaves that writes its captured variables; Try in these words. -/
namespace Go.Proofs.Ytjemnjboopabpaa
open Go.RowKit
set_option linter.unusedVariables false
set_option linter.unusedSimpArgs false
set_option maxRecDepth 100000
/-- nothing that was there has turned, but in the blocks of a list -/
structure But (bs : List Nat) (w w' : World) : Prop where
  os : w'.os = w.os
  tape : w'.tape = w.tape
  output : w'.output = w.output
  size : w.heap.size ≤ w'.heap.size
  block : ∀ k, k < w.heap.size → k ∉ bs → w'.heap[k]? = w.heap[k]?
theorem But.of {bs : List Nat} {w w' : World} (h : Below w.heap.size w w') : But bs w w' := ⟨h.os, h.tape, h.output, h.size, fun k hk _ => h.block k hk⟩
theorem But.refl (bs : List Nat) (w : World) : But bs w w := .of (Below.refl _ _)
theorem But.trans {bs : List Nat} {a b c : World} (h : But bs a b) (k : But bs b c) : But bs a c :=
  ⟨k.os.trans h.os, k.tape.trans h.tape, k.output.trans h.output, Nat.le_trans h.size k.size, fun i hi hn => (k.block i (Nat.lt_of_lt_of_le hi h.size) hn).trans (h.block i hi hn)⟩
theorem But.later {bs : List Nat} {a b c : World} (h : But bs a b) (k : Below b.heap.size b c) : But bs a c := h.trans (.of k)
theorem But.alloc {bs : List Nat} {a b : World} (h : But bs a b) (o : Obj) : But bs a (b.alloc o) := h.later ((Below.refl _ _).alloc (Nat.le_refl _) o)
theorem But.drew {bs : List Nat} {a b : World} (h : But bs a b) : But bs a b.drew := h.later (Below.drew (Below.refl _ _))
theorem But.setCell {bs : List Nat} {a b : World} (h : But bs a b) {p : Addr} (hp : p.block ∈ bs ∨ a.heap.size ≤ p.block) (v : Value) : But bs a (b.setCell p v) := by
  refine ⟨h.os, h.tape, h.output, by simpa [World.setCell] using h.size, fun k hk hn => ?_⟩
  rw [Below.heap_setCell _ _ _ _ (fun e => by
    rcases hp with hp | hp
    · exact hn (e ▸ hp)
    · omega)]
  exact h.block k hk hn
theorem But.below {bs : List Nat} {B : Nat} {a b c : World} (h : Below B a b) (k : But bs b c) (hB : B ≤ b.heap.size) (hb : ∀ i ∈ bs, B ≤ i) : Below B a c :=
  ⟨k.os.trans h.os, k.tape.trans h.tape, k.output.trans h.output, Nat.le_trans h.size k.size, fun i hi => (k.block i (by omega) (fun m => by have := hb i m; omega)).trans (h.block i hi)⟩
theorem But.cell {bs : List Nat} {w w' : World} {p : Addr} {v : Value} (h : But bs w w') (hp : p.block ∉ bs) (hc : w.cell? p = some v) : w'.cell? p = some v := by
  rw [← hc]
  exact World.cell?_of_block (h.block p.block (World.block_lt_of_cell? w p hc) hp)
theorem But.frozen {bs : List Nat} {w w' : World} {p : Addr} (h : But bs w w') (hp : p.block ∉ bs) (hl : p.block < w.heap.size) : w'.frozen? p = w.frozen? p := World.frozen?_of_block (h.block p.block hl hp)
theorem But.mono {bs cs : List Nat} {w w' : World} (h : But bs w w') (hs : ∀ i ∈ bs, i ∈ cs) : But cs w w' := ⟨h.os, h.tape, h.output, h.size, fun k hk hn => h.block k hk (fun m => hn (hs k m))⟩
/-- a variable of one cell, that may be written -/
structure Var (w : World) (p : Addr) (v : Value) : Prop where
  c : w.cell? p = some v
  z : w.frozen? p = false
theorem Var.lt {w : World} {p : Addr} {v : Value} (h : Var w p v) : p.block < w.heap.size := World.block_lt_of_cell? w p h.c
theorem Var.later {w w' : World} {p : Addr} {v : Value} (h : Var w p v) (k : Below w.heap.size w w') : Var w' p v :=
  ⟨by rw [← h.c]; exact k.cell h.lt, by rw [← h.z]; exact k.frozen h.lt⟩
theorem Var.but {bs : List Nat} {w w' : World} {p : Addr} {v : Value} (h : Var w p v) (k : But bs w w') (hp : p.block ∉ bs) : Var w' p v :=
  ⟨k.cell hp h.c, by rw [← h.z]; exact k.frozen hp h.lt⟩
theorem Var.set {w : World} {p : Addr} {u : Value} (h : Var w p u) (v : Value) : Var (w.setCell p v) p v := by
  have hl := h.lt
  refine ⟨?_, by rw [World.frozen?_setCell]; exact h.z⟩
  exact World.cell?_setCell_same _ _ _ h.c
theorem Var.other {w : World} {p q : Addr} {v : Value} (h : Var w p v) (hq : q ≠ p) (u : Value) : Var (w.setCell q u) p v :=
  ⟨by rw [World.cell?_setCell_other _ _ _ _ hq]; exact h.c, by rw [World.frozen?_setCell]; exact h.z⟩
theorem Var.alloc {w : World} {p : Addr} {v : Value} (h : Var w p v) (o : Obj) : Var (w.alloc o) p v := h.later ((Below.refl _ _).alloc (Nat.le_refl _) o)
theorem Var.new (w : World) (v : Value) (t : TypeId) : Var (w.alloc (.cells #[v] t)) ⟨w.heap.size, 0, none⟩ v := ⟨by simp [go_sem], by simp [go_sem]⟩
/-- variables with their values -/
def Vars (w : World) (vs : List (Addr × Value)) : Prop := ∀ x ∈ vs, Var w x.1 x.2
theorem Vars.later {w w' : World} {vs : List (Addr × Value)} (h : Vars w vs) (k : Below w.heap.size w w') : Vars w' vs := fun x hx => (h x hx).later k
theorem Vars.other {w : World} {vs : List (Addr × Value)} {q : Addr} (h : Vars w vs) (hq : ∀ x ∈ vs, q ≠ x.1) (u : Value) : Vars (w.setCell q u) vs := fun x hx => (h x hx).other (hq x hx) u
end Go.Proofs.Ytjemnjboopabpaa
