/- Worlds that differ in some blocks alone: what a closure leaves that writes its captured variables; Try in these words. -/
import Derived.Test.YtlkpegfbnmecpaaFixB
import Derived.WalkKit
import Derived.WalkSpells
import Derived.WalkLawsBesides
import Derived.Handy
import Derived.Lib.Hide
namespace Go.Proofs.Ytlkpegfbnmecpaa
open Go.RowKit
set_option linter.unusedVariables false
set_option linter.unusedSimpArgs false
set_option maxRecDepth 100000
/-- nothing that was there has turned, but in the blocks of a list -/
structure But (bs : List Nat) (w w' : World) : Prop where
  os : w'.os = w.os
  tape : w'.tape = w.tape
  output : w'.output = w.output
  size : w.heap.size ≤ w'.heap.size
  block : ∀ k, k < w.heap.size → k ∉ bs → w'.heap[k]? = w.heap[k]?
theorem But.of {bs : List Nat} {w w' : World} (h : Below w.heap.size w w') : But bs w w' := ⟨h.os, h.tape, h.output, h.size, fun k hk _ => h.block k hk⟩
theorem But.refl (bs : List Nat) (w : World) : But bs w w := .of (Below.refl _ _)
theorem But.trans {bs : List Nat} {a b c : World} (h : But bs a b) (k : But bs b c) : But bs a c :=
  ⟨k.os.trans h.os, k.tape.trans h.tape, k.output.trans h.output, Nat.le_trans h.size k.size, fun i hi hn => (k.block i (Nat.lt_of_lt_of_le hi h.size) hn).trans (h.block i hi hn)⟩
theorem But.later {bs : List Nat} {a b c : World} (h : But bs a b) (k : Below b.heap.size b c) : But bs a c := h.trans (.of k)
theorem But.alloc {bs : List Nat} {a b : World} (h : But bs a b) (o : Obj) : But bs a (b.alloc o) := h.later ((Below.refl _ _).alloc (Nat.le_refl _) o)
theorem But.drew {bs : List Nat} {a b : World} (h : But bs a b) : But bs a b.drew := h.later (Below.drew (Below.refl _ _))
theorem But.setCell {bs : List Nat} {a b : World} (h : But bs a b) {p : Addr} (hp : p.block ∈ bs ∨ a.heap.size ≤ p.block) (v : Value) : But bs a (b.setCell p v) := by
  refine ⟨h.os, h.tape, h.output, by simpa [World.setCell] using h.size, fun k hk hn => ?_⟩
  rw [Below.heap_setCell _ _ _ _ (fun e => by
    rcases hp with hp | hp
    · exact hn (e ▸ hp)
    · omega)]
  exact h.block k hk hn
theorem But.below {bs : List Nat} {B : Nat} {a b c : World} (h : Below B a b) (k : But bs b c) (hB : B ≤ b.heap.size) (hb : ∀ i ∈ bs, B ≤ i) : Below B a c :=
  ⟨k.os.trans h.os, k.tape.trans h.tape, k.output.trans h.output, Nat.le_trans h.size k.size, fun i hi => (k.block i (by omega) (fun m => by have := hb i m; omega)).trans (h.block i hi)⟩
theorem But.cell {bs : List Nat} {w w' : World} {p : Addr} {v : Value} (h : But bs w w') (hp : p.block ∉ bs) (hc : w.cell? p = some v) : w'.cell? p = some v := by
  rw [← hc]
  exact World.cell?_of_block (h.block p.block (World.block_lt_of_cell? w p hc) hp)
theorem But.frozen {bs : List Nat} {w w' : World} {p : Addr} (h : But bs w w') (hp : p.block ∉ bs) (hl : p.block < w.heap.size) : w'.frozen? p = w.frozen? p := World.frozen?_of_block (h.block p.block hl hp)
theorem But.mono {bs cs : List Nat} {w w' : World} (h : But bs w w') (hs : ∀ i ∈ bs, i ∈ cs) : But cs w w' := ⟨h.os, h.tape, h.output, h.size, fun k hk hn => h.block k hk (fun m => hn (hs k m))⟩
/-- a variable of one cell, that may be written -/
structure Var (w : World) (p : Addr) (v : Value) : Prop where
  c : w.cell? p = some v
  z : w.frozen? p = false
theorem Var.lt {w : World} {p : Addr} {v : Value} (h : Var w p v) : p.block < w.heap.size := World.block_lt_of_cell? w p h.c
theorem Var.later {w w' : World} {p : Addr} {v : Value} (h : Var w p v) (k : Below w.heap.size w w') : Var w' p v :=
  ⟨by rw [← h.c]; exact k.cell h.lt, by rw [← h.z]; exact k.frozen h.lt⟩
theorem Var.but {bs : List Nat} {w w' : World} {p : Addr} {v : Value} (h : Var w p v) (k : But bs w w') (hp : p.block ∉ bs) : Var w' p v :=
  ⟨k.cell hp h.c, by rw [← h.z]; exact k.frozen hp h.lt⟩
theorem Var.set {w : World} {p : Addr} {u : Value} (h : Var w p u) (v : Value) : Var (w.setCell p v) p v := by
  have hl := h.lt
  refine ⟨?_, by rw [World.frozen?_setCell]; exact h.z⟩
  exact World.cell?_setCell_same _ _ _ h.c
theorem Var.other {w : World} {p q : Addr} {v : Value} (h : Var w p v) (hq : q ≠ p) (u : Value) : Var (w.setCell q u) p v :=
  ⟨by rw [World.cell?_setCell_other _ _ _ _ hq]; exact h.c, by rw [World.frozen?_setCell]; exact h.z⟩
theorem Var.alloc {w : World} {p : Addr} {v : Value} (h : Var w p v) (o : Obj) : Var (w.alloc o) p v := h.later ((Below.refl _ _).alloc (Nat.le_refl _) o)
theorem Var.new (w : World) (v : Value) (t : TypeId) : Var (w.alloc (.cells #[v] t)) ⟨w.heap.size, 0, none⟩ v := ⟨by simp [go_sem], by simp [go_sem]⟩
/-- variables with their values -/
def Vars (w : World) (vs : List (Addr × Value)) : Prop := ∀ x ∈ vs, Var w x.1 x.2
theorem Vars.later {w w' : World} {vs : List (Addr × Value)} (h : Vars w vs) (k : Below w.heap.size w w') : Vars w' vs := fun x hx => (h x hx).later k
theorem Vars.other {w : World} {vs : List (Addr × Value)} {q : Addr} (h : Vars w vs) (hq : ∀ x ∈ vs, q ≠ x.1) (u : Value) : Vars (w.setCell q u) vs := fun x hx => (h x hx).other (hq x hx) u
/-- Try of a closure that returns -/
theorem tryB_ret (F : FuncId) (cap : Array Value) (bs : List Nat) (vs : List (Addr × Value)) (w : World) (hbs : ∀ i ∈ bs, i < w.heap.size) (hvs : ∀ x ∈ vs, x.1.block < w.heap.size) (hcf : ∀ w : World, (callFunc F cap).run Try.prog w = .ok (.enter F cap) w)
    (hF : Calls Try.prog F cap (w.alloc (.cells #[.int .i64 0] 24)) fun e w' => e = .returned (.tuple #[]) ∧ But bs (w.alloc (.cells #[.int .i64 0] 24)) w' ∧ Vars w' vs) :
    Calls Try.prog 36 #[.func (.func F) #[] cap] w fun e w' => e = .returned (.int .i64 0) ∧ But bs w w' ∧ Vars w' vs := by
  have ns : w.heap.size ∉ bs := fun m => by have := hbs _ m; omega
  refine (try_ret F cap w (fun w' => But bs (w.alloc (.cells #[.int .i64 0] 24)) w' ∧ Vars w' vs) hcf (hF.mono ?_)).mono ?_
  · rintro e w' ⟨rfl, hb, hv⟩
    have v := (Var.new w (.int .i64 0) 24).but hb ns
    exact ⟨rfl, ⟨hb, hv⟩, v.c, v.z⟩
  · rintro e w' ⟨rfl, w2, ⟨hb, hv⟩, rfl⟩
    have h1 : But bs w (w.alloc (.cells #[.int .i64 0] 24)) := (But.refl bs w).alloc _
    exact ⟨rfl, (h1.trans hb).setCell (.inr (Nat.le_refl _)) _, hv.other (fun x hx e => by have := hvs x hx; rw [← e] at this; simp at this) _⟩
/-- Try of a closure that gives up -/
theorem tryB_gave (F : FuncId) (cap : Array Value) (er : Int) (bs : List Nat) (vs : List (Addr × Value)) (w : World) (hbs : ∀ i ∈ bs, i < w.heap.size) (hvs : ∀ x ∈ vs, x.1.block < w.heap.size) (hcf : ∀ w : World, (callFunc F cap).run Try.prog w = .ok (.enter F cap) w)
    (hF : Calls Try.prog F cap (w.alloc (.cells #[.int .i64 0] 24)) fun e w' => e = .panicked (gave er) ∧ But bs (w.alloc (.cells #[.int .i64 0] 24)) w' ∧ Vars w' vs) :
    Calls Try.prog 36 #[.func (.func F) #[] cap] w fun e w' => e = .returned (.int .i64 er) ∧ But bs w w' ∧ Vars w' vs := by
  have ns : w.heap.size ∉ bs := fun m => by have := hbs _ m; omega
  refine (try_gave F cap er w (fun w' => But bs (w.alloc (.cells #[.int .i64 0] 24)) w' ∧ Vars w' vs) hcf (hF.mono ?_)).mono ?_
  · rintro e w' ⟨rfl, hb, hv⟩
    have v := (Var.new w (.int .i64 0) 24).but hb ns
    exact ⟨rfl, ⟨hb, hv⟩, v.c, v.z⟩
  · rintro e w' ⟨rfl, w2, ⟨hb, hv⟩, rfl⟩
    have h1 : But bs w (w.alloc (.cells #[.int .i64 0] 24)) := (But.refl bs w).alloc _
    exact ⟨rfl, ((h1.trans hb).setCell (.inr (Nat.le_refl _)) _).alloc _, fun x hx => ((hv.other (fun x hx e => by have := hvs x hx; rw [← e] at this; simp at this) _) x hx).alloc _⟩
/-- Try of a closure that panics otherwise -/
theorem tryB_other (F : FuncId) (cap : Array Value) (s : ByteArray) (bs : List Nat) (vs : List (Addr × Value)) (w : World) (hcf : ∀ w : World, (callFunc F cap).run Try.prog w = .ok (.enter F cap) w)
    (hF : Calls Try.prog F cap (w.alloc (.cells #[.int .i64 0] 24)) fun e w' => e = .panicked [other s] ∧ But bs (w.alloc (.cells #[.int .i64 0] 24)) w' ∧ Vars w' vs) :
    Calls Try.prog 36 #[.func (.func F) #[] cap] w fun e w' => e = .panicked [other s, { v := .iface 9 (.string s), recovered := true }] ∧ But bs w w' ∧ Vars w' vs := by
  refine (try_other F cap s w (fun w' => But bs (w.alloc (.cells #[.int .i64 0] 24)) w' ∧ Vars w' vs) hcf (hF.mono ?_)).mono ?_
  · rintro e w' ⟨rfl, hb, hv⟩
    exact ⟨rfl, hb, hv⟩
  · rintro e w' ⟨rfl, hb, hv⟩
    have h1 : But bs w (w.alloc (.cells #[.int .i64 0] 24)) := (But.refl bs w).alloc _
    exact ⟨rfl, h1.trans hb, hv⟩
end Go.Proofs.Ytlkpegfbnmecpaa
