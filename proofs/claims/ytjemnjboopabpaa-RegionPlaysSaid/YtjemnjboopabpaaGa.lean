/- Package region: rows of edges in memory; the next edge, inside, what is kept. -/
import Derived.Test.YtjemnjboopabpaaBandsB
import Derived.Test.YtjemnjboopabpaaShareG
import Derived.Test.YtjemnjboopabpaaRegW
import Derived.WalkKit
import Derived.WalkSpells
import Derived.WalkLawsBesides
import Derived.Handy
import Derived.Lib.Hide
import Derived.LoopTactic
import Derived.Outline
import Derived.Deep.DeepCutAuto
namespace Go.Proofs.Ytjemnjboopabpaa
open Go.RowKit Go.Proofs.Reg Go.Proofs.Big Go.Proofs.Bands
set_option linter.unusedVariables false
set_option linter.unusedSimpArgs false
set_option maxRecDepth 100000
theorem info_int : (Try.prog.info? 3).map (fun i => (i.zero, i.size, i.bytes)) = some (some (.int .i64 0), 1, 8) := by kernel_rfl
theorem int_parts : ∃ i, Try.prog.info? 3 = some i ∧ i.zero = some (.int .i64 0) ∧ i.size = 1 ∧ i.bytes = 8 := by
  have h := info_int
  cases hq : Try.prog.info? 3 with
  | none => rw [hq] at h; simp at h
  | some i =>
    rw [hq] at h
    simp only [Option.map_some, Option.some.injEq, Prod.mk.injEq] at h
    exact ⟨i, rfl, h.1, h.2.1, h.2.2⟩
/-- a slice of ints reads as a list -/
structure Es (w : World) (a : Option Addr) (n c : Nat) (es : List Int) : Prop where
  r : Ri w a n c es
  nc : n ≤ c
  cm : c ≤ 9223372036854775807
theorem Es.later {w w' : World} {a : Option Addr} {n c : Nat} {es : List Int} (h : Es w a n c es) (hb : Below w.heap.size w w') : Es w' a n c es := ⟨ri_later h.r hb, h.nc, h.cm⟩
theorem Es.of_owns {w : World} {base : Nat} {e : TypeId} {v : Value} {n : Nat} {xs : List Int} (h : w.ownsRow base e 1 v n (xs.map (Value.int .i64))) (hm : n ≤ 9223372036854775807) : ∃ a cap, v = .slice a n cap ∧ Es w a n cap xs := by
  obtain ⟨a, cap, rfl, r⟩ := ri_of_owns h hm
  obtain ⟨c1, c2⟩ := cap_of_owns h
  exact ⟨a, cap, rfl, r, c1, c2⟩
/-- a value reads as a list of ints that lie in memory of ints -/
def EV (w : World) (v : Value) (es : List Int) : Prop := ∃ a n c, v = .slice a n c ∧ Es w a n c es ∧ (0 < n → ∃ g o cs fz, a = some ⟨g, o, none⟩ ∧ w.heap[g]? = some (.cells cs 3 fz))
theorem EV.nil (w : World) : EV w (.slice none 0 0) [] := ⟨none, 0, 0, rfl, ⟨⟨rfl, by omega, fun h => by omega⟩, by omega, by omega⟩, fun h => by omega⟩
theorem EV.later {w w' : World} {v : Value} {es : List Int} (h : EV w v es) (hb : Below w.heap.size w w') : EV w' v es := by
  obtain ⟨a, n, c, rfl, E, k⟩ := h
  refine ⟨a, n, c, rfl, E.later hb, fun hn => ?_⟩
  obtain ⟨g, o, cs, fz, rfl, hg⟩ := k hn
  exact ⟨g, o, cs, fz, rfl, (hb.block g (by
    have := Array.getElem?_eq_some_iff.1 hg
    exact this.1)).trans hg⟩
theorem EV.of_owns {w : World} {base : Nat} {v : Value} {n : Nat} {xs : List Int} (h : w.ownsRow base 3 1 v n (xs.map (Value.int .i64))) (hm : n ≤ 9223372036854775807) : EV w v xs := by
  obtain ⟨a, cap, hv, E⟩ := Es.of_owns h hm
  refine ⟨a, n, cap, hv, E, fun hn => ?_⟩
  obtain ⟨_, ⟨rfl, h0⟩ | ⟨g, cap', cur, rfl, _, hg, _⟩⟩ := h
  · omega
  · simp only [Value.slice.injEq] at hv
    exact ⟨g, 0, cur, _, hv.1.symm, hg⟩
/-- nothing that lies in memory of ints changes -/
theorem EV.kept {w w' : World} {v : Value} {es : List Int} (h : EV w v es) (hk : ∀ (g : Nat) (cs : Array Value) (fz : Nat × Nat), w.heap[g]? = some (Obj.cells cs 3 fz) → w'.heap[g]? = w.heap[g]?) : EV w' v es := by
  obtain ⟨a, n, c, rfl, E, k⟩ := h
  refine ⟨a, n, c, rfl, ⟨⟨E.r.hlen, E.r.hmax, fun hn => ?_⟩, E.nc, E.cm⟩, fun hn => ?_⟩
  · obtain ⟨g, o, cs, fz, rfl, hg⟩ := k hn
    obtain ⟨p, hp, hc⟩ := E.r.addr hn
    refine ⟨p, hp, fun j hj => ?_⟩
    have hp' := Option.some.inj hp
    subst hp'
    have hb : ((⟨g, o, none⟩ : Addr).add j).block = g := by unfold Addr.add; split <;> rfl
    rw [World.cell?_of_block (w := w) (by rw [hb]; exact hk g cs fz hg)]
    exact hc j hj
  · obtain ⟨g, o, cs, fz, rfl, hg⟩ := k hn
    exact ⟨g, o, cs, fz, rfl, (hk g cs fz hg).trans hg⟩
/-- the slice without its first -/
def tailA (a : Option Addr) (c : Nat) : Option Addr := match a with
  | none => none
  | some p => if c = 1 then some p else some (p.add 1)
theorem Es.tail {w : World} {a : Option Addr} {n c : Nat} {es : List Int} (h : Es w a n c es) (hn : 0 < n) : Es w (tailA a c) (n - 1) (c - 1) (es.drop 1) := by
  have hl := h.r.hlen
  refine ⟨⟨by rw [List.length_drop]; omega, by have := h.r.hmax; omega, fun h1 => ?_⟩, by have := h.nc; omega, by have := h.cm; omega⟩
  obtain ⟨p, rfl, hc⟩ := h.r.addr hn
  have c1 : c ≠ 1 := by have := h.nc; omega
  refine ⟨p.add 1, by simp only [tailA, if_neg c1], fun k hk => ?_⟩
  rw [Addr.add_add, hc (1 + k) (by omega), List.getD_eq_getElem?_getD, List.getD_eq_getElem?_getD, List.getElem?_drop]
theorem slice_tail (a : Option Addr) (n c : Nat) (hn : 0 < n) (hc : n ≤ c) (ha : ∃ p, a = some p) (w : World) : (Instr.sliceAt 69 (.slice a n c) (some (.int .i64 1)) none none).run Try.prog w = .ok (.slice (tailA a c) (n - 1) (c - 1)) w := by
  obtain ⟨p, rfl⟩ := ha
  have kn : (1 : Int) ≤ (n : Int) := by omega
  unfold tailA
  generalize hq : p.add 1 = q
  simp [go_sem, kn, hq]
theorem ginside_any (n : Int) (h : 0 ≤ n) (w : World) : Calls Try.prog 52 #[.int .i64 n] w fun e w' => e = .returned (.bool (n % 2 == 1)) ∧ w' = w := by
  have t : n.tmod 2 = n % 2 := Int.tmod_eq_emod_of_nonneg h
  go_enter Try.func52, Try.ntmps52
  go_wp2_with fail
  go_returns
  exact ⟨rfl, rfl⟩
/-- the head of a row, or the end of all -/
def headE (es : List Int) : Int := match es with
  | [] => 9223372036854775807
  | e :: _ => e
theorem gnext_any (a : Option Addr) (n c : Nat) (es : List Int) (w : World) (h : Es w a n c es) : Calls Try.prog 92 #[.slice a n c] w fun e w' => e = .returned (.int .i64 (headE es)) ∧ w' = w := by
  have hl := h.r.hlen
  cases es with
  | nil =>
    obtain rfl : n = 0 := by simpa using hl.symm
    go_enter Try.func92, Try.ntmps92
    go_wp2_with fail
    go_returns
    exact ⟨rfl, rfl⟩
  | cons x es =>
    have np : 0 < n := by rw [← hl]; simp
    obtain ⟨p, rfl, hc⟩ := h.r.addr np
    have d := hc 0 np
    simp only [List.getD_cons_zero] at d
    rw [show p.add 0 = p from rfl] at d
    have nz : ((n : Int) == 0) = false := by simpa using (show (n : Int) ≠ 0 by omega)
    have np' : (0 : Int) < (n : Int) := by omega
    clear hc h hl
    go_enter Try.func92, Try.ntmps92
    go_wp2_with fail
    go_returns
    exact ⟨rfl, rfl⟩
def orB (a b : Bool) : Bool := a || b
def andB (a b : Bool) : Bool := a && b
def minusB (a b : Bool) : Bool := a && !b
theorem or1_any (a b : Bool) (w : World) : Calls Try.prog 45 #[.bool a, .bool b] w fun e w' => e = .returned (.bool (orB a b)) ∧ w' = w := by
  cases a <;> cases b
  all_goals
    go_enter Try.func45, Try.ntmps45
    go_wp2_with fail
    go_returns
    exact ⟨rfl, rfl⟩
theorem and1_any (a b : Bool) (w : World) : Calls Try.prog 42 #[.bool a, .bool b] w fun e w' => e = .returned (.bool (andB a b)) ∧ w' = w := by
  cases a <;> cases b
  all_goals
    go_enter Try.func42, Try.ntmps42
    go_wp2_with fail
    go_returns
    exact ⟨rfl, rfl⟩
theorem minus1_any (a b : Bool) (w : World) : Calls Try.prog 39 #[.bool a, .bool b] w fun e w' => e = .returned (.bool (minusB a b)) ∧ w' = w := by
  cases a <;> cases b
  all_goals
    go_enter Try.func39, Try.ntmps39
    go_wp2_with fail
    go_returns
    exact ⟨rfl, rfl⟩
end Go.Proofs.Ytjemnjboopabpaa
