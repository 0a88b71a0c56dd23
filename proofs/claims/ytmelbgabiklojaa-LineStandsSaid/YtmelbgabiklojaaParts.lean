/- The closures of FixedParts. -/
import Derived.Test.YtmelbgabiklojaaFixC
import Derived.WalkKit
import Derived.WalkSpells
import Derived.WalkLawsBesides
import Derived.Handy
import Derived.Lib.Hide
import Derived.Deep.QuietTactic
import Derived.BigQuiet
import Derived.LoopTactic
import Derived.Deep.RegionHeld3
import Derived.Deep.RegionWith
import Derived.Outline
import Derived.Deep.DeepCutAuto
namespace Go.Proofs.Ytmelbgabiklojaa
open Go.RowKit Go.Proofs.Big Go.Proofs.Reg
set_option linter.unusedVariables false
set_option linter.unusedSimpArgs false
set_option maxRecDepth 100000
/-- five numbers in a box -/
structure PB (w : World) (b : Nat) (A N D P Q : Int) : Prop where
  c0 : w.cell? ⟨b, 0, none⟩ = some (.int .i64 A)
  c1 : w.cell? ⟨b, 1, none⟩ = some (.int .i64 N)
  c2 : w.cell? ⟨b, 2, none⟩ = some (.int .i64 D)
  c3 : w.cell? ⟨b, 3, none⟩ = some (.int .i64 P)
  c4 : w.cell? ⟨b, 4, none⟩ = some (.int .i64 Q)
theorem PB.lt {w : World} {b : Nat} {A N D P Q : Int} (h : PB w b A N D P Q) : b < w.heap.size := World.block_lt_of_cell? w _ h.c0
theorem PB.later {w w' : World} {b : Nat} {A N D P Q : Int} (h : PB w b A N D P Q) (k : Below w.heap.size w w') : PB w' b A N D P Q :=
  ⟨cell_later k h.c0, cell_later k h.c1, cell_later k h.c2, cell_later k h.c3, cell_later k h.c4⟩
theorem PB.but {bs : List Nat} {w w' : World} {b : Nat} {A N D P Q : Int} (h : PB w b A N D P Q) (k : But bs w w') (hb : b ∉ bs) : PB w' b A N D P Q :=
  ⟨k.cell hb h.c0, k.cell hb h.c1, k.cell hb h.c2, k.cell hb h.c3, k.cell hb h.c4⟩
/-- three numbers that are written -/
structure Th3 (w : World) (g : Nat) (x y z : Int) : Prop where
  v0 : Var w ⟨g, 0, none⟩ (.int .i64 x)
  v1 : Var w ⟨g, 1, none⟩ (.int .i64 y)
  v2 : Var w ⟨g, 2, none⟩ (.int .i64 z)
theorem Th3.lt {w : World} {g : Nat} {x y z : Int} (h : Th3 w g x y z) : g < w.heap.size := h.v0.lt
theorem Th3.later {w w' : World} {g : Nat} {x y z : Int} (h : Th3 w g x y z) (k : Below w.heap.size w w') : Th3 w' g x y z := ⟨h.v0.later k, h.v1.later k, h.v2.later k⟩
theorem Th3.set0 {w : World} {g : Nat} {x y z : Int} (h : Th3 w g x y z) (v : Int) : Th3 (w.setCell ⟨g, 0, none⟩ (.int .i64 v)) g v y z :=
  ⟨h.v0.set _, h.v1.other (by simp) _, h.v2.other (by simp) _⟩
theorem Th3.set1 {w : World} {g : Nat} {x y z : Int} (h : Th3 w g x y z) (v : Int) : Th3 (w.setCell ⟨g, 1, none⟩ (.int .i64 v)) g x v z :=
  ⟨h.v0.other (by simp) _, h.v1.set _, h.v2.other (by simp) _⟩
theorem Th3.set2 {w : World} {g : Nat} {x y z : Int} (h : Th3 w g x y z) (v : Int) : Th3 (w.setCell ⟨g, 2, none⟩ (.int .i64 v)) g x y v :=
  ⟨h.v0.other (by simp) _, h.v1.other (by simp) _, h.v2.set _⟩
def three (g : Nat) (x y z : Int) : List (Addr × Value) := [(⟨g, 0, none⟩, .int .i64 x), (⟨g, 1, none⟩, .int .i64 y), (⟨g, 2, none⟩, .int .i64 z)]
theorem Th3.vars {w : World} {g : Nat} {x y z : Int} (h : Th3 w g x y z) : Vars w (three g x y z) := fun u hu => by
  rcases List.mem_cons.1 hu with rfl | hu
  · exact h.v0
  rcases List.mem_cons.1 hu with rfl | hu
  · exact h.v1
  obtain rfl : u = _ := List.mem_singleton.1 hu
  exact h.v2
theorem Th3.of {w : World} {g : Nat} {x y z : Int} (h : Vars w (three g x y z)) : Th3 w g x y z :=
  ⟨h _ (List.mem_cons_self ..), h _ (List.mem_cons_of_mem _ (List.mem_cons_self ..)), h _ (List.mem_cons_of_mem _ (List.mem_cons_of_mem _ (List.mem_singleton.2 rfl)))⟩
theorem three_lt {w : World} {g : Nat} (h : g < w.heap.size) (x y z : Int) : ∀ u ∈ three g x y z, u.1.block < w.heap.size := fun u hu => by
  rcases List.mem_cons.1 hu with rfl | hu
  · exact h
  rcases List.mem_cons.1 hu with rfl | hu
  · exact h
  obtain rfl : u = _ := List.mem_singleton.1 hu
  exact h
/-- Try of a closure that writes one of three numbers, or gives up -/
theorem try_three (F : FuncId) (cap : Array Value) (g : Nat) (er a b c x y z : Int) (w : World) (hg : g < w.heap.size) (hcf : ∀ w : World, (callFunc F cap).run Try.prog w = .ok (.enter F cap) w) (hv : er ≠ 0 → x = a ∧ y = b ∧ z = c)
    (h0 : er = 0 → Calls Try.prog F cap (w.alloc (.cells #[.int .i64 0] 28)) fun e w' => e = .returned (.tuple #[]) ∧ But [g] (w.alloc (.cells #[.int .i64 0] 28)) w' ∧ Th3 w' g x y z)
    (h1 : er ≠ 0 → Calls Try.prog F cap (w.alloc (.cells #[.int .i64 0] 28)) fun e w' => e = .panicked (gave er) ∧ But [g] (w.alloc (.cells #[.int .i64 0] 28)) w' ∧ Th3 w' g a b c) :
    Calls Try.prog 12 #[.func (.func F) #[] cap] w fun e w' => e = .returned (.int .i64 er) ∧ But [g] w w' ∧ Th3 w' g x y z := by
  have hbs : ∀ i ∈ [g], i < w.heap.size := fun i hi => by
    obtain rfl : i = g := List.mem_singleton.1 hi
    exact hg
  by_cases z0 : er = 0
  · subst z0
    refine (tryB_ret F cap [g] (three g x y z) w hbs (three_lt hg x y z) hcf ((h0 rfl).mono ?_)).mono ?_
    · rintro e w' ⟨h, k, G⟩
      exact ⟨h, k, G.vars⟩
    · rintro e w' ⟨h, k, G⟩
      exact ⟨h, k, .of G⟩
  · obtain ⟨rfl, rfl, rfl⟩ := hv z0
    refine (tryB_gave F cap er [g] (three g x y z) w hbs (three_lt hg x y z) hcf ((h1 z0).mono ?_)).mono ?_
    · rintro e w' ⟨h, k, G⟩
      exact ⟨h, k, G.vars⟩
    · rintro e w' ⟨h, k, G⟩
      exact ⟨h, k, .of G⟩

end Go.Proofs.Ytmelbgabiklojaa
