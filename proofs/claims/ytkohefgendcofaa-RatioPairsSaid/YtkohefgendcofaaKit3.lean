/- Wide numbers and big ones in memory. -/
import Derived.Test.YtkohefgendcofaaKit2
import Derived.Test.YtkohefgendcofaaBigK
import Derived.WalkKit
import Derived.WalkSpells
import Derived.WalkLawsBesides
import Derived.Handy
import Derived.Lib.Hide
import Derived.Deep.QuietTactic
import Derived.BigQuiet
import Derived.Deep.RegionHeld3
import Derived.Deep.RegionWith
import Derived.RegionTactic
import Derived.BigRegion
import Derived.Outline
import Derived.Deep.DeepCutAuto
namespace Go.Proofs.Ytkohefgendcofaa
open Go.RowKit Go.Proofs.Big
set_option linter.unusedVariables false
set_option maxRecDepth 100000
set_option linter.unusedSimpArgs false
/-- a wide number in memory -/
structure WV (w : World) (b : Nat) (h l : Int) : Prop where
  c0 : w.cell? ⟨b, 0, none⟩ = some (.int .i64 h)
  c1 : w.cell? ⟨b, 1, none⟩ = some (.int .u64 l)
theorem WV.later {w w' : World} {b : Nat} {h l : Int} (k : WV w b h l) (hb : Below w.heap.size w w') : WV w' b h l := ⟨cell_later hb k.c0, cell_later hb k.c1⟩
theorem WV.new (w : World) (h l : Int) (t : TypeId) : WV (w.alloc (.cells #[.int .i64 h, .int .u64 l] t)) w.heap.size h l := ⟨by simp [go_sem], by simp [go_sem]⟩
theorem WV.lt {w : World} {b : Nat} {h l : Int} (k : WV w b h l) : b < w.heap.size := World.block_lt_of_cell? w _ k.c0
theorem below_alloc (w : World) (o : Obj) : Below w.heap.size w (w.alloc o) := (Below.refl _ _).alloc (Nat.le_refl _) o
/-- a wide number and a big one in memory, that say the same -/
structure XW (w wr : World) (x g : Nat) (h l : Int) (ng : Bool) (a : Option Addr) (la ca : Nat) (n : Int) : Prop where
  X : WV wr x h l
  G : BV wr g ng a la ca
  Gn : BigV wr ng a la ca n
  bel : Below w.heap.size w wr
theorem XW.later {w wr wx : World} {x g : Nat} {h l : Int} {ng : Bool} {a : Option Addr} {la ca : Nat} {n : Int} (k : XW w wr x g h l ng a la ca n) (hb : Below wr.heap.size wr wx) : XW w wx x g h l ng a la ca n :=
  ⟨k.X.later hb, k.G.later hb, k.Gn.later hb, bel_trans k.bel hb⟩
end Go.Proofs.Ytkohefgendcofaa
