/- What the tied rows of real share: the table of trailing zeros as the row lays it. -/
import Derived.Test.YtbolifjkhoiphaaDoorRows
import Derived.Test.YtbolifjkhoiphaaDoorSpk3
import Derived.Test.YtbolifjkhoiphaaDoorLawKit
import Derived.WalkKit
import Derived.ProofKit
import Derived.LaidMore
import Derived.OpenShut
import Derived.Stop.Joined
namespace Go.Proofs.YtbolifjkhoiphaaDoor
open Go.Proofs.Flo
open Go.ChangeShapes Go.WideShapes Go.ChangeAt Go.WideMaps Go.WideElems Go.RowKit
set_option linter.unusedVariables false
set_option maxRecDepth 100000
theorem tz64_datum {H : Type} : (Rows.laid_math_bits_deBruijn64tab : DataW H) = .agg (tz64.map fun n => .lit (.int .u8 n)) := rfl
def tabLaid : List (String × DataW Unit) := [("math/bits.deBruijn64tab", Rows.laid_math_bits_deBruijn64tab)]
theorem gTab : Tryd.prog.globalNamed "math/bits.deBruijn64tab" = some 4 := by kernel_rfl
theorem tTab : (Tryd.prog.globals[4]?).map (·.type) = some 191 := by kernel_rfl
/-- every cell of the table, out of what the row lays -/
theorem tab_of_laid {W : World} (h : laidMetH Tryd.prog tabLaid W) (i : Nat) (hi : i < 64) : W.cell? ⟨4, i, none⟩ = some (.int .u8 (tz64.getD i 0)) := by
  rw [MakeChecks.laidMetH_plain _ _ _ (by kernel_rfl)] at h
  obtain ⟨ps, ⟨g0, t0, cs0, f0, p0, q0, hg0, ht0, hv0, hd0, _, _⟩, _, _⟩ := h
  obtain rfl := Option.some.inj (gTab.symm.trans hg0)
  obtain rfl := Option.some.inj (tTab.symm.trans ht0)
  rw [tz64_datum] at hd0
  obtain ⟨xs, m, rfl, hx, hlen, hn, hel⟩ := DataW.trod_array Tryd.underlying191 hd0
  have c1 : Tryd.prog.cellsOf 5 = 1 := by kernel_rfl
  have c64 : Tryd.prog.cellsOf 191 = 64 := by kernel_rfl
  simp only [Prod.mk.injEq, DataW.agg.injEq] at hx
  have h1 := hel i hi
  have hxi : xs[i]? = some xs[i] := List.getElem?_eq_getElem (by omega)
  rw [hxi] at h1
  obtain ⟨k, e1, e2, _⟩ := DataW.trod_int Tryd.underlying5 h1
  have e3 : (xs.map (·.1))[i]? = some (.lit (.int .u8 k)) := by
    rw [List.getElem?_map, hxi]
    simp only [Option.map_some]
    rw [e2]
  rw [← hx.1, List.getElem?_map] at e3
  have hk : tz64[i]? = some k := by
    cases h : tz64[i]? with
    | none => rw [h] at e3; cases e3
    | some n =>
      rw [h] at e3
      simpa using e3
  have := World.var?_cell hg0 hv0 i
  rw [this, ← Array.getElem?_toList]
  rw [c1, Nat.mul_one] at e1
  have hcl : i < cs0.toList.length := by rw [hlen, c64]; exact hi
  rw [List.drop_eq_getElem_cons hcl] at e1
  simp only [List.take_succ_cons, List.take_zero, List.cons.injEq, and_true] at e1
  rw [List.getElem?_eq_getElem hcl, e1, List.getD_eq_getElem?_getD, hk]
  rfl
theorem deb_of_laid {W : World} (h : laidMetH Tryd.prog tabLaid W) : Deb W := fun i hi => tab_of_laid h i hi
theorem door_met (os : Os) (args : Array Value) : laidMetH Tryd.prog tabLaid ((World.doorLaid Tryd.prog 400 os).forCall (fun _ _ => 0) ⟨#[], args, []⟩).memory :=
  laidMetH_of_parts3 (fuel := 8) (laidMet_of_run' 8 (by kernel_rfl) (by kernel_rfl)) (by kernel_rfl) (by kernel_rfl)
end Go.Proofs.YtbolifjkhoiphaaDoor
