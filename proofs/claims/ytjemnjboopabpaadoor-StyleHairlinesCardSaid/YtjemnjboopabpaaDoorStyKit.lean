/- What the tied rows of style share: the four tables as the rows lay them. -/
import Derived.Test.YtjemnjboopabpaaDoorRows
import Derived.Test.YtjemnjboopabpaaDoorSpk3
import Derived.Test.YtjemnjboopabpaaDoorStyM
import Derived.Test.YtjemnjboopabpaaDoorLawKit
import Derived.WalkKit
import Derived.ProofKit
import Derived.LaidMore
import Derived.OpenShut
import Derived.Stop.Joined
namespace Go.Proofs.YtjemnjboopabpaaDoor
open Go.Proofs.Flo
open Go.ChangeShapes Go.WideShapes Go.ChangeAt Go.WideMaps Go.WideElems Go.RowKit
set_option linter.unusedVariables false
set_option maxRecDepth 100000
theorem gTab : Tryd.prog.globalNamed "math/bits.deBruijn64tab" = some 4 := by kernel_rfl
theorem tTab : (Tryd.prog.globals[4]?).map (·.type) = some 199 := by kernel_rfl
theorem gPer : Tryd.prog.globalNamed "clapboard/style.permitted" = some 1 := by kernel_rfl
theorem tPer : (Tryd.prog.globals[1]?).map (·.type) = some 134 := by kernel_rfl
theorem gNum : Tryd.prog.globalNamed "clapboard/style.numberLimits" = some 2 := by kernel_rfl
theorem tNum : (Tryd.prog.globals[2]?).map (·.type) = some 138 := by kernel_rfl
theorem gWrd : Tryd.prog.globalNamed "clapboard/style.wordLimits" = some 3 := by kernel_rfl
theorem tWrd : (Tryd.prog.globals[3]?).map (·.type) = some 141 := by kernel_rfl
section
variable {H : Type} {enc : TypeId × Value → H} {w : World} {base : Nat} {spare : Nat → Bool} {held : Bool}
theorem one_of {l : List Value} {i : Nat} {v : Value} (h : (l.drop (i * 1)).take 1 = [v]) : l[i]? = some v := by
  rw [Nat.mul_one] at h
  by_cases hl : i < l.length
  · rw [List.drop_eq_getElem_cons hl] at h
    simp only [List.take_succ_cons, List.take_zero, List.cons.injEq, and_true] at h
    rw [List.getElem?_eq_getElem hl, h]
  · rw [List.drop_eq_nil_of_le (by omega)] at h
    simp at h
theorem at_of {l : List Value} {o j n : Nat} {v : Value} {r : List Value} (h : (l.drop o).take n = r) (hj : r[j]? = some v) : l[o + j]? = some v := by
  subst h
  rw [List.getElem?_take] at hj
  split at hj
  · rw [List.getElem?_drop] at hj; exact hj
  · cases hj
theorem deb_cells {cs : List Value} {n : Nat} {q : List MemPlace} (h : DataW.trod enc Tryd.prog w base spare held n 199 cs = some (Rows.laid_math_bits_deBruijn64tab, q)) (i : Nat) (hi : i < 64) : cs[i]? = some (.int .u8 (tz64.getD i 0)) := by
  obtain ⟨xs, m, _, hx, hlen, hn, hel⟩ := DataW.trod_array Tryd.underlying199 h
  rw [show (Rows.laid_math_bits_deBruijn64tab : DataW H) = .agg (tz64.map fun n => .lit (.int .u8 n)) from rfl] at hx
  have c1 : Tryd.prog.cellsOf 5 = 1 := by kernel_rfl
  simp only [Prod.mk.injEq, DataW.agg.injEq] at hx
  have h1 := hel i hi
  have hxi : xs[i]? = some xs[i] := List.getElem?_eq_getElem (by omega)
  rw [hxi, c1] at h1
  obtain ⟨k, e1, e2, _⟩ := DataW.trod_int Tryd.underlying5 h1
  have e3 : (xs.map (·.1))[i]? = some (.lit (.int .u8 k)) := by
    rw [List.getElem?_map, hxi]
    simp only [Option.map_some]
    rw [e2]
  rw [← hx.1, List.getElem?_map] at e3
  have hk : tz64[i]? = some k := by
    cases h : tz64[i]? with
    | none => rw [h] at e3; cases e3
    | some n => rw [h] at e3; simpa using e3
  rw [one_of e1, List.getD_eq_getElem?_getD, hk]
  rfl
def perT : List Int := [5, 5, 5, 5, 6, 6, 13, 13, 13, 13, 4, 4, 4, 4, 13, 13, 13, 13, 5]
theorem per_eq : ∀ i, i < 19 → perT[i]? = some ((mayN i : Nat) : Int) := by decide
theorem per_cells {cs : List Value} {n : Nat} {q : List MemPlace} (h : DataW.trod enc Tryd.prog w base spare held n 134 cs = some (Rows.laid_clapboard_style_permitted, q)) (i : Nat) (hi : i < 19) : cs[i]? = some (.int .i64 (mayN i : Nat)) := by
  obtain ⟨xs, m, _, hx, hlen, hn, hel⟩ := DataW.trod_array Tryd.underlying134 h
  rw [show (Rows.laid_clapboard_style_permitted : DataW H) = .agg (perT.map fun n => .lit (.int .i64 n)) from rfl] at hx
  have c1 : Tryd.prog.cellsOf 3 = 1 := by kernel_rfl
  simp only [Prod.mk.injEq, DataW.agg.injEq] at hx
  have h1 := hel i hi
  have hxi : xs[i]? = some xs[i] := List.getElem?_eq_getElem (by omega)
  rw [hxi, c1] at h1
  obtain ⟨k, e1, e2, _⟩ := DataW.trod_int Tryd.underlying3 h1
  have e3 : (xs.map (·.1))[i]? = some (.lit (.int .i64 k)) := by
    rw [List.getElem?_map, hxi]
    simp only [Option.map_some]
    rw [e2]
  rw [← hx.1, List.getElem?_map, per_eq i hi] at e3
  rw [one_of e1]
  simpa using e3.symm
def numT : List (DataW H) := (List.range 10).map fun i => .agg [.lit (.int .i64 (parN i)), .lit (.int .i64 (lowN i)), .lit (.int .i64 (highN i)), .lit (.bool (nanN i)), .lit (.int .i64 (fornN i))]
theorem num_cells {cs : List Value} {n : Nat} {q : List MemPlace} (h : DataW.trod enc Tryd.prog w base spare held n 138 cs = some (Rows.laid_clapboard_style_numberLimits, q)) (i : Nat) (hi : i < 10) :
    cs[i * 5]? = some (.int .i64 (parN i)) ∧ cs[i * 5 + 1]? = some (.int .i64 (lowN i)) ∧ cs[i * 5 + 2]? = some (.int .i64 (highN i)) ∧ cs[i * 5 + 3]? = some (.bool (nanN i)) ∧ cs[i * 5 + 4]? = some (.int .i64 (fornN i)) := by
  obtain ⟨xs, m, _, hx, hlen, hn, hel⟩ := DataW.trod_array Tryd.underlying138 h
  rw [show (Rows.laid_clapboard_style_numberLimits : DataW H) = .agg numT from rfl] at hx
  have c5 : Tryd.prog.cellsOf 137 = 5 := by kernel_rfl
  simp only [Prod.mk.injEq, DataW.agg.injEq] at hx
  have h1 := hel i hi
  have hxi : xs[i]? = some xs[i] := List.getElem?_eq_getElem (by omega)
  rw [hxi, c5] at h1
  have e3 : (xs.map (·.1))[i]? = some (.agg [.lit (.int .i64 (parN i)), .lit (.int .i64 (lowN i)), .lit (.int .i64 (highN i)), .lit (.bool (nanN i)), .lit (.int .i64 (fornN i))]) := by
    rw [← hx.1]
    unfold numT
    rw [List.getElem?_map, List.getElem?_range hi]
    rfl
  rw [List.getElem?_map, hxi] at e3
  simp only [Option.map_some, Option.some.injEq] at e3
  obtain ⟨ys, k, hk, hy, hl, hlen2, hq⟩ := DataW.trod_struct Tryd.underlying137 h1
  obtain ⟨ds, hds⟩ : ∃ ds, (cs.drop (i * 5)).take 5 = ds := ⟨_, rfl⟩
  rw [hds] at hq
  rw [hy] at e3
  have k1 : Tryd.prog.cellsOf 2 = 1 := by kernel_rfl
  have kb : Tryd.prog.cellsOf 4 = 1 := by kernel_rfl
  have l5 : ds.length = 5 := by rw [← hds, hl]; exact c5
  match ys, hlen2, ds, l5 with
  | [y0, y1, y2, y3, y4], _, [d0, d1, d2, d3, d4], _ =>
    have f0 : DataW.trod enc Tryd.prog w base spare held k 2 [d0] = some y0 := by
      have f : DataW.trod enc Tryd.prog w base spare held k 2 (([d0, d1, d2, d3, d4].drop 0).take (Tryd.prog.cellsOf 2)) = some y0 := hq 0 _ rfl
      rw [k1] at f
      exact f
    have f1 : DataW.trod enc Tryd.prog w base spare held k 2 [d1] = some y1 := by
      have f : DataW.trod enc Tryd.prog w base spare held k 2 (([d0, d1, d2, d3, d4].drop 1).take (Tryd.prog.cellsOf 2)) = some y1 := hq 1 _ rfl
      rw [k1] at f
      exact f
    have f2 : DataW.trod enc Tryd.prog w base spare held k 2 [d2] = some y2 := by
      have f : DataW.trod enc Tryd.prog w base spare held k 2 (([d0, d1, d2, d3, d4].drop 2).take (Tryd.prog.cellsOf 2)) = some y2 := hq 2 _ rfl
      rw [k1] at f
      exact f
    have f3 : DataW.trod enc Tryd.prog w base spare held k 4 [d3] = some y3 := by
      have f : DataW.trod enc Tryd.prog w base spare held k 4 (([d0, d1, d2, d3, d4].drop 3).take (Tryd.prog.cellsOf 4)) = some y3 := hq 3 _ rfl
      rw [kb] at f
      exact f
    have f4 : DataW.trod enc Tryd.prog w base spare held k 2 [d4] = some y4 := by
      have f : DataW.trod enc Tryd.prog w base spare held k 2 (([d0, d1, d2, d3, d4].drop 4).take (Tryd.prog.cellsOf 2)) = some y4 := hq 4 _ rfl
      rw [k1] at f
      exact f
    obtain ⟨z0, a0, b0, _⟩ := DataW.trod_int Tryd.underlying2 f0
    obtain ⟨z1, a1, b1, _⟩ := DataW.trod_int Tryd.underlying2 f1
    obtain ⟨z2, a2, b2, _⟩ := DataW.trod_int Tryd.underlying2 f2
    obtain ⟨z3, a3, b3⟩ := DataW.trod_bool Tryd.underlying4 f3
    obtain ⟨z4, a4, b4, _⟩ := DataW.trod_int Tryd.underlying2 f4
    simp at a0 a1 a2 a3 a4
    subst a0 a1 a2 a3 a4 b0 b1 b2 b3 b4
    simp only [List.map_cons, List.map_nil, DataW.agg.injEq, List.cons.injEq, DataW.lit.injEq, Lit.int.injEq, Lit.bool.injEq, true_and, and_true] at e3
    obtain ⟨rfl, rfl, rfl, rfl, rfl⟩ := e3
    exact ⟨at_of (j := 0) hds rfl, at_of (j := 1) hds rfl, at_of (j := 2) hds rfl, at_of (j := 3) hds rfl, at_of (j := 4) hds rfl⟩
def wrdT : List (DataW H) := (List.range 12).map fun i => .agg [.lit (.int .i64 (wlow i)), .lit (.int .i64 (whigh i))]
theorem wrd_cells {cs : List Value} {n : Nat} {q : List MemPlace} (h : DataW.trod enc Tryd.prog w base spare held n 141 cs = some (Rows.laid_clapboard_style_wordLimits, q)) (i : Nat) (hi : i < 12) :
    cs[i * 2]? = some (.int .i64 (wlow i)) ∧ cs[i * 2 + 1]? = some (.int .i64 (whigh i)) := by
  obtain ⟨xs, m, _, hx, hlen, hn, hel⟩ := DataW.trod_array Tryd.underlying141 h
  rw [show (Rows.laid_clapboard_style_wordLimits : DataW H) = .agg wrdT from rfl] at hx
  have c5 : Tryd.prog.cellsOf 140 = 2 := by kernel_rfl
  simp only [Prod.mk.injEq, DataW.agg.injEq] at hx
  have h1 := hel i hi
  have hxi : xs[i]? = some xs[i] := List.getElem?_eq_getElem (by omega)
  rw [hxi, c5] at h1
  have e3 : (xs.map (·.1))[i]? = some (.agg [.lit (.int .i64 (wlow i)), .lit (.int .i64 (whigh i))]) := by
    rw [← hx.1]
    unfold wrdT
    rw [List.getElem?_map, List.getElem?_range hi]
    rfl
  rw [List.getElem?_map, hxi] at e3
  simp only [Option.map_some, Option.some.injEq] at e3
  obtain ⟨ys, k, hk, hy, hl, hlen2, hq⟩ := DataW.trod_struct Tryd.underlying140 h1
  obtain ⟨ds, hds⟩ : ∃ ds, (cs.drop (i * 2)).take 2 = ds := ⟨_, rfl⟩
  rw [hds] at hq
  rw [hy] at e3
  have k1 : Tryd.prog.cellsOf 3 = 1 := by kernel_rfl
  have l5 : ds.length = 2 := by rw [← hds, hl]; exact c5
  match ys, hlen2, ds, l5 with
  | [y0, y1], _, [d0, d1], _ =>
    have f0 : DataW.trod enc Tryd.prog w base spare held k 3 [d0] = some y0 := by
      have f : DataW.trod enc Tryd.prog w base spare held k 3 (([d0, d1].drop 0).take (Tryd.prog.cellsOf 3)) = some y0 := hq 0 _ rfl
      rw [k1] at f
      exact f
    have f1 : DataW.trod enc Tryd.prog w base spare held k 3 [d1] = some y1 := by
      have f : DataW.trod enc Tryd.prog w base spare held k 3 (([d0, d1].drop 1).take (Tryd.prog.cellsOf 3)) = some y1 := hq 1 _ rfl
      rw [k1] at f
      exact f
    obtain ⟨z0, a0, b0, _⟩ := DataW.trod_int Tryd.underlying3 f0
    obtain ⟨z1, a1, b1, _⟩ := DataW.trod_int Tryd.underlying3 f1
    simp at a0 a1
    subst a0 a1 b0 b1
    simp only [List.map_cons, List.map_nil, DataW.agg.injEq, List.cons.injEq, DataW.lit.injEq, Lit.int.injEq, true_and, and_true] at e3
    obtain ⟨rfl, rfl⟩ := e3
    exact ⟨at_of (j := 0) hds rfl, at_of (j := 1) hds rfl⟩
end
def styLaid : List (String × DataW Unit) := [("math/bits.deBruijn64tab", Rows.laid_math_bits_deBruijn64tab), ("clapboard/style.permitted", Rows.laid_clapboard_style_permitted), ("clapboard/style.numberLimits", Rows.laid_clapboard_style_numberLimits), ("clapboard/style.wordLimits", Rows.laid_clapboard_style_wordLimits)]
theorem sty_of_laid {W : World} (h : laidMetH Tryd.prog styLaid W) : Sty W := by
  rw [MakeChecks.laidMetH_plain _ _ _ (by kernel_rfl)] at h
  obtain ⟨ps, ⟨g0, t0, cs0, f0, p0, q0, hg0, ht0, hv0, hd0, ⟨g1, t1, cs1, f1, p1, q1, hg1, ht1, hv1, hd1, ⟨g2, t2, cs2, f2, p2, q2, hg2, ht2, hv2, hd2, ⟨g3, t3, cs3, f3, p3, q3, hg3, ht3, hv3, hd3, _, _⟩, _⟩, _⟩, _⟩, _, _⟩ := h
  obtain rfl := Option.some.inj (gTab.symm.trans hg0)
  obtain rfl := Option.some.inj (tTab.symm.trans ht0)
  obtain rfl := Option.some.inj (gPer.symm.trans hg1)
  obtain rfl := Option.some.inj (tPer.symm.trans ht1)
  obtain rfl := Option.some.inj (gNum.symm.trans hg2)
  obtain rfl := Option.some.inj (tNum.symm.trans ht2)
  obtain rfl := Option.some.inj (gWrd.symm.trans hg3)
  obtain rfl := Option.some.inj (tWrd.symm.trans ht3)
  have D0 := fun i (hi : i < 64) => deb_cells hd0 i hi
  have D1 := fun i (hi : i < 19) => per_cells hd1 i hi
  have D2 := fun i (hi : i < 10) => num_cells hd2 i hi
  have D3 := fun i (hi : i < 12) => wrd_cells hd3 i hi
  refine ⟨fun i hi => ?_, fun i hi => ?_, fun i hi => ?_, fun i hi => ?_, fun i hi => ?_, fun i hi => ?_, fun i hi => ?_, fun i hi => ?_, fun i hi => ?_⟩
  · rw [World.var?_cell hg0 hv0 i, ← Array.getElem?_toList]; exact D0 i hi
  · rw [World.var?_cell hg1 hv1 i, ← Array.getElem?_toList]; exact D1 i hi
  · rw [World.var?_cell hg2 hv2 _, ← Array.getElem?_toList]; exact (D2 i hi).1
  · rw [World.var?_cell hg2 hv2 _, ← Array.getElem?_toList]; exact (D2 i hi).2.1
  · rw [World.var?_cell hg2 hv2 _, ← Array.getElem?_toList]; exact (D2 i hi).2.2.1
  · rw [World.var?_cell hg2 hv2 _, ← Array.getElem?_toList]; exact (D2 i hi).2.2.2.1
  · rw [World.var?_cell hg2 hv2 _, ← Array.getElem?_toList]; exact (D2 i hi).2.2.2.2
  · rw [World.var?_cell hg3 hv3 _, ← Array.getElem?_toList]; exact (D3 i hi).1
  · rw [World.var?_cell hg3 hv3 _, ← Array.getElem?_toList]; exact (D3 i hi).2
theorem door_met_sty (os : Os) (args : Array Value) : laidMetH Tryd.prog styLaid ((World.doorLaid Tryd.prog 400 os).forCall (fun _ _ => 0) ⟨#[], args, []⟩).memory :=
  laidMetH_of_parts3 (fuel := 8) (laidMet_of_run' 8 (by kernel_rfl) (by kernel_rfl)) (by kernel_rfl) (by kernel_rfl)
end Go.Proofs.YtjemnjboopabpaaDoor
