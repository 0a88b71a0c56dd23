/- A struct of six one-cell fields by value, opened. -/
import Derived.Test.YtbolifjkhoiphaaJoinB
import Derived.Lib.SmallJoins
import Derived.WideKeyArr
import Derived.WideKeyArr2
import Derived.WideKeyPair
namespace Go.Proofs.Ytbolifjkhoiphaa
open Go.ChangeShapes Go.WideShapes Go.RowKit Go.Joins Go.Deep Go.WideElems Go.WideMaps
set_option linter.unusedVariables false
set_option linter.unusedSimpArgs false
theorem six_of {α : Type} {cs : Array α} (h : cs.size = 6) : ∃ a b c d e f, cs = #[a, b, c, d, e, f] := by
  obtain ⟨l⟩ := cs
  match l, h with
  | [a, b, c, d, e, f], _ => exact ⟨a, b, c, d, e, f, rfl⟩
section
variable {H : Type} {enc : TypeId × Value → H} {P : Program} {w : World} {base : Nat} {spare : Nat → Bool} {held : Bool}
theorem open_agg6 {r : Reach} {b0 : Nat} {t : TypeId} {f0 f1 f2 f3 f4 f5 : Field} {v : Value} {d : DataW H} {p : List MemPlace} (hs : P.underlying t = some (.struct #[f0, f1, f2, f3, f4, f5])) (hone : oneCellFields P #[f0, f1, f2, f3, f4, f5] = true) (hC : P.cellsOf t = 6)
    (hv : Value.okWide P w r b0 t v) (h : DataW.Trod enc P w base spare held t v d p) :
    ∃ (v0 v1 v2 v3 v4 v5 : Value) (y0 y1 y2 y3 y4 y5 : DataW H × List MemPlace) (n : Nat), v = .agg #[v0, v1, v2, v3, v4, v5] ∧ d = .agg [y0.1, y1.1, y2.1, y3.1, y4.1, y5.1] ∧ p = y0.2 ++ (y1.2 ++ (y2.2 ++ (y3.2 ++ (y4.2 ++ y5.2)))) ∧
      DataW.trod enc P w base spare held n f0.type [v0] = some y0 ∧ DataW.trod enc P w base spare held n f1.type [v1] = some y1 ∧ DataW.trod enc P w base spare held n f2.type [v2] = some y2 ∧ DataW.trod enc P w base spare held n f3.type [v3] = some y3 ∧ DataW.trod enc P w base spare held n f4.type [v4] = some y4 ∧ DataW.trod enc P w base spare held n f5.type [v5] = some y5 := by
  obtain ⟨cs, rfl, hsz⟩ := okWide_struct hs hv
  obtain ⟨c0, c1, c2, c3, c4, c5, rfl⟩ := six_of (hsz.trans hC)
  obtain ⟨fuel, hf⟩ := h
  obtain ⟨xs, n, _, hx, hl, hlen, hq⟩ := DataW.trod_struct hs hf
  match xs, hlen with
  | [y0, y1, y2, y3, y4, y5], _ =>
    have g0 := hq 0 f0 rfl
    have g1 := hq 1 f1 rfl
    have g2 := hq 2 f2 rfl
    have g3 := hq 3 f3 rfl
    have g4 := hq 4 f4 rfl
    have g5 := hq 5 f5 rfl
    obtain ⟨o0, k0⟩ := hone_of hone 0 f0 rfl
    obtain ⟨o1, k1⟩ := hone_of hone 1 f1 rfl
    obtain ⟨o2, k2⟩ := hone_of hone 2 f2 rfl
    obtain ⟨o3, k3⟩ := hone_of hone 3 f3 rfl
    obtain ⟨o4, k4⟩ := hone_of hone 4 f4 rfl
    obtain ⟨o5, k5⟩ := hone_of hone 5 f5 rfl
    simp only [Prod.mk.injEq] at hx
    exact ⟨c0, c1, c2, c3, c4, c5, y0, y1, y2, y3, y4, y5, n, rfl, by simpa using hx.1, by simpa using hx.2, by simpa [Value.cells, o0, k0] using g0, by simpa [Value.cells, o1, k1] using g1, by simpa [Value.cells, o2, k2] using g2, by simpa [Value.cells, o3, k3] using g3, by simpa [Value.cells, o4, k4] using g4, by simpa [Value.cells, o5, k5] using g5⟩
/-- an array of two structs of two numbers each, by value, opened -/
theorem open_two2 {r : Reach} {b0 : Nat} {k e : TypeId} {f0 f1 : Field} {q0 q1 : IntKind} {v : Value} {d : DataW H} {ps : List MemPlace} (hu : P.underlying k = some (.array 2 e)) (hk : P.cellsOf k = 4) (hc : P.cellsOf e = 2) (he : P.underlying e = some (.struct #[f0, f1])) (hone : oneCellFields P #[f0, f1] = true) (h0 : P.underlying f0.type = some (.int q0)) (h1 : P.underlying f1.type = some (.int q1)) (hsz : ∃ cs, v = .agg cs ∧ cs.size = 4)
    (hd : DataW.Trod enc P w base spare held k v d ps) :
    ∃ a b c f : Int, v = .agg #[.int q0 a, .int q1 b, .int q0 c, .int q1 f] ∧ ps = [] ∧ (Lit.int q0 a).wf = true ∧ (Lit.int q1 b).wf = true ∧ (Lit.int q0 c).wf = true ∧ (Lit.int q1 f).wf = true := by
  obtain ⟨cs, rfl, hsz⟩ := hsz
  obtain ⟨c0, c1, c2, c3, rfl⟩ := array4 hsz
  obtain ⟨fuel, hf⟩ := hd
  cases fuel with
  | zero => simp [DataW.trod] at hf
  | succ n =>
    rw [DataW.trod_step] at hf
    unfold DataW.trodStep at hf
    simp only [hu, Value.cells] at hf
    rw [if_pos (by rw [hk]; rfl)] at hf
    simp only [Option.map_eq_some_iff] at hf
    obtain ⟨xs, hx, e1⟩ := hf
    rw [show List.range 2 = [0, 1] from rfl, List.mapM_cons, List.mapM_cons, List.mapM_nil] at hx
    simp only [bind, Option.bind_eq_some_iff, pure, Option.some.injEq, hc] at hx
    obtain ⟨y0, g0, _, ⟨y1, g1, _, rfl, rfl⟩, rfl⟩ := hx
    obtain ⟨x0, x1, n0, p0, _, t0, t1⟩ := trod_struct2 he g0
    obtain ⟨x2, x3, n1, p1, _, t2, t3⟩ := trod_struct2 he g1
    obtain ⟨o0, k0⟩ := hone_of hone 0 f0 rfl
    obtain ⟨o1, k1⟩ := hone_of hone 1 f1 rfl
    simp [Value.cells, o0, k0] at t0 t2
    simp [Value.cells, o1, k1] at t1 t3
    obtain ⟨a, ea, rfl, wa⟩ := DataW.trod_int h0 t0
    obtain ⟨b, eb, rfl, wb⟩ := DataW.trod_int h1 t1
    obtain ⟨c, ec, rfl, wc⟩ := DataW.trod_int h0 t2
    obtain ⟨f, ef, rfl, wf⟩ := DataW.trod_int h1 t3
    simp at ea eb ec ef
    subst ea; subst eb; subst ec; subst ef
    simp only [Prod.mk.injEq] at e1
    exact ⟨a, b, c, f, rfl, by rw [← e1.2, p0, p1]; rfl, wa, wb, wc, wf⟩
end
end Go.Proofs.Ytbolifjkhoiphaa
