/- DamageHolds: for any byte and any slice of four ints each the law returns true, and its arguments read as they did. No condition. -/
import Derived.Test.YtfhepaiefdmlcaaLawDam
import Derived.Test.YtfhepaiefdmlcaaLawKit
import Derived.Test.YtfhepaiefdmlcaaJoinB
import Derived.Deep.Slices
namespace Go.Proofs.Ytfhepaiefdmlcaa.damageHolds
open Go.ChangeShapes Go.WideShapes Go.ChangeAt Go.RowKit Go.WideMaps Go.Deep Go.Proofs.Bands
set_option linter.unusedVariables false
theorem spot_none {w : World} {a : Addr} {v : Value} (h : w.cell? a = some v) : ∃ g o, a = ⟨g, o, none⟩ := by
  obtain ⟨g, o, s⟩ := a
  cases s with
  | none => exact ⟨g, o, rfl⟩
  | some x =>
    unfold World.cell? at h
    split at h
    · simp at h
    · cases h
set_option maxRecDepth 100000 in
theorem lifted (os : Os) (started : os.Started) (H : Type) (enc : TypeId × Value → H) :
    ReturnsInHanded {} Try.checked os 5 .any (Rows.damageHoldsSpec.pre6 enc Try.prog Try.f5 Rows.damageHoldsRow.domain false) (Rows.damageHoldsSpec.post enc Try.prog Try.f5 false true false false) := by
  refine returnsInHanded_of_change (C := Try.checked) Try.own started (by kernel_rfl) Try.func5
    (ChangeSpec.witness6 (enc := enc) (C := Try.checked) false ⟨#[], #[.int .u8 0, .slice none 0 0], []⟩ 8 (by kernel_rfl) (by kernel_rfl) (by kernel_rfl) (by kernel_rfl)) ?_
  intro W base args ds gs before hval0 hW hcnd _
  have hval : ∀ (j : Nat) t v, Try.f5.params[j]? = some t → args[j]? = some v → Value.okWide Try.prog W .any base t v := hval0
  have hW' := hW
  obtain ⟨p, q, hA0, hV, rfl, hfz, hnd⟩ := hW
  have hA : DataW.TrodAll enc Try.prog W 0 (fun _ => true) true Try.f5.params.toList args.toList ds p := hA0
  obtain ⟨rfl, rfl⟩ := trodVars_none hV
  have hAk := hA
  rw [Try.params5] at hA hval
  obtain ⟨v0, vs0, d0, ds0, p0, q0, hargs, rfl, rfl, h0, r0⟩ := trodAll_cons hA
  obtain ⟨v1, vs1, d1, ds1, p1, q1, rfl, rfl, rfl, h1, r1⟩ := trodAll_cons r0
  obtain ⟨rfl, rfl, rfl⟩ := trodAll_nil r1
  obtain rfl : args = #[v0, v1] := by cases args; simp_all
  obtain ⟨mo, rfl, rfl, rfl, w0⟩ := open_int Try.underlying5 (hval 0 5 v0 rfl rfl) h0
  have km := bounds_u8 w0
  obtain ⟨sxs, lenxs, capxs, rfl⟩ := okWide_slice Try.underlying55 (hval 1 55 v1 rfl rfl)
  obtain ⟨fuelxs, hfxs⟩ := h1
  have hc4 : Try.prog.cellsOf 30 = 4 := by kernel_rfl
  have hc1 : Try.prog.cellsOf 3 = 1 := by kernel_rfl
  obtain ⟨rs, hRS, hI⟩ : ∃ rs : List Q4, RS W (.slice sxs lenxs capxs) rs ∧ I64s rs := by
    rcases open_slice Try.underlying55 hfxs with ⟨hcs, hx⟩ | ⟨a, len', cap', m, n, D, Pl, hcs, _, hle, hmax, hm, hx, hall⟩
    · simp [Value.cells] at hcs
      obtain ⟨rfl, rfl, rfl⟩ := hcs
      exact ⟨[], ⟨none, 0, 0, rfl, rfl, by omega, by decide, fun h => by omega⟩, fun r mr => by cases mr⟩
    · simp [Value.cells] at hcs
      obtain ⟨rfl, rfl, rfl⟩ := hcs
      have hlm : lenxs ≤ m := by rw [hm]; split <;> omega
      have hmx : capxs ≤ 9223372036854775807 := by simpa [maxLen] using hmax
      have each : ∀ i, i < lenxs → ∃ r : Q4, (W.cell? ((a.add (i * 4)).add 0) = some (.int .i64 r.1) ∧ W.cell? ((a.add (i * 4)).add 1) = some (.int .i64 r.2.1) ∧ W.cell? ((a.add (i * 4)).add 2) = some (.int .i64 r.2.2.1) ∧ W.cell? ((a.add (i * 4)).add 3) = some (.int .i64 r.2.2.2)) ∧ I64 r.1 ∧ I64 r.2.1 ∧ I64 r.2.2.1 ∧ I64 r.2.2.2 := by
        intro i hi
        obtain ⟨cs', g1, g2⟩ := hall i (by omega)
        rw [hc4] at g1
        obtain ⟨_, hlen, hcell⟩ := World.cells?_some g1
        obtain ⟨xs, k, _, hxy, _, hxl, hf⟩ := DataW.trod_array Try.underlying30 g2
        rw [hc1] at hf
        match xs, hxl, cs', hlen with
        | [y0, y1, y2, y3], _, [u0, u1, u2, u3], _ =>
          have f0 := hf 0 (by decide)
          have f1 := hf 1 (by decide)
          have f2 := hf 2 (by decide)
          have f3 := hf 3 (by decide)
          simp at f0 f1 f2 f3
          obtain ⟨z0, e0, _, w0⟩ := DataW.trod_int Try.underlying3 f0
          obtain ⟨z1, e1, _, w1⟩ := DataW.trod_int Try.underlying3 f1
          obtain ⟨z2, e2, _, w2⟩ := DataW.trod_int Try.underlying3 f2
          obtain ⟨z3, e3, _, w3⟩ := DataW.trod_int Try.underlying3 f3
          simp at e0 e1 e2 e3
          subst e0 e1 e2 e3
          exact ⟨(z0, z1, z2, z3), ⟨hcell 0 (by decide), hcell 1 (by decide), hcell 2 (by decide), hcell 3 (by decide)⟩, bounds_i64 w0, bounds_i64 w1, bounds_i64 w2, bounds_i64 w3⟩
      obtain ⟨f, hf⟩ := choose_lt each
      refine ⟨(List.range lenxs).map f, ⟨some a, lenxs, capxs, rfl, by simp, hle, hmx, fun hn => ?_⟩, fun r mr => ?_⟩
      · have c0 := (hf 0 hn).1.1
        have e0 : (a.add (0 * 4)).add 0 = a := by simp [Addr.add]
        rw [e0] at c0
        obtain ⟨g, o, rfl⟩ := spot_none c0
        have ad : ∀ i k, ((⟨g, o, none⟩ : Addr).add (i * 4)).add k = ⟨g, o + i * 4 + k, none⟩ := fun i k => by
          rw [add_none, add_none]
        refine ⟨g, o, rfl, fun k r hk => ?_⟩
        have lk := (List.getElem?_eq_some_iff.1 hk).1
        simp at lk
        have er : r = f k := by
          rw [List.getElem?_map, List.getElem?_range lk] at hk
          exact (Option.some.inj hk).symm
        obtain ⟨⟨q0, q1, q2, q3⟩, _⟩ := hf k lk
        rw [ad] at q0 q1 q2 q3
        rw [er]
        exact ⟨by simpa using q0, q1, q2, q3⟩
      · obtain ⟨k, mk, rfl⟩ := List.mem_map.1 mr
        exact (hf k (List.mem_range.1 mk)).2
  clear hA0 hval0
  simp only [List.append_nil] at hW' hAk
  refine (law_holds mo km.1 km.2 _ rs W hRS hI).mono fun e W' ⟨he, hb⟩ => ?_
  subst he
  exact ⟨_, rfl, law_post rfl rfl Try.underlying4 hW' hAk (of_decide_eq_true (by kernel_rfl)) rfl rfl rfl hb⟩

/-- The statement. -/
theorem proved : Rows.DamageHoldsSaid :=
  OpenClaim.holds_of_wide 5 Try.f5 rfl rfl rfl rfl rfl rfl rfl ⟨rfl, rfl, rfl, rfl, rfl⟩ rfl rfl rfl rfl rfl (by kernel_rfl) Try.func5 (by kernel_rfl)
    (of_decide_eq_true (by kernel_rfl)) (by unfold Func.isWrapper; first | (rw [if_pos (by decide +kernel)]; kernel_rfl) | (rw [if_neg (by decide +kernel)]; exact ⟨rfl, rfl⟩))
    (fun os started H enc _ => lifted os started H enc)
#print axioms proved
end Go.Proofs.Ytfhepaiefdmlcaa.damageHolds
