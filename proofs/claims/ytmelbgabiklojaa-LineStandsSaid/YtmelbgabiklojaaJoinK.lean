/- A slice of records as an argument, opened: what it reads as. -/
import Derived.Test.YtmelbgabiklojaaRec
import Derived.Deep.Slices
import Derived.Lib.SmallJoins
import Derived.WideKeyArr
namespace Go.Proofs.Ytmelbgabiklojaa
open Go.ChangeShapes Go.WideShapes Go.RowKit Go.Joins Go.Deep Go.WideElems
set_option linter.unusedVariables false
set_option linter.unusedSimpArgs false
theorem kspot_none {w : World} {a : Addr} {v : Value} (h : w.cell? a = some v) : ∃ g o, a = ⟨g, o, none⟩ := by
  obtain ⟨g, o, s⟩ := a
  cases s with
  | none => exact ⟨g, o, rfl⟩
  | some x =>
    unfold World.cell? at h
    split at h
    · simp at h
    · cases h
theorem kadd_none (g o j : Nat) : (⟨g, o, none⟩ : Addr).add j = ⟨g, o + j, none⟩ := by simp [Addr.add]
section
variable {H : Type} {enc : TypeId × Value → H} {P : Program} {W : World} {base : Nat} {spare : Nat → Bool} {held : Bool}
theorem open_recs {α : Type} [Inhabited α] (K : Rk α) (In : α → Prop) {t e : TypeId} (ht : P.underlying t = some (.slice e)) (hc : P.cellsOf e = K.z) (hz : 0 < K.z)
    (el : ∀ (n : Nat) (cs : List Value) (x : DataW H × List MemPlace), DataW.trod enc P W base spare held n e cs = some x → ∃ r, cs = K.cs r ∧ In r)
    {s : Option Addr} {len cap : Nat} {d : DataW H} {p : List MemPlace} (h : DataW.Trod enc P W base spare held t (.slice s len cap) d p) : ∃ rs, KS K W (.slice s len cap) rs ∧ ∀ r ∈ rs, In r := by
  obtain ⟨fuel, hf⟩ := h
  rcases open_slice ht hf with ⟨hcs, hx⟩ | ⟨a, len', cap', m, n, D, Pl, hcs, _, hle, hmax, hm, hx, hall⟩
  · simp [Value.cells] at hcs
    obtain ⟨rfl, rfl, rfl⟩ := hcs
    exact ⟨[], KS.nil K W 0 (by decide) none, fun r mr => by cases mr⟩
  · simp [Value.cells] at hcs
    obtain ⟨rfl, rfl, rfl⟩ := hcs
    have hlm : len ≤ m := by rw [hm]; split <;> omega
    have hmx : cap ≤ 9223372036854775807 := by simpa [maxLen] using hmax
    have each : ∀ i, i < len → ∃ r : α, (∀ (k : Nat) (x : Value), (K.cs r)[k]? = some x → W.cell? ((a.add (i * K.z)).add k) = some x) ∧ In r := by
      intro i hi
      obtain ⟨cs', g1, g2⟩ := hall i (by omega)
      rw [hc] at g1
      obtain ⟨_, hlen, hcell⟩ := World.cells?_some g1
      obtain ⟨r, rfl, hr⟩ := el _ _ _ g2
      refine ⟨r, fun k x hk => ?_, hr⟩
      have lt := (List.getElem?_eq_some_iff.1 hk).1
      rw [K.len] at lt
      rw [hcell k lt]
      exact hk
    obtain ⟨f, hf⟩ := choose_lt each
    refine ⟨(List.range len).map f, ⟨some a, len, cap, rfl, by simp, hle, hmx, fun hn => ?_⟩, fun r mr => ?_⟩
    · have h0 := (hf 0 hn).1 0 _ (List.getElem?_eq_getElem (by rw [K.len]; exact hz))
      have e0 : (a.add (0 * K.z)).add 0 = a := by simp [Addr.add]
      rw [e0] at h0
      obtain ⟨g, o, rfl⟩ := kspot_none h0
      have ad : ∀ i k, ((⟨g, o, none⟩ : Addr).add (i * K.z)).add k = ⟨g, o + i * K.z + k, none⟩ := fun i k => by
        rw [kadd_none, kadd_none]
      refine ⟨g, o, rfl, fun k r hk i x hx => ?_⟩
      have lk := (List.getElem?_eq_some_iff.1 hk).1
      simp at lk
      have er : r = f k := by
        rw [List.getElem?_map, List.getElem?_range lk] at hk
        exact (Option.some.inj hk).symm
      rw [← ad]
      exact (hf k lk).1 i x (by rw [← er]; exact hx)
    · obtain ⟨k, mk, rfl⟩ := List.mem_map.1 mr
      exact (hf k (List.mem_range.1 mk)).2
end
end Go.Proofs.Ytmelbgabiklojaa
