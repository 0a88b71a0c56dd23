/- Slices of records, whatever the record: what a slice reads as, what an appending loop keeps. -/
import Derived.Test.YtmelbgabiklojaaRegW
import Derived.Lib.SmallJoins
import Derived.WalkKit
import Derived.WalkSpells
import Derived.WalkLawsBesides
import Derived.Handy
import Derived.Lib.Hide
import Derived.Outline
namespace Go.Proofs.Ytmelbgabiklojaa
open Go.RowKit Go.Proofs.Reg
set_option linter.unusedVariables false
set_option linter.unusedSimpArgs false
/-- how a record lies in cells -/
structure Rk (α : Type) where
  z : Nat
  cs : α → List Value
  len : ∀ r, (cs r).length = z
  one : ∀ r, ∀ u ∈ cs r, u.oneCell' = true
def Rk.flat {α : Type} (K : Rk α) (rs : List α) : List Value := rs.flatMap K.cs
theorem Rk.flat_len {α : Type} (K : Rk α) (rs : List α) : (K.flat rs).length = rs.length * K.z := by
  induction rs with
  | nil => simp [Rk.flat]
  | cons r rs ih =>
    unfold Rk.flat at *
    rw [List.flatMap_cons, List.length_append, ih, List.length_cons, K.len, Nat.add_mul, Nat.one_mul]
    omega
theorem Rk.flat_append {α : Type} (K : Rk α) (a b : List α) : K.flat (a ++ b) = K.flat a ++ K.flat b := by unfold Rk.flat; rw [List.flatMap_append]
theorem Rk.flat_one1 {α : Type} (K : Rk α) (r : α) : K.flat [r] = K.cs r := by unfold Rk.flat; simp
theorem Rk.flat_get {α : Type} (K : Rk α) : ∀ (rs : List α) (k : Nat) (r : α) (i : Nat) (x : Value), rs[k]? = some r → (K.cs r)[i]? = some x → (K.flat rs)[k * K.z + i]? = some x
  | [], k, r, i, x, h, _ => by simp at h
  | a :: rs, 0, r, i, x, h, hx => by
    simp at h
    subst h
    have lt := (List.getElem?_eq_some_iff.1 hx).1
    unfold Rk.flat
    rw [List.flatMap_cons, Nat.zero_mul, Nat.zero_add, List.getElem?_append_left lt]
    exact hx
  | a :: rs, k + 1, r, i, x, h, hx => by
    have ih := Rk.flat_get K rs k r i x (by simpa using h) hx
    have e : K.flat (a :: rs) = K.cs a ++ K.flat rs := by unfold Rk.flat; rw [List.flatMap_cons]
    rw [e, show (k + 1) * K.z + i = K.z + (k * K.z + i) by rw [Nat.add_mul]; omega, List.getElem?_append_right (by rw [K.len]; omega), K.len, Nat.add_sub_cancel_left]
    exact ih
theorem Rk.flat_one {α : Type} (K : Rk α) (rs : List α) : ∀ u ∈ K.flat rs, u.oneCell' = true := by
  intro u hu
  obtain ⟨r, _, h⟩ := List.mem_flatMap.1 hu
  exact K.one r u h
/-- a slice reads as records -/
def KS {α : Type} (K : Rk α) (w : World) (v : Value) (rs : List α) : Prop := ∃ a n c, v = .slice a n c ∧ n = rs.length ∧ n ≤ c ∧ c ≤ 9223372036854775807 ∧ (0 < n → ∃ g o, a = some ⟨g, o, none⟩ ∧ ∀ (k : Nat) (r : α), rs[k]? = some r → ∀ (i : Nat) (x : Value), (K.cs r)[i]? = some x → w.cell? ⟨g, o + k * K.z + i, none⟩ = some x)
theorem kcell_on {w w' : World} {p : Addr} {v : Value} (hb : Below w.heap.size w w') (h : w.cell? p = some v) : w'.cell? p = some v := by
  have lt := World.block_lt_of_cell? w p h
  rw [World.cell?_of_block (hb.block _ lt)]
  exact h
theorem KS.later {α : Type} {K : Rk α} {w w' : World} {v : Value} {rs : List α} (h : KS K w v rs) (hb : Below w.heap.size w w') : KS K w' v rs := by
  obtain ⟨a, n, c, rfl, hn, hc, hm, h5⟩ := h
  refine ⟨a, n, c, rfl, hn, hc, hm, fun q => ?_⟩
  obtain ⟨g, o, e, hk⟩ := h5 q
  exact ⟨g, o, e, fun k r hr i x hx => kcell_on hb (hk k r hr i x hx)⟩
theorem KS.nil {α : Type} (K : Rk α) (w : World) (c : Nat) (hc : c ≤ 9223372036854775807) (a : Option Addr) : KS K w (.slice a 0 c) ([] : List α) := ⟨a, 0, c, rfl, rfl, by omega, hc, fun h => by omega⟩
theorem KS.of_owns {α : Type} {K : Rk α} {w : World} {base : Nat} {e : TypeId} {v : Value} {n : Nat} {rs : List α} (hz : 0 < K.z) (h : w.ownsRow base e K.z v n (K.flat rs)) : KS K w v rs := by
  have h' := h
  have hl := h.1
  rw [K.flat_len] at hl
  have hn : n = rs.length := (Nat.eq_of_mul_eq_mul_right hz hl).symm
  obtain ⟨_, ⟨rfl, h0⟩ | ⟨g, cap, cur, rfl, _, _, hc, hm, _⟩⟩ := h'
  · exact ⟨none, 0, 0, rfl, by omega, by omega, by decide, fun h => by omega⟩
  · refine ⟨_, n, cap, rfl, hn, hc, by unfold maxLen at hm; omega, fun _ => ⟨g, 0, rfl, fun k r hk i x hx => ?_⟩⟩
    have gx := K.flat_get rs k r i x hk hx
    have lk := (List.getElem?_eq_some_iff.1 gx).1
    rw [K.flat_len] at lk
    rw [Nat.zero_add, h.cellAt _ (by rw [hn]; exact lk), gx]
theorem kowns_on {w w' : World} {base : Nat} {e : TypeId} {size : Nat} {v : Value} {n : Nat} {xs : List Value} (h : w.ownsRow base e size v n xs) (hb : Below w.heap.size w w') : w'.ownsRow base e size v n xs := by
  obtain ⟨hl, ⟨rfl, h0⟩ | ⟨g, cap, cur, rfl, h1, h2, h3⟩⟩ := h
  · exact ⟨hl, .inl ⟨rfl, h0⟩⟩
  · exact ⟨hl, .inr ⟨g, cap, cur, rfl, h1, (hb.block g (Array.getElem?_eq_some_iff.1 h2).1).trans h2, h3⟩⟩
/-- what a loop that appends records keeps -/
structure KM {α : Type} (K : Rk α) (e : TypeId) (b0 : Nat) (w wr : World) (pe : Option Addr) (n ce : Nat) (rs : List α) : Prop where
  own : wr.ownsRow b0 e K.z (.slice pe n ce) n (K.flat rs)
  lt : b0 ≤ wr.heap.size
  len : n = rs.length
  bel : Below b0 w wr
theorem KM.start {α : Type} (K : Rk α) (e : TypeId) {b0 : Nat} {w wr : World} (hl : b0 ≤ wr.heap.size) (hb : Below b0 w wr) : KM K e b0 w wr none 0 0 ([] : List α) := ⟨World.ownsRow_nil _ _ _ _, hl, rfl, hb⟩
theorem KM.later {α : Type} {K : Rk α} {e : TypeId} {b0 : Nat} {w wr wx : World} {pe : Option Addr} {n ce : Nat} {rs : List α} (h : KM K e b0 w wr pe n ce rs) (hb : Below wr.heap.size wr wx) : KM K e b0 w wx pe n ce rs :=
  ⟨kowns_on h.own hb, Nat.le_trans h.lt hb.size, h.len, h.bel.trans (hb.mono h.lt)⟩
theorem KM.app {α : Type} {K : Rk α} {e : TypeId} {b0 : Nat} {w W w1 : World} {pe : Option Addr} {n ce : Nat} {rs : List α} {v1 : Value} {r : α} {o : Obj} (h : KM K e b0 w W pe n ce rs)
    (ho : w1.ownsRow b0 e K.z v1 (n + 1) (K.flat rs ++ K.cs r)) (g : (W.alloc o).grownBy w1 (Value.slice pe n ce).ownBlock) :
    ∃ a1 c1, v1 = .slice a1 (n + 1) c1 ∧ KM K e b0 w w1 a1 (n + 1) c1 (rs ++ [r]) := by
  have ob : ∀ k, (Value.slice pe n ce).ownBlock = some k → b0 ≤ k := fun k hk => (h.own.lt k hk).1
  obtain ⟨a1, c1, rfl⟩ : ∃ a1 c1, v1 = .slice a1 (n + 1) c1 := by
    rcases Joins.ownsRow_forms ho with ⟨rfl, h⟩ | ⟨g, cap, rfl⟩
    · omega
    · exact ⟨_, cap, rfl⟩
  have b1 : Below b0 w w1 := (h.bel.alloc h.lt o).grown g (by rw [World.size_alloc]; have := h.lt; omega) ob
  refine ⟨a1, c1, rfl, ?_, ?_, by rw [List.length_append, h.len]; rfl, b1⟩
  · rw [K.flat_append, K.flat_one1]
    exact ho
  · have := g.size
    rw [World.size_alloc] at this
    have := h.lt
    omega
theorem KM.ks {α : Type} {K : Rk α} {e : TypeId} {b0 : Nat} {w wr : World} {pe : Option Addr} {n ce : Nat} {rs : List α} (h : KM K e b0 w wr pe n ce rs) (hz : 0 < K.z) : KS K wr (.slice pe n ce) rs := KS.of_owns hz h.own
end Go.Proofs.Ytmelbgabiklojaa
