/- Package share: sums of weights, the look for a negative one, the parts. -/
import Derived.Test.YtjemnjboopabpaaBut
import Derived.Test.YtjemnjboopabpaaRegW
import Derived.WalkKit
import Derived.WalkSpells
import Derived.WalkLawsBesides
import Derived.Handy
import Derived.Lib.Hide
import Derived.Deep.QuietTactic
import Derived.BigQuiet
import Derived.LoopTactic
import Derived.Defers
import Derived.Recover
import Derived.Deep.RegionHeld3
import Derived.Deep.RegionWith
import Derived.Outline
import Derived.Deep.DeepCutAuto
namespace Go.Proofs.Ytjemnjboopabpaa
open Go.RowKit Go.Proofs.Reg
set_option linter.unusedVariables false
set_option linter.unusedSimpArgs false
set_option maxRecDepth 100000
theorem ri_later {w w' : World} {a : Option Addr} {len cap : Nat} {xs : List Int} (h : Ri w a len cap xs) (hb : Below w.heap.size w w') : Ri w' a len cap xs :=
  ⟨h.hlen, h.hmax, fun hp => by obtain ⟨p, e, c⟩ := h.addr hp; exact ⟨p, e, fun k hk => cell_later hb (c k hk)⟩⟩
theorem sum_take_succ (xs : List Int) (k : Nat) (hk : k < xs.length) : (xs.take (k + 1)).sum = (xs.take k).sum + xs.getD k 0 := by
  rw [List.take_add_one, List.getElem?_eq_getElem hk, List.sum_append, List.getD_eq_getElem?_getD, List.getElem?_eq_getElem hk]
  simp
theorem sum_nonneg {xs : List Int} (h : ∀ x ∈ xs, 0 ≤ x) : 0 ≤ xs.sum := by
  induction xs with
  | nil => simp
  | cons x xs ih =>
    have := ih (fun y m => h y (by simp [m]))
    have := h x (by simp)
    simp only [List.sum_cons]
    omega
theorem sum_take_le {xs : List Int} (h : ∀ x ∈ xs, 0 ≤ x) (k : Nat) : 0 ≤ (xs.take k).sum ∧ (xs.take k).sum ≤ xs.sum := by
  refine ⟨sum_nonneg fun x m => h x (List.mem_of_mem_take m), ?_⟩
  have := sum_nonneg (xs := xs.drop k) fun x m => h x (List.mem_of_mem_drop m)
  have e : xs.sum = (xs.take k).sum + (xs.drop k).sum := by rw [← List.sum_append, List.take_append_drop]
  omega
theorem getD_mem {xs : List Int} {k : Nat} (hk : k < xs.length) : xs.getD k 0 ∈ xs := by
  rw [List.getD_eq_getElem?_getD, List.getElem?_eq_getElem hk]
  exact List.getElem_mem _
/-- is one of them negative? -/
def negB (xs : List Int) : Bool := xs.any fun x => decide (x < 0)
/-- a block that holds ints, that may be written -/
structure OwnI (w : World) (b : Nat) (os : List Int) : Prop where
  cell : ∀ k, k < os.length → w.cell? ⟨b, k, none⟩ = some (.int .i64 (os.getD k 0))
  froz : ∀ k, k < os.length → w.frozen? ⟨b, k, none⟩ = false
  lt : b < w.heap.size
theorem OwnI.later {w w' : World} {b : Nat} {os : List Int} (h : OwnI w b os) (hb : Below w.heap.size w w') : OwnI w' b os :=
  ⟨fun k hk => cell_later hb (h.cell k hk), fun k hk => (hb.frozen (p := ⟨b, k, none⟩) h.lt).trans (h.froz k hk), Nat.lt_of_lt_of_le h.lt hb.size⟩
theorem OwnI.set {w : World} {b : Nat} {os : List Int} (h : OwnI w b os) (j : Nat) (d : Int) (hj : j < os.length) : OwnI (w.setCell ⟨b, j, none⟩ (.int .i64 d)) b (os.set j d) := by
  refine ⟨fun k hk => ?_, fun k hk => ?_, by simpa using h.lt⟩
  · rw [List.length_set] at hk
    by_cases e : k = j
    · subst e
      rw [World.cell?_setCell_same (h := h.cell k hk), List.getD_eq_getElem?_getD, List.getElem?_set_self hk]
      rfl
    · rw [World.cell?_setCell_other (h := fun x => by injection x with _ x; omega), List.getD_eq_getElem?_getD, List.getElem?_set_ne (Ne.symm e), ← List.getD_eq_getElem?_getD]
      exact h.cell k hk
  · rw [List.length_set] at hk
    simpa [go_sem] using h.froz k hk
theorem OwnI.new (w : World) (n : Nat) (t : TypeId) : OwnI (w.alloc (.cells (madeCells #[.int .i64 0] n) t)) w.heap.size (List.replicate n 0) := by
  have g : ∀ k, (List.replicate n (0 : Int)).getD k 0 = 0 := fun k => by
    rw [List.getD_eq_getElem?_getD, List.getElem?_replicate]
    split <;> rfl
  refine ⟨fun k hk => ?_, fun k hk => ?_, by simp⟩
  · rw [g k]
    rw [List.length_replicate] at hk
    simp [go_sem, madeCells, hk, Nat.mod_one]
  · rw [List.length_replicate] at hk
    simp [go_sem, madeCells, hk]
theorem OwnI.ri {w : World} {b : Nat} {os : List Int} (h : OwnI w b os) {n : Nat} (hn : os.length = n) (hm : n ≤ 9223372036854775807) : Ri w (some ⟨b, 0, none⟩) n n os :=
  ⟨hn, hm, fun _ => ⟨⟨b, 0, none⟩, rfl, fun k hk => by
    have e : (⟨b, 0, none⟩ : Addr).add k = ⟨b, k, none⟩ := by
      by_cases z : k = 0
      · subst z; simp [Addr.add]
      · simp [Addr.add, z]
    rw [e]
    exact h.cell k (by omega)⟩⟩
end Go.Proofs.Ytjemnjboopabpaa
