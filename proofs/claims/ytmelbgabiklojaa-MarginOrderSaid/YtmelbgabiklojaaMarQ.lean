/- Margins that meet, program-free. -/
import Derived.WalkKit
namespace Go.Proofs.Ytmelbgabiklojaa.Mar
set_option linter.unusedVariables false
def upF (l : List Int) : Int := l.foldl max 0
def dnF (l : List Int) : Int := l.foldl min 0
theorem upF_nil : upF [] = 0 := rfl
theorem dnF_nil : dnF [] = 0 := rfl
theorem foldl_max (l : List Int) : ∀ a : Int, l.foldl max a = max a (l.foldl max a) := by
  induction l with
  | nil => intro a; simp
  | cons x xs ih => intro a; rw [List.foldl_cons, ih (max a x)]; omega
theorem foldl_min (l : List Int) : ∀ a : Int, l.foldl min a = min a (l.foldl min a) := by
  induction l with
  | nil => intro a; simp
  | cons x xs ih => intro a; rw [List.foldl_cons, ih (min a x)]; omega
theorem foldl_max2 (l : List Int) : ∀ a b : Int, l.foldl max (max a b) = max a (l.foldl max b) := by
  induction l with
  | nil => intro a b; rfl
  | cons x xs ih => intro a b; rw [List.foldl_cons, List.foldl_cons, ← ih]; congr 1; omega
theorem foldl_min2 (l : List Int) : ∀ a b : Int, l.foldl min (min a b) = min a (l.foldl min b) := by
  induction l with
  | nil => intro a b; rfl
  | cons x xs ih => intro a b; rw [List.foldl_cons, List.foldl_cons, ← ih]; congr 1; omega
theorem upF_nn (l : List Int) : 0 ≤ upF l := by unfold upF; have := foldl_max l 0; omega
theorem dnF_np (l : List Int) : dnF l ≤ 0 := by unfold dnF; have := foldl_min l 0; omega
theorem upF_append (a b : List Int) : upF (a ++ b) = max (upF a) (upF b) := by
  unfold upF; rw [List.foldl_append]
  have h := foldl_max2 b (a.foldl max 0) 0
  have k := foldl_max a 0
  rw [← h]; congr 1; omega
theorem dnF_append (a b : List Int) : dnF (a ++ b) = min (dnF a) (dnF b) := by
  unfold dnF; rw [List.foldl_append]
  have h := foldl_min2 b (a.foldl min 0) 0
  have k := foldl_min a 0
  rw [← h]; congr 1; omega
theorem upF_one (x : Int) : upF [x] = max x 0 := by show max 0 x = max x 0; omega
theorem dnF_one (x : Int) : dnF [x] = min x 0 := by show min 0 x = min x 0; omega
theorem upF_snoc (l : List Int) (x : Int) : upF (l ++ [x]) = max (upF l) (max x 0) := by rw [upF_append, upF_one]
theorem dnF_snoc (l : List Int) (x : Int) : dnF (l ++ [x]) = min (dnF l) (min x 0) := by rw [dnF_append, dnF_one]
theorem upF_lt {l : List Int} {c : Int} (h : ∀ x ∈ l, x < c) (hc : 0 < c) : upF l < c := by
  unfold upF
  suffices ∀ (l : List Int) (a : Int), (∀ x ∈ l, x < c) → a < c → l.foldl max a < c from this l 0 h hc
  intro l
  induction l with
  | nil => intro a _ ha; exact ha
  | cons x xs ih => intro a hx ha; rw [List.foldl_cons]; exact ih _ (fun y hy => hx y (List.mem_cons_of_mem _ hy)) (by have := hx x (List.mem_cons_self ..); omega)
theorem dnF_gt {l : List Int} {c : Int} (h : ∀ x ∈ l, c < x) (hc : c < 0) : c < dnF l := by
  unfold dnF
  suffices ∀ (l : List Int) (a : Int), (∀ x ∈ l, c < x) → c < a → c < l.foldl min a from this l 0 h hc
  intro l
  induction l with
  | nil => intro a _ ha; exact ha
  | cons x xs ih => intro a hx ha; rw [List.foldl_cons]; exact ih _ (fun y hy => hx y (List.mem_cons_of_mem _ hy)) (by have := hx x (List.mem_cons_self ..); omega)
theorem upF_take {l : List Int} {i : Nat} {x : Int} (h : l[i]? = some x) : upF (l.take (i + 1)) = max (upF (l.take i)) (max x 0) := by
  rw [List.take_add_one, h]; exact upF_snoc _ x
theorem dnF_take {l : List Int} {i : Nat} {x : Int} (h : l[i]? = some x) : dnF (l.take (i + 1)) = min (dnF (l.take i)) (min x 0) := by
  rw [List.take_add_one, h]; exact dnF_snoc _ x
theorem take_drop_snoc {l : List Int} {i k : Nat} {x : Int} (h : l[i]? = some x) (hk : k ≤ i) : (l.take (i + 1)).drop k = (l.take i).drop k ++ [x] := by
  have lt : i < l.length := (List.getElem?_eq_some_iff.1 h).1
  rw [List.take_add_one, h]
  rw [List.drop_append_of_le_length (by rw [List.length_take]; omega)]
  rfl
theorem up_split (l : List Int) (k : Nat) : max (upF (l.take k)) (upF (l.drop k)) = upF l := by rw [← upF_append, List.take_append_drop]
theorem dn_split (l : List Int) (k : Nat) : min (dnF (l.take k)) (dnF (l.drop k)) = dnF l := by rw [← dnF_append, List.take_append_drop]
end Go.Proofs.Ytmelbgabiklojaa.Mar
