/- Numbers in pieces of 16 bits, as plain lists; and what it says that a slice in memory reads as one. No program in sight. -/
import Derived.WalkKit
import Derived.WalkSpells
import Derived.Handy
import Derived.Lib.Hide
namespace Go.Proofs.Big
open Go.RowKit
set_option linter.unusedVariables false
set_option linter.unusedSimpArgs false

def val : List Int → Int
  | [] => 0
  | x :: xs => x + 65536 * val xs
def Ok (xs : List Int) : Prop := ∀ x ∈ xs, 0 ≤ x ∧ x < 65536
def Canon (xs : List Int) : Prop := xs = [] ∨ xs.getD (xs.length - 1) 0 ≠ 0
def P (k : Nat) : Int := 65536 ^ k
theorem P_zero : P 0 = 1 := rfl
theorem P_succ (k : Nat) : P (k + 1) = 65536 * P k := by unfold P; rw [Int.pow_succ, Int.mul_comm]
theorem P_pos (k : Nat) : 1 ≤ P k := by
  have : (0 : Int) < 65536 ^ k := Int.pow_pos (by decide)
  unfold P; omega
theorem P_add (a b : Nat) : P (a + b) = P a * P b := by unfold P; exact Int.pow_add _ _ _
theorem P_mono {a b : Nat} (h : a ≤ b) : P a ≤ P b := by
  obtain ⟨c, rfl⟩ := Nat.le.dest h
  rw [P_add]
  have h1 := P_pos c
  have h2 := P_pos a
  have : P a * 1 ≤ P a * P c := Int.mul_le_mul_of_nonneg_left h1 (by omega)
  omega
theorem val_nil : val [] = 0 := rfl
theorem val_append (xs ys : List Int) : val (xs ++ ys) = val xs + P xs.length * val ys := by
  induction xs with
  | nil => simp [val, P_zero]
  | cons x xs ih =>
    simp only [List.cons_append, val, List.length_cons, P_succ, ih, Int.mul_add]
    rw [← Int.mul_assoc]
    omega
theorem val_snoc (xs : List Int) (x : Int) : val (xs ++ [x]) = val xs + P xs.length * x := by
  rw [val_append]; simp [val]
theorem ok_nil : Ok [] := fun _ h => by cases h
theorem ok_snoc {xs : List Int} {x : Int} (h : Ok xs) (x0 : 0 ≤ x) (x1 : x < 65536) : Ok (xs ++ [x]) := by
  intro y hy
  rcases List.mem_append.1 hy with k | k
  · exact h y k
  · simp at k; subst k; exact ⟨x0, x1⟩
theorem ok_append_left {xs ys : List Int} (h : Ok (xs ++ ys)) : Ok xs := fun x hx => h x (by simp [hx])
theorem val_bd {xs : List Int} (h : Ok xs) : 0 ≤ val xs ∧ val xs < P xs.length := by
  induction xs with
  | nil => simp [val, P_zero]
  | cons x xs ih =>
    have h1 := h x (by simp)
    have h2 := ih (fun y hy => h y (by simp [hy]))
    simp only [val, List.length_cons, P_succ]
    omega
theorem getD_ok {xs : List Int} (h : Ok xs) (k : Nat) : 0 ≤ xs.getD k 0 ∧ xs.getD k 0 < 65536 := by
  by_cases hk : k < xs.length
  · rw [List.getD_eq_getElem?_getD, List.getElem?_eq_getElem hk]
    exact h _ (List.getElem_mem hk)
  · rw [List.getD_eq_getElem?_getD, List.getElem?_eq_none (by omega)]
    simp
/-- the last one taken off -/
theorem take_last (xs : List Int) (h : 0 < xs.length) : xs = xs.take (xs.length - 1) ++ [xs.getD (xs.length - 1) 0] := by
  have := List.take_append_drop (xs.length - 1) xs
  rw [List.drop_eq_getElem_cons (by omega)] at this
  rw [show xs.length - 1 + 1 = xs.length by omega, List.drop_length] at this
  rw [List.getD_eq_getElem?_getD, List.getElem?_eq_getElem (by omega)]
  exact this.symm
theorem val_take_succ (xs : List Int) (k : Nat) (hk : k < xs.length) : val (xs.take (k + 1)) = val (xs.take k) + P k * xs.getD k 0 := by
  rw [List.take_succ_eq_append_getElem hk, val_snoc, List.length_take, Nat.min_eq_left (by omega), List.getD_eq_getElem?_getD, List.getElem?_eq_getElem hk]
  rfl
theorem val_lower {xs : List Int} (h : Ok xs) (c : Canon xs) (h0 : 0 < xs.length) : P (xs.length - 1) ≤ val xs := by
  have e := take_last xs h0
  have l := (getD_ok h (xs.length - 1))
  have nz : xs.getD (xs.length - 1) 0 ≠ 0 := by
    rcases c with rfl | c
    · simp at h0
    · exact c
  have ht : Ok (xs.take (xs.length - 1)) := fun x hx => h x (List.mem_of_mem_take hx)
  have b := (val_bd ht).1
  have : val xs = val (xs.take (xs.length - 1)) + P (xs.length - 1) * xs.getD (xs.length - 1) 0 := by
    have k := val_take_succ xs (xs.length - 1) (by omega)
    rw [show xs.length - 1 + 1 = xs.length by omega, List.take_length] at k
    exact k
  have p := P_pos (xs.length - 1)
  have : P (xs.length - 1) * 1 ≤ P (xs.length - 1) * xs.getD (xs.length - 1) 0 := Int.mul_le_mul_of_nonneg_left (by omega) (by omega)
  omega
theorem len_le {xs : List Int} (h : Ok xs) (c : Canon xs) (k : Nat) (b : val xs < P k) : xs.length ≤ k := by
  by_cases h0 : 0 < xs.length
  · have := val_lower h c h0
    by_cases hk : xs.length ≤ k
    · exact hk
    · have := P_mono (show k ≤ xs.length - 1 by omega)
      omega
  · omega
theorem val_zero_iff {xs : List Int} (h : Ok xs) (c : Canon xs) : val xs = 0 ↔ xs = [] := by
  constructor
  · intro e
    by_cases h0 : 0 < xs.length
    · have := val_lower h c h0
      have := P_pos (xs.length - 1)
      omega
    · cases xs with
      | nil => rfl
      | cons x xs => simp at h0
  · rintro rfl; rfl

/-- which one of two of one length is less, from the highest piece that differs on -/
theorem cmp_at {xs ys : List Int} (hx : Ok xs) (hy : Ok ys) (hl : xs.length = ys.length) (k : Nat) (hk : k < xs.length) (he : ∀ j, k < j → xs.getD j 0 = ys.getD j 0) (hlt : xs.getD k 0 < ys.getD k 0) : val xs < val ys := by
  have key : ∀ m, k < m → m ≤ xs.length → val (xs.take m) < val (ys.take m) := by
    intro m
    induction m with
    | zero => intro h; omega
    | succ m ih =>
      intro h1 h2
      rw [val_take_succ xs m (by omega), val_take_succ ys m (by omega)]
      by_cases e : k = m
      · subst e
        have a := (val_bd (xs := xs.take k) (fun x h => hx x (List.mem_of_mem_take h))).2
        have b := (val_bd (xs := ys.take k) (fun x h => hy x (List.mem_of_mem_take h))).1
        rw [List.length_take, Nat.min_eq_left (by omega)] at a
        have p := P_pos k
        have : P k * (xs.getD k 0 + 1) ≤ P k * ys.getD k 0 := Int.mul_le_mul_of_nonneg_left (by omega) (by omega)
        rw [Int.mul_add] at this
        omega
      · have i := ih (by omega) (by omega)
        rw [he m (by omega)]
        omega
  have := key xs.length hk (Nat.le_refl _)
  rw [List.take_length, hl, List.take_length] at this
  exact this
theorem eq_all {xs ys : List Int} (hl : xs.length = ys.length) (he : ∀ j, j < xs.length → xs.getD j 0 = ys.getD j 0) : xs = ys := by
  apply List.ext_getElem hl
  intro i h1 h2
  have := he i h1
  rw [List.getD_eq_getElem?_getD, List.getD_eq_getElem?_getD, List.getElem?_eq_getElem h1, List.getElem?_eq_getElem h2] at this
  exact this
theorem cmp_len {xs ys : List Int} (hx : Ok xs) (hy : Ok ys) (cy : Canon ys) (hl : xs.length < ys.length) : val xs < val ys := by
  have a := (val_bd hx).2
  have b := val_lower hy cy (by omega)
  have := P_mono (show xs.length ≤ ys.length - 1 by omega)
  omega

/-- A slice in memory reads as a list of words. -/
structure Rd (w : World) (a : Option Addr) (len cap : Nat) (xs : List Int) : Prop where
  hlen : xs.length = len
  hcap : len ≤ cap
  addr : 0 < len → ∃ b off, a = some ⟨b, off, none⟩ ∧ ∀ k, k < len → w.cell? ⟨b, off + k, none⟩ = some (.int .u64 (xs.getD k 0))
theorem Rd.later {w w' : World} {a : Option Addr} {len cap : Nat} {xs : List Int} (h : Rd w a len cap xs) (hb : Below w.heap.size w w') : Rd w' a len cap xs :=
  ⟨h.hlen, h.hcap, fun p => by
    obtain ⟨b, off, e, c⟩ := h.addr p
    exact ⟨b, off, e, fun k hk => cell_later hb (c k hk)⟩⟩
theorem Rd.nil (w : World) (a : Option Addr) (cap : Nat) : Rd w a 0 cap [] := ⟨rfl, Nat.zero_le _, fun h => by omega⟩

/-- A big number in memory: its sign and its slice. -/
structure BigV (w : World) (ng : Bool) (a : Option Addr) (len cap : Nat) (n : Int) : Prop where
  rd : ∃ xs, Rd w a len cap xs ∧ Ok xs ∧ Canon xs ∧ val xs = (if n < 0 then -n else n)
  hng : ng = decide (n < 0)
theorem BigV.later {w w' : World} {ng : Bool} {a : Option Addr} {len cap : Nat} {n : Int} (h : BigV w ng a len cap n) (hb : Below w.heap.size w w') : BigV w' ng a len cap n := by
  obtain ⟨xs, h1, h2⟩ := h.rd
  exact ⟨⟨xs, h1.later hb, h2⟩, h.hng⟩

/-- what a call that hands back a big number ends in -/
def RetBig (w : World) (n : Int) (e : Ending) (w' : World) : Prop := ∃ ng a l c, e = .returned (.agg #[.bool ng, .slice a l c]) ∧ BigV w' ng a l c n ∧ Below w.heap.size w w'
theorem RetBig.mk {w w' : World} {n : Int} {ng : Bool} {a : Option Addr} {l c : Nat} (h : BigV w' ng a l c n) (hb : Below w.heap.size w w') : RetBig w n (.returned (.agg #[.bool ng, .slice a l c])) w' := ⟨ng, a, l, c, rfl, h, hb⟩
/-- of a row that the call owns -/
theorem rd_of_owns {w : World} {base : Nat} {e : TypeId} {v : Value} {n : Nat} {xs : List Int} (h : w.ownsRow base e 1 v n (xs.map (Value.int .u64))) : ∃ a cap, v = .slice a n cap ∧ Rd w a n cap xs := by
  have hc := fun g hg => World.ownsRow.cells h (g := g) hg
  obtain ⟨h1, h2⟩ := h
  have hn : xs.length = n := by simpa using h1
  rcases h2 with ⟨hv, hx⟩ | ⟨g, cap, cur, hv, hg, hh, hcap, r⟩
  · subst hv
    subst hx
    have : xs = [] := List.length_eq_zero_iff.1 hn
    subst this
    exact ⟨none, 0, rfl, Rd.nil _ _ _⟩
  · subst hv
    refine ⟨_, _, rfl, hn, hcap, fun _ => ⟨g, 0, rfl, fun k hk => ?_⟩⟩
    have := hc g rfl k (.int .u64 (xs.getD k 0)) (by
      rw [List.getElem?_map, List.getElem?_eq_getElem (by omega), List.getD_eq_getElem?_getD, List.getElem?_eq_getElem (by omega)]; rfl)
    by_cases k0 : k = 0
    · subst k0; simpa [Addr.add] using this
    · simpa [Addr.add, k0] using this
theorem rd_of_owns2 {w : World} {base : Nat} {e : TypeId} {a : Option Addr} {n cap : Nat} {xs : List Int} (h : w.ownsRow base e 1 (.slice a n cap) n (xs.map (Value.int .u64))) : Rd w a n cap xs := by
  obtain ⟨a', cap', e1, r⟩ := rd_of_owns h
  simp only [Value.slice.injEq] at e1
  obtain ⟨rfl, _, rfl⟩ := e1
  exact r
/-- blocks below the row's base stay as they were behind an append -/
theorem grown_keeps {wr w1 : World} {base : Nat} {e : TypeId} {sz : Nat} {v : Value} {n : Nat} {xs : List Value} {o : Obj} (hown : wr.ownsRow base e sz v n xs) (hgrow : (wr.alloc o).grownBy w1 v.ownBlock) (hB : base ≤ wr.heap.size) {b : Nat} (hb : b < base) :
    (∀ i u, wr.cell? ⟨b, i, none⟩ = some u → w1.cell? ⟨b, i, none⟩ = some u) ∧ (∀ i, w1.frozen? ⟨b, i, none⟩ = wr.frozen? ⟨b, i, none⟩) := by
  have hne : some b ≠ v.ownBlock := fun h => by have := hown.lt b h.symm; omega
  refine ⟨fun i u h => hgrow.cell ((World.cell?_alloc_past _ _ _ (by omega)).trans h) hne, fun i => ?_⟩
  rw [World.frozen?_of_block (w := wr.alloc o) (hgrow.block b (by simp; omega) hne)]
  exact World.frozen?_alloc_past _ _ _ (by omega)
theorem grown_below {w wr w1 : World} {base B : Nat} {e : TypeId} {sz : Nat} {v : Value} {n : Nat} {xs : List Value} {o : Obj} (hown : wr.ownsRow base e sz v n xs) (hgrow : (wr.alloc o).grownBy w1 v.ownBlock) (hB : base ≤ wr.heap.size) (hb : B ≤ base) (h : Below B w wr) : Below B w w1 :=
  (h.alloc (by omega) o).grown hgrow (by simp; omega) (fun j hj => by have := (hown.lt j hj).1; omega)
theorem Rd.set {w : World} {a : Option Addr} {l c : Nat} {xs : List Int} (h : Rd w a l c xs) {p : Addr} {u : Value} (hp : w.cell? p = some u) (hu : ∀ x, u ≠ .int .u64 x) (v : Value) : Rd (w.setCell p v) a l c xs :=
  ⟨h.hlen, h.hcap, fun q => by
    obtain ⟨b, off, e, cc⟩ := h.addr q
    refine ⟨b, off, e, fun k hk => ?_⟩
    have h1 := cc k hk
    have ne : (⟨b, off + k, none⟩ : Addr) ≠ p := fun e => by rw [e] at h1; rw [hp] at h1; exact hu _ (Option.some.inj h1)
    rw [World.cell?_setCell_other _ _ _ _ (by first | exact ne | exact ne.symm)]
    exact h1⟩
theorem RetBig.of {w w1 w' : World} {n : Int} {e : Ending} (h : Below w.heap.size w w1) (r : RetBig w1 n e w') : RetBig w n e w' := by
  obtain ⟨ng, a, l, c, e1, v, b⟩ := r
  exact ⟨ng, a, l, c, e1, v, h.trans (b.mono h.size)⟩
/-- a variable of a big number -/
structure BV (w : World) (b : Nat) (ng : Bool) (a : Option Addr) (l c : Nat) : Prop where
  c0 : w.cell? ⟨b, 0, none⟩ = some (.bool ng)
  c1 : w.cell? ⟨b, 1, none⟩ = some (.slice a l c)
  f0 : w.frozen? ⟨b, 0, none⟩ = false
  f1 : w.frozen? ⟨b, 1, none⟩ = false
theorem BV.lt {w : World} {b : Nat} {ng : Bool} {a : Option Addr} {l c : Nat} (h : BV w b ng a l c) : b < w.heap.size := World.block_lt_of_cell? w _ h.c0
theorem BV.later {w w' : World} {b : Nat} {ng : Bool} {a : Option Addr} {l c : Nat} (h : BV w b ng a l c) (hb : Below w.heap.size w w') : BV w' b ng a l c :=
  ⟨cell_later hb h.c0, cell_later hb h.c1, (hb.frozen (p := ⟨b, 0, none⟩) h.lt).trans h.f0, (hb.frozen (p := ⟨b, 1, none⟩) h.lt).trans h.f1⟩
theorem BV.alloc {w : World} {b : Nat} {ng : Bool} {a : Option Addr} {l c : Nat} (h : BV w b ng a l c) (o : Obj) : BV (w.alloc o) b ng a l c :=
  h.later ((Below.refl _ _).alloc (Nat.le_refl _) o)
theorem BV.new (w : World) (ng : Bool) (a : Option Addr) (l c : Nat) (t : TypeId) : BV (w.alloc (.cells #[.bool ng, .slice a l c] t)) w.heap.size ng a l c :=
  ⟨by simp [go_sem], by simp [go_sem], by simp [go_sem], by simp [go_sem]⟩
theorem BV.set {w : World} {b : Nat} {ng : Bool} {a : Option Addr} {l c : Nat} (h : BV w b ng a l c) (ng' : Bool) (a' : Option Addr) (l' c' : Nat) : BV ((w.setCell ⟨b, 0, none⟩ (.bool ng')).setCell ⟨b, 1, none⟩ (.slice a' l' c')) b ng' a' l' c' := by
  obtain ⟨c0, c1, f0, f1⟩ := h
  exact ⟨by simp [go_sem, c0, c1], by simp [go_sem, c0, c1], by simp [go_sem, f0], by simp [go_sem, f1]⟩
theorem BV.other {w : World} {b b' : Nat} {ng : Bool} {a : Option Addr} {l c : Nat} (h : BV w b ng a l c) (hb : b ≠ b') (x y : Value) : BV ((w.setCell ⟨b', 0, none⟩ x).setCell ⟨b', 1, none⟩ y) b ng a l c := by
  obtain ⟨c0, c1, f0, f1⟩ := h
  refine ⟨?_, ?_, by simp [go_sem, f0], by simp [go_sem, f1]⟩
  · rw [World.cell?_setCell_other _ _ _ _ (by simp [hb, hb.symm]), World.cell?_setCell_other _ _ _ _ (by simp [hb, hb.symm])]; exact c0
  · rw [World.cell?_setCell_other _ _ _ _ (by simp [hb, hb.symm]), World.cell?_setCell_other _ _ _ _ (by simp [hb, hb.symm])]; exact c1
/-- a number stays what it is behind a store into a variable of a big number -/
theorem Rd.setBV {w : World} {a : Option Addr} {l c : Nat} {xs : List Int} (h : Rd w a l c xs) {b : Nat} {ng : Bool} {a' : Option Addr} {l' c' : Nat} (hb : BV w b ng a' l' c') (x y : Value) : Rd ((w.setCell ⟨b, 0, none⟩ x).setCell ⟨b, 1, none⟩ y) a l c xs := by
  refine (h.set hb.c0 (by simp) x).set (u := .slice a' l' c') ?_ (by simp) y
  rw [World.cell?_setCell_other _ _ _ _ (by simp)]; exact hb.c1
theorem BigV.setBV {w : World} {ng : Bool} {a : Option Addr} {l c : Nat} {n : Int} (h : BigV w ng a l c n) {b : Nat} {ng' : Bool} {a' : Option Addr} {l' c' : Nat} (hb : BV w b ng' a' l' c') (x y : Value) : BigV ((w.setCell ⟨b, 0, none⟩ x).setCell ⟨b, 1, none⟩ y) ng a l c n := by
  obtain ⟨xs, r, k⟩ := h.rd
  exact ⟨⟨xs, r.setBV hb x y, k⟩, h.hng⟩
theorem BigV.alloc {w : World} {ng : Bool} {a : Option Addr} {l c : Nat} {n : Int} (h : BigV w ng a l c n) (o : Obj) : BigV (w.alloc o) ng a l c n := h.later ((Below.refl _ _).alloc (Nat.le_refl _) o)
/-- how many pieces a number has -/
theorem BigV.len {w : World} {ng : Bool} {a : Option Addr} {l c : Nat} {n : Int} (h : BigV w ng a l c n) (k : Nat) (h0 : -P k < n) (h1 : n < P k) : l ≤ k := by
  obtain ⟨xs, r, o, cc, v⟩ := h.rd
  rw [← r.hlen]
  exact len_le o cc k (by rw [v]; split <;> omega)
/-- a row of words that the call writes -/
structure Own (w : World) (b : Nat) (os : List Int) : Prop where
  cell : ∀ k, k < os.length → w.cell? ⟨b, k, none⟩ = some (.int .u64 (os.getD k 0))
  froz : ∀ k, k < os.length → w.frozen? ⟨b, k, none⟩ = false
theorem getD_set (os : List Int) (j k : Nat) (d : Int) (hj : j < os.length) : (os.set j d).getD k 0 = if k = j then d else os.getD k 0 := by
  rw [List.getD_eq_getElem?_getD, List.getElem?_set]
  by_cases h : j = k
  · subst h; simp [hj]
  · rw [if_neg h, if_neg (fun e => h e.symm), List.getD_eq_getElem?_getD]
theorem Own.set {w : World} {b : Nat} {os : List Int} (h : Own w b os) (j : Nat) (d : Int) (hj : j < os.length) : Own (w.setCell ⟨b, j, none⟩ (.int .u64 d)) b (os.set j d) := by
  refine ⟨fun k hk => ?_, fun k hk => ?_⟩
  · rw [List.length_set] at hk
    rw [getD_set os j k d hj]
    by_cases e : k = j
    · subst e; rw [if_pos rfl, World.cell?_setCell_same _ _ _ (h.cell k hk)]
    · rw [if_neg e, World.cell?_setCell_other _ _ _ _ (by simp [e, Ne.symm e])]; exact h.cell k hk
  · rw [List.length_set] at hk
    rw [World.frozen?_setCell]; exact h.froz k hk
theorem Own.rd {w : World} {b : Nat} {os : List Int} (h : Own w b os) {n : Nat} (hn : os.length = n) : Rd w (some ⟨b, 0, none⟩) n n os :=
  ⟨hn, Nat.le_refl _, fun _ => ⟨b, 0, rfl, fun k hk => by rw [Nat.zero_add]; exact h.cell k (by omega)⟩⟩
theorem BV.other1 {w : World} {b b' j : Nat} {ng : Bool} {a : Option Addr} {l c : Nat} (h : BV w b ng a l c) (hb : b ≠ b') (x : Value) : BV (w.setCell ⟨b', j, none⟩ x) b ng a l c := by
  obtain ⟨c0, c1, f0, f1⟩ := h
  refine ⟨?_, ?_, by simp [go_sem, f0], by simp [go_sem, f1]⟩
  · rw [World.cell?_setCell_other _ _ _ _ (by simp [hb, hb.symm])]; exact c0
  · rw [World.cell?_setCell_other _ _ _ _ (by simp [hb, hb.symm])]; exact c1
theorem val_set (os : List Int) (j : Nat) (d : Int) (hj : j < os.length) : val (os.set j d) = val os + P j * (d - os.getD j 0) := by
  induction os generalizing j with
  | nil => simp at hj
  | cons x xs ih =>
    cases j with
    | zero => simp [val, P_zero]; omega
    | succ j =>
      have h := ih j (by simpa using hj)
      simp only [List.set_cons_succ, val, h, P_succ, Int.mul_add]
      rw [show (x :: xs).getD (j + 1) 0 = xs.getD j 0 from by simp [List.getD_eq_getElem?_getD], ← Int.mul_assoc]
      omega
theorem ok_set {os : List Int} (h : Ok os) (j : Nat) (d : Int) (d0 : 0 ≤ d) (d1 : d < 65536) : Ok (os.set j d) := fun x hx => by
  rcases List.mem_or_eq_of_mem_set hx with k | k
  · exact h x k
  · subst k; exact ⟨d0, d1⟩
theorem val_zeros (n : Nat) : val (List.replicate n 0) = 0 := by
  induction n with
  | zero => rfl
  | succ n ih => simp [List.replicate_succ, val, ih]
theorem ok_zeros (n : Nat) : Ok (List.replicate n 0) := fun x hx => by
  have := List.eq_of_mem_replicate hx; omega
theorem getD_zeros (n k : Nat) : (List.replicate n (0 : Int)).getD k 0 = 0 := by
  rw [List.getD_eq_getElem?_getD, List.getElem?_replicate]; split <;> rfl
end Go.Proofs.Big
