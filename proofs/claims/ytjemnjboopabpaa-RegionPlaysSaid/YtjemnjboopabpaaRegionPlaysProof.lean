/- RegionPlays: for any slice of acts the law returns true, and its arguments read as they did. No condition. Made by gen/playproof.py of PlayQ, LawPlay, LawPlay2, LawKit. -/
import Derived.Test.YtjemnjboopabpaaFieQ
import Derived.Test.YtjemnjboopabpaaFieR
import Derived.LoopTactic
import Derived.WalkKit
import Derived.WalkSpells
import Derived.WalkLawsBesides
import Derived.Handy
import Derived.Lib.Hide
import Derived.Deep.QuietTactic
import Derived.BigQuiet
import Derived.Deep.RegionHeld3
import Derived.Deep.RegionWith
import Derived.Outline
import Derived.Deep.DeepCutAuto
import Derived.Test.YtjemnjboopabpaaRows
import Derived.ProofKit
import Derived.OpenShut
import Derived.Deep.Slices
import Derived.Lib.SmallJoins
/- The sets of pixels that RegionPlays' acts make: they stay within the field. Program-free. -/
namespace Go.Proofs.Bands
set_option linter.unusedVariables false
set_option linter.unusedSimpArgs false
/-- within 40 by 40 -/
def W40 (P : Int → Int → Bool) : Prop := ∀ x y, P x y = true → 0 ≤ x ∧ x < 40 ∧ 0 ≤ y ∧ y < 40
theorem edges_pix {es : List Int} (ha : Asc es) (ev : es.length % 2 = 0) : ∀ e ∈ es, inE es e = true ∨ inE es (e - 1) = true := fun e m => by
  have := in_edge ha m
  cases h : inE es e
  · right
    rw [h] at this
    simpa using this
  · exact .inl rfl
theorem band_pix {l : List Bd} (wf : Wf l) {d : Bd} (m : d ∈ l) (x : Int) : hasP l x d.t = inE d.es x ∧ hasP l x (d.b - 1) = inE d.es x := by
  obtain ⟨j, hj⟩ := List.mem_iff_getElem?.1 m
  have ok := wf_ok wf d m
  have tb := ok.tb
  unfold hasP
  rw [rowAt_get wf hj (y := d.t) (by omega) (by omega), rowAt_get wf hj (y := d.b - 1) (by omega) (by omega)]
  exact ⟨rfl, rfl⟩
theorem l40_of {l : List Bd} (wf : Wf l) (h : W40 (hasP l)) : L40 l := fun d m => by
  have ok := wf_ok wf d m
  have pe := edges_pix ok.asc ok.ev
  obtain ⟨e0, me0⟩ := List.exists_mem_of_ne_nil _ ok.ne
  have one : ∃ x, inE d.es x = true := by
    rcases pe e0 me0 with h | h
    · exact ⟨_, h⟩
    · exact ⟨_, h⟩
  obtain ⟨x, hx⟩ := one
  have a := h x d.t (by rw [(band_pix wf m x).1]; exact hx)
  have b := h x (d.b - 1) (by rw [(band_pix wf m x).2]; exact hx)
  refine ⟨⟨by omega, by omega⟩, fun e me => ?_⟩
  have lo : ∀ x, inE d.es x = true → 0 ≤ x ∧ x < 40 := fun x hx => by
    have := h x d.t (by rw [(band_pix wf m x).1]; exact hx)
    omega
  rcases pe e me with h1 | h1
  · have := lo _ h1; omega
  · have := lo _ h1; omega
def S40 : List Int := (List.range 41).map Int.ofNat
theorem s40_len : S40.length ≤ 1000 := by decide
theorem edge40 {P : Int → Int → Bool} (h : W40 P) : EdgeIn P S40 := fun x y m => by
  have nm : x < 0 ∨ 40 < x := by
    by_cases a : x < 0
    · exact .inl a
    · by_cases b : 40 < x
      · exact .inr b
      · exact absurd (List.mem_map.2 ⟨x.toNat, List.mem_range.2 (by omega), by show ((x.toNat : Nat) : Int) = x; omega⟩) m
  have e1 : P (x - 1) y = false := by
    cases q : P (x - 1) y
    · rfl
    · have := h _ _ q; omega
  have e2 : P x y = false := by
    cases q : P x y
    · rfl
    · have := h _ _ q; omega
  rw [e1, e2]
/-- where the pixels lie, moved by dx, dy in all -/
def PlB (P : Int → Int → Bool) (dx dy : Int) : Prop := ∀ x y, P x y = true → 7 + dx ≤ x ∧ x < 33 + dx ∧ 7 + dy ≤ y ∧ y < 33 + dy
theorem PlB.start : PlB (fun _ _ => false) 0 0 := fun x y h => by cases h
theorem PlB.in40 {P : Int → Int → Bool} {dx dy : Int} (h : PlB P dx dy) (x0 : -5 ≤ dx) (x1 : dx ≤ 5) (y0 : -5 ≤ dy) (y1 : dy ≤ 5) : W40 P := fun x y q => by
  have := h x y q
  omega
theorem PlB.sub {P Q : Int → Int → Bool} {dx dy : Int} (h : PlB P dx dy) (k : ∀ x y, Q x y = true → P x y = true) : PlB Q dx dy := fun x y q => h x y (k x y q)
theorem PlB.more {P Q : Int → Int → Bool} {dx dy : Int} {r : Q4} (h : PlB P dx dy) (x0 : -5 ≤ dx) (x1 : dx ≤ 5) (y0 : -5 ≤ dy) (y1 : dy ≤ 5) (r0 : 12 ≤ r.1) (r1 : 12 ≤ r.2.1) (r2 : r.2.2.1 ≤ 28) (r3 : r.2.2.2 ≤ 28) (k : ∀ x y, Q x y = true → P x y = true ∨ inQ r x y = true) : PlB Q dx dy := fun x y q => by
  rcases k x y q with h1 | h1
  · exact h x y h1
  · have := inQ_iff.1 h1
    omega
theorem PlB.move {P Q : Int → Int → Bool} {dx dy ax ay : Int} (h : PlB P dx dy) (k : ∀ x y, Q x y = true → P (x - ax) (y - ay) = true) : PlB Q (dx + ax) (dy + ay) := fun x y q => by
  have := h _ _ (k x y q)
  omega
end Go.Proofs.Bands
/- The walk of RegionPlays. Made by gen/lawplay.py. -/
namespace Go.Proofs.Ytjemnjboopabpaa
open Go.RowKit Go.Proofs.Reg Go.Proofs.Big Go.Proofs.Bands
set_option linter.unusedVariables false
set_option linter.unusedSimpArgs false
set_option maxRecDepth 100000
theorem field_ne_int : (29 : TypeId) ≠ 3 := by decide
theorem field_ne_reg : (29 : TypeId) ≠ 26 := by decide
theorem EV.setF {w : World} {v : Value} {es : List Int} (h : EV w v es) {b : Nat} {fc : Array Value} (hk : w.heap[b]? = some (.cells fc 29 (0, 0))) (gc : Array Value) : EV (w.setRow b gc) v es :=
  h.kept fun g cs' fz' hg => setRow_other w b g gc (by
    rintro rfl
    rw [hk] at hg
    simp only [Option.some.injEq, Obj.cells.injEq] at hg
    exact absurd hg.2.1 field_ne_int)
theorem BS.setF {w : World} {v : Value} {l : List Bd} (h : BS w v l) {b : Nat} {fc : Array Value} {F : Int → Int → Bool} (hk : w.heap[b]? = some (.cells fc 29 (0, 0))) (hf : Fv fc F) (gc : Array Value) : BS (w.setRow b gc) v l := by
  obtain ⟨a, m, cp, xs, rfl, h1, h2, h3, h4, h5⟩ := h
  refine ⟨a, m, cp, xs, rfl, h1.all fun _ _ e => e.setF hk gc, h2, h3, h4, fun hn => ?_⟩
  obtain ⟨g, hg, hc⟩ := h5 hn
  refine ⟨g, hg, fun j y hj => ?_⟩
  have gb : g ≠ b := fun e => by
    obtain ⟨ev, x0, x1, _⟩ := h1.get 0 l[0] (List.getElem?_eq_getElem (by omega))
    have t1 := hc _ _ x1
    rw [e, (cell_row hk _).1] at t1
    have t2 := hf.get 1 0 (by decide) (by decide)
    rw [show 40 * 0 + 1 = 3 * 0 + 1 from rfl, t1] at t2
    cases t2
  rw [World.cell?_of_block (setRow_other w b g gc gb)]
  exact hc j y hj
theorem IsR.setF {w : World} {v : Value} {P : Int → Int → Bool} (h : IsR w v P) {b : Nat} {fc : Array Value} {F : Int → Int → Bool} (hk : w.heap[b]? = some (.cells fc 29 (0, 0))) (hf : Fv fc F) (gc : Array Value) : IsR (w.setRow b gc) v P := by
  obtain ⟨l, ⟨⟨u, rfl, bs⟩, wf, ir⟩, e⟩ := h
  exact ⟨l, ⟨⟨u, rfl, bs.setF hk hf gc⟩, wf, ir⟩, e⟩
/-- the law's same, of a set within the field -/
theorem same_set {v : Value} {P : Int → Int → Bool} {fc : Array Value} {w : World} (h : IsR w v P) (hf : Fv fc P) (k : W40 P) : Calls Try.prog 16 #[v, .agg fc] w fun e w' => e = .returned (.bool true) ∧ Below w.heap.size w w' := by
  obtain ⟨l, r, p⟩ := h
  exact same7_any v l fc P w r (few_edges r.2 (edge40 k) s40_len p) hf (l40_of r.wf (fun x y q => k x y (by rw [← p]; exact q))) fun x y _ _ => (p x y).symm
/-- the acts -/
abbrev Q5 := Int × Int × Int × Int × Int
def In5 (r : Q5) : Prop := (0 ≤ r.1 ∧ r.1 ≤ 255) ∧ (0 ≤ r.2.1 ∧ r.2.1 ≤ 255) ∧ (0 ≤ r.2.2.1 ∧ r.2.2.1 ≤ 255) ∧ (0 ≤ r.2.2.2.1 ∧ r.2.2.2.1 ≤ 255) ∧ (0 ≤ r.2.2.2.2 ∧ r.2.2.2.2 ≤ 255)
def C5 (w : World) (g o : Nat) (r : Q5) : Prop := w.cell? ⟨g, o, none⟩ = some (.int .u8 r.1) ∧ w.cell? ⟨g, o + 1, none⟩ = some (.int .u8 r.2.1) ∧ w.cell? ⟨g, o + 2, none⟩ = some (.int .u8 r.2.2.1) ∧ w.cell? ⟨g, o + 3, none⟩ = some (.int .u8 r.2.2.2.1) ∧ w.cell? ⟨g, o + 4, none⟩ = some (.int .u8 r.2.2.2.2)
theorem C5.later {w w' : World} {g o : Nat} {r : Q5} (h : C5 w g o r) (hb : Below w.heap.size w w') : C5 w' g o r := ⟨cell_later hb h.1, cell_later hb h.2.1, cell_later hb h.2.2.1, cell_later hb h.2.2.2.1, cell_later hb h.2.2.2.2⟩
theorem C5.but {w w' : World} {g o : Nat} {bs : List Nat} {r : Q5} (h : C5 w g o r) (hb : But bs w w') (hg : g ∉ bs) : C5 w' g o r := ⟨hb.cell hg h.1, hb.cell hg h.2.1, hb.cell hg h.2.2.1, hb.cell hg h.2.2.2.1, hb.cell hg h.2.2.2.2⟩
def AS (w : World) (v : Value) (rs : List Q5) : Prop := ∃ a n c, v = .slice a n c ∧ n = rs.length ∧ n ≤ c ∧ c ≤ 9223372036854775807 ∧ (0 < n → ∃ g o, a = some ⟨g, o, none⟩ ∧ ∀ k r, rs[k]? = some r → C5 w g (o + k * 5) r)
theorem and3 : ∀ n : Nat, n < 256 → bits .and .u8 (n : Int) 3 = (n % 4 : Nat) := by decide +kernel
/-- a region and a field of one set, in their boxes -/
structure PlS (w : World) (br bf : Nat) (a : Option Addr) (n c : Nat) (fc : Array Value) (P : Int → Int → Bool) (dx dy : Int) : Prop where
  hr : w.heap[br]? = some (.cells #[.slice a n c] 26 (0, 0))
  hf : w.heap[bf]? = some (.cells fc 29 (0, 0))
  ir : IsR w (.agg #[.slice a n c]) P
  fv : Fv fc P
  pb : PlB P dx dy
  x0 : -5 ≤ dx
  x1 : dx ≤ 5
  y0 : -5 ≤ dy
  y1 : dy ≤ 5
theorem blk_l {w w' : World} {b : Nat} {o : Obj} (h : w.heap[b]? = some o) (hb : Below w.heap.size w w') : w'.heap[b]? = some o := (hb.block b (Array.getElem?_eq_some_iff.1 h).1).trans h
theorem PlS.later {w w' : World} {br bf : Nat} {a : Option Addr} {n c : Nat} {fc : Array Value} {P : Int → Int → Bool} {dx dy : Int} (h : PlS w br bf a n c fc P dx dy) (hb : Below w.heap.size w w') : PlS w' br bf a n c fc P dx dy :=
  ⟨blk_l h.hr hb, blk_l h.hf hb, h.ir.later hb, h.fv, h.pb, h.x0, h.x1, h.y0, h.y1⟩
theorem PlS.w40 {w : World} {br bf : Nat} {a : Option Addr} {n c : Nat} {fc : Array Value} {P : Int → Int → Bool} {dx dy : Int} (h : PlS w br bf a n c fc P dx dy) : W40 P := h.pb.in40 h.x0 h.x1 h.y0 h.y1
/-- the region of 'was, old' -/
structure H10 (wa : World) (S : Value) (fc : Array Value) (L : Nat → Bool) (vz : Nat → Value) (wy : World) : Prop where
  b : Below wa.heap.size wa wy
  r : L 2 = true → ∃ q, vz 2 = .pointer (some ⟨q, 0, none⟩) ∧ wa.heap.size ≤ q ∧ wy.heap[q]? = some (.cells (if L 4 = true then #[S] else #[.slice none 0 0]) 26 (0, 0))
  f : L 3 = true → ∃ q, vz 3 = .pointer (some ⟨q, 0, none⟩) ∧ wa.heap.size ≤ q ∧ wy.heap[q]? = some (.cells (if L 5 = true then fc else Try.zeroCells29) 29 (0, 0))
theorem addL_ne {L : Nat → Bool} {i j : Nat} (h : j ≠ i) : addL L i j = L j := by simp [addL, h]
theorem addL_eq (L : Nat → Bool) (i : Nat) : addL L i i = true := by simp [addL]
theorem upd_ne {vz : Nat → Value} {i j : Nat} {v : Value} (h : j ≠ i) : upd vz i v j = vz j := by simp [upd, h]
theorem upd_eq (vz : Nat → Value) (i : Nat) (v : Value) : upd vz i v i = v := by simp [upd]
theorem H10.keep {wa : World} {S : Value} {fc : Array Value} {L : Nat → Bool} {vz : Nat → Value} {wy : World} (h : H10 wa S fc L vz wy) (i : Nat) (v : Value) (hi : i < 2) : H10 wa S fc (addL L i) (upd vz i v) wy := by
  obtain ⟨b, r, f⟩ := h
  refine ⟨b, ?_, ?_⟩
  · rw [addL_ne (by omega), addL_ne (by omega), upd_ne (by omega)]; exact r
  · rw [addL_ne (by omega), addL_ne (by omega), upd_ne (by omega)]; exact f
theorem H10.newR {wa : World} {S : Value} {fc : Array Value} {L : Nat → Bool} {vz : Nat → Value} {wy : World} (h : H10 wa S fc L vz wy) (z : L 4 = false) : H10 wa S fc (addL L 2) (upd vz 2 (.pointer (some ⟨wy.heap.size, 0, none⟩))) (wy.alloc (.cells #[.slice none 0 0] 26)) := by
  obtain ⟨b, r, f⟩ := h
  have ba : Below wy.heap.size wy (wy.alloc (.cells #[.slice none 0 0] 26)) := bel_newR _ _
  refine ⟨bel_tr0 b ba, fun _ => ⟨_, upd_eq _ _ _, b.size, ?_⟩, ?_⟩
  · rw [addL_ne (by decide), z]; exact heap_alloc_new _ _
  · rw [addL_ne (by decide), addL_ne (by decide), upd_ne (by decide)]
    intro q
    obtain ⟨x, x1, x2, x3⟩ := f q
    exact ⟨x, x1, x2, blk_l x3 ba⟩
theorem H10.newF {wa : World} {S : Value} {fc : Array Value} {L : Nat → Bool} {vz : Nat → Value} {wy : World} (h : H10 wa S fc L vz wy) (z : L 5 = false) : H10 wa S fc (addL L 3) (upd vz 3 (.pointer (some ⟨wy.heap.size, 0, none⟩))) (wy.alloc (.cells Try.zeroCells29 29)) := by
  obtain ⟨b, r, f⟩ := h
  have ba : Below wy.heap.size wy (wy.alloc (.cells Try.zeroCells29 29)) := bel_newR _ _
  refine ⟨bel_tr0 b ba, ?_, fun _ => ⟨_, upd_eq _ _ _, b.size, ?_⟩⟩
  · rw [addL_ne (by decide), addL_ne (by decide), upd_ne (by decide)]
    intro q
    obtain ⟨x, x1, x2, x3⟩ := r q
    exact ⟨x, x1, x2, blk_l x3 ba⟩
  · rw [addL_ne (by decide), z]; exact heap_alloc_new _ _
theorem H10.putR {wa : World} {S : Value} {fc : Array Value} {L : Nat → Bool} {vz : Nat → Value} {wy : World} (h : H10 wa S fc L vz wy) (d : L 2 = true) (z : L 4 = false) {q : Nat} (e : vz 2 = .pointer (some ⟨q, 0, none⟩)) (hq : wa.heap.size ≤ q) (hk : wy.heap[q]? = some (.cells #[.slice none 0 0] 26 (0, 0))) (v : Value) : H10 wa S fc (addL L 4) (upd vz 4 v) (wy.setCell ⟨q, 0, none⟩ S) := by
  obtain ⟨b, r, f⟩ := h
  refine ⟨b.setCell hq _, ?_, ?_⟩
  · rw [addL_eq, addL_ne (by decide), upd_ne (by decide), if_pos rfl]
    exact fun _ => ⟨q, e, hq, by rw [row_set hk 0 S]; rfl⟩
  · rw [addL_ne (by decide), addL_ne (by decide), upd_ne (by decide)]
    intro qf
    obtain ⟨x, x1, x2, x3⟩ := f qf
    refine ⟨x, x1, x2, ?_⟩
    rw [Below.heap_setCell wy ⟨q, 0, none⟩ S x (by
      rintro rfl
      rw [hk] at x3
      simp only [Option.some.injEq, Obj.cells.injEq] at x3
      exact absurd x3.2.1.symm field_ne_reg)]
    exact x3
theorem H10.putF {wa : World} {S : Value} {fc : Array Value} {L : Nat → Bool} {vz : Nat → Value} {wy : World} (h : H10 wa S fc L vz wy) (d : L 3 = true) (z : L 5 = false) {q : Nat} (e : vz 3 = .pointer (some ⟨q, 0, none⟩)) (hq : wa.heap.size ≤ q) (hk : wy.heap[q]? = some (.cells Try.zeroCells29 29 (0, 0))) (v : Value) : H10 wa S fc (addL L 5) (upd vz 5 v) (wy.setRow q fc) := by
  obtain ⟨b, r, f⟩ := h
  refine ⟨below_setRow b hq _, ?_, ?_⟩
  · rw [addL_ne (by decide), addL_ne (by decide), upd_ne (by decide)]
    intro qf
    obtain ⟨x, x1, x2, x3⟩ := r qf
    refine ⟨x, x1, x2, ?_⟩
    rw [setRow_other wy q x fc (by
      rintro rfl
      rw [hk] at x3
      simp only [Option.some.injEq, Obj.cells.injEq] at x3
      exact absurd x3.2.1 field_ne_reg)]
    exact x3
  · rw [addL_eq, addL_ne (by decide), upd_ne (by decide), if_pos rfl]
    exact fun _ => ⟨q, e, hq, setRow_heap _ _ _ _ _ _ hk⟩
/-- the regions of the acts: what lies ahead of both stores, between them, behind them -/
structure HB (wa : World) (br bf kr kf s1 s2 ks ko : Nat) (rs : List Q4) (PO PR : Int → Int → Bool) (L : Nat → Bool) (vz : Nat → Value) (wy : World) : Prop where
  c1 : L kf = false → L s1 = false
  c2 : L s1 = false → L s2 = false
  A : L s1 = false → Below wa.heap.size wa wy ∧ (L ks = true → RS wy (vz ks) rs) ∧ (L ko = true → IsR wy (vz ko) PO) ∧ (L kr = true → IsR wy (vz kr) PR) ∧ (L kf = true → ∃ gc, vz kf = .agg gc ∧ Fv gc PR)
  B : L s1 = true → L s2 = false → ∃ wy0 a n c, Below wa.heap.size wa wy0 ∧ IsR wy0 (.agg #[.slice a n c]) PR ∧ (∃ gc, vz kf = .agg gc ∧ Fv gc PR) ∧ wy = wy0.setCell ⟨br, 0, none⟩ (.slice a n c)
  C : L s2 = true → ∃ wy0 a n c gc, Below wa.heap.size wa wy0 ∧ IsR wy0 (.agg #[.slice a n c]) PR ∧ Fv gc PR ∧ wy = (wy0.setCell ⟨br, 0, none⟩ (.slice a n c)).setRow bf gc
theorem HB.add {wa : World} {br bf kr kf s1 s2 ks ko : Nat} {rs : List Q4} {PO PR : Int → Int → Bool} {L : Nat → Bool} {vz : Nat → Value} {wy w' : World} (h : HB wa br bf kr kf s1 s2 ks ko rs PO PR L vz wy) (z : L s1 = false) (i : Nat) (v : Value) (hb : Below wy.heap.size wy w')
    (i1 : i ≠ s1) (i2 : i ≠ s2) (hs : i = ks → RS w' v rs) (ho : i = ko → IsR w' v PO) (hr : i = kr → IsR w' v PR) (hf : i = kf → ∃ gc, v = .agg gc ∧ Fv gc PR) : HB wa br bf kr kf s1 s2 ks ko rs PO PR (addL L i) (upd vz i v) w' := by
  have z2 := h.c2 z
  obtain ⟨a, r1, r2, r3, r4⟩ := h.A z
  have e1 : addL L i s1 = L s1 := addL_ne (Ne.symm i1)
  have e2 : addL L i s2 = L s2 := addL_ne (Ne.symm i2)
  refine ⟨fun _ => by rw [e1]; exact z, fun _ => by rw [e2]; exact z2, fun _ => ⟨bel_tr0 a hb, fun q => ?_, fun q => ?_, fun q => ?_, fun q => ?_⟩, (fun q => by rw [e1, z] at q; cases q), (fun q => by rw [e2, z2] at q; cases q)⟩
  · by_cases e : ks = i
    · subst e; rw [upd_eq]; exact hs rfl
    · rw [addL_ne e] at q; rw [upd_ne e]; exact (r1 q).later hb
  · by_cases e : ko = i
    · subst e; rw [upd_eq]; exact ho rfl
    · rw [addL_ne e] at q; rw [upd_ne e]; exact (r2 q).later hb
  · by_cases e : kr = i
    · subst e; rw [upd_eq]; exact hr rfl
    · rw [addL_ne e] at q; rw [upd_ne e]; exact (r3 q).later hb
  · by_cases e : kf = i
    · subst e; rw [upd_eq]; exact hf rfl
    · rw [addL_ne e] at q; rw [upd_ne e]; exact r4 q
theorem HB.start (wa : World) (br bf kr kf s1 s2 ks ko : Nat) (rs : List Q4) (PO PR : Int → Int → Bool) : HB wa br bf kr kf s1 s2 ks ko rs PO PR (fun _ => false) (fun _ => undef) wa.drew :=
  ⟨fun _ => rfl, fun _ => rfl, fun _ => ⟨(Below.refl _ _).drew, (fun q => by cases q), (fun q => by cases q), (fun q => by cases q), (fun q => by cases q)⟩, (fun q => by cases q), (fun q => by cases q)⟩
theorem store_row {w : World} {b : Nat} {old cells : Array Value} {t ty : TypeId} (hb : w.heap[b]? = some (.cells old t (0, 0))) (hi : (Try.prog.info? ty).map (·.size) = some cells.size) (ho : old.size = cells.size) (h1 : cells.all (·.oneCell') = true) : (Instr.storeAt ty (.pointer (some ⟨b, 0, none⟩)) (.agg cells)).run Try.prog w = .ok () (w.setRow b cells) := by
  have := run_storeVar_row (P := Try.prog) w b t ty old cells hb hi ho h1
  simp [Instr.storeAt, Instr.sureAddr, this]
theorem fv_size {fc : Array Value} {F : Int → Int → Bool} (h : Fv fc F) : (Try.prog.info? 29).map (·.size) = some fc.size := by rw [h.size]; kernel_rfl
end Go.Proofs.Ytjemnjboopabpaa
/- The walk of RegionPlays. Made by gen/lawplay2.py. -/
namespace Go.Proofs.Ytjemnjboopabpaa
open Go.RowKit Go.Proofs.Reg Go.Proofs.Big Go.Proofs.Bands
set_option linter.unusedVariables false
set_option linter.unusedSimpArgs false
set_option maxRecDepth 100000
theorem hasB_q (A B C D x y : Int) : hasB A B C D x y = inQ (A, B, C, D) x y := by
  unfold hasB inQ
  dsimp only
  rw [← Bool.decide_and, ← Bool.decide_and, ← Bool.decide_and]
  exact decide_eq_decide.2 (by omega)
theorem nrm_pl {a b c d A B C D : Int} (h : Nrm a b c d A B C D) (a0 : 12 ≤ a) (a1 : a ≤ 28) (b0 : 12 ≤ b) (b1 : b ≤ 28) (c0 : 12 ≤ c) (c1 : c ≤ 28) (d0 : 12 ≤ d) (d1 : d ≤ 28) (x y : Int) : inQ (A, B, C, D) x y = hasB a b c d x y := by
  rw [hasB_q]
  unfold inQ
  dsimp only
  refine decide_eq_decide.2 ?_
  unfold Nrm lim at h
  omega
theorem wi_or {a b c d A B C D : Int} {P : Int → Int → Bool} (h : ∀ x y, inQ (A, B, C, D) x y = hasB a b c d x y) (x y : Int) : orB (P x y) (anyQ [(A, B, C, D)] x y) = wiB 0 a b c d P x y := by
  simp [wiB, orB, anyQ, ← h]
theorem wi_mi {a b c d A B C D : Int} {P : Int → Int → Bool} (h : ∀ x y, inQ (A, B, C, D) x y = hasB a b c d x y) (x y : Int) : minusB (P x y) (anyQ [(A, B, C, D)] x y) = wiB 1 a b c d P x y := by
  simp [wiB, minusB, anyQ, ← h]
theorem wi_an {a b c d A B C D : Int} {P : Int → Int → Bool} (h : ∀ x y, inQ (A, B, C, D) x y = hasB a b c d x y) (x y : Int) : andB (P x y) (anyQ [(A, B, C, D)] x y) = wiB 2 a b c d P x y := by
  simp [wiB, andB, anyQ, ← h]
theorem pl_wi {how a b c d : Int} {P : Int → Int → Bool} {dx dy : Int} (h : PlB P dx dy) (x0 : -5 ≤ dx) (x1 : dx ≤ 5) (y0 : -5 ≤ dy) (y1 : dy ≤ 5) (a0 : 12 ≤ a) (b0 : 12 ≤ b) (c1 : c ≤ 28) (d1 : d ≤ 28) : PlB (wiB how a b c d P) dx dy :=
  h.more (r := (a, b, c, d)) x0 x1 y0 y1 a0 b0 c1 d1 fun x y q => by
    rw [← hasB_q]
    unfold wiB at q
    split at q
    · simpa using q
    · split at q
      · simp at q; exact .inl q.1
      · simp at q; exact .inl q.1
theorem mv_set {P : Int → Int → Bool} (h : W40 P) {ax ay : Int} (x0 : -3 ≤ ax) (x1 : ax ≤ 3) (y0 : -3 ≤ ay) (y1 : ay ≤ 3) (x y : Int) : (inG x y && P (x - nr ax) (y - nr ay)) = mvF ax ay P x y := by
  have e1 : nr ax = ax := by unfold nr; omega
  have e2 : nr ay = ay := by unfold nr; omega
  rw [e1, e2]
  unfold mvF inG
  cases e : P (x - ax) (y - ay)
  · simp
  · have := h _ _ e
    rw [Bool.and_true, Bool.and_true, ← Bool.decide_and, ← Bool.decide_and, ← Bool.decide_and, ← Bool.decide_and]
    exact decide_eq_decide.2 (by omega)
theorem pl_mv {P : Int → Int → Bool} {dx dy ax ay : Int} (h : PlB P dx dy) : PlB (mvF ax ay P) (dx + ax) (dy + ay) := h.move fun x y q => by
  unfold mvF at q
  simp at q
  exact q.2
theorem plq_bd (x y a b : Int) (x0 : 0 ≤ x) (y0 : 0 ≤ y) (a0 : 0 ≤ a) (b0 : 0 ≤ b) : 12 ≤ (plQ x y a b).1 ∧ (plQ x y a b).1 ≤ 28 ∧ 12 ≤ (plQ x y a b).2.1 ∧ (plQ x y a b).2.1 ≤ 28 ∧ 12 ≤ (plQ x y a b).2.2.1 ∧ (plQ x y a b).2.2.1 ≤ 28 ∧ 12 ≤ (plQ x y a b).2.2.2 ∧ (plQ x y a b).2.2.2 ≤ 28 := by
  unfold plQ
  dsimp only
  omega
theorem isE_congr5 {f : FuncId} {args : Array Value} {P Q : Int → Int → Bool} {w : World} (h : Calls Try.prog f args w (IsE P w)) (e : ∀ x y, P x y = Q x y) : Calls Try.prog f args w (IsE Q w) := h.mono fun _ _ ⟨v, a, b, c⟩ => ⟨v, a, b.congr e, c⟩
theorem bslice_rect5 (A B C D : Int) (w : World) : (Instr.buildSlice 77 1 #[(0, .agg #[.int .i64 A, .int .i64 B, .int .i64 C, .int .i64 D])]).run Try.prog w = .ok (.slice (some ⟨w.heap.size, 0, none⟩) 1 1) (w.alloc (.cells #[.int .i64 A, .int .i64 B, .int .i64 C, .int .i64 D] 40)) := by
  simp [go_sem]
theorem but_setRow {bs : List Nat} {a b : World} (h : But bs a b) {g : Nat} (hp : g ∈ bs) (cs : Array Value) : But bs a (b.setRow g cs) :=
  ⟨h.os, h.tape, h.output, by simpa [World.setRow] using h.size, fun k hk hn => by rw [setRow_other _ _ _ _ (by rintro rfl; exact hn hp)]; exact h.block k hk hn⟩
theorem cell_of_row {w : World} {b : Nat} {u : Value} {t : TypeId} {fz : Nat × Nat} (h : w.heap[b]? = some (.cells #[u] t fz)) : w.cell? ⟨b, 0, none⟩ = some u := by simp [World.cell?, h]
theorem PlS.ne {w : World} {br bf : Nat} {a : Option Addr} {n c : Nat} {fc : Array Value} {P : Int → Int → Bool} {dx dy : Int} (h : PlS w br bf a n c fc P dx dy) : br ≠ bf := by
  rintro rfl
  have := h.hr.symm.trans h.hf
  simp only [Option.some.injEq, Obj.cells.injEq] at this
  exact absurd this.2.1.symm field_ne_reg
/-- what an act leaves -/
theorem act_end {wa wy0 : World} {br bf : Nat} {a : Option Addr} {n c : Nat} {fc : Array Value} {P : Int → Int → Bool} {dx dy : Int} (h : PlS wa br bf a n c fc P dx dy) (hb : Below wa.heap.size wa wy0) {a' : Option Addr} {n' c' : Nat} {gc : Array Value} {PR : Int → Int → Bool} {dx' dy' : Int}
    (ir : IsR wy0 (.agg #[.slice a' n' c']) PR) (fv : Fv gc PR) (pb : PlB PR dx' dy') (x0 : -5 ≤ dx') (x1 : dx' ≤ 5) (y0 : -5 ≤ dy') (y1 : dy' ≤ 5) :
    PlS ((wy0.setCell ⟨br, 0, none⟩ (.slice a' n' c')).setRow bf gc) br bf a' n' c' gc PR dx' dy' ∧ But [br, bf] wa ((wy0.setCell ⟨br, 0, none⟩ (.slice a' n' c')).setRow bf gc) ∧ IsR ((wy0.setCell ⟨br, 0, none⟩ (.slice a' n' c')).setRow bf gc) (.agg #[.slice a n c]) P := by
  have ne := h.ne
  have kr := blk_l h.hr hb
  have kf := blk_l h.hf hb
  have kr1 : (wy0.setCell ⟨br, 0, none⟩ (.slice a' n' c')).heap[br]? = some (.cells #[.slice a' n' c'] 26 (0, 0)) := by rw [row_set kr 0]; rfl
  have kf1 : (wy0.setCell ⟨br, 0, none⟩ (.slice a' n' c')).heap[bf]? = some (.cells fc 29 (0, 0)) := by rw [Below.heap_setCell wy0 ⟨br, 0, none⟩ _ bf (Ne.symm ne)]; exact kf
  refine ⟨⟨?_, setRow_heap _ _ _ _ _ _ kf1, (ir.setR kr (cell_of_row kr) _).setF kf1 h.fv gc, fv, pb, x0, x1, y0, y1⟩, ?_, ((h.ir.later hb).setR kr (cell_of_row kr) _).setF kf1 h.fv gc⟩
  · rw [setRow_other _ _ _ _ ne]; exact kr1
  · exact but_setRow ((But.of hb).setCell (.inl (by simp)) _) (by simp) _
theorem HB.st1 {wa : World} {br bf kr kf s1 s2 ks ko : Nat} {rs : List Q4} {PO PR : Int → Int → Bool} {L : Nat → Bool} {vz : Nat → Value} {wy : World} (h : HB wa br bf kr kf s1 s2 ks ko rs PO PR L vz wy) (z : L s1 = false) (d : L kr = true) (df : L kf = true) (n1 : kf ≠ s1) (n2 : s2 ≠ s1) :
    ∃ a n c, vz kr = .agg #[.slice a n c] ∧ Below wa.heap.size wa wy ∧ ∀ u, HB wa br bf kr kf s1 s2 ks ko rs PO PR (addL L s1) (upd vz s1 u) (wy.setCell ⟨br, 0, none⟩ (.slice a n c)) := by
  obtain ⟨b, _, _, r3, r4⟩ := h.A z
  have ir := r3 d
  obtain ⟨a, n, c, e⟩ := ir.form
  rw [e] at ir
  have z2 := h.c2 z
  refine ⟨a, n, c, e, b, fun u => ⟨fun q => ?_, fun q => ?_, fun q => ?_, fun _ _ => ⟨wy, a, n, c, b, ir, by rw [upd_ne n1]; exact r4 df, rfl⟩, fun q => ?_⟩⟩
  · rw [addL_ne n1, df] at q; cases q
  · rw [addL_eq] at q; cases q
  · rw [addL_eq] at q; cases q
  · rw [addL_ne n2, z2] at q; cases q
theorem HB.st2 {wa : World} {br bf kr kf s1 s2 ks ko : Nat} {rs : List Q4} {PO PR : Int → Int → Bool} {L : Nat → Bool} {vz : Nat → Value} {wy : World} (h : HB wa br bf kr kf s1 s2 ks ko rs PO PR L vz wy) (z : L s2 = false) (d : L s1 = true) (n1 : kf ≠ s2) (n2 : s1 ≠ s2) :
    ∃ wy0 a n c gc, vz kf = .agg gc ∧ Below wa.heap.size wa wy0 ∧ Fv gc PR ∧ wy = wy0.setCell ⟨br, 0, none⟩ (.slice a n c) ∧ ∀ u, HB wa br bf kr kf s1 s2 ks ko rs PO PR (addL L s2) (upd vz s2 u) (wy.setRow bf gc) := by
  obtain ⟨wy0, a, n, c, b, ir, ⟨gc, e, fv⟩, rfl⟩ := h.B d z
  refine ⟨wy0, a, n, c, gc, e, b, fv, rfl, fun u => ⟨fun q => ?_, fun q => ?_, fun q => ?_, fun q r => ?_, fun _ => ⟨wy0, a, n, c, gc, b, ir, fv, rfl⟩⟩⟩
  · rw [addL_ne n1] at q; rw [h.c1 q] at d; cases d
  · rw [addL_ne n2, d] at q; cases q
  · rw [addL_ne n2, d] at q; cases q
  · rw [addL_eq] at r; cases r
theorem H10.start (wa : World) (S : Value) (fc : Array Value) : H10 wa S fc (fun _ => false) (fun _ => undef) wa.drew := ⟨(Below.refl _ _).drew, (fun q => by cases q), (fun q => by cases q)⟩
theorem and3i {k : Int} (k0 : 0 ≤ k) (k1 : k ≤ 255) : bits .and .u8 k 3 = 0 ∨ bits .and .u8 k 3 = 1 ∨ bits .and .u8 k 3 = 2 ∨ bits .and .u8 k 3 = 3 := by
  obtain ⟨n, rfl⟩ := Int.eq_ofNat_of_zero_le k0
  have := and3 n (by omega)
  rw [this]
  omega
set_option maxHeartbeats 32000000 in
theorem law_plays (v : Value) (rs : List Q5) (w : World) (hv : AS w v rs) (hi : ∀ r ∈ rs, In5 r) :
    Calls Try.prog 3 #[v] w fun e w' => e = .returned (.bool true) ∧ Below w.heap.size w w' := by
  obtain ⟨ga, gn, gc, rfl, gl, gb, gb2, gce⟩ := hv
  have HI := Lib.hid hi
  have HG := Lib.hid gce
  have HGL := Lib.hid gl
  have GB : gn ≤ 9223372036854775807 := by omega
  clear hi gce gl gb gb2
  go_enter Try.func3, Try.ntmps3
  go_wp2_with fail
  refine (speaks7_any _).mono ?_
  rintro _ w1 ⟨rfl, hb⟩
  have K1 := Lib.hid hb
  have ws := hb.size
  clear hb
  go_wp2_with fail
  obtain ⟨wl, hwl⟩ : ∃ wl, (w1.alloc (.cells #[.slice none 0 0] 26)).alloc (.cells Try.zeroCells29 29) = wl := ⟨_, rfl⟩
  rw [hwl]
  have WL : Hid (Below w.heap.size w wl) := Lib.hid (by rw [← hwl]; exact (K1.out.alloc (by omega) _).alloc (by simp; omega) _)
  have PL : Hid (PlS wl w1.heap.size (w1.heap.size + 1) none 0 0 Try.zeroCells29 (fun _ _ => false) 0 0) := Lib.hid (by
    rw [← hwl]
    refine ⟨blk_l (heap_alloc_new w1 (.cells #[.slice none 0 0] 26)) (bel_newR _ _), ?_, IsR.nil _, zero_field, PlB.start, by decide, by decide, by decide, by decide⟩
    have := heap_alloc_new (w1.alloc (.cells #[.slice none 0 0] 26)) (.cells Try.zeroCells29 29)
    simpa using this)
  clear hwl
  go_loopw [5, 6, 7] (fun s5 s6 s7 wr => ∃ (j : Nat) (a : Option Addr) (n c : Nat) (fc : Array Value) (P : Int → Int → Bool) (dx dy : Int), s5 = .int .i64 dx ∧ s6 = .int .i64 dy ∧ s7 = .int .i64 j ∧ j ≤ 25 ∧ j ≤ gn ∧ Hid (PlS wr w1.heap.size (w1.heap.size + 1) a n c fc P dx dy) ∧ Hid (But [w1.heap.size, w1.heap.size + 1] wl wr)) (fun _ _ s7 _ => 25 - (intOf s7).toNat)
  case atStart => exact ⟨0, none, 0, 0, _, _, 0, 0, rfl, rfl, rfl, by omega, by omega, PL, Lib.hid (But.refl _ _)⟩
  case round =>
    obtain ⟨j, a, n, c, fc, P, dx, dy, rfl, rfl, rfl, j25, jn, HP, KB0⟩ := hrel
    by_cases lt : j < gn ∧ j < 25
    · obtain ⟨lt1, lt2⟩ := lt
      have lt1' : (j : Int) < (gn : Int) := by omega
      have lt2' : (j : Int) < 25 := by omega
      obtain ⟨g, o, rfl, hcl⟩ := HG.out (by omega)
      obtain ⟨⟨wh, X, Y, W, H⟩, hr⟩ : ∃ r, rs[j]? = some r := ⟨_, List.getElem?_eq_getElem (by have := HGL.out; omega)⟩
      have hc5 := hcl j _ hr
      obtain ⟨⟨k0, k0'⟩, k1, k2, k3, k4⟩ := HI.out _ (List.mem_of_getElem? hr)
      dsimp only at k0 k0' k1 k2 k3 k4
      have gw : g < w.heap.size := World.block_lt_of_cell? w _ hc5.1
      have H5 : Hid (∀ wy, Below wr.heap.size wr wy → C5 wy g (o + j * 5) (wh, X, Y, W, H)) := Lib.hid (fun wy h => ((hc5.later WL.out).but KB0.out (by simp; omega)).later h)
      have AN := and3i k0 k0'
      obtain ⟨ak, hak⟩ : ∃ ak, bits .and .u8 wh 3 = ak := ⟨_, rfl⟩
      rw [hak] at AN
      obtain ⟨⟨q0, q1, q2, q3⟩, hQ⟩ : ∃ q, plQ X Y W H = q := ⟨_, rfl⟩
      have qb := plq_bd X Y W H k1.1 k2.1 k3.1 k4.1
      rw [hQ] at qb
      dsimp only at qb
      obtain ⟨qa0, qa1, qb0, qb1, qc0, qc1, qd0, qd1⟩ := qb
      have PN : Hid (∀ wy, Calls Try.prog 7 #[.agg #[.int .u8 X, .int .u8 Y, .int .u8 W, .int .u8 H]] wy fun e w' => e = .returned (.agg #[.int .i64 q0, .int .i64 q1, .int .i64 q2, .int .i64 q3]) ∧ Below wy.heap.size wy w') := Lib.hid (fun wy => by have t := plain7_any X Y W H k1 k2 k3 k4 wy; rw [hQ] at t; exact t)
      obtain ⟨A, B, C, D, nm⟩ := nrm_ex q0 q1 q2 q3
      have TO : Hid (∀ wy, Calls Try.prog 10 #[.agg #[.int .i64 q0, .int .i64 q1, .int .i64 q2, .int .i64 q3]] wy fun e w' => e = .returned (.agg #[.int .i64 A, .int .i64 B, .int .i64 C, .int .i64 D]) ∧ Below wy.heap.size wy w') := Lib.hid (fun wy => told7_any q0 q1 q2 q3 A B C D ⟨by omega, by omega⟩ ⟨by omega, by omega⟩ ⟨by omega, by omega⟩ ⟨by omega, by omega⟩ nm wy)
      have PX : Hid (∀ x y, inQ (A, B, C, D) x y = hasB q0 q1 q2 q3 x y) := Lib.hid (fun x y => nrm_pl nm qa0 qa1 qb0 qb1 qc0 qc1 qd0 qd1 x y)
      have KR : Hid (Ok4 (A, B, C, D)) := Lib.hid (ok4_rgt nm.rgt)
      have QB : Hid (12 ≤ q0 ∧ 12 ≤ q1 ∧ q2 ≤ 28 ∧ q3 ≤ 28) := Lib.hid ⟨qa0, qb0, qc1, qd1⟩
      have ix : ∀ wy : World, (Instr.indexAt 22 (.slice (some ⟨g, o, none⟩) gn gc) (.int .i64 j)).run Try.prog wy = .ok (.pointer (some ⟨g, o + j * 5, none⟩)) wy := fun wy => by
        have k0 : (0 : Int) ≤ (j : Int) := by omega
        simp [go_sem, k0, lt1', Addr.add]
        try omega
      obtain ⟨x0, x1, x2, x3, x4⟩ := H5.out wr (Below.refl _ _)
      dsimp only at x0 x1 x2 x3 x4
      have dxb : -5 ≤ dx ∧ dx ≤ 5 ∧ -5 ≤ dy ∧ dy ≤ 5 := ⟨HP.out.x0, HP.out.x1, HP.out.y0, HP.out.y1⟩
      obtain ⟨dx0, dx1, dy0, dy1⟩ := dxb
      clear hcl hr hc5 hQ nm qa0 qa1 qb0 qb1 qc0 qc1 qd0 qd1 k3 k4
      obtain ⟨k10, k11⟩ := k1
      obtain ⟨k20, k21⟩ := k2
      go_wp2_with fail
      refine (PN.out _).mono ?_
      rintro _ w2 ⟨rfl, hb⟩
      have P2 := Lib.hid (HP.out.later hb)
      have H52 : Hid (∀ wy, Below w2.heap.size w2 wy → C5 wy g (o + j * 5) (wh, X, Y, W, H)) := Lib.hid (fun wy h => H5.out wy (bel_tr0 hb h))
      have K2 := Lib.hid (KB0.out.later hb)
      have lw1 : w1.heap.size + 1 < w2.heap.size := (Array.getElem?_eq_some_iff.1 P2.out.hf).1
      clear hb x0 x1 x2 x3 x4 HP H5 KB0 PN
      go_wp2_with fail
      obtain ⟨w3, hw3⟩ : ∃ x, w2.alloc (.cells #[.int .i64 q0, .int .i64 q1, .int .i64 q2, .int .i64 q3] 31) = x := ⟨_, rfl⟩
      rw [hw3]
      have b3 : Below w2.heap.size w2 w3 := by rw [← hw3]; exact bel_newR _ _
      have T3 : Hid (Tab w3 [(w2.heap.size, [.int .i64 q0, .int .i64 q1, .int .i64 q2, .int .i64 q3])]) := Lib.hid (by rw [← hw3]; exact (Tab.nil w2).new' [.int .i64 q0, .int .i64 q1, .int .i64 q2, .int .i64 q3] 31 rfl)
      have P3 := Lib.hid (P2.out.later b3)
      have H53 : Hid (∀ wy, Below w3.heap.size w3 wy → C5 wy g (o + j * 5) (wh, X, Y, W, H)) := Lib.hid (fun wy h => H52.out wy (bel_tr0 b3 h))
      have K3 := Lib.hid (K2.out.later b3)
      have lw2 : w2.heap.size < w3.heap.size := by rw [← hw3]; simp
      clear hw3 b3 P2 H52 K2
      refine wp_region_vals [some (.agg #[.slice a n c]), some (.agg fc), none, none, none, none] (H10 w3 (.slice a n c) fc) [some 34, some 35, some 9, some 10, none, none] (by kernel_rfl) (by kernel_rfl) (by kernel_rfl) (by kernel_rfl) (by kernel_rfl) (by kernel_rfl) (H10.start _ _ _) (fun i o ho => ?_) (fun Lz vz w4 hL hB => ?_)
      · match i, ho with
        | 0, ho =>
          obtain rfl := Option.some.inj ho
          intro Az Lz vz wy Kz Ez hB k
          have e3 : Az.eval (.tmp 3) = .pointer (some ⟨w1.heap.size, 0, none⟩) := Ez.out 3 (by kernel_rfl)
          have z := cell_of_row (blk_l P3.out.hr hB.b)
          exact wpo_val (v := .agg #[.slice a n c]) (run_load e3 (by simp [go_sem, z])) (k _ _ rfl (hB.keep 0 _ (by decide)))
        | 1, ho =>
          obtain rfl := Option.some.inj ho
          intro Az Lz vz wy Kz Ez hB k
          have e4 : Az.eval (.tmp 4) = .pointer (some ⟨w1.heap.size + 1, 0, none⟩) := Ez.out 4 (by kernel_rfl)
          exact wpo_val (v := .agg fc) (run_load e4 (load_field (blk_l P3.out.hf hB.b) P3.out.fv)) (k _ _ rfl (hB.keep 1 _ (by decide)))
        | 2, ho =>
          obtain rfl := Option.some.inj ho
          intro Az Lz vz wy Kz Ez hB k
          have zs : Lz 4 = false := Ez.late 4 _ rfl (by kernel_rfl)
          exact wpo_val (run_alloc (by simp [go_sem])) (k _ _ trivial (hB.newR zs))
        | 3, ho =>
          obtain rfl := Option.some.inj ho
          intro Az Lz vz wy Kz Ez hB k
          have zs : Lz 5 = false := Ez.late 5 _ rfl (by kernel_rfl)
          exact wpo_val (run_alloc (by simp [go_sem])) (k _ _ trivial (hB.newF zs))
        | 4, ho =>
          obtain rfl := Option.some.inj ho
          intro Az Lz vz wy Kz Ez hB k
          have e9 : Az.eval (.tmp 9) = vz 2 := Ez.dep 2 9 (by kernel_rfl) rfl
          have e34 : Az.eval (.tmp 34) = .agg #[.slice a n c] := Ez.dep 0 34 (by kernel_rfl) rfl
          obtain ⟨q, eq, lq, hq⟩ := hB.r (Ez.had 2 (by kernel_rfl))
          have zs : Lz 4 = false := Ez.not
          rw [zs] at hq
          simp only [Bool.false_eq_true, if_false] at hq
          have z := cell_of_row hq
          have f : wy.frozen? ⟨q, 0, none⟩ = false := by simp [World.frozen?, hq]
          exact wpo_skip (w' := wy.setCell ⟨q, 0, none⟩ (.slice a n c)) (run_store (e9.trans eq) e34 (by simp [go_sem, z, f])) (k _ _ trivial (hB.putR (Ez.had 2 (by kernel_rfl)) zs eq lq hq _))
        | 5, ho =>
          obtain rfl := Option.some.inj ho
          intro Az Lz vz wy Kz Ez hB k
          have e10 : Az.eval (.tmp 10) = vz 3 := Ez.dep 3 10 (by kernel_rfl) rfl
          have e35 : Az.eval (.tmp 35) = .agg fc := Ez.dep 1 35 (by kernel_rfl) rfl
          obtain ⟨q, eq, lq, hq⟩ := hB.f (Ez.had 3 (by kernel_rfl))
          have zs : Lz 5 = false := Ez.not
          rw [zs] at hq
          simp only [Bool.false_eq_true, if_false] at hq
          exact wpo_skip (w' := wy.setRow q fc) (run_store (e10.trans eq) e35 (store_row hq (fv_size P3.out.fv) (by rw [zero_field.size, P3.out.fv.size]) P3.out.fv.bools)) (k _ _ trivial (hB.putF (Ez.had 3 (by kernel_rfl)) zs eq lq hq _))
        | n + 6, ho => simp at ho
      · obtain ⟨bo, eo, lo, ho⟩ := hB.r (hL 2 (by decide))
        obtain ⟨bq, eq, lq, hq⟩ := hB.f (hL 3 (by decide))
        rw [if_pos (hL 4 (by decide))] at ho
        rw [if_pos (hL 5 (by decide))] at hq
        have P4 := Lib.hid (P3.out.later hB.b)
        have T4 := Lib.hid (T3.out.later hB.b)
        have H54 : Hid (∀ wy, Below w4.heap.size w4 wy → C5 wy g (o + j * 5) (wh, X, Y, W, H)) := Lib.hid (fun wy h => H53.out wy (bel_tr0 hB.b h))
        have K4 := Lib.hid (K3.out.later hB.b)
        have OB := Lib.hid ho
        have OQ := Lib.hid hq
        simp only [puts2, mix, Act.put, List.setIfInBounds_toArray, List.set_cons_zero, List.set_cons_succ, Nat.zero_add, Nat.reduceAdd, List.getElem?_cons_zero, List.getElem?_cons_succ, eo, eq]
        clear hL hB eo eq ho hq P3 T3 H53 K3
        obtain ⟨x0, x1, x2, x3, x4⟩ := H54.out w4 (Below.refl _ _)
        dsimp only at x0 x1 x2 x3 x4
        rcases AN with rfl | rfl | rfl | rfl
        · go_wp2_with fail
          have PB : Hid (PlB (wiB 0 q0 q1 q2 q3 P) dx dy) := Lib.hid (pl_wi P4.out.pb dx0 dx1 dy0 dy1 QB.out.1 QB.out.2.1 QB.out.2.2.1 QB.out.2.2.2)
          clear x0 x1 x2 x3 x4
          refine wp_region_vals [some (.agg #[.slice a n c]), some (.agg #[.int .i64 q0, .int .i64 q1, .int .i64 q2, .int .i64 q3]), some (.agg #[.int .i64 A, .int .i64 B, .int .i64 C, .int .i64 D]), none, none, none, some (.agg fc), some (.agg #[.int .i64 q0, .int .i64 q1, .int .i64 q2, .int .i64 q3]), none, none, none] (HB w4 w1.heap.size (w1.heap.size + 1) 5 8 9 10 3 4 [(A, B, C, D)] (anyQ [(A, B, C, D)]) (wiB 0 q0 q1 q2 q3 P)) [some 42, some 43, some 44, some 45, some 46, some 47, some 48, some 49, some 50, none, none] (by kernel_rfl) (by kernel_rfl) (by kernel_rfl) (by kernel_rfl) (by kernel_rfl) (by kernel_rfl) (HB.start _ _ _ _ _ _ _ _ _ _ _ _) (fun i o ho => ?_) (fun Lz vz w5 hL hB => ?_)
          · match i, ho with
            | 0, ho =>
              obtain rfl := Option.some.inj ho
              intro Az Lz vz wy Kz Ez hB k
              have e3 : Az.eval (.tmp 3) = .pointer (some ⟨w1.heap.size, 0, none⟩) := Ez.out 3 (by kernel_rfl)
              have z1 : Lz 9 = false := Ez.late 9 _ rfl (by kernel_rfl)
              obtain ⟨hb0, h3, h4, h5, h8⟩ := hB.A z1
              have z := cell_of_row (blk_l P4.out.hr hb0)
              exact wpo_val (v := .agg #[.slice a n c]) (run_load e3 (by simp [go_sem, z])) (k _ _ rfl (hB.add z1 0 _ (Below.refl _ _) (by decide) (by decide) (fun z => absurd z (by decide)) (fun z => absurd z (by decide)) (fun z => absurd z (by decide)) (fun z => absurd z (by decide))))
            | 1, ho =>
              obtain rfl := Option.some.inj ho
              intro Az Lz vz wy Kz Ez hB k
              have e8 : Az.eval (.tmp 8) = .pointer (some ⟨w2.heap.size, 0, none⟩) := Ez.out 8 (by kernel_rfl)
              have z1 : Lz 9 = false := Ez.late 9 _ rfl (by kernel_rfl)
              obtain ⟨hb0, h3, h4, h5, h8⟩ := hB.A z1
              have hT := T4.out.later hb0
              have c0 := hT.cell 0 0 rfl rfl
              have c1 := hT.cell 0 1 rfl rfl
              have c2 := hT.cell 0 2 rfl rfl
              have c3 := hT.cell 0 3 rfl rfl
              exact wpo_val (v := .agg #[.int .i64 q0, .int .i64 q1, .int .i64 q2, .int .i64 q3]) (run_load e8 (by simp [go_sem, c0, c1, c2, c3])) (k _ _ rfl (hB.add z1 1 _ (Below.refl _ _) (by decide) (by decide) (fun z => absurd z (by decide)) (fun z => absurd z (by decide)) (fun z => absurd z (by decide)) (fun z => absurd z (by decide))))
            | 2, ho =>
              obtain rfl := Option.some.inj ho
              intro Az Lz vz wy Kz Ez hB k
              have e43 : Az.eval (.tmp 43) = .agg #[.int .i64 q0, .int .i64 q1, .int .i64 q2, .int .i64 q3] := Ez.dep 1 43 (by kernel_rfl) rfl
              have z1 : Lz 9 = false := Ez.late 9 _ rfl (by kernel_rfl)
              obtain ⟨hb0, h3, h4, h5, h8⟩ := hB.A z1
              refine wpo_call (run_callW (fun _ _ => by kernel_rfl)) (R := fun ez w' => ez = .returned (.agg #[.int .i64 A, .int .i64 B, .int .i64 C, .int .i64 D]) ∧ Below wy.heap.size wy w') ?_ ?_
              · simp only [List.map_toArray, List.map_cons, List.map_nil, eval_const, e43]
                exact TO.out wy
              · rintro ez w' ⟨rfl, hb⟩
                exact ⟨_, rfl, k _ _ rfl (hB.add z1 2 _ hb (by decide) (by decide) (fun z => absurd z (by decide)) (fun z => absurd z (by decide)) (fun z => absurd z (by decide)) (fun z => absurd z (by decide)))⟩
            | 3, ho =>
              obtain rfl := Option.some.inj ho
              intro Az Lz vz wy Kz Ez hB k
              have e44 : Az.eval (.tmp 44) = .agg #[.int .i64 A, .int .i64 B, .int .i64 C, .int .i64 D] := Ez.dep 2 44 (by kernel_rfl) rfl
              have z1 : Lz 9 = false := Ez.late 9 _ rfl (by kernel_rfl)
              obtain ⟨hb0, h3, h4, h5, h8⟩ := hB.A z1
              exact wpo_val (run_bslice1 e44 (bslice_rect5 A B C D wy)) (k _ _ trivial (hB.add z1 3 _ (bel_new wy _) (by decide) (by decide) (fun _ => rs_one wy (A, B, C, D)) (fun z => absurd z (by decide)) (fun z => absurd z (by decide)) (fun z => absurd z (by decide))))
            | 4, ho =>
              obtain rfl := Option.some.inj ho
              intro Az Lz vz wy Kz Ez hB k
              have e45 : Az.eval (.tmp 45) = vz 3 := Ez.dep 3 45 (by kernel_rfl) rfl
              have z1 : Lz 9 = false := Ez.late 9 _ rfl (by kernel_rfl)
              obtain ⟨hb0, h3, h4, h5, h8⟩ := hB.A z1
              have hs := h3 (Ez.had 3 (by kernel_rfl))
              refine wpo_call (run_callW (fun _ _ => by kernel_rfl)) (R := IsE (anyQ [(A, B, C, D)]) wy) ?_ ?_
              · simp only [List.map_toArray, List.map_cons, List.map_nil, eval_const, e45]
                exact isr_of hs (fun r mr => by rw [List.mem_singleton] at mr; subst mr; exact KR.out) (by simp)
              · rintro ez w' ⟨vr, rfl, hr, hb⟩
                exact ⟨_, rfl, k _ _ trivial (hB.add z1 4 _ hb (by decide) (by decide) (fun z => absurd z (by decide)) (fun _ => hr) (fun z => absurd z (by decide)) (fun z => absurd z (by decide)))⟩
            | 5, ho =>
              obtain rfl := Option.some.inj ho
              intro Az Lz vz wy Kz Ez hB k
              have e42 : Az.eval (.tmp 42) = .agg #[.slice a n c] := Ez.dep 0 42 (by kernel_rfl) rfl
              have e46 : Az.eval (.tmp 46) = vz 4 := Ez.dep 4 46 (by kernel_rfl) rfl
              have z1 : Lz 9 = false := Ez.late 9 _ rfl (by kernel_rfl)
              obtain ⟨hb0, h3, h4, h5, h8⟩ := hB.A z1
              have hs := h4 (Ez.had 4 (by kernel_rfl))
              refine wpo_call (run_callW (fun _ _ => by kernel_rfl)) (R := IsE (wiB 0 q0 q1 q2 q3 P) wy) ?_ ?_
              · simp only [List.map_toArray, List.map_cons, List.map_nil, eval_const, e42, e46]
                exact isE_congr5 (isr_or (P4.out.ir.later hb0) hs) (wi_or PX.out)
              · rintro ez w' ⟨vr, rfl, hr, hb⟩
                exact ⟨_, rfl, k _ _ trivial (hB.add z1 5 _ hb (by decide) (by decide) (fun z => absurd z (by decide)) (fun z => absurd z (by decide)) (fun _ => hr) (fun z => absurd z (by decide)))⟩
            | 6, ho =>
              obtain rfl := Option.some.inj ho
              intro Az Lz vz wy Kz Ez hB k
              have e4 : Az.eval (.tmp 4) = .pointer (some ⟨w1.heap.size + 1, 0, none⟩) := Ez.out 4 (by kernel_rfl)
              have z8 : Lz 8 = false := Ez.late 8 _ rfl (by kernel_rfl)
              have z1 := hB.c1 z8
              obtain ⟨hb0, h3, h4, h5, h8⟩ := hB.A z1
              exact wpo_val (v := .agg fc) (run_load e4 (load_field (blk_l P4.out.hf hb0) P4.out.fv)) (k _ _ rfl (hB.add z1 6 _ (Below.refl _ _) (by decide) (by decide) (fun z => absurd z (by decide)) (fun z => absurd z (by decide)) (fun z => absurd z (by decide)) (fun z => absurd z (by decide))))
            | 7, ho =>
              obtain rfl := Option.some.inj ho
              intro Az Lz vz wy Kz Ez hB k
              have e8 : Az.eval (.tmp 8) = .pointer (some ⟨w2.heap.size, 0, none⟩) := Ez.out 8 (by kernel_rfl)
              have z8 : Lz 8 = false := Ez.late 8 _ rfl (by kernel_rfl)
              have z1 := hB.c1 z8
              obtain ⟨hb0, h3, h4, h5, h8⟩ := hB.A z1
              have hT := T4.out.later hb0
              have c0 := hT.cell 0 0 rfl rfl
              have c1 := hT.cell 0 1 rfl rfl
              have c2 := hT.cell 0 2 rfl rfl
              have c3 := hT.cell 0 3 rfl rfl
              exact wpo_val (v := .agg #[.int .i64 q0, .int .i64 q1, .int .i64 q2, .int .i64 q3]) (run_load e8 (by simp [go_sem, c0, c1, c2, c3])) (k _ _ rfl (hB.add z1 7 _ (Below.refl _ _) (by decide) (by decide) (fun z => absurd z (by decide)) (fun z => absurd z (by decide)) (fun z => absurd z (by decide)) (fun z => absurd z (by decide))))
            | 8, ho =>
              obtain rfl := Option.some.inj ho
              intro Az Lz vz wy Kz Ez hB k
              have e48 : Az.eval (.tmp 48) = .agg fc := Ez.dep 6 48 (by kernel_rfl) rfl
              have e49 : Az.eval (.tmp 49) = .agg #[.int .i64 q0, .int .i64 q1, .int .i64 q2, .int .i64 q3] := Ez.dep 7 49 (by kernel_rfl) rfl
              have z1 : Lz 9 = false := Ez.late 9 _ rfl (by kernel_rfl)
              obtain ⟨hb0, h3, h4, h5, h8⟩ := hB.A z1
              refine wpo_call (run_callW (fun _ _ => by kernel_rfl)) (R := fun ez w' => ∃ gc, ez = .returned (.agg gc) ∧ Fv gc (wiB 0 q0 q1 q2 q3 P) ∧ Below wy.heap.size wy w') ?_ ?_
              · simp only [List.map_toArray, List.map_cons, List.map_nil, eval_const, e48, e49]
                exact with_any 0 q0 q1 q2 q3 fc P P4.out.fv wy
              · rintro ez w' ⟨gc', rfl, hr, hb⟩
                exact ⟨_, rfl, k _ _ trivial (hB.add z1 8 _ hb (by decide) (by decide) (fun z => absurd z (by decide)) (fun z => absurd z (by decide)) (fun z => absurd z (by decide)) (fun _ => ⟨gc', rfl, hr⟩))⟩
            | 9, ho =>
              obtain rfl := Option.some.inj ho
              intro Az Lz vz wy Kz Ez hB k
              have e3 : Az.eval (.tmp 3) = .pointer (some ⟨w1.heap.size, 0, none⟩) := Ez.out 3 (by kernel_rfl)
              have e47 : Az.eval (.tmp 47) = vz 5 := Ez.dep 5 47 (by kernel_rfl) rfl
              have z1 : Lz 9 = false := Ez.not
              obtain ⟨a', n', c', e', hb0, hN⟩ := hB.st1 z1 (Ez.had 5 (by kernel_rfl)) (Ez.had 8 (by kernel_rfl)) (by decide) (by decide)
              have hk := blk_l P4.out.hr hb0
              have z := cell_of_row hk
              have f : wy.frozen? ⟨w1.heap.size, 0, none⟩ = false := by simp [World.frozen?, hk]
              exact wpo_skip (w' := wy.setCell ⟨w1.heap.size, 0, none⟩ (.slice a' n' c')) (run_store e3 (e47.trans e') (by simp [go_sem, z, f])) (k _ _ trivial (hN _))
            | 10, ho =>
              obtain rfl := Option.some.inj ho
              intro Az Lz vz wy Kz Ez hB k
              have e4 : Az.eval (.tmp 4) = .pointer (some ⟨w1.heap.size + 1, 0, none⟩) := Ez.out 4 (by kernel_rfl)
              have e50 : Az.eval (.tmp 50) = vz 8 := Ez.dep 8 50 (by kernel_rfl) rfl
              have z2 : Lz 10 = false := Ez.not
              obtain ⟨wy0, a', n', c', gc', e', hb0, fv', rfl, hN⟩ := hB.st2 z2 (Ez.had 9 (by kernel_rfl)) (by decide) (by decide)
              have hk : (wy0.setCell ⟨w1.heap.size, 0, none⟩ (.slice a' n' c')).heap[w1.heap.size + 1]? = some (.cells fc 29 (0, 0)) := by rw [Below.heap_setCell wy0 ⟨w1.heap.size, 0, none⟩ _ (w1.heap.size + 1) (by show w1.heap.size + 1 ≠ w1.heap.size; omega)]; exact blk_l P4.out.hf hb0
              exact wpo_skip (run_store e4 (e50.trans e') (store_row hk (fv_size fv') (by rw [P4.out.fv.size, fv'.size]) fv'.bools)) (k _ _ trivial (hN _))
            | n + 11, ho => simp at ho
          · obtain ⟨wy0, a', n', c', gc', hb0, ir5, fv5, rfl⟩ := hB.C (hL 10 (by decide))
            obtain ⟨P5, k5, r5⟩ := act_end (dx' := dx) (dy' := dy) P4.out hb0 ir5 fv5 PB.out (by omega) (by omega) (by omega) (by omega)
            generalize (wy0.setCell ⟨w1.heap.size, 0, none⟩ (.slice a' n' c')).setRow (w1.heap.size + 1) gc' = w5 at P5 k5 r5 ⊢
            have P5 := Lib.hid P5
            have K5 := Lib.hid (K4.out.trans k5)
            have R5 := Lib.hid r5
            have OB5 : Hid (w5.heap[bo]? = some (.cells #[.slice a n c] 26 (0, 0))) := Lib.hid ((k5.block bo (Array.getElem?_eq_some_iff.1 OB.out).1 (by simp; omega)).trans OB.out)
            have OQ5 : Hid (w5.heap[bq]? = some (.cells fc 29 (0, 0))) := Lib.hid ((k5.block bq (Array.getElem?_eq_some_iff.1 OQ.out).1 (by simp; omega)).trans OQ.out)
            have c5 := cell_of_row P5.out.hr
            have f5 := P5.out.hf
            have z5 := fv_size P5.out.fv
            clear k5 r5 hb0 ir5 fv5 hL hB
            simp only [puts2, mix, Act.put, List.setIfInBounds_toArray, List.set_cons_zero, List.set_cons_succ, Nat.zero_add, Nat.reduceAdd, List.getElem?_cons_zero, List.getElem?_cons_succ]
            go_wp2_with fail
            refine wp_load_row 29 (.tmp 4) rfl (w1.heap.size + 1) rfl 29 gc' (0, 0) (.array 40 27) f5 (by kernel_rfl) rfl z5 ?_
            go_wp2_with fail
            refine (same_set P5.out.ir P5.out.fv P5.out.w40).mono ?_
            rintro _ w6 ⟨rfl, hb⟩
            have P6 := Lib.hid (P5.out.later hb)
            have K6 := Lib.hid (K5.out.later hb)
            have R6 := Lib.hid (R5.out.later hb)
            have c6 := cell_of_row (blk_l OB5.out hb)
            have f6 := blk_l OQ5.out hb
            have z6 := fv_size P4.out.fv
            clear hb c5 f5 z5
            go_wp2_with fail
            refine wp_load_row 29 (.tmp 10) rfl bq rfl 29 fc (0, 0) (.array 40 27) f6 (by kernel_rfl) rfl z6 ?_
            go_wp2_with fail
            refine (same_set R6.out P4.out.fv P4.out.w40).mono ?_
            rintro _ w7 ⟨rfl, hb⟩
            have P7 := Lib.hid (P6.out.later hb)
            have K7 := Lib.hid (K6.out.later hb)
            clear hb c6 f6 z6
            go_wp2_with fail
            go_roundw
            case rel => exact ⟨j + 1, a', n', c', gc', _, dx, dy, rfl, rfl, by go_num, by omega, by omega, P7, K7⟩
            case measure => simp [intOf]; omega
        · go_wp2_with fail
          have PB : Hid (PlB (wiB 1 q0 q1 q2 q3 P) dx dy) := Lib.hid (pl_wi P4.out.pb dx0 dx1 dy0 dy1 QB.out.1 QB.out.2.1 QB.out.2.2.1 QB.out.2.2.2)
          clear x0 x1 x2 x3 x4
          refine wp_region_vals [some (.agg #[.slice a n c]), some (.agg #[.int .i64 q0, .int .i64 q1, .int .i64 q2, .int .i64 q3]), some (.agg #[.int .i64 A, .int .i64 B, .int .i64 C, .int .i64 D]), none, none, none, some (.agg fc), some (.agg #[.int .i64 q0, .int .i64 q1, .int .i64 q2, .int .i64 q3]), none, none, none] (HB w4 w1.heap.size (w1.heap.size + 1) 5 8 9 10 3 4 [(A, B, C, D)] (anyQ [(A, B, C, D)]) (wiB 1 q0 q1 q2 q3 P)) [some 53, some 54, some 55, some 56, some 57, some 58, some 59, some 60, some 61, none, none] (by kernel_rfl) (by kernel_rfl) (by kernel_rfl) (by kernel_rfl) (by kernel_rfl) (by kernel_rfl) (HB.start _ _ _ _ _ _ _ _ _ _ _ _) (fun i o ho => ?_) (fun Lz vz w5 hL hB => ?_)
          · match i, ho with
            | 0, ho =>
              obtain rfl := Option.some.inj ho
              intro Az Lz vz wy Kz Ez hB k
              have e3 : Az.eval (.tmp 3) = .pointer (some ⟨w1.heap.size, 0, none⟩) := Ez.out 3 (by kernel_rfl)
              have z1 : Lz 9 = false := Ez.late 9 _ rfl (by kernel_rfl)
              obtain ⟨hb0, h3, h4, h5, h8⟩ := hB.A z1
              have z := cell_of_row (blk_l P4.out.hr hb0)
              exact wpo_val (v := .agg #[.slice a n c]) (run_load e3 (by simp [go_sem, z])) (k _ _ rfl (hB.add z1 0 _ (Below.refl _ _) (by decide) (by decide) (fun z => absurd z (by decide)) (fun z => absurd z (by decide)) (fun z => absurd z (by decide)) (fun z => absurd z (by decide))))
            | 1, ho =>
              obtain rfl := Option.some.inj ho
              intro Az Lz vz wy Kz Ez hB k
              have e8 : Az.eval (.tmp 8) = .pointer (some ⟨w2.heap.size, 0, none⟩) := Ez.out 8 (by kernel_rfl)
              have z1 : Lz 9 = false := Ez.late 9 _ rfl (by kernel_rfl)
              obtain ⟨hb0, h3, h4, h5, h8⟩ := hB.A z1
              have hT := T4.out.later hb0
              have c0 := hT.cell 0 0 rfl rfl
              have c1 := hT.cell 0 1 rfl rfl
              have c2 := hT.cell 0 2 rfl rfl
              have c3 := hT.cell 0 3 rfl rfl
              exact wpo_val (v := .agg #[.int .i64 q0, .int .i64 q1, .int .i64 q2, .int .i64 q3]) (run_load e8 (by simp [go_sem, c0, c1, c2, c3])) (k _ _ rfl (hB.add z1 1 _ (Below.refl _ _) (by decide) (by decide) (fun z => absurd z (by decide)) (fun z => absurd z (by decide)) (fun z => absurd z (by decide)) (fun z => absurd z (by decide))))
            | 2, ho =>
              obtain rfl := Option.some.inj ho
              intro Az Lz vz wy Kz Ez hB k
              have e54 : Az.eval (.tmp 54) = .agg #[.int .i64 q0, .int .i64 q1, .int .i64 q2, .int .i64 q3] := Ez.dep 1 54 (by kernel_rfl) rfl
              have z1 : Lz 9 = false := Ez.late 9 _ rfl (by kernel_rfl)
              obtain ⟨hb0, h3, h4, h5, h8⟩ := hB.A z1
              refine wpo_call (run_callW (fun _ _ => by kernel_rfl)) (R := fun ez w' => ez = .returned (.agg #[.int .i64 A, .int .i64 B, .int .i64 C, .int .i64 D]) ∧ Below wy.heap.size wy w') ?_ ?_
              · simp only [List.map_toArray, List.map_cons, List.map_nil, eval_const, e54]
                exact TO.out wy
              · rintro ez w' ⟨rfl, hb⟩
                exact ⟨_, rfl, k _ _ rfl (hB.add z1 2 _ hb (by decide) (by decide) (fun z => absurd z (by decide)) (fun z => absurd z (by decide)) (fun z => absurd z (by decide)) (fun z => absurd z (by decide)))⟩
            | 3, ho =>
              obtain rfl := Option.some.inj ho
              intro Az Lz vz wy Kz Ez hB k
              have e55 : Az.eval (.tmp 55) = .agg #[.int .i64 A, .int .i64 B, .int .i64 C, .int .i64 D] := Ez.dep 2 55 (by kernel_rfl) rfl
              have z1 : Lz 9 = false := Ez.late 9 _ rfl (by kernel_rfl)
              obtain ⟨hb0, h3, h4, h5, h8⟩ := hB.A z1
              exact wpo_val (run_bslice1 e55 (bslice_rect5 A B C D wy)) (k _ _ trivial (hB.add z1 3 _ (bel_new wy _) (by decide) (by decide) (fun _ => rs_one wy (A, B, C, D)) (fun z => absurd z (by decide)) (fun z => absurd z (by decide)) (fun z => absurd z (by decide))))
            | 4, ho =>
              obtain rfl := Option.some.inj ho
              intro Az Lz vz wy Kz Ez hB k
              have e56 : Az.eval (.tmp 56) = vz 3 := Ez.dep 3 56 (by kernel_rfl) rfl
              have z1 : Lz 9 = false := Ez.late 9 _ rfl (by kernel_rfl)
              obtain ⟨hb0, h3, h4, h5, h8⟩ := hB.A z1
              have hs := h3 (Ez.had 3 (by kernel_rfl))
              refine wpo_call (run_callW (fun _ _ => by kernel_rfl)) (R := IsE (anyQ [(A, B, C, D)]) wy) ?_ ?_
              · simp only [List.map_toArray, List.map_cons, List.map_nil, eval_const, e56]
                exact isr_of hs (fun r mr => by rw [List.mem_singleton] at mr; subst mr; exact KR.out) (by simp)
              · rintro ez w' ⟨vr, rfl, hr, hb⟩
                exact ⟨_, rfl, k _ _ trivial (hB.add z1 4 _ hb (by decide) (by decide) (fun z => absurd z (by decide)) (fun _ => hr) (fun z => absurd z (by decide)) (fun z => absurd z (by decide)))⟩
            | 5, ho =>
              obtain rfl := Option.some.inj ho
              intro Az Lz vz wy Kz Ez hB k
              have e53 : Az.eval (.tmp 53) = .agg #[.slice a n c] := Ez.dep 0 53 (by kernel_rfl) rfl
              have e57 : Az.eval (.tmp 57) = vz 4 := Ez.dep 4 57 (by kernel_rfl) rfl
              have z1 : Lz 9 = false := Ez.late 9 _ rfl (by kernel_rfl)
              obtain ⟨hb0, h3, h4, h5, h8⟩ := hB.A z1
              have hs := h4 (Ez.had 4 (by kernel_rfl))
              refine wpo_call (run_callW (fun _ _ => by kernel_rfl)) (R := IsE (wiB 1 q0 q1 q2 q3 P) wy) ?_ ?_
              · simp only [List.map_toArray, List.map_cons, List.map_nil, eval_const, e53, e57]
                exact isE_congr5 (isr_minus (P4.out.ir.later hb0) hs) (wi_mi PX.out)
              · rintro ez w' ⟨vr, rfl, hr, hb⟩
                exact ⟨_, rfl, k _ _ trivial (hB.add z1 5 _ hb (by decide) (by decide) (fun z => absurd z (by decide)) (fun z => absurd z (by decide)) (fun _ => hr) (fun z => absurd z (by decide)))⟩
            | 6, ho =>
              obtain rfl := Option.some.inj ho
              intro Az Lz vz wy Kz Ez hB k
              have e4 : Az.eval (.tmp 4) = .pointer (some ⟨w1.heap.size + 1, 0, none⟩) := Ez.out 4 (by kernel_rfl)
              have z8 : Lz 8 = false := Ez.late 8 _ rfl (by kernel_rfl)
              have z1 := hB.c1 z8
              obtain ⟨hb0, h3, h4, h5, h8⟩ := hB.A z1
              exact wpo_val (v := .agg fc) (run_load e4 (load_field (blk_l P4.out.hf hb0) P4.out.fv)) (k _ _ rfl (hB.add z1 6 _ (Below.refl _ _) (by decide) (by decide) (fun z => absurd z (by decide)) (fun z => absurd z (by decide)) (fun z => absurd z (by decide)) (fun z => absurd z (by decide))))
            | 7, ho =>
              obtain rfl := Option.some.inj ho
              intro Az Lz vz wy Kz Ez hB k
              have e8 : Az.eval (.tmp 8) = .pointer (some ⟨w2.heap.size, 0, none⟩) := Ez.out 8 (by kernel_rfl)
              have z8 : Lz 8 = false := Ez.late 8 _ rfl (by kernel_rfl)
              have z1 := hB.c1 z8
              obtain ⟨hb0, h3, h4, h5, h8⟩ := hB.A z1
              have hT := T4.out.later hb0
              have c0 := hT.cell 0 0 rfl rfl
              have c1 := hT.cell 0 1 rfl rfl
              have c2 := hT.cell 0 2 rfl rfl
              have c3 := hT.cell 0 3 rfl rfl
              exact wpo_val (v := .agg #[.int .i64 q0, .int .i64 q1, .int .i64 q2, .int .i64 q3]) (run_load e8 (by simp [go_sem, c0, c1, c2, c3])) (k _ _ rfl (hB.add z1 7 _ (Below.refl _ _) (by decide) (by decide) (fun z => absurd z (by decide)) (fun z => absurd z (by decide)) (fun z => absurd z (by decide)) (fun z => absurd z (by decide))))
            | 8, ho =>
              obtain rfl := Option.some.inj ho
              intro Az Lz vz wy Kz Ez hB k
              have e59 : Az.eval (.tmp 59) = .agg fc := Ez.dep 6 59 (by kernel_rfl) rfl
              have e60 : Az.eval (.tmp 60) = .agg #[.int .i64 q0, .int .i64 q1, .int .i64 q2, .int .i64 q3] := Ez.dep 7 60 (by kernel_rfl) rfl
              have z1 : Lz 9 = false := Ez.late 9 _ rfl (by kernel_rfl)
              obtain ⟨hb0, h3, h4, h5, h8⟩ := hB.A z1
              refine wpo_call (run_callW (fun _ _ => by kernel_rfl)) (R := fun ez w' => ∃ gc, ez = .returned (.agg gc) ∧ Fv gc (wiB 1 q0 q1 q2 q3 P) ∧ Below wy.heap.size wy w') ?_ ?_
              · simp only [List.map_toArray, List.map_cons, List.map_nil, eval_const, e59, e60]
                exact with_any 1 q0 q1 q2 q3 fc P P4.out.fv wy
              · rintro ez w' ⟨gc', rfl, hr, hb⟩
                exact ⟨_, rfl, k _ _ trivial (hB.add z1 8 _ hb (by decide) (by decide) (fun z => absurd z (by decide)) (fun z => absurd z (by decide)) (fun z => absurd z (by decide)) (fun _ => ⟨gc', rfl, hr⟩))⟩
            | 9, ho =>
              obtain rfl := Option.some.inj ho
              intro Az Lz vz wy Kz Ez hB k
              have e3 : Az.eval (.tmp 3) = .pointer (some ⟨w1.heap.size, 0, none⟩) := Ez.out 3 (by kernel_rfl)
              have e58 : Az.eval (.tmp 58) = vz 5 := Ez.dep 5 58 (by kernel_rfl) rfl
              have z1 : Lz 9 = false := Ez.not
              obtain ⟨a', n', c', e', hb0, hN⟩ := hB.st1 z1 (Ez.had 5 (by kernel_rfl)) (Ez.had 8 (by kernel_rfl)) (by decide) (by decide)
              have hk := blk_l P4.out.hr hb0
              have z := cell_of_row hk
              have f : wy.frozen? ⟨w1.heap.size, 0, none⟩ = false := by simp [World.frozen?, hk]
              exact wpo_skip (w' := wy.setCell ⟨w1.heap.size, 0, none⟩ (.slice a' n' c')) (run_store e3 (e58.trans e') (by simp [go_sem, z, f])) (k _ _ trivial (hN _))
            | 10, ho =>
              obtain rfl := Option.some.inj ho
              intro Az Lz vz wy Kz Ez hB k
              have e4 : Az.eval (.tmp 4) = .pointer (some ⟨w1.heap.size + 1, 0, none⟩) := Ez.out 4 (by kernel_rfl)
              have e61 : Az.eval (.tmp 61) = vz 8 := Ez.dep 8 61 (by kernel_rfl) rfl
              have z2 : Lz 10 = false := Ez.not
              obtain ⟨wy0, a', n', c', gc', e', hb0, fv', rfl, hN⟩ := hB.st2 z2 (Ez.had 9 (by kernel_rfl)) (by decide) (by decide)
              have hk : (wy0.setCell ⟨w1.heap.size, 0, none⟩ (.slice a' n' c')).heap[w1.heap.size + 1]? = some (.cells fc 29 (0, 0)) := by rw [Below.heap_setCell wy0 ⟨w1.heap.size, 0, none⟩ _ (w1.heap.size + 1) (by show w1.heap.size + 1 ≠ w1.heap.size; omega)]; exact blk_l P4.out.hf hb0
              exact wpo_skip (run_store e4 (e61.trans e') (store_row hk (fv_size fv') (by rw [P4.out.fv.size, fv'.size]) fv'.bools)) (k _ _ trivial (hN _))
            | n + 11, ho => simp at ho
          · obtain ⟨wy0, a', n', c', gc', hb0, ir5, fv5, rfl⟩ := hB.C (hL 10 (by decide))
            obtain ⟨P5, k5, r5⟩ := act_end (dx' := dx) (dy' := dy) P4.out hb0 ir5 fv5 PB.out (by omega) (by omega) (by omega) (by omega)
            generalize (wy0.setCell ⟨w1.heap.size, 0, none⟩ (.slice a' n' c')).setRow (w1.heap.size + 1) gc' = w5 at P5 k5 r5 ⊢
            have P5 := Lib.hid P5
            have K5 := Lib.hid (K4.out.trans k5)
            have R5 := Lib.hid r5
            have OB5 : Hid (w5.heap[bo]? = some (.cells #[.slice a n c] 26 (0, 0))) := Lib.hid ((k5.block bo (Array.getElem?_eq_some_iff.1 OB.out).1 (by simp; omega)).trans OB.out)
            have OQ5 : Hid (w5.heap[bq]? = some (.cells fc 29 (0, 0))) := Lib.hid ((k5.block bq (Array.getElem?_eq_some_iff.1 OQ.out).1 (by simp; omega)).trans OQ.out)
            have c5 := cell_of_row P5.out.hr
            have f5 := P5.out.hf
            have z5 := fv_size P5.out.fv
            clear k5 r5 hb0 ir5 fv5 hL hB
            simp only [puts2, mix, Act.put, List.setIfInBounds_toArray, List.set_cons_zero, List.set_cons_succ, Nat.zero_add, Nat.reduceAdd, List.getElem?_cons_zero, List.getElem?_cons_succ]
            go_wp2_with fail
            refine wp_load_row 29 (.tmp 4) rfl (w1.heap.size + 1) rfl 29 gc' (0, 0) (.array 40 27) f5 (by kernel_rfl) rfl z5 ?_
            go_wp2_with fail
            refine (same_set P5.out.ir P5.out.fv P5.out.w40).mono ?_
            rintro _ w6 ⟨rfl, hb⟩
            have P6 := Lib.hid (P5.out.later hb)
            have K6 := Lib.hid (K5.out.later hb)
            have R6 := Lib.hid (R5.out.later hb)
            have c6 := cell_of_row (blk_l OB5.out hb)
            have f6 := blk_l OQ5.out hb
            have z6 := fv_size P4.out.fv
            clear hb c5 f5 z5
            go_wp2_with fail
            refine wp_load_row 29 (.tmp 10) rfl bq rfl 29 fc (0, 0) (.array 40 27) f6 (by kernel_rfl) rfl z6 ?_
            go_wp2_with fail
            refine (same_set R6.out P4.out.fv P4.out.w40).mono ?_
            rintro _ w7 ⟨rfl, hb⟩
            have P7 := Lib.hid (P6.out.later hb)
            have K7 := Lib.hid (K6.out.later hb)
            clear hb c6 f6 z6
            go_wp2_with fail
            go_roundw
            case rel => exact ⟨j + 1, a', n', c', gc', _, dx, dy, rfl, rfl, by go_num, by omega, by omega, P7, K7⟩
            case measure => simp [intOf]; omega
        · go_wp2_with fail
          have PB : Hid (PlB (wiB 2 q0 q1 q2 q3 P) dx dy) := Lib.hid (pl_wi P4.out.pb dx0 dx1 dy0 dy1 QB.out.1 QB.out.2.1 QB.out.2.2.1 QB.out.2.2.2)
          clear x0 x1 x2 x3 x4
          refine wp_region_vals [some (.agg #[.slice a n c]), some (.agg #[.int .i64 q0, .int .i64 q1, .int .i64 q2, .int .i64 q3]), some (.agg #[.int .i64 A, .int .i64 B, .int .i64 C, .int .i64 D]), none, none, none, some (.agg fc), some (.agg #[.int .i64 q0, .int .i64 q1, .int .i64 q2, .int .i64 q3]), none, none, none] (HB w4 w1.heap.size (w1.heap.size + 1) 5 8 9 10 3 4 [(A, B, C, D)] (anyQ [(A, B, C, D)]) (wiB 2 q0 q1 q2 q3 P)) [some 64, some 65, some 66, some 67, some 68, some 69, some 70, some 71, some 72, none, none] (by kernel_rfl) (by kernel_rfl) (by kernel_rfl) (by kernel_rfl) (by kernel_rfl) (by kernel_rfl) (HB.start _ _ _ _ _ _ _ _ _ _ _ _) (fun i o ho => ?_) (fun Lz vz w5 hL hB => ?_)
          · match i, ho with
            | 0, ho =>
              obtain rfl := Option.some.inj ho
              intro Az Lz vz wy Kz Ez hB k
              have e3 : Az.eval (.tmp 3) = .pointer (some ⟨w1.heap.size, 0, none⟩) := Ez.out 3 (by kernel_rfl)
              have z1 : Lz 9 = false := Ez.late 9 _ rfl (by kernel_rfl)
              obtain ⟨hb0, h3, h4, h5, h8⟩ := hB.A z1
              have z := cell_of_row (blk_l P4.out.hr hb0)
              exact wpo_val (v := .agg #[.slice a n c]) (run_load e3 (by simp [go_sem, z])) (k _ _ rfl (hB.add z1 0 _ (Below.refl _ _) (by decide) (by decide) (fun z => absurd z (by decide)) (fun z => absurd z (by decide)) (fun z => absurd z (by decide)) (fun z => absurd z (by decide))))
            | 1, ho =>
              obtain rfl := Option.some.inj ho
              intro Az Lz vz wy Kz Ez hB k
              have e8 : Az.eval (.tmp 8) = .pointer (some ⟨w2.heap.size, 0, none⟩) := Ez.out 8 (by kernel_rfl)
              have z1 : Lz 9 = false := Ez.late 9 _ rfl (by kernel_rfl)
              obtain ⟨hb0, h3, h4, h5, h8⟩ := hB.A z1
              have hT := T4.out.later hb0
              have c0 := hT.cell 0 0 rfl rfl
              have c1 := hT.cell 0 1 rfl rfl
              have c2 := hT.cell 0 2 rfl rfl
              have c3 := hT.cell 0 3 rfl rfl
              exact wpo_val (v := .agg #[.int .i64 q0, .int .i64 q1, .int .i64 q2, .int .i64 q3]) (run_load e8 (by simp [go_sem, c0, c1, c2, c3])) (k _ _ rfl (hB.add z1 1 _ (Below.refl _ _) (by decide) (by decide) (fun z => absurd z (by decide)) (fun z => absurd z (by decide)) (fun z => absurd z (by decide)) (fun z => absurd z (by decide))))
            | 2, ho =>
              obtain rfl := Option.some.inj ho
              intro Az Lz vz wy Kz Ez hB k
              have e65 : Az.eval (.tmp 65) = .agg #[.int .i64 q0, .int .i64 q1, .int .i64 q2, .int .i64 q3] := Ez.dep 1 65 (by kernel_rfl) rfl
              have z1 : Lz 9 = false := Ez.late 9 _ rfl (by kernel_rfl)
              obtain ⟨hb0, h3, h4, h5, h8⟩ := hB.A z1
              refine wpo_call (run_callW (fun _ _ => by kernel_rfl)) (R := fun ez w' => ez = .returned (.agg #[.int .i64 A, .int .i64 B, .int .i64 C, .int .i64 D]) ∧ Below wy.heap.size wy w') ?_ ?_
              · simp only [List.map_toArray, List.map_cons, List.map_nil, eval_const, e65]
                exact TO.out wy
              · rintro ez w' ⟨rfl, hb⟩
                exact ⟨_, rfl, k _ _ rfl (hB.add z1 2 _ hb (by decide) (by decide) (fun z => absurd z (by decide)) (fun z => absurd z (by decide)) (fun z => absurd z (by decide)) (fun z => absurd z (by decide)))⟩
            | 3, ho =>
              obtain rfl := Option.some.inj ho
              intro Az Lz vz wy Kz Ez hB k
              have e66 : Az.eval (.tmp 66) = .agg #[.int .i64 A, .int .i64 B, .int .i64 C, .int .i64 D] := Ez.dep 2 66 (by kernel_rfl) rfl
              have z1 : Lz 9 = false := Ez.late 9 _ rfl (by kernel_rfl)
              obtain ⟨hb0, h3, h4, h5, h8⟩ := hB.A z1
              exact wpo_val (run_bslice1 e66 (bslice_rect5 A B C D wy)) (k _ _ trivial (hB.add z1 3 _ (bel_new wy _) (by decide) (by decide) (fun _ => rs_one wy (A, B, C, D)) (fun z => absurd z (by decide)) (fun z => absurd z (by decide)) (fun z => absurd z (by decide))))
            | 4, ho =>
              obtain rfl := Option.some.inj ho
              intro Az Lz vz wy Kz Ez hB k
              have e67 : Az.eval (.tmp 67) = vz 3 := Ez.dep 3 67 (by kernel_rfl) rfl
              have z1 : Lz 9 = false := Ez.late 9 _ rfl (by kernel_rfl)
              obtain ⟨hb0, h3, h4, h5, h8⟩ := hB.A z1
              have hs := h3 (Ez.had 3 (by kernel_rfl))
              refine wpo_call (run_callW (fun _ _ => by kernel_rfl)) (R := IsE (anyQ [(A, B, C, D)]) wy) ?_ ?_
              · simp only [List.map_toArray, List.map_cons, List.map_nil, eval_const, e67]
                exact isr_of hs (fun r mr => by rw [List.mem_singleton] at mr; subst mr; exact KR.out) (by simp)
              · rintro ez w' ⟨vr, rfl, hr, hb⟩
                exact ⟨_, rfl, k _ _ trivial (hB.add z1 4 _ hb (by decide) (by decide) (fun z => absurd z (by decide)) (fun _ => hr) (fun z => absurd z (by decide)) (fun z => absurd z (by decide)))⟩
            | 5, ho =>
              obtain rfl := Option.some.inj ho
              intro Az Lz vz wy Kz Ez hB k
              have e64 : Az.eval (.tmp 64) = .agg #[.slice a n c] := Ez.dep 0 64 (by kernel_rfl) rfl
              have e68 : Az.eval (.tmp 68) = vz 4 := Ez.dep 4 68 (by kernel_rfl) rfl
              have z1 : Lz 9 = false := Ez.late 9 _ rfl (by kernel_rfl)
              obtain ⟨hb0, h3, h4, h5, h8⟩ := hB.A z1
              have hs := h4 (Ez.had 4 (by kernel_rfl))
              refine wpo_call (run_callW (fun _ _ => by kernel_rfl)) (R := IsE (wiB 2 q0 q1 q2 q3 P) wy) ?_ ?_
              · simp only [List.map_toArray, List.map_cons, List.map_nil, eval_const, e64, e68]
                exact isE_congr5 (isr_and (P4.out.ir.later hb0) hs) (wi_an PX.out)
              · rintro ez w' ⟨vr, rfl, hr, hb⟩
                exact ⟨_, rfl, k _ _ trivial (hB.add z1 5 _ hb (by decide) (by decide) (fun z => absurd z (by decide)) (fun z => absurd z (by decide)) (fun _ => hr) (fun z => absurd z (by decide)))⟩
            | 6, ho =>
              obtain rfl := Option.some.inj ho
              intro Az Lz vz wy Kz Ez hB k
              have e4 : Az.eval (.tmp 4) = .pointer (some ⟨w1.heap.size + 1, 0, none⟩) := Ez.out 4 (by kernel_rfl)
              have z8 : Lz 8 = false := Ez.late 8 _ rfl (by kernel_rfl)
              have z1 := hB.c1 z8
              obtain ⟨hb0, h3, h4, h5, h8⟩ := hB.A z1
              exact wpo_val (v := .agg fc) (run_load e4 (load_field (blk_l P4.out.hf hb0) P4.out.fv)) (k _ _ rfl (hB.add z1 6 _ (Below.refl _ _) (by decide) (by decide) (fun z => absurd z (by decide)) (fun z => absurd z (by decide)) (fun z => absurd z (by decide)) (fun z => absurd z (by decide))))
            | 7, ho =>
              obtain rfl := Option.some.inj ho
              intro Az Lz vz wy Kz Ez hB k
              have e8 : Az.eval (.tmp 8) = .pointer (some ⟨w2.heap.size, 0, none⟩) := Ez.out 8 (by kernel_rfl)
              have z8 : Lz 8 = false := Ez.late 8 _ rfl (by kernel_rfl)
              have z1 := hB.c1 z8
              obtain ⟨hb0, h3, h4, h5, h8⟩ := hB.A z1
              have hT := T4.out.later hb0
              have c0 := hT.cell 0 0 rfl rfl
              have c1 := hT.cell 0 1 rfl rfl
              have c2 := hT.cell 0 2 rfl rfl
              have c3 := hT.cell 0 3 rfl rfl
              exact wpo_val (v := .agg #[.int .i64 q0, .int .i64 q1, .int .i64 q2, .int .i64 q3]) (run_load e8 (by simp [go_sem, c0, c1, c2, c3])) (k _ _ rfl (hB.add z1 7 _ (Below.refl _ _) (by decide) (by decide) (fun z => absurd z (by decide)) (fun z => absurd z (by decide)) (fun z => absurd z (by decide)) (fun z => absurd z (by decide))))
            | 8, ho =>
              obtain rfl := Option.some.inj ho
              intro Az Lz vz wy Kz Ez hB k
              have e70 : Az.eval (.tmp 70) = .agg fc := Ez.dep 6 70 (by kernel_rfl) rfl
              have e71 : Az.eval (.tmp 71) = .agg #[.int .i64 q0, .int .i64 q1, .int .i64 q2, .int .i64 q3] := Ez.dep 7 71 (by kernel_rfl) rfl
              have z1 : Lz 9 = false := Ez.late 9 _ rfl (by kernel_rfl)
              obtain ⟨hb0, h3, h4, h5, h8⟩ := hB.A z1
              refine wpo_call (run_callW (fun _ _ => by kernel_rfl)) (R := fun ez w' => ∃ gc, ez = .returned (.agg gc) ∧ Fv gc (wiB 2 q0 q1 q2 q3 P) ∧ Below wy.heap.size wy w') ?_ ?_
              · simp only [List.map_toArray, List.map_cons, List.map_nil, eval_const, e70, e71]
                exact with_any 2 q0 q1 q2 q3 fc P P4.out.fv wy
              · rintro ez w' ⟨gc', rfl, hr, hb⟩
                exact ⟨_, rfl, k _ _ trivial (hB.add z1 8 _ hb (by decide) (by decide) (fun z => absurd z (by decide)) (fun z => absurd z (by decide)) (fun z => absurd z (by decide)) (fun _ => ⟨gc', rfl, hr⟩))⟩
            | 9, ho =>
              obtain rfl := Option.some.inj ho
              intro Az Lz vz wy Kz Ez hB k
              have e3 : Az.eval (.tmp 3) = .pointer (some ⟨w1.heap.size, 0, none⟩) := Ez.out 3 (by kernel_rfl)
              have e69 : Az.eval (.tmp 69) = vz 5 := Ez.dep 5 69 (by kernel_rfl) rfl
              have z1 : Lz 9 = false := Ez.not
              obtain ⟨a', n', c', e', hb0, hN⟩ := hB.st1 z1 (Ez.had 5 (by kernel_rfl)) (Ez.had 8 (by kernel_rfl)) (by decide) (by decide)
              have hk := blk_l P4.out.hr hb0
              have z := cell_of_row hk
              have f : wy.frozen? ⟨w1.heap.size, 0, none⟩ = false := by simp [World.frozen?, hk]
              exact wpo_skip (w' := wy.setCell ⟨w1.heap.size, 0, none⟩ (.slice a' n' c')) (run_store e3 (e69.trans e') (by simp [go_sem, z, f])) (k _ _ trivial (hN _))
            | 10, ho =>
              obtain rfl := Option.some.inj ho
              intro Az Lz vz wy Kz Ez hB k
              have e4 : Az.eval (.tmp 4) = .pointer (some ⟨w1.heap.size + 1, 0, none⟩) := Ez.out 4 (by kernel_rfl)
              have e72 : Az.eval (.tmp 72) = vz 8 := Ez.dep 8 72 (by kernel_rfl) rfl
              have z2 : Lz 10 = false := Ez.not
              obtain ⟨wy0, a', n', c', gc', e', hb0, fv', rfl, hN⟩ := hB.st2 z2 (Ez.had 9 (by kernel_rfl)) (by decide) (by decide)
              have hk : (wy0.setCell ⟨w1.heap.size, 0, none⟩ (.slice a' n' c')).heap[w1.heap.size + 1]? = some (.cells fc 29 (0, 0)) := by rw [Below.heap_setCell wy0 ⟨w1.heap.size, 0, none⟩ _ (w1.heap.size + 1) (by show w1.heap.size + 1 ≠ w1.heap.size; omega)]; exact blk_l P4.out.hf hb0
              exact wpo_skip (run_store e4 (e72.trans e') (store_row hk (fv_size fv') (by rw [P4.out.fv.size, fv'.size]) fv'.bools)) (k _ _ trivial (hN _))
            | n + 11, ho => simp at ho
          · obtain ⟨wy0, a', n', c', gc', hb0, ir5, fv5, rfl⟩ := hB.C (hL 10 (by decide))
            obtain ⟨P5, k5, r5⟩ := act_end (dx' := dx) (dy' := dy) P4.out hb0 ir5 fv5 PB.out (by omega) (by omega) (by omega) (by omega)
            generalize (wy0.setCell ⟨w1.heap.size, 0, none⟩ (.slice a' n' c')).setRow (w1.heap.size + 1) gc' = w5 at P5 k5 r5 ⊢
            have P5 := Lib.hid P5
            have K5 := Lib.hid (K4.out.trans k5)
            have R5 := Lib.hid r5
            have OB5 : Hid (w5.heap[bo]? = some (.cells #[.slice a n c] 26 (0, 0))) := Lib.hid ((k5.block bo (Array.getElem?_eq_some_iff.1 OB.out).1 (by simp; omega)).trans OB.out)
            have OQ5 : Hid (w5.heap[bq]? = some (.cells fc 29 (0, 0))) := Lib.hid ((k5.block bq (Array.getElem?_eq_some_iff.1 OQ.out).1 (by simp; omega)).trans OQ.out)
            have c5 := cell_of_row P5.out.hr
            have f5 := P5.out.hf
            have z5 := fv_size P5.out.fv
            clear k5 r5 hb0 ir5 fv5 hL hB
            simp only [puts2, mix, Act.put, List.setIfInBounds_toArray, List.set_cons_zero, List.set_cons_succ, Nat.zero_add, Nat.reduceAdd, List.getElem?_cons_zero, List.getElem?_cons_succ]
            go_wp2_with fail
            refine wp_load_row 29 (.tmp 4) rfl (w1.heap.size + 1) rfl 29 gc' (0, 0) (.array 40 27) f5 (by kernel_rfl) rfl z5 ?_
            go_wp2_with fail
            refine (same_set P5.out.ir P5.out.fv P5.out.w40).mono ?_
            rintro _ w6 ⟨rfl, hb⟩
            have P6 := Lib.hid (P5.out.later hb)
            have K6 := Lib.hid (K5.out.later hb)
            have R6 := Lib.hid (R5.out.later hb)
            have c6 := cell_of_row (blk_l OB5.out hb)
            have f6 := blk_l OQ5.out hb
            have z6 := fv_size P4.out.fv
            clear hb c5 f5 z5
            go_wp2_with fail
            refine wp_load_row 29 (.tmp 10) rfl bq rfl 29 fc (0, 0) (.array 40 27) f6 (by kernel_rfl) rfl z6 ?_
            go_wp2_with fail
            refine (same_set R6.out P4.out.fv P4.out.w40).mono ?_
            rintro _ w7 ⟨rfl, hb⟩
            have P7 := Lib.hid (P6.out.later hb)
            have K7 := Lib.hid (K6.out.later hb)
            clear hb c6 f6 z6
            go_wp2_with fail
            go_roundw
            case rel => exact ⟨j + 1, a', n', c', gc', _, dx, dy, rfl, rfl, by go_num, by omega, by omega, P7, K7⟩
            case measure => simp [intOf]; omega
        · go_wp2_with fail
          go_quiet (fail)
          rename_i nq
          obtain ⟨w4b, hw4⟩ : ∃ x, w4.drewN nq = x := ⟨_, rfl⟩
          have b4 : Below w4.heap.size w4 w4b := by rw [← hw4]; exact below_drewN (Below.refl _ _) _
          rw [hw4]
          have P4 := Lib.hid (P4.out.later b4)
          have K4 := Lib.hid (K4.out.later b4)
          have OB := Lib.hid (blk_l OB.out b4)
          have OQ := Lib.hid (blk_l OQ.out b4)
          clear hw4 x0 x1 x2 x3 x4
          obtain ⟨ax, hax⟩ : ∃ ax, X % 7 - 3 = ax := ⟨_, rfl⟩
          obtain ⟨ay, hay⟩ : ∃ ay, Y % 7 - 3 = ay := ⟨_, rfl⟩
          have ax0 : -3 ≤ ax := by omega
          have ax1 : ax ≤ 3 := by omega
          have ay0 : -3 ≤ ay := by omega
          have ay1 : ay ≤ 3 := by omega
          rw [hax, hay]
          clear hax hay
          have cs : dx + ax < -5 ∨ (¬ dx + ax < -5 ∧ 5 < dx + ax) ∨ (¬ dx + ax < -5 ∧ ¬ 5 < dx + ax ∧ dy + ay < -5) ∨ (¬ dx + ax < -5 ∧ ¬ 5 < dx + ax ∧ ¬ dy + ay < -5 ∧ 5 < dy + ay) ∨ (¬ dx + ax < -5 ∧ ¬ 5 < dx + ax ∧ ¬ dy + ay < -5 ∧ ¬ 5 < dy + ay) := by omega
          rcases cs with h1 | ⟨h1, h2⟩ | ⟨h1, h2, h3⟩ | ⟨h1, h2, h3, h4⟩ | ⟨h1, h2, h3, h4⟩
          · go_wp2_with fail
            go_roundw
            case rel => exact ⟨j + 1, a, n, c, fc, P, dx, dy, rfl, rfl, by go_num, by omega, by omega, P4, K4⟩
            case measure => simp [intOf]; omega
          · go_wp2_with fail
            go_roundw
            case rel => exact ⟨j + 1, a, n, c, fc, P, dx, dy, rfl, rfl, by go_num, by omega, by omega, P4, K4⟩
            case measure => simp [intOf]; omega
          · go_wp2_with fail
            go_roundw
            case rel => exact ⟨j + 1, a, n, c, fc, P, dx, dy, rfl, rfl, by go_num, by omega, by omega, P4, K4⟩
            case measure => simp [intOf]; omega
          · go_wp2_with fail
            go_roundw
            case rel => exact ⟨j + 1, a, n, c, fc, P, dx, dy, rfl, rfl, by go_num, by omega, by omega, P4, K4⟩
            case measure => simp [intOf]; omega
          · go_wp2_with fail
            have PB : Hid (PlB (mvF ax ay P) (dx + ax) (dy + ay)) := Lib.hid (pl_mv P4.out.pb)
            refine wp_region_vals [some (.agg #[.slice a n c]), some (.int .i64 ax), some (.int .i64 ay), none, some (.agg fc), some (.int .i64 ax), some (.int .i64 ay), none, none, none] (HB w4b w1.heap.size (w1.heap.size + 1) 3 7 8 9 99 98 [] (fun _ _ => false) (mvF ax ay P)) [some 121, some 122, some 123, some 124, some 125, some 126, some 127, some 128, none, none] (by kernel_rfl) (by kernel_rfl) (by kernel_rfl) (by kernel_rfl) (by kernel_rfl) (by kernel_rfl) (HB.start _ _ _ _ _ _ _ _ _ _ _ _) (fun i o ho => ?_) (fun Lz vz w5 hL hB => ?_)
            · match i, ho with
              | 0, ho =>
                obtain rfl := Option.some.inj ho
                intro Az Lz vz wy Kz Ez hB k
                have e3 : Az.eval (.tmp 3) = .pointer (some ⟨w1.heap.size, 0, none⟩) := Ez.out 3 (by kernel_rfl)
                have z1 : Lz 8 = false := Ez.late 8 _ rfl (by kernel_rfl)
                obtain ⟨hb0, _, _, h5, h8⟩ := hB.A z1
                have z := cell_of_row (blk_l P4.out.hr hb0)
                exact wpo_val (v := .agg #[.slice a n c]) (run_load e3 (by simp [go_sem, z])) (k _ _ rfl (hB.add z1 0 _ (Below.refl _ _) (by decide) (by decide) (fun z => absurd z (by decide)) (fun z => absurd z (by decide)) (fun z => absurd z (by decide)) (fun z => absurd z (by decide))))
              | 1, ho =>
                obtain rfl := Option.some.inj ho
                intro Az Lz vz wy Kz Ez hB k
                have e11 : Az.eval (.tmp 11) = .int .i64 ax := Ez.out 11 (by kernel_rfl)
                have z1 : Lz 8 = false := Ez.late 8 _ rfl (by kernel_rfl)
                obtain ⟨hb0, _, _, h5, h8⟩ := hB.A z1
                exact wpo_val (v := .int .i64 ax) (run_move e11) (k _ _ rfl (hB.add z1 1 _ (Below.refl _ _) (by decide) (by decide) (fun z => absurd z (by decide)) (fun z => absurd z (by decide)) (fun z => absurd z (by decide)) (fun z => absurd z (by decide))))
              | 2, ho =>
                obtain rfl := Option.some.inj ho
                intro Az Lz vz wy Kz Ez hB k
                have e12 : Az.eval (.tmp 12) = .int .i64 ay := Ez.out 12 (by kernel_rfl)
                have z1 : Lz 8 = false := Ez.late 8 _ rfl (by kernel_rfl)
                obtain ⟨hb0, _, _, h5, h8⟩ := hB.A z1
                exact wpo_val (v := .int .i64 ay) (run_move e12) (k _ _ rfl (hB.add z1 2 _ (Below.refl _ _) (by decide) (by decide) (fun z => absurd z (by decide)) (fun z => absurd z (by decide)) (fun z => absurd z (by decide)) (fun z => absurd z (by decide))))
              | 3, ho =>
                obtain rfl := Option.some.inj ho
                intro Az Lz vz wy Kz Ez hB k
                have e121 : Az.eval (.tmp 121) = .agg #[.slice a n c] := Ez.dep 0 121 (by kernel_rfl) rfl
                have e122 : Az.eval (.tmp 122) = .int .i64 ax := Ez.dep 1 122 (by kernel_rfl) rfl
                have e123 : Az.eval (.tmp 123) = .int .i64 ay := Ez.dep 2 123 (by kernel_rfl) rfl
                have z1 : Lz 8 = false := Ez.late 8 _ rfl (by kernel_rfl)
                obtain ⟨hb0, _, _, h5, h8⟩ := hB.A z1
                refine wpo_call (run_callW (fun _ _ => by kernel_rfl)) (R := IsE (mvF ax ay P) wy) ?_ ?_
                · simp only [List.map_toArray, List.map_cons, List.map_nil, eval_const, e121, e122, e123]
                  exact isE_congr5 (isr_move (P4.out.ir.later hb0) (edge40 P4.out.w40) s40_len ⟨by omega, by omega⟩ ⟨by omega, by omega⟩) (mv_set P4.out.w40 ax0 ax1 ay0 ay1)
                · rintro ez w' ⟨vr, rfl, hr, hb⟩
                  exact ⟨_, rfl, k _ _ trivial (hB.add z1 3 _ hb (by decide) (by decide) (fun z => absurd z (by decide)) (fun z => absurd z (by decide)) (fun _ => hr) (fun z => absurd z (by decide)))⟩
              | 4, ho =>
                obtain rfl := Option.some.inj ho
                intro Az Lz vz wy Kz Ez hB k
                have e4 : Az.eval (.tmp 4) = .pointer (some ⟨w1.heap.size + 1, 0, none⟩) := Ez.out 4 (by kernel_rfl)
                have z8 : Lz 7 = false := Ez.late 7 _ rfl (by kernel_rfl)
                have z1 := hB.c1 z8
                obtain ⟨hb0, _, _, h5, h8⟩ := hB.A z1
                exact wpo_val (v := .agg fc) (run_load e4 (load_field (blk_l P4.out.hf hb0) P4.out.fv)) (k _ _ rfl (hB.add z1 4 _ (Below.refl _ _) (by decide) (by decide) (fun z => absurd z (by decide)) (fun z => absurd z (by decide)) (fun z => absurd z (by decide)) (fun z => absurd z (by decide))))
              | 5, ho =>
                obtain rfl := Option.some.inj ho
                intro Az Lz vz wy Kz Ez hB k
                have e11 : Az.eval (.tmp 11) = .int .i64 ax := Ez.out 11 (by kernel_rfl)
                have z8 : Lz 7 = false := Ez.late 7 _ rfl (by kernel_rfl)
                have z1 := hB.c1 z8
                obtain ⟨hb0, _, _, h5, h8⟩ := hB.A z1
                exact wpo_val (v := .int .i64 ax) (run_move e11) (k _ _ rfl (hB.add z1 5 _ (Below.refl _ _) (by decide) (by decide) (fun z => absurd z (by decide)) (fun z => absurd z (by decide)) (fun z => absurd z (by decide)) (fun z => absurd z (by decide))))
              | 6, ho =>
                obtain rfl := Option.some.inj ho
                intro Az Lz vz wy Kz Ez hB k
                have e12 : Az.eval (.tmp 12) = .int .i64 ay := Ez.out 12 (by kernel_rfl)
                have z8 : Lz 7 = false := Ez.late 7 _ rfl (by kernel_rfl)
                have z1 := hB.c1 z8
                obtain ⟨hb0, _, _, h5, h8⟩ := hB.A z1
                exact wpo_val (v := .int .i64 ay) (run_move e12) (k _ _ rfl (hB.add z1 6 _ (Below.refl _ _) (by decide) (by decide) (fun z => absurd z (by decide)) (fun z => absurd z (by decide)) (fun z => absurd z (by decide)) (fun z => absurd z (by decide))))
              | 7, ho =>
                obtain rfl := Option.some.inj ho
                intro Az Lz vz wy Kz Ez hB k
                have e125 : Az.eval (.tmp 125) = .agg fc := Ez.dep 4 125 (by kernel_rfl) rfl
                have e126 : Az.eval (.tmp 126) = .int .i64 ax := Ez.dep 5 126 (by kernel_rfl) rfl
                have e127 : Az.eval (.tmp 127) = .int .i64 ay := Ez.dep 6 127 (by kernel_rfl) rfl
                have z1 : Lz 8 = false := Ez.late 8 _ rfl (by kernel_rfl)
                obtain ⟨hb0, _, _, h5, h8⟩ := hB.A z1
                refine wpo_call (run_callW (fun _ _ => by kernel_rfl)) (R := fun ez w' => ∃ gc, ez = .returned (.agg gc) ∧ Fv gc (mvF ax ay P) ∧ Below wy.heap.size wy w') ?_ ?_
                · simp only [List.map_toArray, List.map_cons, List.map_nil, eval_const, e125, e126, e127]
                  exact moved7_any ax ay (by omega) (by omega) (by omega) (by omega) fc P P4.out.fv wy
                · rintro ez w' ⟨gc', rfl, hr, hb⟩
                  exact ⟨_, rfl, k _ _ trivial (hB.add z1 7 _ hb (by decide) (by decide) (fun z => absurd z (by decide)) (fun z => absurd z (by decide)) (fun z => absurd z (by decide)) (fun _ => ⟨gc', rfl, hr⟩))⟩
              | 8, ho =>
                obtain rfl := Option.some.inj ho
                intro Az Lz vz wy Kz Ez hB k
                have e3 : Az.eval (.tmp 3) = .pointer (some ⟨w1.heap.size, 0, none⟩) := Ez.out 3 (by kernel_rfl)
                have e124 : Az.eval (.tmp 124) = vz 3 := Ez.dep 3 124 (by kernel_rfl) rfl
                have z1 : Lz 8 = false := Ez.not
                obtain ⟨a', n', c', e', hb0, hN⟩ := hB.st1 z1 (Ez.had 3 (by kernel_rfl)) (Ez.had 7 (by kernel_rfl)) (by decide) (by decide)
                have hk := blk_l P4.out.hr hb0
                have z := cell_of_row hk
                have f : wy.frozen? ⟨w1.heap.size, 0, none⟩ = false := by simp [World.frozen?, hk]
                exact wpo_skip (w' := wy.setCell ⟨w1.heap.size, 0, none⟩ (.slice a' n' c')) (run_store e3 (e124.trans e') (by simp [go_sem, z, f])) (k _ _ trivial (hN _))
              | 9, ho =>
                obtain rfl := Option.some.inj ho
                intro Az Lz vz wy Kz Ez hB k
                have e4 : Az.eval (.tmp 4) = .pointer (some ⟨w1.heap.size + 1, 0, none⟩) := Ez.out 4 (by kernel_rfl)
                have e128 : Az.eval (.tmp 128) = vz 7 := Ez.dep 7 128 (by kernel_rfl) rfl
                have z2 : Lz 9 = false := Ez.not
                obtain ⟨wy0, a', n', c', gc', e', hb0, fv', rfl, hN⟩ := hB.st2 z2 (Ez.had 8 (by kernel_rfl)) (by decide) (by decide)
                have hk : (wy0.setCell ⟨w1.heap.size, 0, none⟩ (.slice a' n' c')).heap[w1.heap.size + 1]? = some (.cells fc 29 (0, 0)) := by rw [Below.heap_setCell wy0 ⟨w1.heap.size, 0, none⟩ _ (w1.heap.size + 1) (by show w1.heap.size + 1 ≠ w1.heap.size; omega)]; exact blk_l P4.out.hf hb0
                exact wpo_skip (run_store e4 (e128.trans e') (store_row hk (fv_size fv') (by rw [P4.out.fv.size, fv'.size]) fv'.bools)) (k _ _ trivial (hN _))
              | n + 10, ho => simp at ho
            · obtain ⟨wy0, a', n', c', gc', hb0, ir5, fv5, rfl⟩ := hB.C (hL 9 (by decide))
              obtain ⟨P5, k5, r5⟩ := act_end (dx' := dx + ax) (dy' := dy + ay) P4.out hb0 ir5 fv5 PB.out (by omega) (by omega) (by omega) (by omega)
              generalize (wy0.setCell ⟨w1.heap.size, 0, none⟩ (.slice a' n' c')).setRow (w1.heap.size + 1) gc' = w5 at P5 k5 r5 ⊢
              have P5 := Lib.hid P5
              have K5 := Lib.hid (K4.out.trans k5)
              have R5 := Lib.hid r5
              have OB5 : Hid (w5.heap[bo]? = some (.cells #[.slice a n c] 26 (0, 0))) := Lib.hid ((k5.block bo (Array.getElem?_eq_some_iff.1 OB.out).1 (by simp; omega)).trans OB.out)
              have OQ5 : Hid (w5.heap[bq]? = some (.cells fc 29 (0, 0))) := Lib.hid ((k5.block bq (Array.getElem?_eq_some_iff.1 OQ.out).1 (by simp; omega)).trans OQ.out)
              have c5 := cell_of_row P5.out.hr
              have f5 := P5.out.hf
              have z5 := fv_size P5.out.fv
              clear k5 r5 hb0 ir5 fv5 hL hB
              simp only [puts2, mix, Act.put, List.setIfInBounds_toArray, List.set_cons_zero, List.set_cons_succ, Nat.zero_add, Nat.reduceAdd, List.getElem?_cons_zero, List.getElem?_cons_succ]
              go_wp2_with fail
              refine wp_load_row 29 (.tmp 4) rfl (w1.heap.size + 1) rfl 29 gc' (0, 0) (.array 40 27) f5 (by kernel_rfl) rfl z5 ?_
              go_wp2_with fail
              refine (same_set P5.out.ir P5.out.fv P5.out.w40).mono ?_
              rintro _ w6 ⟨rfl, hb⟩
              have P6 := Lib.hid (P5.out.later hb)
              have K6 := Lib.hid (K5.out.later hb)
              have R6 := Lib.hid (R5.out.later hb)
              have c6 := cell_of_row (blk_l OB5.out hb)
              have f6 := blk_l OQ5.out hb
              have z6 := fv_size P4.out.fv
              clear hb c5 f5 z5
              go_wp2_with fail
              refine wp_load_row 29 (.tmp 10) rfl bq rfl 29 fc (0, 0) (.array 40 27) f6 (by kernel_rfl) rfl z6 ?_
              go_wp2_with fail
              refine (same_set R6.out P4.out.fv P4.out.w40).mono ?_
              rintro _ w7 ⟨rfl, hb⟩
              have P7 := Lib.hid (P6.out.later hb)
              have K7 := Lib.hid (K6.out.later hb)
              clear hb c6 f6 z6
              go_wp2_with fail
              go_roundw
              case rel => exact ⟨j + 1, a', n', c', gc', _, dx + ax, dy + ay, rfl, rfl, by go_num, by omega, by omega, P7, K7⟩
              case measure => simp [intOf]; omega
    · by_cases l1 : j < gn
      · have l1' : (j : Int) < (gn : Int) := by omega
        have l2' : ¬ (j : Int) < 25 := by omega
        go_wp2_with fail
        go_loopw [13] (fun s13 wx => ∃ y : Nat, s13 = .int .i64 ((y : Int) - 1) ∧ y ≤ 42 ∧ Hid (PlS wx w1.heap.size (w1.heap.size + 1) a n c fc P dx dy) ∧ Hid (But [w1.heap.size, w1.heap.size + 1] wl wx)) (fun s13 _ => (41 - intOf s13).toNat)
        case atStart => exact ⟨0, rfl, by decide, HP, KB0⟩
        case round =>
          clear HP KB0
          obtain ⟨y, rfl, hy, HP, KB0⟩ := hrel
          obtain ⟨p, hp⟩ : ∃ p : Int, (y : Int) - 1 = p := ⟨_, rfl⟩
          rw [hp]
          by_cases y42 : p = 41
          · subst y42
            go_wp2_with fail
            go_returns
            exact ⟨rfl, But.below WL.out KB0.out (by have := WL.out.size; omega) (fun i hi => by simp at hi; omega)⟩
          · have yi : p ≤ 40 := by omega
            have y0 : -1 ≤ p := by omega
            go_wp2_with fail
            go_loopw [14] (fun s14 wx => ∃ x : Nat, s14 = .int .i64 ((x : Int) - 1) ∧ x ≤ 42 ∧ Hid (PlS wx w1.heap.size (w1.heap.size + 1) a n c fc P dx dy) ∧ Hid (But [w1.heap.size, w1.heap.size + 1] wl wx)) (fun s14 _ => (41 - intOf s14).toNat)
            case atStart => exact ⟨0, rfl, by decide, HP, KB0⟩
            case round =>
              clear HP KB0
              obtain ⟨x, rfl, hx, HP, KB0⟩ := hrel
              obtain ⟨q, hq⟩ : ∃ q : Int, (x : Int) - 1 = q := ⟨_, rfl⟩
              rw [hq]
              by_cases x42 : q = 41
              · subst x42
                go_wp2_with fail
                go_roundw
                case rel => exact ⟨y + 1, congrArg (Value.int .i64) (by omega), by omega, HP, KB0⟩
                case measure => simp [intOf]; omega
              · have xi : q ≤ 40 := by omega
                have x0 : -1 ≤ q := by omega
                have c9 := cell_of_row HP.out.hr
                have cs : (q < 0 ∧ P q p = false) ∨ (0 ≤ q ∧ p < 0 ∧ P q p = false) ∨ (0 ≤ q ∧ 0 ≤ p ∧ 40 ≤ q ∧ P q p = false) ∨ (0 ≤ q ∧ 0 ≤ p ∧ q < 40 ∧ 40 ≤ p ∧ P q p = false) ∨ (0 ≤ q ∧ 0 ≤ p ∧ q < 40 ∧ p < 40) := by
                  cases e : P q p
                  · simp
                    omega
                  · have := HP.out.w40 q p e
                    omega
                rcases cs with ⟨h1, h5⟩ | ⟨h1, h2, h5⟩ | ⟨h1, h2, h3, h5⟩ | ⟨h1, h2, h3, h4, h5⟩ | ⟨h1, h2, h3, h4⟩
                · go_wp2_with fail
                  refine (isr_has HP.out.ir q p).mono ?_
                  rintro _ w9 ⟨rfl, hb⟩
                  rw [h5]
                  have HP9 := Lib.hid (HP.out.later hb)
                  have KB9 := Lib.hid (KB0.out.later hb)
                  clear hb c9
                  go_wp2_with fail
                  go_roundw
                  case rel => exact ⟨x + 1, congrArg (Value.int .i64) (by omega), by omega, HP9, KB9⟩
                  case measure => simp [intOf]; omega
                · go_wp2_with fail
                  refine (isr_has HP.out.ir q p).mono ?_
                  rintro _ w9 ⟨rfl, hb⟩
                  rw [h5]
                  have HP9 := Lib.hid (HP.out.later hb)
                  have KB9 := Lib.hid (KB0.out.later hb)
                  clear hb c9
                  go_wp2_with fail
                  go_roundw
                  case rel => exact ⟨x + 1, congrArg (Value.int .i64) (by omega), by omega, HP9, KB9⟩
                  case measure => simp [intOf]; omega
                · go_wp2_with fail
                  refine (isr_has HP.out.ir q p).mono ?_
                  rintro _ w9 ⟨rfl, hb⟩
                  rw [h5]
                  have HP9 := Lib.hid (HP.out.later hb)
                  have KB9 := Lib.hid (KB0.out.later hb)
                  clear hb c9
                  go_wp2_with fail
                  go_roundw
                  case rel => exact ⟨x + 1, congrArg (Value.int .i64) (by omega), by omega, HP9, KB9⟩
                  case measure => simp [intOf]; omega
                · go_wp2_with fail
                  refine (isr_has HP.out.ir q p).mono ?_
                  rintro _ w9 ⟨rfl, hb⟩
                  rw [h5]
                  have HP9 := Lib.hid (HP.out.later hb)
                  have KB9 := Lib.hid (KB0.out.later hb)
                  clear hb c9
                  go_wp2_with fail
                  go_roundw
                  case rel => exact ⟨x + 1, congrArg (Value.int .i64) (by omega), by omega, HP9, KB9⟩
                  case measure => simp [intOf]; omega
                · obtain ⟨yy, rfl⟩ := Int.eq_ofNat_of_zero_le h2
                  obtain ⟨xx, rfl⟩ := Int.eq_ofNat_of_zero_le h1
                  have yl : yy < 40 := by omega
                  have xl : xx < 40 := by omega
                  have g1 := (cell_row HP.out.hf (yy * 40 + xx)).1
                  have g2 := HP.out.fv.get xx yy xl yl
                  rw [show 40 * yy + xx = yy * 40 + xx by omega] at g2
                  rw [g2] at g1
                  clear g2
                  obtain ⟨b, h5⟩ : ∃ b, P xx yy = b := ⟨_, rfl⟩
                  rw [h5] at g1
                  cases b
                  · go_wp2_with fail
                    refine (isr_has HP.out.ir xx yy).mono ?_
                    rintro _ w9 ⟨rfl, hb⟩
                    rw [h5]
                    have HP9 := Lib.hid (HP.out.later hb)
                    have KB9 := Lib.hid (KB0.out.later hb)
                    clear hb c9 g1
                    go_wp2_with fail
                    go_roundw
                    case rel => exact ⟨x + 1, congrArg (Value.int .i64) (by omega), by omega, HP9, KB9⟩
                    case measure => simp [intOf]; omega
                  · go_wp2_with fail
                    refine (isr_has HP.out.ir xx yy).mono ?_
                    rintro _ w9 ⟨rfl, hb⟩
                    rw [h5]
                    have HP9 := Lib.hid (HP.out.later hb)
                    have KB9 := Lib.hid (KB0.out.later hb)
                    clear hb c9 g1
                    go_wp2_with fail
                    go_roundw
                    case rel => exact ⟨x + 1, congrArg (Value.int .i64) (by omega), by omega, HP9, KB9⟩
                    case measure => simp [intOf]; omega
      · have l1' : ¬ (j : Int) < (gn : Int) := by omega
        go_wp2_with fail
        go_loopw [13] (fun s13 wx => ∃ y : Nat, s13 = .int .i64 ((y : Int) - 1) ∧ y ≤ 42 ∧ Hid (PlS wx w1.heap.size (w1.heap.size + 1) a n c fc P dx dy) ∧ Hid (But [w1.heap.size, w1.heap.size + 1] wl wx)) (fun s13 _ => (41 - intOf s13).toNat)
        case atStart => exact ⟨0, rfl, by decide, HP, KB0⟩
        case round =>
          clear HP KB0
          obtain ⟨y, rfl, hy, HP, KB0⟩ := hrel
          obtain ⟨p, hp⟩ : ∃ p : Int, (y : Int) - 1 = p := ⟨_, rfl⟩
          rw [hp]
          by_cases y42 : p = 41
          · subst y42
            go_wp2_with fail
            go_returns
            exact ⟨rfl, But.below WL.out KB0.out (by have := WL.out.size; omega) (fun i hi => by simp at hi; omega)⟩
          · have yi : p ≤ 40 := by omega
            have y0 : -1 ≤ p := by omega
            go_wp2_with fail
            go_loopw [14] (fun s14 wx => ∃ x : Nat, s14 = .int .i64 ((x : Int) - 1) ∧ x ≤ 42 ∧ Hid (PlS wx w1.heap.size (w1.heap.size + 1) a n c fc P dx dy) ∧ Hid (But [w1.heap.size, w1.heap.size + 1] wl wx)) (fun s14 _ => (41 - intOf s14).toNat)
            case atStart => exact ⟨0, rfl, by decide, HP, KB0⟩
            case round =>
              clear HP KB0
              obtain ⟨x, rfl, hx, HP, KB0⟩ := hrel
              obtain ⟨q, hq⟩ : ∃ q : Int, (x : Int) - 1 = q := ⟨_, rfl⟩
              rw [hq]
              by_cases x42 : q = 41
              · subst x42
                go_wp2_with fail
                go_roundw
                case rel => exact ⟨y + 1, congrArg (Value.int .i64) (by omega), by omega, HP, KB0⟩
                case measure => simp [intOf]; omega
              · have xi : q ≤ 40 := by omega
                have x0 : -1 ≤ q := by omega
                have c9 := cell_of_row HP.out.hr
                have cs : (q < 0 ∧ P q p = false) ∨ (0 ≤ q ∧ p < 0 ∧ P q p = false) ∨ (0 ≤ q ∧ 0 ≤ p ∧ 40 ≤ q ∧ P q p = false) ∨ (0 ≤ q ∧ 0 ≤ p ∧ q < 40 ∧ 40 ≤ p ∧ P q p = false) ∨ (0 ≤ q ∧ 0 ≤ p ∧ q < 40 ∧ p < 40) := by
                  cases e : P q p
                  · simp
                    omega
                  · have := HP.out.w40 q p e
                    omega
                rcases cs with ⟨h1, h5⟩ | ⟨h1, h2, h5⟩ | ⟨h1, h2, h3, h5⟩ | ⟨h1, h2, h3, h4, h5⟩ | ⟨h1, h2, h3, h4⟩
                · go_wp2_with fail
                  refine (isr_has HP.out.ir q p).mono ?_
                  rintro _ w9 ⟨rfl, hb⟩
                  rw [h5]
                  have HP9 := Lib.hid (HP.out.later hb)
                  have KB9 := Lib.hid (KB0.out.later hb)
                  clear hb c9
                  go_wp2_with fail
                  go_roundw
                  case rel => exact ⟨x + 1, congrArg (Value.int .i64) (by omega), by omega, HP9, KB9⟩
                  case measure => simp [intOf]; omega
                · go_wp2_with fail
                  refine (isr_has HP.out.ir q p).mono ?_
                  rintro _ w9 ⟨rfl, hb⟩
                  rw [h5]
                  have HP9 := Lib.hid (HP.out.later hb)
                  have KB9 := Lib.hid (KB0.out.later hb)
                  clear hb c9
                  go_wp2_with fail
                  go_roundw
                  case rel => exact ⟨x + 1, congrArg (Value.int .i64) (by omega), by omega, HP9, KB9⟩
                  case measure => simp [intOf]; omega
                · go_wp2_with fail
                  refine (isr_has HP.out.ir q p).mono ?_
                  rintro _ w9 ⟨rfl, hb⟩
                  rw [h5]
                  have HP9 := Lib.hid (HP.out.later hb)
                  have KB9 := Lib.hid (KB0.out.later hb)
                  clear hb c9
                  go_wp2_with fail
                  go_roundw
                  case rel => exact ⟨x + 1, congrArg (Value.int .i64) (by omega), by omega, HP9, KB9⟩
                  case measure => simp [intOf]; omega
                · go_wp2_with fail
                  refine (isr_has HP.out.ir q p).mono ?_
                  rintro _ w9 ⟨rfl, hb⟩
                  rw [h5]
                  have HP9 := Lib.hid (HP.out.later hb)
                  have KB9 := Lib.hid (KB0.out.later hb)
                  clear hb c9
                  go_wp2_with fail
                  go_roundw
                  case rel => exact ⟨x + 1, congrArg (Value.int .i64) (by omega), by omega, HP9, KB9⟩
                  case measure => simp [intOf]; omega
                · obtain ⟨yy, rfl⟩ := Int.eq_ofNat_of_zero_le h2
                  obtain ⟨xx, rfl⟩ := Int.eq_ofNat_of_zero_le h1
                  have yl : yy < 40 := by omega
                  have xl : xx < 40 := by omega
                  have g1 := (cell_row HP.out.hf (yy * 40 + xx)).1
                  have g2 := HP.out.fv.get xx yy xl yl
                  rw [show 40 * yy + xx = yy * 40 + xx by omega] at g2
                  rw [g2] at g1
                  clear g2
                  obtain ⟨b, h5⟩ : ∃ b, P xx yy = b := ⟨_, rfl⟩
                  rw [h5] at g1
                  cases b
                  · go_wp2_with fail
                    refine (isr_has HP.out.ir xx yy).mono ?_
                    rintro _ w9 ⟨rfl, hb⟩
                    rw [h5]
                    have HP9 := Lib.hid (HP.out.later hb)
                    have KB9 := Lib.hid (KB0.out.later hb)
                    clear hb c9 g1
                    go_wp2_with fail
                    go_roundw
                    case rel => exact ⟨x + 1, congrArg (Value.int .i64) (by omega), by omega, HP9, KB9⟩
                    case measure => simp [intOf]; omega
                  · go_wp2_with fail
                    refine (isr_has HP.out.ir xx yy).mono ?_
                    rintro _ w9 ⟨rfl, hb⟩
                    rw [h5]
                    have HP9 := Lib.hid (HP.out.later hb)
                    have KB9 := Lib.hid (KB0.out.later hb)
                    clear hb c9 g1
                    go_wp2_with fail
                    go_roundw
                    case rel => exact ⟨x + 1, congrArg (Value.int .i64) (by omega), by omega, HP9, KB9⟩
                    case measure => simp [intOf]; omega
end Go.Proofs.Ytjemnjboopabpaa
/- What every law's row shares: a call that returns true and lays only new blocks: the arguments read as they did, whatever their types. -/
namespace Go.Proofs.Ytjemnjboopabpaa
open Go.ChangeShapes Go.WideShapes Go.ChangeAt Go.RowKit
set_option linter.unusedVariables false

theorem Try.own : ownKnob Try.prog.godebug = none := by kernel_rfl
theorem Try.laidOut : laidOutB Try.prog = true := by kernel_rfl

theorem trodAll_below {H : Type} {enc : TypeId × Value → H} {W W' : World} (hb : Below W.heap.size W W') :
    ∀ (ts : List TypeId) (vs : List Value) (ds : List (DataW H)) (ps : List MemPlace), (∀ t ∈ ts, Try.prog.readableRec t = true ∧ t < Try.prog.types.size) →
      DataW.TrodAll enc Try.prog W 0 (fun _ => true) true ts vs ds ps → (∀ x ∈ ps, x.block < W.heap.size) →
      DataW.TrodAll enc Try.prog W' 0 (fun b => decide (b < W.heap.size)) true ts vs ds ps := by
  intro ts
  induction ts with
  | nil =>
    intro vs ds ps _ h _
    obtain ⟨rfl, rfl, rfl⟩ := trodAll_nil h
    exact trodAll_mk0
  | cons t ts ih =>
    intro vs ds ps ht h hlt
    obtain ⟨v, vs1, d, ds1, a, b, rfl, rfl, rfl, h1, h2⟩ := trodAll_cons h
    have k := ht t (by simp)
    exact trodAll_cons_mk (Below.trod Try.laidOut k.1 k.2 h1 hb (fun x hx => hlt x (by simp [hx]))) (ih vs1 ds1 b (fun t' m => ht t' (by simp [m])) h2 (fun x hx => hlt x (by simp [hx])))

/-- the post of a law: its one result is the bool true -/
theorem law_post {H : Type} {enc : TypeId × Value → H} {f : Func} {s : ChangeSpec} {W W' : World} {args : Array Value} {ds : List (DataW H)} {before : List MemPlace}
    (hr : f.resultTypes = #[4]) (hv : s.vars = []) (hr4 : Try.prog.underlying 4 = some .bool)
    (hW : DataW.Whole enc Try.prog f.params.toList s.vars false W args.toList ds [] before)
    (hA : DataW.TrodAll enc Try.prog W 0 (fun _ => true) true f.params.toList args.toList ds before)
    (ht : ∀ t ∈ f.params.toList, Try.prog.readableRec t = true ∧ t < Try.prog.types.size)
    (e1 : (s.fn H (ds ++ [])).results = [.lit (.bool true)]) (e2 : (s.fn H (ds ++ [])).args = ds) (e3 : (s.fn H (ds ++ [])).vars = [])
    (hb : Below W.heap.size W W') : s.post enc Try.prog f false true false false W args (.bool true) W' := by
  refine ⟨ds, [], before, [], before, [], hW, ?_, ?_, by rw [e3, hv]; rfl, hb.frame _, fun h => by cases h⟩
  · rw [e1, hr]; exact trodAll_mk1 (shut_bool hr4 _)
  · rw [e2]; exact trodAll_below hb _ _ _ _ ht hA (fun x hx => by simpa using hW.lt x hx)
end Go.Proofs.Ytjemnjboopabpaa
namespace Go.Proofs.Ytjemnjboopabpaa.regionPlays
open Go.Joins Go.ChangeShapes Go.WideShapes Go.ChangeAt Go.RowKit Go.WideMaps Go.Deep Go.Proofs.Bands
set_option linter.unusedVariables false
theorem spot_none {w : World} {a : Addr} {v : Value} (h : w.cell? a = some v) : ∃ g o, a = ⟨g, o, none⟩ := by
  obtain ⟨g, o, s⟩ := a
  cases s with
  | none => exact ⟨g, o, rfl⟩
  | some x =>
    unfold World.cell? at h
    split at h
    · simp at h
    · cases h
set_option maxRecDepth 100000 in
theorem lifted (os : Os) (started : os.Started) (H : Type) (enc : TypeId × Value → H) :
    ReturnsInHanded {} Try.checked os 3 .any (Rows.regionPlaysSpec.pre6 enc Try.prog Try.f3 Rows.regionPlaysRow.domain false) (Rows.regionPlaysSpec.post enc Try.prog Try.f3 false true false false) := by
  refine returnsInHanded_of_change (C := Try.checked) Try.own started (by kernel_rfl) Try.func3
    (ChangeSpec.witness6 (enc := enc) (C := Try.checked) false ⟨#[], #[.slice none 0 0], []⟩ 8 (by kernel_rfl) (by kernel_rfl) (by kernel_rfl) (by kernel_rfl)) ?_
  intro W base args ds gs before hval0 hW hcnd _
  have hval : ∀ (j : Nat) t v, Try.f3.params[j]? = some t → args[j]? = some v → Value.okWide Try.prog W .any base t v := hval0
  have hW' := hW
  obtain ⟨p, q, hA0, hV, rfl, hfz, hnd⟩ := hW
  have hA : DataW.TrodAll enc Try.prog W 0 (fun _ => true) true Try.f3.params.toList args.toList ds p := hA0
  obtain ⟨rfl, rfl⟩ := trodVars_none hV
  have hAk := hA
  rw [Try.params3] at hA hval
  obtain ⟨v0, vs0, d0, ds0, p0, q0, hargs, rfl, rfl, h0, r0⟩ := trodAll_cons hA
  obtain ⟨rfl, rfl, rfl⟩ := trodAll_nil r0
  obtain rfl : args = #[v0] := by cases args; simp_all
  obtain ⟨sxs, lenxs, capxs, rfl⟩ := okWide_slice Try.underlying22 (hval 0 22 v0 rfl rfl)
  obtain ⟨fuelxs, hfxs⟩ := h0
  have hc5 : Try.prog.cellsOf 36 = 5 := by kernel_rfl
  have hcr : Try.prog.cellsOf 34 = 4 := by kernel_rfl
  have hcu : Try.prog.cellsOf 5 = 1 := by kernel_rfl
  obtain ⟨rs, hRS, hI⟩ : ∃ rs : List Q5, AS W (.slice sxs lenxs capxs) rs ∧ ∀ r ∈ rs, In5 r := by
    rcases open_slice Try.underlying22 hfxs with ⟨hcs, hx⟩ | ⟨a, len', cap', m, n, D, Pl, hcs, _, hle, hmax, hm, hx, hall⟩
    · simp [Value.cells] at hcs
      obtain ⟨rfl, rfl, rfl⟩ := hcs
      exact ⟨[], ⟨none, 0, 0, rfl, rfl, by omega, by decide, fun h => by omega⟩, fun r mr => by cases mr⟩
    · simp [Value.cells] at hcs
      obtain ⟨rfl, rfl, rfl⟩ := hcs
      have hlm : lenxs ≤ m := by rw [hm]; split <;> omega
      have hmx : capxs ≤ 9223372036854775807 := by simpa [maxLen] using hmax
      have each : ∀ i, i < lenxs → ∃ r : Q5, (W.cell? ((a.add (i * 5)).add 0) = some (.int .u8 r.1) ∧ W.cell? ((a.add (i * 5)).add 1) = some (.int .u8 r.2.1) ∧ W.cell? ((a.add (i * 5)).add 2) = some (.int .u8 r.2.2.1) ∧ W.cell? ((a.add (i * 5)).add 3) = some (.int .u8 r.2.2.2.1) ∧ W.cell? ((a.add (i * 5)).add 4) = some (.int .u8 r.2.2.2.2)) ∧ In5 r := by
        intro i hi
        obtain ⟨cs', g1, g2⟩ := hall i (by omega)
        rw [hc5] at g1
        obtain ⟨_, hlen, hcell⟩ := World.cells?_some g1
        obtain ⟨y0, y1, n1, _, _, t0, t1⟩ := trod_struct2 Try.underlying36 g2
        match cs', hlen with
        | [u0, u1, u2, u3, u4], _ =>
          simp only [hcr, hcu, List.drop_zero, List.drop_succ_cons, List.take_succ_cons, List.take_zero] at t0 t1
          obtain ⟨b0, b1, b2, b3, n2, _, _, s0, s1, s2, s3⟩ := trod_struct4 Try.underlying34 t1
          simp only [hcu, List.drop_zero, List.drop_succ_cons, List.take_succ_cons, List.take_zero] at s0 s1 s2 s3
          obtain ⟨z0, e0, _, w0⟩ := DataW.trod_int Try.underlying5 t0
          obtain ⟨z1, e1, _, w1⟩ := DataW.trod_int Try.underlying5 s0
          obtain ⟨z2, e2, _, w2⟩ := DataW.trod_int Try.underlying5 s1
          obtain ⟨z3, e3, _, w3⟩ := DataW.trod_int Try.underlying5 s2
          obtain ⟨z4, e4, _, w4⟩ := DataW.trod_int Try.underlying5 s3
          simp at e0 e1 e2 e3 e4
          subst e0 e1 e2 e3 e4
          exact ⟨(z0, z1, z2, z3, z4), ⟨hcell 0 (by decide), hcell 1 (by decide), hcell 2 (by decide), hcell 3 (by decide), hcell 4 (by decide)⟩, bounds_u8 w0, bounds_u8 w1, bounds_u8 w2, bounds_u8 w3, bounds_u8 w4⟩
      obtain ⟨f, hf⟩ := choose_lt each
      refine ⟨(List.range lenxs).map f, ⟨some a, lenxs, capxs, rfl, by simp, hle, hmx, fun hn => ?_⟩, fun r mr => ?_⟩
      · have c0 := (hf 0 hn).1.1
        have e0 : (a.add (0 * 5)).add 0 = a := by simp [Addr.add]
        rw [e0] at c0
        obtain ⟨g, o, rfl⟩ := spot_none c0
        have ad : ∀ i k, ((⟨g, o, none⟩ : Addr).add (i * 5)).add k = ⟨g, o + i * 5 + k, none⟩ := fun i k => by
          rw [add_none, add_none]
        refine ⟨g, o, rfl, fun k r hk => ?_⟩
        have lk := (List.getElem?_eq_some_iff.1 hk).1
        simp at lk
        have er : r = f k := by
          rw [List.getElem?_map, List.getElem?_range lk] at hk
          exact (Option.some.inj hk).symm
        obtain ⟨⟨q0, q1, q2, q3, q4⟩, _⟩ := hf k lk
        rw [ad] at q0 q1 q2 q3 q4
        rw [er]
        exact ⟨by simpa using q0, q1, q2, q3, q4⟩
      · obtain ⟨k, mk, rfl⟩ := List.mem_map.1 mr
        exact (hf k (List.mem_range.1 mk)).2
  clear hA0 hval0
  simp only [List.append_nil] at hW' hAk
  refine (law_plays _ rs W hRS hI).mono fun e W' ⟨he, hb⟩ => ?_
  subst he
  exact ⟨_, rfl, law_post rfl rfl Try.underlying4 hW' hAk (of_decide_eq_true (by kernel_rfl)) rfl rfl rfl hb⟩

/-- The statement. -/
theorem proved : Rows.RegionPlaysSaid :=
  OpenClaim.holds_of_wide 3 Try.f3 rfl rfl rfl rfl rfl rfl rfl ⟨rfl, rfl, rfl, rfl, rfl⟩ rfl rfl rfl rfl rfl (by kernel_rfl) Try.func3 (by kernel_rfl)
    (of_decide_eq_true (by kernel_rfl)) (by unfold Func.isWrapper; first | (rw [if_pos (by decide +kernel)]; kernel_rfl) | (rw [if_neg (by decide +kernel)]; exact ⟨rfl, rfl⟩))
    (fun os started H enc _ => lifted os started H enc)
#print axioms proved
end Go.Proofs.Ytjemnjboopabpaa.regionPlays
