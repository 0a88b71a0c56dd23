/- Package damage: what it keeps. -/
import Derived.Test.YtfhepaiefdmlcaaFar4
import Derived.WalkKit
import Derived.WalkSpells
import Derived.WalkLawsBesides
import Derived.Handy
import Derived.Lib.Hide
import Derived.Outline
import Derived.Deep.QuietTactic
import Derived.BigQuiet
import Derived.LoopTactic
import Derived.Deep.RegionHeld3
import Derived.Deep.RegionWith
import Derived.Deep.DeepCutAuto
namespace Go.Proofs.Ytfhepaiefdmlcaa
open Go.RowKit Go.Proofs.Reg Go.Proofs.Big Go.Proofs.Bands
set_option linter.unusedVariables false
set_option linter.unusedSimpArgs false
set_option maxRecDepth 100000
/-- of the operations of a region those of whose values a lasting property is known -/
def Exs (ks : List Nat) (Ks : Nat → Value → World → Prop) (L : Nat → Bool) (vz : Nat → Value) (w : World) : Prop := ∀ i ∈ ks, L i = true → Ks i (vz i) w
theorem Exs.start (ks : List Nat) (Ks : Nat → Value → World → Prop) (vz : Nat → Value) (w : World) : Exs ks Ks (fun _ => false) vz w := fun _ _ h => by cases h
theorem Exs.later {ks : List Nat} {Ks : Nat → Value → World → Prop} {L : Nat → Bool} {vz : Nat → Value} {w w' : World} (h : Exs ks Ks L vz w) (hp : ∀ (i : Nat) (v : Value) (w w' : World), Ks i v w → Below w.heap.size w w' → Ks i v w') (hb : Below w.heap.size w w') : Exs ks Ks L vz w' := fun i m l => hp i _ w w' (h i m l) hb
theorem Exs.other {ks : List Nat} {Ks : Nat → Value → World → Prop} {L : Nat → Bool} {vz : Nat → Value} {w : World} (h : Exs ks Ks L vz w) (j : Nat) (v : Value) (hj : j ∉ ks) : Exs ks Ks (addL L j) (upd vz j v) w := fun i m l => by
  have ne : i ≠ j := fun e => hj (e ▸ m)
  have := h i m (by simpa [addL, ne] using l)
  simpa [upd, ne] using this
theorem Exs.add {ks : List Nat} {Ks : Nat → Value → World → Prop} {L : Nat → Bool} {vz : Nat → Value} {w : World} (h : Exs ks Ks L vz w) (j : Nat) (v : Value) (hr : Ks j v w) : Exs ks Ks (addL L j) (upd vz j v) w := fun i m l => by
  by_cases e : i = j
  · subst e
    simpa [upd] using hr
  · have := h i m (by simpa [addL, e] using l)
    simpa [upd, e] using this
theorem run_nilCheck {A : Act} {w : World} {P : Program} {p : Operand} {q : Addr} {ty : TypeId} {x : Option Tmp} {ps : String} {af : Array Edge} {gd : Option (Nat × Bool)} (e : A.eval p = .pointer (some q)) :
    (execOp A.eval ⟨x, .nilCheck p, ty, ps, af, gd⟩).run P w = .ok (.value (.pointer (some q))) w := by
  simp only [execOp, e]
  simp [go_sem]
theorem run_lenA {A : Act} {w : World} {p : Operand} {v : Value} {n : Nat} {ty : TypeId} {x : Option Tmp} {ps : String} {af : Array Edge} {gd : Option (Nat × Bool)} (e : A.eval p = v) (h : ∃ a c, v = .slice a n c) :
    (execOp A.eval ⟨x, .call ⟨.builtin .len, #[p], #[62]⟩, ty, ps, af, gd⟩).run Try.prog w = .ok (.value (.int .i64 n)) w := by
  obtain ⟨a, c, rfl⟩ := h
  exact run_lenR e
theorem dam_ne_int : (109 : TypeId) ≠ 3 := by decide
/-- what reads regions and rectangles stays where a damage is written -/
theorem EV.setD {w : World} {v : Value} {es : List Int} (h : EV w v es) {b : Nat} {cs : Array Value} {fz : Nat × Nat} (hk : w.heap[b]? = some (.cells cs 109 fz)) (i : Nat) (u : Value) : EV (w.setCell ⟨b, i, none⟩ u) v es :=
  h.kept fun g cs' fz' hg => by
    refine Below.heap_setCell _ _ _ _ ?_
    rintro rfl
    rw [hk] at hg
    simp only [Option.some.injEq, Obj.cells.injEq] at hg
    exact absurd hg.2.1 dam_ne_int
theorem BS.setD {w : World} {v : Value} {l : List Bd} (h : BS w v l) {b : Nat} {n x c : Value} {fz : Nat × Nat} (hk : w.heap[b]? = some (.cells #[n, x, c] 109 fz)) (hx : ∀ k, x ≠ .int .i64 k) (i : Nat) (u : Value) : BS (w.setCell ⟨b, i, none⟩ u) v l := by
  obtain ⟨a, m, cp, xs, rfl, h1, h2, h3, h4, h5⟩ := h
  refine ⟨a, m, cp, xs, rfl, h1.all fun _ _ e => e.setD hk i u, h2, h3, h4, fun hn => ?_⟩
  obtain ⟨g, hg, hc⟩ := h5 hn
  refine ⟨g, hg, fun j y hj => ?_⟩
  have gb : g ≠ b := fun e => by
    obtain ⟨ev, x0, x1, _⟩ := h1.get 0 l[0] (List.getElem?_eq_getElem (by omega))
    have := hc _ _ x1
    rw [e] at this
    simp [World.cell?, hk] at this
    exact hx _ this
  rw [World.cell?_of_block (Below.heap_setCell w ⟨b, i, none⟩ u g gb)]
  exact hc j y hj
theorem Rg.setD {w : World} {v : Value} {l : List Bd} (h : Rg w v l) {b : Nat} {n x c : Value} {fz : Nat × Nat} (hk : w.heap[b]? = some (.cells #[n, x, c] 109 fz)) (hx : ∀ k, x ≠ .int .i64 k) (i : Nat) (u : Value) : Rg (w.setCell ⟨b, i, none⟩ u) v l := by
  obtain ⟨⟨v, rfl, bs⟩, wf, ir⟩ := h
  exact ⟨⟨v, rfl, bs.setD hk hx i u⟩, wf, ir⟩
theorem heap_set3 {w : World} {b : Nat} {x y z : Value} {t : TypeId} {fz : Nat × Nat} (hk : w.heap[b]? = some (.cells #[x, y, z] t fz)) (u : Value) : (w.setCell ⟨b, 1, none⟩ u).heap[b]? = some (.cells #[x, u, z] t fz) ∧ (w.setCell ⟨b, 2, none⟩ u).heap[b]? = some (.cells #[x, y, u] t fz) := by
  constructor <;> simp [World.setCell, Array.getElem?_modify, hk]
/-- a damage of at most so many rectangles: its bands, and whether it is coarse -/
structure DmS (w : World) (b : Nat) (n : Int) (a : Option Addr) (m c : Nat) (l : List Bd) (co : Bool) : Prop where
  hk : w.heap[b]? = some (.cells #[.int .i64 n, .slice a m c, .bool co] 109 (0, 0))
  rg : Rg w (.agg #[.slice a m c]) l
theorem DmS.later {w w' : World} {b : Nat} {n : Int} {a : Option Addr} {m c : Nat} {l : List Bd} {co : Bool} (h : DmS w b n a m c l co) (hb : Below w.heap.size w w') : DmS w' b n a m c l co :=
  ⟨(hb.block b (Array.getElem?_eq_some_iff.1 h.hk).1).trans h.hk, h.rg.later hb⟩
theorem DmS.cells {w : World} {b : Nat} {n : Int} {a : Option Addr} {m c : Nat} {l : List Bd} {co : Bool} (h : DmS w b n a m c l co) : w.cell? ⟨b, 0, none⟩ = some (.int .i64 n) ∧ w.cell? ⟨b, 1, none⟩ = some (.slice a m c) ∧ w.cell? ⟨b, 2, none⟩ = some (.bool co) ∧ w.frozen? ⟨b, 1, none⟩ = false ∧ w.frozen? ⟨b, 2, none⟩ = false := by
  have hk := h.hk
  simp [World.cell?, World.frozen?, hk]
theorem DmS.tab {w : World} {b : Nat} {n : Int} {a : Option Addr} {m c : Nat} {l : List Bd} {co : Bool} (h : DmS w b n a m c l co) : Tab w [(b, [.int .i64 n, .slice a m c, .bool co])] :=
  (Tab.nil w).cons fun i v hi => by
    have hk := h.hk
    match i, hi with
    | 0, hi => simp at hi; subst hi; simp [World.cell?, World.frozen?, hk]
    | 1, hi => simp at hi; subst hi; simp [World.cell?, World.frozen?, hk]
    | 2, hi => simp at hi; subst hi; simp [World.cell?, World.frozen?, hk]
    | i + 3, hi => simp at hi
/-- a new region in it -/
theorem DmS.put {w : World} {b : Nat} {n : Int} {a : Option Addr} {m c : Nat} {l : List Bd} {co : Bool} (h : DmS w b n a m c l co) {a' : Option Addr} {m' c' : Nat} {l' : List Bd} (hr : Rg w (.agg #[.slice a' m' c']) l') : DmS (w.setCell ⟨b, 1, none⟩ (.slice a' m' c')) b n a' m' c' l' co :=
  ⟨(heap_set3 h.hk _).1, hr.setD h.hk (fun k e => by cases e) 1 _⟩
theorem DmS.coarse {w : World} {b : Nat} {n : Int} {a : Option Addr} {m c : Nat} {l : List Bd} {co : Bool} (h : DmS w b n a m c l co) (co' : Bool) : DmS (w.setCell ⟨b, 2, none⟩ (.bool co')) b n a m c l co' :=
  ⟨(heap_set3 h.hk _).2, h.rg.setD h.hk (fun k e => by cases e) 2 _⟩
theorem dnew_any (n : Int) (h0 : 1 ≤ n) (h1 : n ≤ 64) (w : World) : Calls Try.prog 29 #[.int .i64 n] w fun e w' => e = .returned (.tuple #[.pointer (some ⟨w.heap.size, 0, none⟩), .int .i64 0]) ∧ DmS w' w.heap.size n none 0 0 [] false ∧ Below w.heap.size w w' := by
  have a : ¬ n < 1 := by omega
  have b : ¬ 64 < n := by omega
  go_enter Try.func29, Try.ntmps29
  go_wp2_with fail
  go_returns
  exact ⟨rfl, ⟨heap_alloc_new _ _, Rg.nil _⟩, by go_grown⟩
theorem dcoarse_any {w : World} {b : Nat} {n : Int} {a : Option Addr} {m c : Nat} {l : List Bd} {co : Bool} (h : DmS w b n a m c l co) : Calls Try.prog 34 #[.pointer (some ⟨b, 0, none⟩)] w fun e w' => e = .returned (.bool co) ∧ Below w.heap.size w w' := by
  obtain ⟨c0, c1, c2, _, _⟩ := h.cells
  clear h
  go_enter Try.func34, Try.ntmps34
  go_wp2_with fail
  go_returns
  exact ⟨rfl, Below.refl _ _⟩
theorem dregion_any {w : World} {b : Nat} {n : Int} {a : Option Addr} {m c : Nat} {l : List Bd} {co : Bool} (h : DmS w b n a m c l co) : Calls Try.prog 31 #[.pointer (some ⟨b, 0, none⟩)] w fun e w' => e = .returned (.agg #[.slice a m c]) ∧ Rg w' (.agg #[.slice a m c]) l ∧ Below w.heap.size w w' := by
  obtain ⟨c0, c1, c2, _, _⟩ := h.cells
  have HR := Lib.hid h.rg
  have lt := World.block_lt_of_cell? w _ c1
  simp only at lt
  have ne : ¬ w.heap.size = b := by omega
  clear h
  go_enter Try.func31, Try.ntmps31
  go_wp2_with fail
  go_returns
  exact ⟨rfl, HR.out.later (by go_grown), by go_grown⟩
end Go.Proofs.Ytfhepaiefdmlcaa
/- Package damage: coarsening, joining, adding. Made by gen/dam.py. -/
namespace Go.Proofs.Ytfhepaiefdmlcaa
open Go.RowKit Go.Proofs.Reg Go.Proofs.Big Go.Proofs.Bands
set_option linter.unusedVariables false
set_option linter.unusedSimpArgs false
set_option maxRecDepth 100000
/-- what coarsening leaves -/
def CoR (w : World) (b : Nat) (n : Int) (l : List Bd) (co : Bool) (e : Ending) (w' : World) : Prop :=
  e = .returned (.tuple #[]) ∧ But [b] w w' ∧ ∃ a m c l' co', DmS w' b n a m c l' co' ∧ ((((rectsB l).length : Int) ≤ n ∧ l' = l ∧ co' = co) ∨ (n < ((rectsB l).length : Int) ∧ co' = true ∧ ∃ q, Hl (hasP l) q ∧ ∀ x y, hasP l' x y = inQ q x y))
theorem hl_ok4 {P : Int → Int → Bool} {q : Q4} (h : Hl P q) : Ok4 q := by
  rcases h with ⟨e, _⟩ | ⟨f, _⟩
  · exact .inl e
  · exact .inr f
set_option maxHeartbeats 4000000 in
theorem dcoarsen_any {w : World} {b : Nat} {n : Int} {a : Option Addr} {m c : Nat} {l : List Bd} {co : Bool} (h : DmS w b n a m c l co) (few : Few l) (n0 : 1 ≤ n) (n1 : n ≤ 64) : Calls Try.prog 98 #[.pointer (some ⟨b, 0, none⟩)] w (CoR w b n l co) := by
  have HD := Lib.hid h
  have FW := Lib.hid few
  obtain ⟨q, hq⟩ : ∃ q, (rectsB l).length = q := ⟨_, rfl⟩
  have HQ := Lib.hid hq
  have RC : Hid (∀ wy, Below w.heap.size w wy → Calls Try.prog 32 #[.agg #[.slice a m c]] wy fun e w' => ∃ v, e = .returned v ∧ (∃ x y, v = .slice x q y) ∧ Below wy.heap.size wy w') := Lib.hid (fun wy hb => by
    refine (rects_any _ l wy (h.rg.later hb) few).mono ?_
    rintro e w' ⟨v, rfl, hr, _, hb⟩
    obtain ⟨x, k, y, rfl, hk, _⟩ := hr.cells
    rw [hk, hq]
    exact ⟨_, rfl, ⟨_, _, rfl⟩, hb⟩)
  have KB := Lib.hid (Below.refl w.heap.size w)
  have KT := Lib.hid h.tab
  have lb := (Array.getElem?_eq_some_iff.1 h.hk).1
  clear h few hq
  by_cases g : n < (q : Int)
  · go_enter Try.func98, Try.ntmps98
    go_wp2_with fail
    have EP : ∀ (i : Nat) (v : Value) (w w' : World), ((fun i => match i with | 4 => fun v _ => ∃ x y, v = .slice x q y | _ => fun _ _ => True) : Nat → Value → World → Prop) i v w → Below w.heap.size w w' → ((fun i => match i with | 4 => fun v _ => ∃ x y, v = .slice x q y | _ => fun _ _ => True) : Nat → Value → World → Prop) i v w' := by
      intro i v w w' h hb
      try dsimp only at h ⊢
      split at h <;> first | exact IsR.later h hb | exact RS.later h hb | exact h | trivial | (split <;> trivial)
    refine wp_region_vals [some (.pointer (some ⟨b, 0, none⟩)), some (.pointer (some ⟨b, 0, none⟩)), some (.pointer (some ⟨b, 1, none⟩)), some (.agg #[.slice a m c]), none, some (.int .i64 q), some (.pointer (some ⟨b, 0, none⟩)), some (.pointer (some ⟨b, 0, none⟩)), some (.pointer (some ⟨b, 0, none⟩)), some (.int .i64 n), some (.bool true)] (fun Lz vz wy => Below w.heap.size w wy ∧ Tab wy [(b, [.int .i64 n, .slice a m c, .bool co])] ∧ Exs [4] ((fun i => match i with | 4 => fun v _ => ∃ x y, v = .slice x q y | _ => fun _ _ => True) : Nat → Value → World → Prop) Lz vz wy)
      [some 2, some 3, some 4, some 5, some 6, some 7, some 8, some 9, some 10, some 11, some 12] (by kernel_rfl) (by kernel_rfl) (by kernel_rfl) (by kernel_rfl) (by kernel_rfl) (by kernel_rfl) ⟨KB.out.drew, KT.out.later ((Below.refl _ _).drew), Exs.start _ _ _ _⟩ (fun i o ho => ?_) (fun Lz vz wz hL hB => ?_)
    · match i, ho with
      | 0, ho =>
        obtain rfl := Option.some.inj ho
        intro Az Lz vz wy Kz Ez hB k
        have e0 : Az.eval (.tmp 0) = .pointer (some ⟨b, 0, none⟩) := Ez.out 0 (by kernel_rfl)
        exact wpo_val (v := .pointer (some ⟨b, 0, none⟩)) (run_move e0) (k _ _ rfl ⟨hB.1, hB.2.1, hB.2.2.other 0 _ (by decide)⟩)
      | 1, ho =>
        obtain rfl := Option.some.inj ho
        intro Az Lz vz wy Kz Ez hB k
        have e2 : Az.eval (.tmp 2) = .pointer (some ⟨b, 0, none⟩) := Ez.dep 0 2 (by kernel_rfl) rfl
        exact wpo_val (v := .pointer (some ⟨b, 0, none⟩)) (run_nilCheck e2) (k _ _ rfl ⟨hB.1, hB.2.1, hB.2.2.other 1 _ (by decide)⟩)
      | 2, ho =>
        obtain rfl := Option.some.inj ho
        intro Az Lz vz wy Kz Ez hB k
        have e3 : Az.eval (.tmp 3) = .pointer (some ⟨b, 0, none⟩) := Ez.dep 1 3 (by kernel_rfl) rfl
        exact wpo_val (v := .pointer (some ⟨b, 1, none⟩)) (run_field e3 (by simp [go_sem])) (k _ _ rfl ⟨hB.1, hB.2.1, hB.2.2.other 2 _ (by decide)⟩)
      | 3, ho =>
        obtain rfl := Option.some.inj ho
        intro Az Lz vz wy Kz Ez hB k
        have e4 : Az.eval (.tmp 4) = .pointer (some ⟨b, 1, none⟩) := Ez.dep 2 4 (by kernel_rfl) rfl
        exact wpo_val (v := .agg #[.slice a m c]) (run_load e4 (by have z := hB.2.1.cell 0 1 rfl rfl; simp [go_sem, z])) (k _ _ rfl ⟨hB.1, hB.2.1, hB.2.2.other 3 _ (by decide)⟩)
      | 4, ho =>
        obtain rfl := Option.some.inj ho
        intro Az Lz vz wy Kz Ez hB k
        have e5 : Az.eval (.tmp 5) = .agg #[.slice a m c] := Ez.dep 3 5 (by kernel_rfl) rfl
        refine wpo_call (run_callW (fun _ _ => by kernel_rfl)) (R := fun ez w' => ∃ v, ez = .returned v ∧ (fun v _ => ∃ x y, v = .slice x q y) v w' ∧ Below wy.heap.size wy w') ?_ ?_
        · simp only [List.map_toArray, List.map_cons, List.map_nil, eval_const, e5]
          exact RC.out wy hB.1
        · rintro ez w' ⟨vr, rfl, hr, hb⟩
          exact ⟨_, rfl, k _ _ trivial ⟨bel_tr0 hB.1 hb, hB.2.1.later hb, (hB.2.2.later EP hb).add 4 _ hr⟩⟩
      | 5, ho =>
        obtain rfl := Option.some.inj ho
        intro Az Lz vz wy Kz Ez hB k
        have e6 : Az.eval (.tmp 6) = vz 4 := Ez.dep 4 6 (by kernel_rfl) rfl
        exact wpo_val (v := .int .i64 q) (run_lenA e6 (hB.2.2 4 (by decide) (Ez.had 4 (by kernel_rfl)))) (k _ _ rfl ⟨hB.1, hB.2.1, hB.2.2.other 5 _ (by decide)⟩)
      | 6, ho =>
        obtain rfl := Option.some.inj ho
        intro Az Lz vz wy Kz Ez hB k
        have e0 : Az.eval (.tmp 0) = .pointer (some ⟨b, 0, none⟩) := Ez.out 0 (by kernel_rfl)
        exact wpo_val (v := .pointer (some ⟨b, 0, none⟩)) (run_move e0) (k _ _ rfl ⟨hB.1, hB.2.1, hB.2.2.other 6 _ (by decide)⟩)
      | 7, ho =>
        obtain rfl := Option.some.inj ho
        intro Az Lz vz wy Kz Ez hB k
        have e8 : Az.eval (.tmp 8) = .pointer (some ⟨b, 0, none⟩) := Ez.dep 6 8 (by kernel_rfl) rfl
        exact wpo_val (v := .pointer (some ⟨b, 0, none⟩)) (run_nilCheck e8) (k _ _ rfl ⟨hB.1, hB.2.1, hB.2.2.other 7 _ (by decide)⟩)
      | 8, ho =>
        obtain rfl := Option.some.inj ho
        intro Az Lz vz wy Kz Ez hB k
        have e9 : Az.eval (.tmp 9) = .pointer (some ⟨b, 0, none⟩) := Ez.dep 7 9 (by kernel_rfl) rfl
        exact wpo_val (v := .pointer (some ⟨b, 0, none⟩)) (run_field e9 (by simp [go_sem])) (k _ _ rfl ⟨hB.1, hB.2.1, hB.2.2.other 8 _ (by decide)⟩)
      | 9, ho =>
        obtain rfl := Option.some.inj ho
        intro Az Lz vz wy Kz Ez hB k
        have e10 : Az.eval (.tmp 10) = .pointer (some ⟨b, 0, none⟩) := Ez.dep 8 10 (by kernel_rfl) rfl
        have c0_0 := hB.2.1.cell 0 0 rfl rfl
        exact wpo_val (v := .int .i64 n) (run_load e10 (by simp [go_sem, c0_0])) (k _ _ rfl ⟨hB.1, hB.2.1, hB.2.2.other 9 _ (by decide)⟩)
      | 10, ho =>
        obtain rfl := Option.some.inj ho
        intro Az Lz vz wy Kz Ez hB k
        have e7 : Az.eval (.tmp 7) = .int .i64 q := Ez.dep 5 7 (by kernel_rfl) rfl
        have e11 : Az.eval (.tmp 11) = .int .i64 n := Ez.dep 9 11 (by kernel_rfl) rfl
        exact wpo_val (v := .bool true) (run_bin e7 e11 (by simp [go_sem]) (by simp [go_sem, g])) (k _ _ rfl ⟨hB.1, hB.2.1, hB.2.2.other 10 _ (by decide)⟩)
      | n + 11, ho => simp at ho
    · obtain ⟨hk, hT, hR⟩ := hB
      have KB := Lib.hid hk
      have KT := Lib.hid hT
      clear hk hT hL
      simp only [puts2, mix, Act.put, List.setIfInBounds_toArray, List.set_cons_zero, List.set_cons_succ, Nat.zero_add, Nat.reduceAdd, List.getElem?_cons_zero, List.getElem?_cons_succ]
      have DZ := Lib.hid (HD.out.later KB.out)
      obtain ⟨c0, c1, c2, f1, f2⟩ := DZ.out.cells
      go_wp2_with fail
      refine (ghull_any _ l wz DZ.out.rg FW.out).mono ?_
      rintro _ w2 ⟨⟨r, hl, rfl⟩, hb⟩
      have B2 := Lib.hid (bel_tr0 KB.out hb)
      have HL := Lib.hid hl
      have D2 := Lib.hid (DZ.out.later hb)
      obtain ⟨ra, rb, rc, rd⟩ := r
      unfold rv
      dsimp only
      clear hb hl c0 c1 c2 f1 f2 DZ
      go_wp2_with fail
      refine (isr_of (rs_one w2 (ra, rb, rc, rd)) (fun s ms => by rw [List.mem_singleton] at ms; subst ms; exact hl_ok4 HL.out) (by simp)).mono ?_
      rintro _ w3 ⟨v, rfl, hr, hb⟩
      obtain ⟨a', m', c', rfl⟩ := hr.form
      obtain ⟨l', rg, hp⟩ := hr
      have RG := Lib.hid rg
      have HP := Lib.hid hp
      have B3 := Lib.hid (bel_tr0 (B2.out.alloc B2.out.size (.cells #[.int .i64 ra, .int .i64 rb, .int .i64 rc, .int .i64 rd] 40)) hb)
      have D3 := Lib.hid (D2.out.later (show Below w2.heap.size w2 w3 from bel_tr0 (by go_grown) hb))
      obtain ⟨c0, c1, c2, f1, f2⟩ := D3.out.cells
      clear rg hp hb
      go_wp2_with fail
      go_end0
      refine ⟨rfl, ((But.of B3.out).setCell (p := ⟨b, 1, none⟩) (.inl (by simp)) _).setCell (p := ⟨b, 2, none⟩) (.inl (by simp)) _, _, _, _, l', true, (D3.out.put RG.out).coarse true, .inr ⟨by rw [HQ.out]; exact g, rfl, (ra, rb, rc, rd), HL.out, fun x y => by rw [HP.out]; simp [anyQ]⟩⟩

  · go_enter Try.func98, Try.ntmps98
    go_wp2_with fail
    have EP : ∀ (i : Nat) (v : Value) (w w' : World), ((fun i => match i with | 4 => fun v _ => ∃ x y, v = .slice x q y | _ => fun _ _ => True) : Nat → Value → World → Prop) i v w → Below w.heap.size w w' → ((fun i => match i with | 4 => fun v _ => ∃ x y, v = .slice x q y | _ => fun _ _ => True) : Nat → Value → World → Prop) i v w' := by
      intro i v w w' h hb
      try dsimp only at h ⊢
      split at h <;> first | exact IsR.later h hb | exact RS.later h hb | exact h | trivial | (split <;> trivial)
    refine wp_region_vals [some (.pointer (some ⟨b, 0, none⟩)), some (.pointer (some ⟨b, 0, none⟩)), some (.pointer (some ⟨b, 1, none⟩)), some (.agg #[.slice a m c]), none, some (.int .i64 q), some (.pointer (some ⟨b, 0, none⟩)), some (.pointer (some ⟨b, 0, none⟩)), some (.pointer (some ⟨b, 0, none⟩)), some (.int .i64 n), some (.bool false)] (fun Lz vz wy => Below w.heap.size w wy ∧ Tab wy [(b, [.int .i64 n, .slice a m c, .bool co])] ∧ Exs [4] ((fun i => match i with | 4 => fun v _ => ∃ x y, v = .slice x q y | _ => fun _ _ => True) : Nat → Value → World → Prop) Lz vz wy)
      [some 2, some 3, some 4, some 5, some 6, some 7, some 8, some 9, some 10, some 11, some 12] (by kernel_rfl) (by kernel_rfl) (by kernel_rfl) (by kernel_rfl) (by kernel_rfl) (by kernel_rfl) ⟨KB.out.drew, KT.out.later ((Below.refl _ _).drew), Exs.start _ _ _ _⟩ (fun i o ho => ?_) (fun Lz vz wz hL hB => ?_)
    · match i, ho with
      | 0, ho =>
        obtain rfl := Option.some.inj ho
        intro Az Lz vz wy Kz Ez hB k
        have e0 : Az.eval (.tmp 0) = .pointer (some ⟨b, 0, none⟩) := Ez.out 0 (by kernel_rfl)
        exact wpo_val (v := .pointer (some ⟨b, 0, none⟩)) (run_move e0) (k _ _ rfl ⟨hB.1, hB.2.1, hB.2.2.other 0 _ (by decide)⟩)
      | 1, ho =>
        obtain rfl := Option.some.inj ho
        intro Az Lz vz wy Kz Ez hB k
        have e2 : Az.eval (.tmp 2) = .pointer (some ⟨b, 0, none⟩) := Ez.dep 0 2 (by kernel_rfl) rfl
        exact wpo_val (v := .pointer (some ⟨b, 0, none⟩)) (run_nilCheck e2) (k _ _ rfl ⟨hB.1, hB.2.1, hB.2.2.other 1 _ (by decide)⟩)
      | 2, ho =>
        obtain rfl := Option.some.inj ho
        intro Az Lz vz wy Kz Ez hB k
        have e3 : Az.eval (.tmp 3) = .pointer (some ⟨b, 0, none⟩) := Ez.dep 1 3 (by kernel_rfl) rfl
        exact wpo_val (v := .pointer (some ⟨b, 1, none⟩)) (run_field e3 (by simp [go_sem])) (k _ _ rfl ⟨hB.1, hB.2.1, hB.2.2.other 2 _ (by decide)⟩)
      | 3, ho =>
        obtain rfl := Option.some.inj ho
        intro Az Lz vz wy Kz Ez hB k
        have e4 : Az.eval (.tmp 4) = .pointer (some ⟨b, 1, none⟩) := Ez.dep 2 4 (by kernel_rfl) rfl
        exact wpo_val (v := .agg #[.slice a m c]) (run_load e4 (by have z := hB.2.1.cell 0 1 rfl rfl; simp [go_sem, z])) (k _ _ rfl ⟨hB.1, hB.2.1, hB.2.2.other 3 _ (by decide)⟩)
      | 4, ho =>
        obtain rfl := Option.some.inj ho
        intro Az Lz vz wy Kz Ez hB k
        have e5 : Az.eval (.tmp 5) = .agg #[.slice a m c] := Ez.dep 3 5 (by kernel_rfl) rfl
        refine wpo_call (run_callW (fun _ _ => by kernel_rfl)) (R := fun ez w' => ∃ v, ez = .returned v ∧ (fun v _ => ∃ x y, v = .slice x q y) v w' ∧ Below wy.heap.size wy w') ?_ ?_
        · simp only [List.map_toArray, List.map_cons, List.map_nil, eval_const, e5]
          exact RC.out wy hB.1
        · rintro ez w' ⟨vr, rfl, hr, hb⟩
          exact ⟨_, rfl, k _ _ trivial ⟨bel_tr0 hB.1 hb, hB.2.1.later hb, (hB.2.2.later EP hb).add 4 _ hr⟩⟩
      | 5, ho =>
        obtain rfl := Option.some.inj ho
        intro Az Lz vz wy Kz Ez hB k
        have e6 : Az.eval (.tmp 6) = vz 4 := Ez.dep 4 6 (by kernel_rfl) rfl
        exact wpo_val (v := .int .i64 q) (run_lenA e6 (hB.2.2 4 (by decide) (Ez.had 4 (by kernel_rfl)))) (k _ _ rfl ⟨hB.1, hB.2.1, hB.2.2.other 5 _ (by decide)⟩)
      | 6, ho =>
        obtain rfl := Option.some.inj ho
        intro Az Lz vz wy Kz Ez hB k
        have e0 : Az.eval (.tmp 0) = .pointer (some ⟨b, 0, none⟩) := Ez.out 0 (by kernel_rfl)
        exact wpo_val (v := .pointer (some ⟨b, 0, none⟩)) (run_move e0) (k _ _ rfl ⟨hB.1, hB.2.1, hB.2.2.other 6 _ (by decide)⟩)
      | 7, ho =>
        obtain rfl := Option.some.inj ho
        intro Az Lz vz wy Kz Ez hB k
        have e8 : Az.eval (.tmp 8) = .pointer (some ⟨b, 0, none⟩) := Ez.dep 6 8 (by kernel_rfl) rfl
        exact wpo_val (v := .pointer (some ⟨b, 0, none⟩)) (run_nilCheck e8) (k _ _ rfl ⟨hB.1, hB.2.1, hB.2.2.other 7 _ (by decide)⟩)
      | 8, ho =>
        obtain rfl := Option.some.inj ho
        intro Az Lz vz wy Kz Ez hB k
        have e9 : Az.eval (.tmp 9) = .pointer (some ⟨b, 0, none⟩) := Ez.dep 7 9 (by kernel_rfl) rfl
        exact wpo_val (v := .pointer (some ⟨b, 0, none⟩)) (run_field e9 (by simp [go_sem])) (k _ _ rfl ⟨hB.1, hB.2.1, hB.2.2.other 8 _ (by decide)⟩)
      | 9, ho =>
        obtain rfl := Option.some.inj ho
        intro Az Lz vz wy Kz Ez hB k
        have e10 : Az.eval (.tmp 10) = .pointer (some ⟨b, 0, none⟩) := Ez.dep 8 10 (by kernel_rfl) rfl
        have c0_0 := hB.2.1.cell 0 0 rfl rfl
        exact wpo_val (v := .int .i64 n) (run_load e10 (by simp [go_sem, c0_0])) (k _ _ rfl ⟨hB.1, hB.2.1, hB.2.2.other 9 _ (by decide)⟩)
      | 10, ho =>
        obtain rfl := Option.some.inj ho
        intro Az Lz vz wy Kz Ez hB k
        have e7 : Az.eval (.tmp 7) = .int .i64 q := Ez.dep 5 7 (by kernel_rfl) rfl
        have e11 : Az.eval (.tmp 11) = .int .i64 n := Ez.dep 9 11 (by kernel_rfl) rfl
        exact wpo_val (v := .bool false) (run_bin e7 e11 (by simp [go_sem]) (by simp [go_sem, g])) (k _ _ rfl ⟨hB.1, hB.2.1, hB.2.2.other 10 _ (by decide)⟩)
      | n + 11, ho => simp at ho
    · obtain ⟨hk, hT, hR⟩ := hB
      have KB := Lib.hid hk
      have KT := Lib.hid hT
      clear hk hT hL
      simp only [puts2, mix, Act.put, List.setIfInBounds_toArray, List.set_cons_zero, List.set_cons_succ, Nat.zero_add, Nat.reduceAdd, List.getElem?_cons_zero, List.getElem?_cons_succ]
      have DZ := Lib.hid (HD.out.later KB.out)
      go_wp2_with fail
      go_end0
      exact ⟨rfl, But.of KB.out, _, _, _, l, co, DZ.out, .inl ⟨by rw [HQ.out]; omega, rfl, rfl⟩⟩

/-- what a damage is behind something more -/
def JoR (w : World) (b : Nat) (n : Int) (P : Int → Int → Bool) (co : Bool) (e : Ending) (w' : World) : Prop :=
  e = .returned (.tuple #[]) ∧ But [b] w w' ∧ ∃ a m c l' co', DmS w' b n a m c l' co' ∧ ∃ l1, Wf l1 ∧ InR l1 ∧ (∀ x y, hasP l1 x y = P x y) ∧ ((((rectsB l1).length : Int) ≤ n ∧ l' = l1 ∧ co' = co) ∨ (n < ((rectsB l1).length : Int) ∧ co' = true ∧ ∃ q, Hl P q ∧ ∀ x y, hasP l' x y = inQ q x y))
def JB (w : World) (b : Nat) (n : Int) (T : List (Nat × List Value)) (P : Int → Int → Bool) (co : Bool) (L : Nat → Bool) (vz : Nat → Value) (wy : World) : Prop :=
  (L 9 = false → Below w.heap.size w wy ∧ Tab wy T ∧ (L 6 = true → IsR wy (vz 6) P)) ∧ (L 9 = true → L 8 = true ∧ But [b] w wy ∧ ∃ a m c l', DmS wy b n a m c l' co ∧ ∀ x y, hasP l' x y = P x y)
theorem JB.other {w : World} {b : Nat} {n : Int} {T : List (Nat × List Value)} {P : Int → Int → Bool} {co : Bool} {L : Nat → Bool} {vz : Nat → Value} {wy : World} (h : JB w b n T P co L vz wy) (z : L 9 = false) (i : Nat) (v : Value) (h9 : i ≠ 9) (h6 : i ≠ 6) : JB w b n T P co (addL L i) (upd vz i v) wy := by
  obtain ⟨a, t, r⟩ := h.1 z
  refine ⟨fun _ => ⟨a, t, fun q => ?_⟩, fun q => ?_⟩
  · have := r (by simpa [addL, Ne.symm h6] using q)
    simpa [upd, Ne.symm h6] using this
  · rw [show addL L i 9 = L 9 by simp [addL, Ne.symm h9], z] at q
    cases q
set_option maxHeartbeats 4000000 in
theorem djoin_any {w : World} {b : Nat} {n : Int} {a : Option Addr} {m c : Nat} {l : List Bd} {co : Bool} (h : DmS w b n a m c l co) {v : Value} {Q : Int → Int → Bool} (hv : IsR w v Q) {S : List Int} (he : EdgeIn (fun x y => orB (hasP l x y) (Q x y)) S) (hS : S.length ≤ 1000) (n0 : 1 ≤ n) (n1 : n ≤ 64) : Calls Try.prog 71 #[.pointer (some ⟨b, 0, none⟩), v] w (JoR w b n (fun x y => orB (hasP l x y) (Q x y)) co) := by
  have HD := Lib.hid h
  have HV := Lib.hid hv
  have HE := Lib.hid he
  obtain ⟨a2, m2, c2, rfl⟩ := hv.form
  have lb := (Array.getElem?_eq_some_iff.1 h.hk).1
  have ne : ¬ w.heap.size = b := by omega
  clear h hv he
  go_enter Try.func71, Try.ntmps71
  go_wp2_with fail
  have T0 : Tab (w.alloc (.cells #[.slice a2 m2 c2] 26)) [(w.heap.size, [.slice a2 m2 c2]), (b, [.int .i64 n, .slice a m c, .bool co])] := (Tab.nil _).new' [.slice a2 m2 c2] 26 rfl |> fun k => by
    have d := (HD.out.later (show Below w.heap.size w (w.alloc (.cells #[.slice a2 m2 c2] 26)) by go_grown)).tab
    exact fun j b' vs' hj i v hi => by
      match j, hj with
      | 0, hj => exact k 0 b' vs' (by simpa using hj) i v hi
      | 1, hj => exact d 0 b' vs' (by simpa using hj) i v hi
      | j + 2, hj => simp at hj
  have HB0 : Hid (JB w b n [(w.heap.size, [.slice a2 m2 c2]), (b, [.int .i64 n, .slice a m c, .bool co])] (fun x y => orB (hasP l x y) (Q x y)) co (fun _ => false) (fun _ => undef) (w.alloc (.cells #[.slice a2 m2 c2] 26)).drew) := Lib.hid ⟨fun _ => ⟨by go_grown, T0.later ((Below.refl _ _).drew), fun z => by cases z⟩, fun z => by cases z⟩
  clear T0
  refine wp_region_vals [some (.pointer (some ⟨b, 0, none⟩)), some (.pointer (some ⟨b, 0, none⟩)), some (.pointer (some ⟨b, 0, none⟩)), some (.pointer (some ⟨b, 1, none⟩)), some (.agg #[.slice a m c]), some (.agg #[.slice a2 m2 c2]), none, some (.pointer (some ⟨b, 0, none⟩)), some (.pointer (some ⟨b, 1, none⟩)), none] (JB w b n [(w.heap.size, [.slice a2 m2 c2]), (b, [.int .i64 n, .slice a m c, .bool co])] (fun x y => orB (hasP l x y) (Q x y)) co)
    [some 6, some 7, some 8, some 9, some 10, some 11, some 12, some 13, some 14, none] (by kernel_rfl) (by kernel_rfl) (by kernel_rfl) (by kernel_rfl) (by kernel_rfl) (by kernel_rfl) HB0.out (fun i o ho => ?_) (fun Lz vz wz hL hB => ?_)
  · match i, ho with
    | 0, ho =>
      obtain rfl := Option.some.inj ho
      intro Az Lz vz wy Kz Ez hB k
      have z9 : Lz 9 = false := Ez.late 9 _ rfl (by kernel_rfl)
      obtain ⟨hb0, hT, hr⟩ := hB.1 z9
      have e0 : Az.eval (.tmp 0) = .pointer (some ⟨b, 0, none⟩) := Ez.out 0 (by kernel_rfl)
      exact wpo_val (v := .pointer (some ⟨b, 0, none⟩)) (run_move e0) (k _ _ rfl (hB.other z9 0 _ (by decide) (by decide)))
    | 1, ho =>
      obtain rfl := Option.some.inj ho
      intro Az Lz vz wy Kz Ez hB k
      have z9 : Lz 9 = false := Ez.late 9 _ rfl (by kernel_rfl)
      obtain ⟨hb0, hT, hr⟩ := hB.1 z9
      have e0 : Az.eval (.tmp 0) = .pointer (some ⟨b, 0, none⟩) := Ez.out 0 (by kernel_rfl)
      exact wpo_val (v := .pointer (some ⟨b, 0, none⟩)) (run_move e0) (k _ _ rfl (hB.other z9 1 _ (by decide) (by decide)))
    | 2, ho =>
      obtain rfl := Option.some.inj ho
      intro Az Lz vz wy Kz Ez hB k
      have z9 : Lz 9 = false := Ez.late 9 _ rfl (by kernel_rfl)
      obtain ⟨hb0, hT, hr⟩ := hB.1 z9
      have e7 : Az.eval (.tmp 7) = .pointer (some ⟨b, 0, none⟩) := Ez.dep 1 7 (by kernel_rfl) rfl
      exact wpo_val (v := .pointer (some ⟨b, 0, none⟩)) (run_nilCheck e7) (k _ _ rfl (hB.other z9 2 _ (by decide) (by decide)))
    | 3, ho =>
      obtain rfl := Option.some.inj ho
      intro Az Lz vz wy Kz Ez hB k
      have z9 : Lz 9 = false := Ez.late 9 _ rfl (by kernel_rfl)
      obtain ⟨hb0, hT, hr⟩ := hB.1 z9
      have e8 : Az.eval (.tmp 8) = .pointer (some ⟨b, 0, none⟩) := Ez.dep 2 8 (by kernel_rfl) rfl
      exact wpo_val (v := .pointer (some ⟨b, 1, none⟩)) (run_field e8 (by simp [go_sem])) (k _ _ rfl (hB.other z9 3 _ (by decide) (by decide)))
    | 4, ho =>
      obtain rfl := Option.some.inj ho
      intro Az Lz vz wy Kz Ez hB k
      have z9 : Lz 9 = false := Ez.late 9 _ rfl (by kernel_rfl)
      obtain ⟨hb0, hT, hr⟩ := hB.1 z9
      have e9 : Az.eval (.tmp 9) = .pointer (some ⟨b, 1, none⟩) := Ez.dep 3 9 (by kernel_rfl) rfl
      have z := hT.cell 1 1 rfl rfl
      exact wpo_val (v := .agg #[.slice a m c]) (run_load e9 (by simp [go_sem, z])) (k _ _ rfl (hB.other z9 4 _ (by decide) (by decide)))
    | 5, ho =>
      obtain rfl := Option.some.inj ho
      intro Az Lz vz wy Kz Ez hB k
      have z9 : Lz 9 = false := Ez.late 9 _ rfl (by kernel_rfl)
      obtain ⟨hb0, hT, hr⟩ := hB.1 z9
      have e3 : Az.eval (.tmp 3) = .pointer (some ⟨w.heap.size, 0, none⟩) := Ez.out 3 (by kernel_rfl)
      have z := hT.cell 0 0 rfl rfl
      exact wpo_val (v := .agg #[.slice a2 m2 c2]) (run_load e3 (by simp [go_sem, z])) (k _ _ rfl (hB.other z9 5 _ (by decide) (by decide)))
    | 6, ho =>
      obtain rfl := Option.some.inj ho
      intro Az Lz vz wy Kz Ez hB k
      have z9 : Lz 9 = false := Ez.late 9 _ rfl (by kernel_rfl)
      obtain ⟨hb0, hT, hr⟩ := hB.1 z9
      have e10 : Az.eval (.tmp 10) = .agg #[.slice a m c] := Ez.dep 4 10 (by kernel_rfl) rfl
      have e11 : Az.eval (.tmp 11) = .agg #[.slice a2 m2 c2] := Ez.dep 5 11 (by kernel_rfl) rfl
      refine wpo_call (run_callW (fun _ _ => by kernel_rfl)) (R := IsE (fun x y => orB (hasP l x y) (Q x y)) wy) ?_ ?_
      · simp only [List.map_toArray, List.map_cons, List.map_nil, eval_const, e10, e11]
        exact isr_or ⟨l, HD.out.rg.later hb0, fun _ _ => rfl⟩ (HV.out.later hb0)
      · rintro ez w' ⟨vr, rfl, hr', hb⟩
        exact ⟨_, rfl, k _ _ trivial ⟨fun _ => ⟨bel_tr0 hb0 hb, hT.later hb, fun _ => by simpa [upd] using hr'⟩, fun z => by rw [show addL Lz 6 9 = Lz 9 by simp [addL], z9] at z; cases z⟩⟩
    | 7, ho =>
      obtain rfl := Option.some.inj ho
      intro Az Lz vz wy Kz Ez hB k
      have z9 : Lz 9 = false := (by have z8 : Lz 8 = false := Ez.late 8 _ rfl (by kernel_rfl); cases q9 : Lz 9; rfl; have := (hB.2 q9).1; rw [z8] at this; cases this)
      obtain ⟨hb0, hT, hr⟩ := hB.1 z9
      have e6 : Az.eval (.tmp 6) = .pointer (some ⟨b, 0, none⟩) := Ez.dep 0 6 (by kernel_rfl) rfl
      exact wpo_val (v := .pointer (some ⟨b, 0, none⟩)) (run_nilCheck e6) (k _ _ rfl (hB.other z9 7 _ (by decide) (by decide)))
    | 8, ho =>
      obtain rfl := Option.some.inj ho
      intro Az Lz vz wy Kz Ez hB k
      have z9 : Lz 9 = false := Ez.late 9 _ rfl (by kernel_rfl)
      obtain ⟨hb0, hT, hr⟩ := hB.1 z9
      have e13 : Az.eval (.tmp 13) = .pointer (some ⟨b, 0, none⟩) := Ez.dep 7 13 (by kernel_rfl) rfl
      exact wpo_val (v := .pointer (some ⟨b, 1, none⟩)) (run_field e13 (by simp [go_sem])) (k _ _ rfl (hB.other z9 8 _ (by decide) (by decide)))
    | 9, ho =>
      obtain rfl := Option.some.inj ho
      intro Az Lz vz wy Kz Ez hB k
      have z9 : Lz 9 = false := Ez.not
      obtain ⟨hb0, hT, hr⟩ := hB.1 z9
      have e14 : Az.eval (.tmp 14) = .pointer (some ⟨b, 1, none⟩) := Ez.dep 8 14 (by kernel_rfl) rfl
      have e12 : Az.eval (.tmp 12) = vz 6 := Ez.dep 6 12 (by kernel_rfl) rfl
      have hr6 := hr (Ez.had 6 (by kernel_rfl))
      obtain ⟨a', m', c', e6'⟩ := hr6.form
      obtain ⟨l', rg, hp⟩ := hr6
      rw [e6'] at rg
      have D := HD.out.later hb0
      obtain ⟨q0, q1, q2, f1, f2⟩ := D.cells
      exact wpo_skip (w' := wy.setCell ⟨b, 1, none⟩ (.slice a' m' c')) (run_store e14 (e12.trans e6') (by simp [go_sem, q1, f1])) (k _ _ trivial ⟨fun z => by simp [addL] at z, fun _ => ⟨by simpa [addL] using Ez.had 8 (by kernel_rfl), (But.of hb0).setCell (p := ⟨b, 1, none⟩) (.inl (by simp)) _, _, _, _, l', D.put rg, hp⟩⟩)
    | n + 10, ho => simp at ho
  · obtain ⟨_, kb, a', m', c', l', hd, hp⟩ := hB.2 (hL 9 (by decide))
    have DZ := Lib.hid hd
    have BZ := Lib.hid kb
    have HP := Lib.hid hp
    have FZ : Hid (Few l') := Lib.hid (few_edges hd.rg.2 HE.out hS hp)
    clear hL hB hd kb hp HB0
    simp only [puts2, mix, Act.put, List.setIfInBounds_toArray, List.set_cons_zero, List.set_cons_succ, Nat.zero_add, Nat.reduceAdd, List.getElem?_cons_zero, List.getElem?_cons_succ]
    go_wp2_with fail
    refine (dcoarsen_any DZ.out FZ.out n0 n1).mono ?_
    rintro _ w2 ⟨rfl, hb2, a3, m3, c3, l3, co3, hd3, hc⟩
    have RES : Hid (JoR w b n (fun x y => orB (hasP l x y) (Q x y)) co (.returned (.tuple #[])) w2) := Lib.hid ⟨rfl, BZ.out.trans hb2, a3, m3, c3, l3, co3, hd3, l', DZ.out.rg.2, DZ.out.rg.3, HP.out, by
      rcases hc with h | ⟨h1, h2, q, h3, h4⟩
      · exact .inl h
      · exact .inr ⟨h1, h2, q, hl_congr h3 HP.out, h4⟩⟩
    clear hb2 hd3 hc
    go_wp2_with fail
    go_end0
    exact RES.out
set_option maxHeartbeats 2000000 in
theorem dadd_any {w : World} {b : Nat} {n : Int} {a : Option Addr} {m c : Nat} {l : List Bd} {co : Bool} (h : DmS w b n a m c l co) {r : Q4} (hr : Ok4 r) {S : List Int} (he : EdgeIn (fun x y => orB (hasP l x y) (inQ r x y)) S) (hS : S.length ≤ 1000) (n0 : 1 ≤ n) (n1 : n ≤ 64) : Calls Try.prog 30 #[.pointer (some ⟨b, 0, none⟩), rv r.1 r.2.1 r.2.2.1 r.2.2.2] w (JoR w b n (fun x y => orB (hasP l x y) (inQ r x y)) co) := by
  have HD := Lib.hid h
  have HR := Lib.hid hr
  have HE := Lib.hid he
  clear h hr he
  unfold rv
  go_enter Try.func30, Try.ntmps30
  go_wp2_with fail
  refine (isr_of (by have := rs_one (w.alloc (.cells #[.int .i64 r.1, .int .i64 r.2.1, .int .i64 r.2.2.1, .int .i64 r.2.2.2] 40)) r; simpa using this) (fun s ms => by rw [List.mem_singleton] at ms; subst ms; exact HR.out) (by simp)).mono ?_
  rintro _ w2 ⟨v, rfl, hv, hb⟩
  have B2 := Lib.hid (show Below w.heap.size w w2 from bel_tr0 (by go_grown) hb)
  have HV := Lib.hid (hv.congr (Q := inQ r) fun x y => by simp [anyQ])
  clear hv hb
  go_wp2_with fail
  refine (djoin_any (HD.out.later B2.out) HV.out HE.out hS n0 n1).mono ?_
  rintro _ w3 ⟨rfl, hb3, rest⟩
  have RES : Hid (JoR w b n (fun x y => orB (hasP l x y) (inQ r x y)) co (.returned (.tuple #[])) w3) := Lib.hid ⟨rfl, (But.of B2.out).trans hb3, rest⟩
  clear hb3 rest
  go_wp2_with fail
  go_end0
  exact RES.out
end Go.Proofs.Ytfhepaiefdmlcaa
