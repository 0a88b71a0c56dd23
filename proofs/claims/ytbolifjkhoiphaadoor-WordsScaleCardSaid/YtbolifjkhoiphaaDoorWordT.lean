/- Words scaled: the program. Made by gen/wordt.py. -/
import Derived.Test.YtbolifjkhoiphaaDoorWordS
import Derived.Laws.MakeOwn
import Derived.WalkKit
import Derived.WalkSpells
import Derived.WalkLawsBesides
import Derived.Handy
import Derived.Lib.Hide
import Derived.Deep.QuietTactic
import Derived.BigQuiet
import Derived.LoopTactic
import Derived.Deep.RegionHeld3
import Derived.Deep.RegionWith
import Derived.Outline
import Derived.Deep.DeepCutAuto
namespace Go.Proofs.YtbolifjkhoiphaaDoor
open Go.RowKit Go.Proofs.Reg Go.Proofs.Big
set_option linter.unusedVariables false
set_option linter.unusedSimpArgs false
set_option maxRecDepth 100000
theorem made3 (n : Nat) : madeCells #[.int .i64 0, .int .i64 0, .bool false] (n * 3) = (cells3 (List.replicate n ((0, 0, false) : W3))).toArray := by
  apply Array.ext
  · simp [size_madeCells, cells3_len]
  · intro i h1 h2
    rw [size_madeCells] at h1
    have g := cells3_get (List.replicate n ((0, 0, false) : W3)) (i / 3) (0, 0, false) (by rw [List.getElem?_replicate, if_pos (by omega)])
    have L : (madeCells #[.int .i64 0, .int .i64 0, .bool false] (n * 3))[i] = (#[.int .i64 0, .int .i64 0, .bool false] : Array Value)[i % 3]! := by simp [madeCells]
    rw [L]
    obtain ⟨g0, g1, g2⟩ := g
    have c : i % 3 = 0 ∨ i % 3 = 1 ∨ i % 3 = 2 := by omega
    rcases c with e | e | e
    · rw [show i / 3 * 3 = i by omega] at g0
      rw [e, List.getElem_toArray, (List.getElem?_eq_some_iff.1 g0).2]; rfl
    · rw [show i / 3 * 3 + 1 = i by omega] at g1
      rw [e, List.getElem_toArray, (List.getElem?_eq_some_iff.1 g1).2]; rfl
    · rw [show i / 3 * 3 + 2 = i by omega] at g2
      rw [e, List.getElem_toArray, (List.getElem?_eq_some_iff.1 g2).2]; rfl
theorem cells3_set : ∀ (l : List W3) (j : Nat) (r : W3), cells3 (l.set j r) = if j < l.length then (((cells3 l).set (j * 3) (.int .i64 r.1)).set (j * 3 + 1) (.int .i64 r.2.1)).set (j * 3 + 2) (.bool r.2.2) else cells3 l
  | [], j, r => by simp
  | a :: l, 0, r => rfl
  | a :: l, j + 1, r => by
    have ih := cells3_set l j r
    have e : cells3 (a :: l) = .int .i64 a.1 :: .int .i64 a.2.1 :: .bool a.2.2 :: cells3 l := rfl
    have e' : cells3 ((a :: l).set (j + 1) r) = .int .i64 a.1 :: .int .i64 a.2.1 :: .bool a.2.2 :: cells3 (l.set j r) := rfl
    rw [e', ih, e, show (j + 1) * 3 = j * 3 + 1 + 1 + 1 by omega]
    by_cases h : j < l.length
    · rw [if_pos h, if_pos (by simpa using h)]
      rfl
    · rw [if_neg h, if_neg (by simpa using h)]
theorem row_set3 {w : World} {b : Nat} {c : Array Value} {t : TypeId} (h : w.heap[b]? = some (.cells c t (0, 0))) (k : Nat) (v : Value) : (w.setCell ⟨b, k, none⟩ v).heap[b]? = some (.cells (c.setIfInBounds k v) t (0, 0)) := by
  simp [World.setCell, Array.getElem?_modify, h]
def sto (w : World) (b j : Nat) (r : W3) : World := ((w.setCell ⟨b, j * 3, none⟩ (.int .i64 r.1)).setCell ⟨b, j * 3 + 1, none⟩ (.int .i64 r.2.1)).setCell ⟨b, j * 3 + 2, none⟩ (.bool r.2.2)
theorem sto_row {w : World} {b : Nat} {l : List W3} {t : TypeId} (h : w.heap[b]? = some (.cells (cells3 l).toArray t (0, 0))) {j : Nat} (hj : j < l.length) (r : W3) : (sto w b j r).heap[b]? = some (.cells (cells3 (l.set j r)).toArray t (0, 0)) := by
  unfold sto
  rw [row_set3 (row_set3 (row_set3 h _ _) _ _) _ _, cells3_set, if_pos hj]
  simp only [List.setIfInBounds_toArray]
theorem sto_below {B : Nat} {w0 w : World} {b j : Nat} {r : W3} (h : Below B w0 w) (hb : B ≤ b) : Below B w0 (sto w b j r) := ((h.setCell hb _).setCell hb _).setCell hb _
theorem mk_cells {w : World} {b : Nat} {l : List W3} {t : TypeId} (h : w.heap[b]? = some (.cells (cells3 l).toArray t (0, 0))) {j : Nat} (hj : j < l.length) : ∃ x y z, w.cell? ⟨b, j * 3, none⟩ = some x ∧ w.cell? ⟨b, j * 3 + 1, none⟩ = some y ∧ w.cell? ⟨b, j * 3 + 2, none⟩ = some z ∧ (∀ k, w.frozen? ⟨b, k, none⟩ = false) := by
  obtain ⟨g0, g1, g2⟩ := cells3_get l j _ (List.getElem?_eq_getElem hj)
  exact ⟨.int .i64 l[j].1, .int .i64 l[j].2.1, .bool l[j].2.2, by rw [cell_row3 h, List.getElem?_toArray]; exact g0, by rw [cell_row3 h, List.getElem?_toArray]; exact g1, by rw [cell_row3 h, List.getElem?_toArray]; exact g2, fun k => by simp [World.frozen?, h]⟩
theorem sto_run {w : World} {b : Nat} {l : List W3} (h : w.heap[b]? = some (.cells (cells3 l).toArray 81 (0, 0))) {j : Nat} (hj : j < l.length) (r : W3) : (Instr.storeAt 81 (.pointer (some ⟨b, j * 3, none⟩)) (.agg #[.int .i64 r.1, .int .i64 r.2.1, .bool r.2.2])).run Tryd.prog w = .ok () (sto w b j r) := by
  obtain ⟨x, y, z, c0, c1, c2, f⟩ := mk_cells h hj
  have f0 := f (j * 3)
  have f1 := f (j * 3 + 1)
  have f2 := f (j * 3 + 2)
  simp [go_sem, c0, c1, c2, f0, f1, f2, sto]
theorem wword_parts : ∃ i0 : TypeInfo, Tryd.prog.info? 81 = some i0 ∧ i0.zero = some (.agg #[.int .i64 0, .int .i64 0, .bool false]) ∧ i0.size = 3 ∧ i0.bytes = 24 := by
  cases h : Tryd.prog.info? 81 with
  | none =>
    have : (Tryd.prog.info? 81).isSome = true := by kernel_rfl
    rw [h] at this
    cases this
  | some i0 =>
    have e : ∀ (α : Type) (f : TypeInfo → α) (v : α), (Tryd.prog.info? 81).map f = some v → f i0 = v := fun α f v hv => by rw [h] at hv; exact Option.some.inj hv
    exact ⟨i0, rfl, e _ (·.zero) _ (by kernel_rfl), e _ (·.size) _ (by kernel_rfl), e _ (·.bytes) _ (by kernel_rfl)⟩
theorem make_words (n : Nat) (hn : n ≤ 1000000) (w : World) : (Instr.makeSlice 73 (.int .i64 n) (.int .i64 n)).run Tryd.prog w = .ok (.slice (some ⟨w.heap.size, 0, none⟩) n n) (w.alloc (.cells (cells3 (List.replicate n ((0, 0, false) : W3))).toArray 81)) := by
  obtain ⟨i0, hi, hz0, hz1, hz2⟩ := wword_parts
  have hmk := run_make (P := Tryd.prog) w 73 81 i0 (.agg #[.int .i64 0, .int .i64 0, .bool false]) Tryd.underlying73 hi hz0 .i64 .i64 (n : Int) (n : Int) (by omega) (by omega) (by rw [hz2]; omega) (by omega)
  rw [hz1, show ((n : Int)).toNat = n from by omega, show (Value.agg #[.int .i64 0, .int .i64 0, .bool false]).cells = #[.int .i64 0, .int .i64 0, .bool false] from rfl, made3] at hmk
  exact hmk
/-- what fixed.Scale does to a number of a word -/
theorem fscale_sc (p q x : Int) (p0 : -9223372036854775808 ≤ p) (p1 : p ≤ 9223372036854775807) (q0 : -9223372036854775808 ≤ q) (q1 : q ≤ 9223372036854775807) (x0 : -9223372036854775808 ≤ x) (x1 : x ≤ 9223372036854775807) (w : World) :
    Calls Tryd.prog 40 #[.int .i64 x, .agg #[.int .i64 p, .int .i64 q]] w fun e w' => (if goodB p q = true then Ends (scV p q x) (scE p q x) e else Ends 0 1 e) ∧ Below w.heap.size w w' := by
  by_cases g : goodB p q = true
  · have qp : 1 ≤ q := by
      unfold goodB at g
      simp at g
      exact g.1
    simp only [if_pos g]
    exact scale_ends x p q _ _ x0 x1 p0 p1 qp q1 g (sc_tl p q x) w
  · simp only [if_neg g]
    exact scale_bad x p q p0 p1 q0 q1 (by simpa using g) w
/-- how words.Scale ends -/
def WScR (w : World) (p q : Int) (ws : List W3) (e : Ending) (w' : World) : Prop :=
  Below w.heap.size w w' ∧ ∃ out er, IsSc p q ws out er ∧ ((er = 0 ∧ ∃ u, e = .returned u ∧ WS w' u out ∧ ∀ (p : Addr) (n c : Nat), u = .slice (some p) n c → w.heap.size ≤ p.block) ∨ (er ≠ 0 ∧ e = .panicked (gave er)))
/-- the words made so far -/
structure WkM (p q : Int) (ws : List W3) (w wr : World) (l : List W3) (j : Nat) : Prop where
  bel : Below w.heap.size w wr
  rb : wr.heap[w.heap.size]? = some (.cells #[.int .i64 p, .int .i64 q] 88 (0, 0))
  mkr : wr.heap[w.heap.size + 1]? = some (.cells (cells3 l).toArray 81 (0, 0))
  len : l.length = ws.length
  done : ∀ i, i < j → l[i]? = (ws.map (s1 p q))[i]?
  good : ∀ (i : Nat) (r : W3), i < j → ws[i]? = some r → e1 p q r = 0
theorem WkM.later {p q : Int} {ws : List W3} {w wr wx : World} {l : List W3} {j : Nat} (h : WkM p q ws w wr l j) (hb : Below wr.heap.size wr wx) : WkM p q ws w wx l j :=
  ⟨bel_tr0 h.bel hb, (hb.block _ (Array.getElem?_eq_some_iff.1 h.rb).1).trans h.rb, (hb.block _ (Array.getElem?_eq_some_iff.1 h.mkr).1).trans h.mkr, h.len, h.done, h.good⟩
theorem WkM.step {p q : Int} {ws : List W3} {w wr : World} {l : List W3} {j : Nat} (h : WkM p q ws w wr l j) {r : W3} (hr : ws[j]? = some r) (he : e1 p q r = 0) : WkM p q ws w (sto wr (w.heap.size + 1) j (s1 p q r)) (l.set j (s1 p q r)) (j + 1) := by
  have jl : j < l.length := by rw [h.len]; exact (List.getElem?_eq_some_iff.1 hr).1
  refine ⟨sto_below h.bel (by omega), ?_, sto_row h.mkr jl _, by rw [List.length_set, h.len], fun i hi => ?_, fun i r' hi hr' => ?_⟩
  · unfold sto
    rw [Below.heap_setCell _ _ _ _ (by simp), Below.heap_setCell _ _ _ _ (by simp), Below.heap_setCell _ _ _ _ (by simp)]
    exact h.rb
  · by_cases e : i = j
    · subst e
      rw [List.getElem?_set_self jl, List.getElem?_map, hr]; rfl
    · rw [List.getElem?_set_ne (Ne.symm e)]
      exact h.done i (by omega)
  · by_cases e : i = j
    · subst e
      rw [hr] at hr'
      obtain rfl := Option.some.inj hr'
      exact he
    · exact h.good i r' (by omega) hr'
/-- the region of one word -/
def WkB (w3 : World) (b j : Nat) (r : W3) (L : Nat → Bool) (vz : Nat → Value) (wy : World) : Prop :=
  (L 14 = false → Below w3.heap.size w3 wy) ∧ (L 14 = true → ∃ wy0, Below w3.heap.size w3 wy0 ∧ wy = sto wy0 b j r)
def WkN (w3 : World) (k : Nat) (L : Nat → Bool) (vz : Nat → Value) (wy : World) : Prop := Below w3.heap.size w3 wy ∧ L k = false
theorem addL_ne3 {L : Nat → Bool} {i j : Nat} (h : j ≠ i) : addL L i j = L j := by simp [addL, h]
theorem WkN.add {w3 : World} {k : Nat} {L : Nat → Bool} {vz : Nat → Value} {wy w' : World} (h : WkN w3 k L vz wy) (i : Nat) (v : Value) (hb : Below wy.heap.size wy w') (ne : k ≠ i) : WkN w3 k (addL L i) (upd vz i v) w' := ⟨bel_tr0 h.1 hb, by rw [addL_ne3 ne]; exact h.2⟩
theorem WkB.add {w3 : World} {b j : Nat} {r : W3} {L : Nat → Bool} {vz : Nat → Value} {wy w' : World} (h : WkB w3 b j r L vz wy) (z : L 14 = false) (i : Nat) (v : Value) (hb : Below wy.heap.size wy w') (ne : 14 ≠ i) : WkB w3 b j r (addL L i) (upd vz i v) w' :=
  ⟨fun _ => bel_tr0 (h.1 z) hb, fun q => by rw [addL_ne3 ne, z] at q; cases q⟩
set_option maxHeartbeats 8000000 in
theorem wscale_any (p q : Int) (p0 : -9223372036854775808 ≤ p) (p1 : p ≤ 9223372036854775807) (q0 : -9223372036854775808 ≤ q) (q1 : q ≤ 9223372036854775807) (v : Value) (ws : List W3) (w : World) (h : WS w v ws) (hi : ∀ r ∈ ws, (-9223372036854775808 ≤ r.1 ∧ r.1 ≤ 9223372036854775807) ∧ (-9223372036854775808 ≤ r.2.1 ∧ r.2.1 ≤ 9223372036854775807)) (hl : ws.length ≤ 1000) :
    Calls Tryd.prog 20 #[v, .agg #[.int .i64 p, .int .i64 q]] w (WScR w p q ws) := by
  obtain ⟨ga, gn, gc, rfl, gl, gb, gm, gk⟩ := h
  have HI := Lib.hid hi
  have HK := Lib.hid gk
  have HL := Lib.hid gl
  have gs : gn ≤ 1000 := by omega
  have SC := Lib.hid (fun x a b w => fscale_sc p q x p0 p1 q0 q1 a b w)
  have hmk : ∀ w : World, (Instr.makeSlice 73 (.int .i64 gn) (.int .i64 gn)).run Tryd.prog w = .ok (.slice (some ⟨w.heap.size, 0, none⟩) gn gn) (w.alloc (.cells (cells3 (List.replicate gn ((0, 0, false) : W3))).toArray 81)) := make_words gn (by omega)
  clear hi gk gl hl
  go_enter Tryd.func20, Tryd.ntmps20
  go_wp2_with fail
  clear hmk
  obtain ⟨wl, hwl⟩ : ∃ wl, (w.alloc (.cells #[.int .i64 p, .int .i64 q] 88)).alloc (.cells (cells3 (List.replicate gn ((0, 0, false) : W3))).toArray 81) = wl := ⟨_, rfl⟩
  rw [hwl]
  have M0 : Hid (WkM p q ws w wl (List.replicate gn (0, 0, false)) 0) := Lib.hid (by
    rw [← hwl]
    refine ⟨((Below.refl _ _).alloc (Nat.le_refl _) _).alloc (by simp) _, ?_, ?_, by rw [List.length_replicate]; exact HL.out, fun i h => by omega, fun i r h => by omega⟩
    · exact ((bel_newR (w.alloc (.cells #[.int .i64 p, .int .i64 q] 88)) _).block _ (by simp)).trans (heap_alloc_new _ _)
    · have := heap_alloc_new (w.alloc (.cells #[.int .i64 p, .int .i64 q] 88)) (.cells (cells3 (List.replicate gn ((0, 0, false) : W3))).toArray 81)
      simpa using this)
  clear hwl
  go_loopw [13] (fun s13 wr => ∃ (j : Nat) (l : List W3), s13 = .int .i64 j ∧ j ≤ gn ∧ Hid (WkM p q ws w wr l j)) (fun s13 _ => gn - (intOf s13).toNat)
  case atStart => exact ⟨0, _, rfl, by omega, M0⟩
  case round =>
    clear M0
    obtain ⟨j, l, rfl, jn, HM⟩ := hrel
    by_cases lt : j < gn
    · have lt' : (j : Int) < (gn : Int) := by omega
      obtain ⟨g, o, rfl, hk⟩ := HK.out (by omega)
      obtain ⟨⟨a, b, c⟩, hr⟩ : ∃ r, ws[j]? = some r := ⟨_, List.getElem?_eq_getElem (by have := HL.out; omega)⟩
      obtain ⟨⟨a0, a1⟩, b0, b1⟩ := HI.out _ (List.mem_of_getElem? hr)
      obtain ⟨y0, y1, y2⟩ := hk j _ hr
      dsimp only at a0 a1 b0 b1 y0 y1 y2
      have x0 := cell_on HM.out.bel y0
      have x1 := cell_on HM.out.bel y1
      have x2 := cell_on HM.out.bel y2
      have HR := Lib.hid hr
      have A := Lib.hid (SC.out a a0 a1)
      have B := Lib.hid (SC.out b b0 b1)
      have ix : ∀ wy : World, (Instr.indexAt 73 (.slice (some ⟨g, o, none⟩) gn gc) (.int .i64 j)).run Tryd.prog wy = .ok (.pointer (some ⟨g, o + j * 3, none⟩)) wy := fun wy => by
        have k0 : (0 : Int) ≤ (j : Int) := by omega
        simp [go_sem, k0, lt', Addr.add]
        try omega
      have iy : ∀ wy : World, (Instr.indexAt 73 (.slice (some ⟨w.heap.size + 1, 0, none⟩) gn gn) (.int .i64 j)).run Tryd.prog wy = .ok (.pointer (some ⟨w.heap.size + 1, j * 3, none⟩)) wy := fun wy => by
        have k0 : (0 : Int) ≤ (j : Int) := by omega
        simp [go_sem, k0, lt', Addr.add]
        try exact fun h => h.symm
      clear y0 y1 y2 hk hr a0 a1 b0 b1
      go_wp2_with fail
      obtain ⟨w3, hw3⟩ : ∃ x, wr.alloc (.cells #[.int .i64 a, .int .i64 b, .bool c] 81) = x := ⟨_, rfl⟩
      rw [hw3]
      have M3 : Hid (WkM p q ws w w3 l j) := Lib.hid (by rw [← hw3]; exact HM.out.later (bel_newR _ _))
      obtain ⟨b7, h7⟩ : ∃ b7, wr.heap.size = b7 := ⟨_, rfl⟩
      have BX : Hid (w3.heap[b7]? = some (.cells #[.int .i64 a, .int .i64 b, .bool c] 81 (0, 0))) := Lib.hid (by rw [← hw3, ← h7]; exact heap_alloc_new _ _)
      rw [h7]
      have jl : j < l.length := by rw [HM.out.len, ← HL.out]; exact lt
      clear hw3 h7 HM x0 x1 x2 ix
      have CS : Hid ((∃ va vb, s1 p q (a, b, c) = (va, vb, c) ∧ e1 p q (a, b, c) = 0 ∧ (∀ wy, Calls Tryd.prog 40 #[.int .i64 a, .agg #[.int .i64 p, .int .i64 q]] wy fun e w' => e = .returned (.int .i64 va) ∧ Below wy.heap.size wy w') ∧ (∀ wy, Calls Tryd.prog 40 #[.int .i64 b, .agg #[.int .i64 p, .int .i64 q]] wy fun e w' => e = .returned (.int .i64 vb) ∧ Below wy.heap.size wy w')) ∨
          (∃ er, er ≠ 0 ∧ e1 p q (a, b, c) = er ∧ (∀ wy, Calls Tryd.prog 40 #[.int .i64 a, .agg #[.int .i64 p, .int .i64 q]] wy fun e w' => e = .panicked (gave er) ∧ Below wy.heap.size wy w') ∧ (∀ wy, Calls Tryd.prog 40 #[.int .i64 b, .agg #[.int .i64 p, .int .i64 q]] wy fun e w' => ((∃ x, e = .returned x) ∨ e = .panicked (gave er)) ∧ Below wy.heap.size wy w')) ∨
          (∃ er va, er ≠ 0 ∧ e1 p q (a, b, c) = er ∧ (∀ wy, Calls Tryd.prog 40 #[.int .i64 a, .agg #[.int .i64 p, .int .i64 q]] wy fun e w' => e = .returned (.int .i64 va) ∧ Below wy.heap.size wy w') ∧ (∀ wy, Calls Tryd.prog 40 #[.int .i64 b, .agg #[.int .i64 p, .int .i64 q]] wy fun e w' => e = .panicked (gave er) ∧ Below wy.heap.size wy w'))) := Lib.hid (by
        by_cases g : goodB p q = true
        · have A1 := A.out
          have B1 := B.out
          simp only [if_pos g] at A1 B1
          have ee : e1 p q (a, b, c) = if scE p q a = 0 then scE p q b else scE p q a := by simp [e1, g]
          have pan : ∀ {x : Int}, scE p q x = 2 → ∀ {e : Ending}, Ends (scV p q x) (scE p q x) e → e = .panicked (gave 2) := fun {x} h {e} he => by
            rcases he with ⟨h0, _⟩ | ⟨_, _, h1⟩
            · rw [h] at h0; cases h0
            · rw [h] at h1; exact h1
          have ret : ∀ {x : Int}, scE p q x = 0 → ∀ {e : Ending}, Ends (scV p q x) (scE p q x) e → e = .returned (.int .i64 (scV p q x)) := fun {x} h {e} he => by
            rcases he with ⟨_, h1⟩ | ⟨h0, _⟩
            · exact h1
            · exact absurd h h0
          rcases scE_or p q a with za | za
          · rcases scE_or p q b with zb | zb
            · exact .inl ⟨scV p q a, scV p q b, rfl, by rw [ee, if_pos za, zb], fun wy => (A1 wy).mono fun e w' ⟨x, y⟩ => ⟨ret za x, y⟩, fun wy => (B1 wy).mono fun e w' ⟨x, y⟩ => ⟨ret zb x, y⟩⟩
            · exact .inr (.inr ⟨2, scV p q a, by decide, by rw [ee, if_pos za, zb], fun wy => (A1 wy).mono fun e w' ⟨x, y⟩ => ⟨ret za x, y⟩, fun wy => (B1 wy).mono fun e w' ⟨x, y⟩ => ⟨pan zb x, y⟩⟩)
          · refine .inr (.inl ⟨2, by decide, by rw [ee, za]; rfl, fun wy => (A1 wy).mono fun e w' ⟨x, y⟩ => ⟨pan za x, y⟩, fun wy => (B1 wy).mono fun e w' ⟨x, y⟩ => ⟨?_, y⟩⟩)
            rcases scE_or p q b with zb | zb
            · exact .inl ⟨_, ret zb x⟩
            · exact .inr (pan zb x)
        · have A1 := A.out
          have B1 := B.out
          simp only [if_neg g] at A1 B1
          have pan : ∀ {e : Ending}, Ends 0 1 e → e = .panicked (gave 1) := fun {e} he => by
            rcases he with ⟨h0, _⟩ | ⟨_, _, h1⟩
            · cases h0
            · exact h1
          exact .inr (.inl ⟨1, by decide, by simp [e1, g], fun wy => (A1 wy).mono fun e w' ⟨x, y⟩ => ⟨pan x, y⟩, fun wy => (B1 wy).mono fun e w' ⟨x, y⟩ => ⟨.inr (pan x), y⟩⟩))
      clear A B
      rcases CS.out with ⟨va, vb, hs, he, A, B⟩ | ⟨er, hz, he, A, B⟩ | ⟨er, va, hz, he, A, B⟩
      · refine wp_region_vals [some (.slice (some ⟨w.heap.size + 1, 0, none⟩) gn gn), some (.int .i64 (j : Int)), some (.pointer (some ⟨b7, 0, none⟩)), some (.int .i64 a), some (.agg #[.int .i64 p, .int .i64 q]), some (.int .i64 va), some (.pointer (some ⟨b7, 1, none⟩)), some (.int .i64 b), some (.agg #[.int .i64 p, .int .i64 q]), some (.int .i64 vb), some (.pointer (some ⟨b7, 2, none⟩)), some (.bool c), some (.agg #[.int .i64 va, .int .i64 vb, .bool c]), some (.pointer (some ⟨w.heap.size + 1, j * 3, none⟩)), none] (WkB w3 (w.heap.size + 1) j (va, vb, c)) [some 18, some 19, some 20, some 21, some 22, some 23, some 24, some 25, some 26, some 27, some 28, some 29, some 30, some 31, none] (by kernel_rfl) (by kernel_rfl) (by kernel_rfl) (by kernel_rfl) (by kernel_rfl) (by kernel_rfl) ⟨fun _ => (Below.refl _ _).drew, fun q => by cases q⟩ (fun i o ho => ?_) (fun Lz vz w5 hL hB => ?_)
        · match i, ho with
          | 0, ho =>
            obtain rfl := Option.some.inj ho
            intro Az Lz vz wy Kz Ez hB k
            have e5 : Az.eval (.tmp 5) = .slice (some ⟨w.heap.size + 1, 0, none⟩) gn gn := Ez.out 5 (by kernel_rfl)
            have z : Lz 14 = false := Ez.late 14 _ rfl (by kernel_rfl)
            have hb0 := hB.1 z
            exact wpo_val (v := .slice (some ⟨w.heap.size + 1, 0, none⟩) gn gn) (run_move e5) (k _ _ rfl (hB.add z 0 _ (Below.refl _ _) (by decide)))
          | 1, ho =>
            obtain rfl := Option.some.inj ho
            intro Az Lz vz wy Kz Ez hB k
            have e6 : Az.eval (.tmp 6) = .int .i64 (j : Int) := Ez.out 6 (by kernel_rfl)
            have z : Lz 14 = false := Ez.late 14 _ rfl (by kernel_rfl)
            have hb0 := hB.1 z
            exact wpo_val (v := .int .i64 (j : Int)) (run_move e6) (k _ _ rfl (hB.add z 1 _ (Below.refl _ _) (by decide)))
          | 2, ho =>
            obtain rfl := Option.some.inj ho
            intro Az Lz vz wy Kz Ez hB k
            have e7 : Az.eval (.tmp 7) = .pointer (some ⟨b7, 0, none⟩) := Ez.out 7 (by kernel_rfl)
            have z : Lz 14 = false := Ez.late 14 _ rfl (by kernel_rfl)
            have hb0 := hB.1 z
            exact wpo_val (v := .pointer (some ⟨b7, 0, none⟩)) (run_field e7 (by simp [go_sem])) (k _ _ rfl (hB.add z 2 _ (Below.refl _ _) (by decide)))
          | 3, ho =>
            obtain rfl := Option.some.inj ho
            intro Az Lz vz wy Kz Ez hB k
            have e20 : Az.eval (.tmp 20) = .pointer (some ⟨b7, 0, none⟩) := Ez.dep 2 20 (by kernel_rfl) rfl
            have z : Lz 14 = false := Ez.late 14 _ rfl (by kernel_rfl)
            have hb0 := hB.1 z
            have hc := cell_row3 ((hb0.block _ (Array.getElem?_eq_some_iff.1 BX.out).1).trans BX.out) 0
            simp at hc
            exact wpo_val (v := .int .i64 a) (run_load e20 (by simp [go_sem, hc])) (k _ _ rfl (hB.add z 3 _ (Below.refl _ _) (by decide)))
          | 6, ho =>
            obtain rfl := Option.some.inj ho
            intro Az Lz vz wy Kz Ez hB k
            have e7 : Az.eval (.tmp 7) = .pointer (some ⟨b7, 0, none⟩) := Ez.out 7 (by kernel_rfl)
            have z : Lz 14 = false := Ez.late 14 _ rfl (by kernel_rfl)
            have hb0 := hB.1 z
            exact wpo_val (v := .pointer (some ⟨b7, 1, none⟩)) (run_field e7 (by simp [go_sem])) (k _ _ rfl (hB.add z 6 _ (Below.refl _ _) (by decide)))
          | 7, ho =>
            obtain rfl := Option.some.inj ho
            intro Az Lz vz wy Kz Ez hB k
            have e24 : Az.eval (.tmp 24) = .pointer (some ⟨b7, 1, none⟩) := Ez.dep 6 24 (by kernel_rfl) rfl
            have z : Lz 14 = false := Ez.late 14 _ rfl (by kernel_rfl)
            have hb0 := hB.1 z
            have hc := cell_row3 ((hb0.block _ (Array.getElem?_eq_some_iff.1 BX.out).1).trans BX.out) 1
            simp at hc
            exact wpo_val (v := .int .i64 b) (run_load e24 (by simp [go_sem, hc])) (k _ _ rfl (hB.add z 7 _ (Below.refl _ _) (by decide)))
          | 10, ho =>
            obtain rfl := Option.some.inj ho
            intro Az Lz vz wy Kz Ez hB k
            have e7 : Az.eval (.tmp 7) = .pointer (some ⟨b7, 0, none⟩) := Ez.out 7 (by kernel_rfl)
            have z : Lz 14 = false := Ez.late 14 _ rfl (by kernel_rfl)
            have hb0 := hB.1 z
            exact wpo_val (v := .pointer (some ⟨b7, 2, none⟩)) (run_field e7 (by simp [go_sem])) (k _ _ rfl (hB.add z 10 _ (Below.refl _ _) (by decide)))
          | 11, ho =>
            obtain rfl := Option.some.inj ho
            intro Az Lz vz wy Kz Ez hB k
            have e28 : Az.eval (.tmp 28) = .pointer (some ⟨b7, 2, none⟩) := Ez.dep 10 28 (by kernel_rfl) rfl
            have z : Lz 14 = false := Ez.late 14 _ rfl (by kernel_rfl)
            have hb0 := hB.1 z
            have hc := cell_row3 ((hb0.block _ (Array.getElem?_eq_some_iff.1 BX.out).1).trans BX.out) 2
            simp at hc
            exact wpo_val (v := .bool c) (run_load e28 (by simp [go_sem, hc])) (k _ _ rfl (hB.add z 11 _ (Below.refl _ _) (by decide)))
          | 4, ho =>
            obtain rfl := Option.some.inj ho
            intro Az Lz vz wy Kz Ez hB k
            have e3 : Az.eval (.tmp 3) = .pointer (some ⟨w.heap.size, 0, none⟩) := Ez.out 3 (by kernel_rfl)
            have z : Lz 14 = false := Ez.late 14 _ rfl (by kernel_rfl)
            have hb0 := hB.1 z
            have hr := (M3.out.later hb0).rb
            have c0 := cell_row3 hr 0
            have c1 := cell_row3 hr 1
            simp at c0 c1
            exact wpo_val (v := .agg #[.int .i64 p, .int .i64 q]) (run_load e3 (by simp [go_sem, c0, c1])) (k _ _ rfl (hB.add z 4 _ (Below.refl _ _) (by decide)))
          | 8, ho =>
            obtain rfl := Option.some.inj ho
            intro Az Lz vz wy Kz Ez hB k
            have e3 : Az.eval (.tmp 3) = .pointer (some ⟨w.heap.size, 0, none⟩) := Ez.out 3 (by kernel_rfl)
            have z : Lz 14 = false := Ez.late 14 _ rfl (by kernel_rfl)
            have hb0 := hB.1 z
            have hr := (M3.out.later hb0).rb
            have c0 := cell_row3 hr 0
            have c1 := cell_row3 hr 1
            simp at c0 c1
            exact wpo_val (v := .agg #[.int .i64 p, .int .i64 q]) (run_load e3 (by simp [go_sem, c0, c1])) (k _ _ rfl (hB.add z 8 _ (Below.refl _ _) (by decide)))
          | 5, ho =>
            obtain rfl := Option.some.inj ho
            intro Az Lz vz wy Kz Ez hB k
            have e21 : Az.eval (.tmp 21) = .int .i64 a := Ez.dep 3 21 (by kernel_rfl) rfl
            have e22 : Az.eval (.tmp 22) = .agg #[.int .i64 p, .int .i64 q] := Ez.dep 4 22 (by kernel_rfl) rfl
            have z : Lz 14 = false := Ez.late 14 _ rfl (by kernel_rfl)
            have hb0 := hB.1 z
            refine wpo_call (run_callW (fun _ _ => by kernel_rfl)) (R := fun ez w' => ez = .returned (.int .i64 va) ∧ Below wy.heap.size wy w') ?_ ?_
            · simp only [List.map_toArray, List.map_cons, List.map_nil, eval_const, e21, e22]
              exact A wy
            · rintro ez w' ⟨rfl, hb⟩
              exact ⟨_, rfl, k _ _ rfl (hB.add z 5 _ hb (by decide))⟩
          | 9, ho =>
            obtain rfl := Option.some.inj ho
            intro Az Lz vz wy Kz Ez hB k
            have e25 : Az.eval (.tmp 25) = .int .i64 b := Ez.dep 7 25 (by kernel_rfl) rfl
            have e26 : Az.eval (.tmp 26) = .agg #[.int .i64 p, .int .i64 q] := Ez.dep 8 26 (by kernel_rfl) rfl
            have z : Lz 14 = false := Ez.late 14 _ rfl (by kernel_rfl)
            have hb0 := hB.1 z
            refine wpo_call (run_callW (fun _ _ => by kernel_rfl)) (R := fun ez w' => ez = .returned (.int .i64 vb) ∧ Below wy.heap.size wy w') ?_ ?_
            · simp only [List.map_toArray, List.map_cons, List.map_nil, eval_const, e25, e26]
              exact B wy
            · rintro ez w' ⟨rfl, hb⟩
              exact ⟨_, rfl, k _ _ rfl (hB.add z 9 _ hb (by decide))⟩
          | 12, ho =>
            obtain rfl := Option.some.inj ho
            intro Az Lz vz wy Kz Ez hB k
            have e23 : Az.eval (.tmp 23) = .int .i64 va := Ez.dep 5 23 (by kernel_rfl) rfl
            have e27 : Az.eval (.tmp 27) = .int .i64 vb := Ez.dep 9 27 (by kernel_rfl) rfl
            have e29 : Az.eval (.tmp 29) = .bool c := Ez.dep 11 29 (by kernel_rfl) rfl
            have z : Lz 14 = false := Ez.late 14 _ rfl (by kernel_rfl)
            have hb0 := hB.1 z
            exact wpo_val (v := .agg #[.int .i64 va, .int .i64 vb, .bool c]) (run_build (l' := #[(0, .int .i64 va), (1, .int .i64 vb), (2, .bool c)]) (by simp only [List.map_toArray, List.map_cons, List.map_nil, eval_const, e23, e27, e29]) (by simp [go_sem])) (k _ _ rfl (hB.add z 12 _ (Below.refl _ _) (by decide)))
          | 13, ho =>
            obtain rfl := Option.some.inj ho
            intro Az Lz vz wy Kz Ez hB k
            have e18 : Az.eval (.tmp 18) = .slice (some ⟨w.heap.size + 1, 0, none⟩) gn gn := Ez.dep 0 18 (by kernel_rfl) rfl
            have e19 : Az.eval (.tmp 19) = .int .i64 (j : Int) := Ez.dep 1 19 (by kernel_rfl) rfl
            have z : Lz 14 = false := Ez.late 14 _ rfl (by kernel_rfl)
            have hb0 := hB.1 z
            exact wpo_val (v := .pointer (some ⟨w.heap.size + 1, j * 3, none⟩)) (run_index e18 e19 (iy wy)) (k _ _ rfl (hB.add z 13 _ (Below.refl _ _) (by decide)))
          | 14, ho =>
            obtain rfl := Option.some.inj ho
            intro Az Lz vz wy Kz Ez hB k
            have e31 : Az.eval (.tmp 31) = .pointer (some ⟨w.heap.size + 1, j * 3, none⟩) := Ez.dep 13 31 (by kernel_rfl) rfl
            have e30 : Az.eval (.tmp 30) = .agg #[.int .i64 va, .int .i64 vb, .bool c] := Ez.dep 12 30 (by kernel_rfl) rfl
            have z : Lz 14 = false := Ez.not
            have hb0 := hB.1 z
            exact wpo_skip (run_store e31 e30 (sto_run (M3.out.later hb0).mkr jl (va, vb, c))) (k _ _ trivial ⟨fun q => by simp [addL] at q, fun _ => ⟨wy, hb0, rfl⟩⟩)
          | n + 15, ho => simp at ho
        · obtain ⟨wy0, hb0, rfl⟩ := hB.2 (hL 14 (by decide))
          have M5 : Hid (WkM p q ws w (sto wy0 (w.heap.size + 1) j (va, vb, c)) (l.set j (va, vb, c)) (j + 1)) := Lib.hid (by
            have := (M3.out.later hb0).step HR.out he
            rwa [hs] at this)
          clear hL hB hb0 A B hs he
          generalize sto wy0 (w.heap.size + 1) j (va, vb, c) = w5 at M5 ⊢
          simp only [puts2, mix, Act.put, List.setIfInBounds_toArray, List.set_cons_zero, List.set_cons_succ, Nat.zero_add, Nat.reduceAdd, List.getElem?_cons_zero, List.getElem?_cons_succ]
          go_wp2_with fail
          go_roundw
          case rel => exact ⟨j + 1, _, by simp, by omega, M5⟩
          case measure => simp [intOf]; omega
      · refine wp_region_vals [some (.slice (some ⟨w.heap.size + 1, 0, none⟩) gn gn), some (.int .i64 (j : Int)), some (.pointer (some ⟨b7, 0, none⟩)), some (.int .i64 a), some (.agg #[.int .i64 p, .int .i64 q]), none, some (.pointer (some ⟨b7, 1, none⟩)), some (.int .i64 b), some (.agg #[.int .i64 p, .int .i64 q]), none, some (.pointer (some ⟨b7, 2, none⟩)), some (.bool c), none, some (.pointer (some ⟨w.heap.size + 1, j * 3, none⟩)), none] (WkN w3 5) [some 18, some 19, some 20, some 21, some 22, some 23, some 24, some 25, some 26, some 27, some 28, some 29, some 30, some 31, none] (by kernel_rfl) (by kernel_rfl) (by kernel_rfl) (by kernel_rfl) (by kernel_rfl) (by kernel_rfl) ⟨(Below.refl _ _).drew, rfl⟩ (fun i o ho => ?_) (fun Lz vz w5 hL hB => ?_)
        · match i, ho with
          | 0, ho =>
            obtain rfl := Option.some.inj ho
            intro Az Lz vz wy Kz Ez hB k
            have e5 : Az.eval (.tmp 5) = .slice (some ⟨w.heap.size + 1, 0, none⟩) gn gn := Ez.out 5 (by kernel_rfl)
            have hb0 := hB.1
            exact wpo_val (v := .slice (some ⟨w.heap.size + 1, 0, none⟩) gn gn) (run_move e5) (k _ _ rfl (hB.add 0 _ (Below.refl _ _) (by decide)))
          | 1, ho =>
            obtain rfl := Option.some.inj ho
            intro Az Lz vz wy Kz Ez hB k
            have e6 : Az.eval (.tmp 6) = .int .i64 (j : Int) := Ez.out 6 (by kernel_rfl)
            have hb0 := hB.1
            exact wpo_val (v := .int .i64 (j : Int)) (run_move e6) (k _ _ rfl (hB.add 1 _ (Below.refl _ _) (by decide)))
          | 2, ho =>
            obtain rfl := Option.some.inj ho
            intro Az Lz vz wy Kz Ez hB k
            have e7 : Az.eval (.tmp 7) = .pointer (some ⟨b7, 0, none⟩) := Ez.out 7 (by kernel_rfl)
            have hb0 := hB.1
            exact wpo_val (v := .pointer (some ⟨b7, 0, none⟩)) (run_field e7 (by simp [go_sem])) (k _ _ rfl (hB.add 2 _ (Below.refl _ _) (by decide)))
          | 3, ho =>
            obtain rfl := Option.some.inj ho
            intro Az Lz vz wy Kz Ez hB k
            have e20 : Az.eval (.tmp 20) = .pointer (some ⟨b7, 0, none⟩) := Ez.dep 2 20 (by kernel_rfl) rfl
            have hb0 := hB.1
            have hc := cell_row3 ((hb0.block _ (Array.getElem?_eq_some_iff.1 BX.out).1).trans BX.out) 0
            simp at hc
            exact wpo_val (v := .int .i64 a) (run_load e20 (by simp [go_sem, hc])) (k _ _ rfl (hB.add 3 _ (Below.refl _ _) (by decide)))
          | 6, ho =>
            obtain rfl := Option.some.inj ho
            intro Az Lz vz wy Kz Ez hB k
            have e7 : Az.eval (.tmp 7) = .pointer (some ⟨b7, 0, none⟩) := Ez.out 7 (by kernel_rfl)
            have hb0 := hB.1
            exact wpo_val (v := .pointer (some ⟨b7, 1, none⟩)) (run_field e7 (by simp [go_sem])) (k _ _ rfl (hB.add 6 _ (Below.refl _ _) (by decide)))
          | 7, ho =>
            obtain rfl := Option.some.inj ho
            intro Az Lz vz wy Kz Ez hB k
            have e24 : Az.eval (.tmp 24) = .pointer (some ⟨b7, 1, none⟩) := Ez.dep 6 24 (by kernel_rfl) rfl
            have hb0 := hB.1
            have hc := cell_row3 ((hb0.block _ (Array.getElem?_eq_some_iff.1 BX.out).1).trans BX.out) 1
            simp at hc
            exact wpo_val (v := .int .i64 b) (run_load e24 (by simp [go_sem, hc])) (k _ _ rfl (hB.add 7 _ (Below.refl _ _) (by decide)))
          | 10, ho =>
            obtain rfl := Option.some.inj ho
            intro Az Lz vz wy Kz Ez hB k
            have e7 : Az.eval (.tmp 7) = .pointer (some ⟨b7, 0, none⟩) := Ez.out 7 (by kernel_rfl)
            have hb0 := hB.1
            exact wpo_val (v := .pointer (some ⟨b7, 2, none⟩)) (run_field e7 (by simp [go_sem])) (k _ _ rfl (hB.add 10 _ (Below.refl _ _) (by decide)))
          | 11, ho =>
            obtain rfl := Option.some.inj ho
            intro Az Lz vz wy Kz Ez hB k
            have e28 : Az.eval (.tmp 28) = .pointer (some ⟨b7, 2, none⟩) := Ez.dep 10 28 (by kernel_rfl) rfl
            have hb0 := hB.1
            have hc := cell_row3 ((hb0.block _ (Array.getElem?_eq_some_iff.1 BX.out).1).trans BX.out) 2
            simp at hc
            exact wpo_val (v := .bool c) (run_load e28 (by simp [go_sem, hc])) (k _ _ rfl (hB.add 11 _ (Below.refl _ _) (by decide)))
          | 4, ho =>
            obtain rfl := Option.some.inj ho
            intro Az Lz vz wy Kz Ez hB k
            have e3 : Az.eval (.tmp 3) = .pointer (some ⟨w.heap.size, 0, none⟩) := Ez.out 3 (by kernel_rfl)
            have hb0 := hB.1
            have hr := (M3.out.later hb0).rb
            have c0 := cell_row3 hr 0
            have c1 := cell_row3 hr 1
            simp at c0 c1
            exact wpo_val (v := .agg #[.int .i64 p, .int .i64 q]) (run_load e3 (by simp [go_sem, c0, c1])) (k _ _ rfl (hB.add 4 _ (Below.refl _ _) (by decide)))
          | 8, ho =>
            obtain rfl := Option.some.inj ho
            intro Az Lz vz wy Kz Ez hB k
            have e3 : Az.eval (.tmp 3) = .pointer (some ⟨w.heap.size, 0, none⟩) := Ez.out 3 (by kernel_rfl)
            have hb0 := hB.1
            have hr := (M3.out.later hb0).rb
            have c0 := cell_row3 hr 0
            have c1 := cell_row3 hr 1
            simp at c0 c1
            exact wpo_val (v := .agg #[.int .i64 p, .int .i64 q]) (run_load e3 (by simp [go_sem, c0, c1])) (k _ _ rfl (hB.add 8 _ (Below.refl _ _) (by decide)))
          | 5, ho =>
            obtain rfl := Option.some.inj ho
            intro Az Lz vz wy Kz Ez hB k
            have e21 : Az.eval (.tmp 21) = .int .i64 a := Ez.dep 3 21 (by kernel_rfl) rfl
            have e22 : Az.eval (.tmp 22) = .agg #[.int .i64 p, .int .i64 q] := Ez.dep 4 22 (by kernel_rfl) rfl
            have hb0 := hB.1
            refine wpo_call_p (run_callW (fun _ _ => by kernel_rfl)) (R := fun ez w' => ez = .panicked (gave er) ∧ Below wy.heap.size wy w') ?_ ?_
            · simp only [List.map_toArray, List.map_cons, List.map_nil, eval_const, e21, e22]
              exact A wy
            · rintro ez w' ⟨rfl, hb⟩
              exact .inr ⟨_, rfl, Ez.defs, bel_tr0 (M3.out.later hb0).bel hb, [], er, .inr ⟨hz, rfl, j, _, HR.out, he, M3.out.good⟩, .inr ⟨hz, rfl⟩⟩
          | 9, ho =>
            obtain rfl := Option.some.inj ho
            intro Az Lz vz wy Kz Ez hB k
            have e25 : Az.eval (.tmp 25) = .int .i64 b := Ez.dep 7 25 (by kernel_rfl) rfl
            have e26 : Az.eval (.tmp 26) = .agg #[.int .i64 p, .int .i64 q] := Ez.dep 8 26 (by kernel_rfl) rfl
            have hb0 := hB.1
            refine wpo_call_p (run_callW (fun _ _ => by kernel_rfl)) (R := fun ez w' => ((∃ x, ez = .returned x) ∨ ez = .panicked (gave er)) ∧ Below wy.heap.size wy w') ?_ ?_
            · simp only [List.map_toArray, List.map_cons, List.map_nil, eval_const, e25, e26]
              exact B wy
            · rintro ez w' ⟨⟨x, rfl⟩ | rfl, hb⟩
              · exact .inl ⟨_, rfl, k _ _ trivial (hB.add 9 _ hb (by decide))⟩
              · exact .inr ⟨_, rfl, Ez.defs, bel_tr0 (M3.out.later hb0).bel hb, [], er, .inr ⟨hz, rfl, j, _, HR.out, he, M3.out.good⟩, .inr ⟨hz, rfl⟩⟩
          | 12, ho =>
            obtain rfl := Option.some.inj ho
            intro Az Lz vz wy Kz Ez hB k
            have q := Ez.had 5 (by kernel_rfl)
            rw [hB.2] at q
            cases q
          | 13, ho =>
            obtain rfl := Option.some.inj ho
            intro Az Lz vz wy Kz Ez hB k
            have e18 : Az.eval (.tmp 18) = .slice (some ⟨w.heap.size + 1, 0, none⟩) gn gn := Ez.dep 0 18 (by kernel_rfl) rfl
            have e19 : Az.eval (.tmp 19) = .int .i64 (j : Int) := Ez.dep 1 19 (by kernel_rfl) rfl
            have hb0 := hB.1
            exact wpo_val (v := .pointer (some ⟨w.heap.size + 1, j * 3, none⟩)) (run_index e18 e19 (iy wy)) (k _ _ rfl (hB.add 13 _ (Below.refl _ _) (by decide)))
          | 14, ho =>
            obtain rfl := Option.some.inj ho
            intro Az Lz vz wy Kz Ez hB k
            have q := Ez.had 5 (by kernel_rfl)
            rw [hB.2] at q
            cases q
          | n + 15, ho => simp at ho
        · have q := hL 5 (by decide)
          rw [hB.2] at q
          cases q
      · refine wp_region_vals [some (.slice (some ⟨w.heap.size + 1, 0, none⟩) gn gn), some (.int .i64 (j : Int)), some (.pointer (some ⟨b7, 0, none⟩)), some (.int .i64 a), some (.agg #[.int .i64 p, .int .i64 q]), some (.int .i64 va), some (.pointer (some ⟨b7, 1, none⟩)), some (.int .i64 b), some (.agg #[.int .i64 p, .int .i64 q]), none, some (.pointer (some ⟨b7, 2, none⟩)), some (.bool c), none, some (.pointer (some ⟨w.heap.size + 1, j * 3, none⟩)), none] (WkN w3 9) [some 18, some 19, some 20, some 21, some 22, some 23, some 24, some 25, some 26, some 27, some 28, some 29, some 30, some 31, none] (by kernel_rfl) (by kernel_rfl) (by kernel_rfl) (by kernel_rfl) (by kernel_rfl) (by kernel_rfl) ⟨(Below.refl _ _).drew, rfl⟩ (fun i o ho => ?_) (fun Lz vz w5 hL hB => ?_)
        · match i, ho with
          | 0, ho =>
            obtain rfl := Option.some.inj ho
            intro Az Lz vz wy Kz Ez hB k
            have e5 : Az.eval (.tmp 5) = .slice (some ⟨w.heap.size + 1, 0, none⟩) gn gn := Ez.out 5 (by kernel_rfl)
            have hb0 := hB.1
            exact wpo_val (v := .slice (some ⟨w.heap.size + 1, 0, none⟩) gn gn) (run_move e5) (k _ _ rfl (hB.add 0 _ (Below.refl _ _) (by decide)))
          | 1, ho =>
            obtain rfl := Option.some.inj ho
            intro Az Lz vz wy Kz Ez hB k
            have e6 : Az.eval (.tmp 6) = .int .i64 (j : Int) := Ez.out 6 (by kernel_rfl)
            have hb0 := hB.1
            exact wpo_val (v := .int .i64 (j : Int)) (run_move e6) (k _ _ rfl (hB.add 1 _ (Below.refl _ _) (by decide)))
          | 2, ho =>
            obtain rfl := Option.some.inj ho
            intro Az Lz vz wy Kz Ez hB k
            have e7 : Az.eval (.tmp 7) = .pointer (some ⟨b7, 0, none⟩) := Ez.out 7 (by kernel_rfl)
            have hb0 := hB.1
            exact wpo_val (v := .pointer (some ⟨b7, 0, none⟩)) (run_field e7 (by simp [go_sem])) (k _ _ rfl (hB.add 2 _ (Below.refl _ _) (by decide)))
          | 3, ho =>
            obtain rfl := Option.some.inj ho
            intro Az Lz vz wy Kz Ez hB k
            have e20 : Az.eval (.tmp 20) = .pointer (some ⟨b7, 0, none⟩) := Ez.dep 2 20 (by kernel_rfl) rfl
            have hb0 := hB.1
            have hc := cell_row3 ((hb0.block _ (Array.getElem?_eq_some_iff.1 BX.out).1).trans BX.out) 0
            simp at hc
            exact wpo_val (v := .int .i64 a) (run_load e20 (by simp [go_sem, hc])) (k _ _ rfl (hB.add 3 _ (Below.refl _ _) (by decide)))
          | 6, ho =>
            obtain rfl := Option.some.inj ho
            intro Az Lz vz wy Kz Ez hB k
            have e7 : Az.eval (.tmp 7) = .pointer (some ⟨b7, 0, none⟩) := Ez.out 7 (by kernel_rfl)
            have hb0 := hB.1
            exact wpo_val (v := .pointer (some ⟨b7, 1, none⟩)) (run_field e7 (by simp [go_sem])) (k _ _ rfl (hB.add 6 _ (Below.refl _ _) (by decide)))
          | 7, ho =>
            obtain rfl := Option.some.inj ho
            intro Az Lz vz wy Kz Ez hB k
            have e24 : Az.eval (.tmp 24) = .pointer (some ⟨b7, 1, none⟩) := Ez.dep 6 24 (by kernel_rfl) rfl
            have hb0 := hB.1
            have hc := cell_row3 ((hb0.block _ (Array.getElem?_eq_some_iff.1 BX.out).1).trans BX.out) 1
            simp at hc
            exact wpo_val (v := .int .i64 b) (run_load e24 (by simp [go_sem, hc])) (k _ _ rfl (hB.add 7 _ (Below.refl _ _) (by decide)))
          | 10, ho =>
            obtain rfl := Option.some.inj ho
            intro Az Lz vz wy Kz Ez hB k
            have e7 : Az.eval (.tmp 7) = .pointer (some ⟨b7, 0, none⟩) := Ez.out 7 (by kernel_rfl)
            have hb0 := hB.1
            exact wpo_val (v := .pointer (some ⟨b7, 2, none⟩)) (run_field e7 (by simp [go_sem])) (k _ _ rfl (hB.add 10 _ (Below.refl _ _) (by decide)))
          | 11, ho =>
            obtain rfl := Option.some.inj ho
            intro Az Lz vz wy Kz Ez hB k
            have e28 : Az.eval (.tmp 28) = .pointer (some ⟨b7, 2, none⟩) := Ez.dep 10 28 (by kernel_rfl) rfl
            have hb0 := hB.1
            have hc := cell_row3 ((hb0.block _ (Array.getElem?_eq_some_iff.1 BX.out).1).trans BX.out) 2
            simp at hc
            exact wpo_val (v := .bool c) (run_load e28 (by simp [go_sem, hc])) (k _ _ rfl (hB.add 11 _ (Below.refl _ _) (by decide)))
          | 4, ho =>
            obtain rfl := Option.some.inj ho
            intro Az Lz vz wy Kz Ez hB k
            have e3 : Az.eval (.tmp 3) = .pointer (some ⟨w.heap.size, 0, none⟩) := Ez.out 3 (by kernel_rfl)
            have hb0 := hB.1
            have hr := (M3.out.later hb0).rb
            have c0 := cell_row3 hr 0
            have c1 := cell_row3 hr 1
            simp at c0 c1
            exact wpo_val (v := .agg #[.int .i64 p, .int .i64 q]) (run_load e3 (by simp [go_sem, c0, c1])) (k _ _ rfl (hB.add 4 _ (Below.refl _ _) (by decide)))
          | 8, ho =>
            obtain rfl := Option.some.inj ho
            intro Az Lz vz wy Kz Ez hB k
            have e3 : Az.eval (.tmp 3) = .pointer (some ⟨w.heap.size, 0, none⟩) := Ez.out 3 (by kernel_rfl)
            have hb0 := hB.1
            have hr := (M3.out.later hb0).rb
            have c0 := cell_row3 hr 0
            have c1 := cell_row3 hr 1
            simp at c0 c1
            exact wpo_val (v := .agg #[.int .i64 p, .int .i64 q]) (run_load e3 (by simp [go_sem, c0, c1])) (k _ _ rfl (hB.add 8 _ (Below.refl _ _) (by decide)))
          | 5, ho =>
            obtain rfl := Option.some.inj ho
            intro Az Lz vz wy Kz Ez hB k
            have e21 : Az.eval (.tmp 21) = .int .i64 a := Ez.dep 3 21 (by kernel_rfl) rfl
            have e22 : Az.eval (.tmp 22) = .agg #[.int .i64 p, .int .i64 q] := Ez.dep 4 22 (by kernel_rfl) rfl
            have hb0 := hB.1
            refine wpo_call (run_callW (fun _ _ => by kernel_rfl)) (R := fun ez w' => ez = .returned (.int .i64 va) ∧ Below wy.heap.size wy w') ?_ ?_
            · simp only [List.map_toArray, List.map_cons, List.map_nil, eval_const, e21, e22]
              exact A wy
            · rintro ez w' ⟨rfl, hb⟩
              exact ⟨_, rfl, k _ _ rfl (hB.add 5 _ hb (by decide))⟩
          | 9, ho =>
            obtain rfl := Option.some.inj ho
            intro Az Lz vz wy Kz Ez hB k
            have e25 : Az.eval (.tmp 25) = .int .i64 b := Ez.dep 7 25 (by kernel_rfl) rfl
            have e26 : Az.eval (.tmp 26) = .agg #[.int .i64 p, .int .i64 q] := Ez.dep 8 26 (by kernel_rfl) rfl
            have hb0 := hB.1
            refine wpo_call_p (run_callW (fun _ _ => by kernel_rfl)) (R := fun ez w' => ez = .panicked (gave er) ∧ Below wy.heap.size wy w') ?_ ?_
            · simp only [List.map_toArray, List.map_cons, List.map_nil, eval_const, e25, e26]
              exact B wy
            · rintro ez w' ⟨rfl, hb⟩
              exact .inr ⟨_, rfl, Ez.defs, bel_tr0 (M3.out.later hb0).bel hb, [], er, .inr ⟨hz, rfl, j, _, HR.out, he, M3.out.good⟩, .inr ⟨hz, rfl⟩⟩
          | 12, ho =>
            obtain rfl := Option.some.inj ho
            intro Az Lz vz wy Kz Ez hB k
            have q := Ez.had 9 (by kernel_rfl)
            rw [hB.2] at q
            cases q
          | 13, ho =>
            obtain rfl := Option.some.inj ho
            intro Az Lz vz wy Kz Ez hB k
            have e18 : Az.eval (.tmp 18) = .slice (some ⟨w.heap.size + 1, 0, none⟩) gn gn := Ez.dep 0 18 (by kernel_rfl) rfl
            have e19 : Az.eval (.tmp 19) = .int .i64 (j : Int) := Ez.dep 1 19 (by kernel_rfl) rfl
            have hb0 := hB.1
            exact wpo_val (v := .pointer (some ⟨w.heap.size + 1, j * 3, none⟩)) (run_index e18 e19 (iy wy)) (k _ _ rfl (hB.add 13 _ (Below.refl _ _) (by decide)))
          | 14, ho =>
            obtain rfl := Option.some.inj ho
            intro Az Lz vz wy Kz Ez hB k
            have q := Ez.had 9 (by kernel_rfl)
            rw [hB.2] at q
            cases q
          | n + 15, ho => simp at ho
        · have q := hL 9 (by decide)
          rw [hB.2] at q
          cases q
    · have ej : j = gn := by omega
      subst ej
      have FIN : Hid (WScR w p q ws (.returned (.slice (some ⟨w.heap.size + 1, 0, none⟩) j j)) wr) := Lib.hid (by
        have ll : l = ws.map (s1 p q) := List.ext_getElem? fun i => by
          by_cases hi : i < j
          · exact HM.out.done i hi
          · rw [List.getElem?_eq_none (by rw [HM.out.len]; have := HL.out; omega), List.getElem?_eq_none (by rw [List.length_map]; have := HL.out; omega)]
        refine ⟨HM.out.bel, l, 0, .inl ⟨rfl, fun r m => ?_, ll⟩, .inl ⟨rfl, _, rfl, ⟨_, _, _, rfl, by rw [HM.out.len]; exact HL.out, Nat.le_refl _, by omega, fun _ => ⟨_, 0, rfl, fun k r hk => ?_⟩⟩, fun p n c h => by cases h; exact Nat.le_succ _⟩⟩
        · obtain ⟨k, hk⟩ := List.mem_iff_getElem?.1 m
          have := (List.getElem?_eq_some_iff.1 hk).1
          exact HM.out.good k r (by have := HL.out; omega) hk
        · obtain ⟨g0, g1, g2⟩ := cells3_get l k r hk
          rw [Nat.zero_add]
          rw [cell_row3 HM.out.mkr, cell_row3 HM.out.mkr, cell_row3 HM.out.mkr, List.getElem?_toArray, List.getElem?_toArray, List.getElem?_toArray]
          exact ⟨g0, g1, g2⟩)
      go_wp2_with fail
      go_returns
      exact FIN.out
end Go.Proofs.YtbolifjkhoiphaaDoor
