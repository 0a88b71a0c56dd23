/- The walk of DamageHolds. Made by gen/lawdam.py. -/
import Derived.Test.YtfhepaiefdmlcaaHoldsB
import Derived.LoopTactic
import Derived.WalkKit
import Derived.WalkSpells
import Derived.WalkLawsBesides
import Derived.Handy
import Derived.Lib.Hide
import Derived.Deep.QuietTactic
import Derived.BigQuiet
import Derived.Deep.RegionHeld3
import Derived.Deep.RegionWith
import Derived.Outline
import Derived.Deep.DeepCutAuto
namespace Go.Proofs.Ytfhepaiefdmlcaa
open Go.RowKit Go.Proofs.Reg Go.Proofs.Big Go.Proofs.Bands
set_option linter.unusedVariables false
set_option linter.unusedSimpArgs false
set_option maxRecDepth 100000
theorem EV.butD {w w' : World} {v : Value} {es : List Int} (h : EV w v es) {b : Nat} (k : But [b] w w') {cs : Array Value} {fz : Nat × Nat} (hk : w.heap[b]? = some (.cells cs 109 fz)) : EV w' v es :=
  h.kept fun g cs' fz' hg => k.block g (Array.getElem?_eq_some_iff.1 hg).1 (by
    rw [List.mem_singleton]
    rintro rfl
    rw [hk] at hg
    simp only [Option.some.injEq, Obj.cells.injEq] at hg
    exact absurd hg.2.1 dam_ne_int)
theorem BS.butD {w w' : World} {v : Value} {l : List Bd} (h : BS w v l) {b : Nat} (kb : But [b] w w') {n x c : Value} {fz : Nat × Nat} (hk : w.heap[b]? = some (.cells #[n, x, c] 109 fz)) (hx : ∀ k, x ≠ .int .i64 k) : BS w' v l := by
  obtain ⟨a, m, cp, xs, rfl, h1, h2, h3, h4, h5⟩ := h
  refine ⟨a, m, cp, xs, rfl, h1.all fun _ _ e => e.butD kb hk, h2, h3, h4, fun hn => ?_⟩
  obtain ⟨g, hg, hc⟩ := h5 hn
  refine ⟨g, hg, fun j y hj => ?_⟩
  have gb : g ≠ b := fun e => by
    obtain ⟨ev, x0, x1, _⟩ := h1.get 0 l[0] (List.getElem?_eq_getElem (by omega))
    have := hc _ _ x1
    rw [e] at this
    simp [World.cell?, hk] at this
    exact hx _ this
  exact kb.cell (by rw [List.mem_singleton]; exact gb) (hc j y hj)
theorem Rg.butD {w w' : World} {v : Value} {l : List Bd} (h : Rg w v l) {b : Nat} (kb : But [b] w w') {n x c : Value} {fz : Nat × Nat} (hk : w.heap[b]? = some (.cells #[n, x, c] 109 fz)) (hx : ∀ k, x ≠ .int .i64 k) : Rg w' v l := by
  obtain ⟨⟨v, rfl, bs⟩, wf, ir⟩ := h
  exact ⟨⟨v, rfl, bs.butD kb hk hx⟩, wf, ir⟩
theorem row1 {w : World} {b : Nat} {x : Value} {t : TypeId} (hk : w.heap[b]? = some (.cells #[x] t (0, 0))) : Tab w [(b, [x])] :=
  (Tab.nil w).cons fun i v hi => by
    match i, hi with
    | 0, hi => simp at hi; subst hi; exact ⟨by simp [World.cell?, hk], by simp [World.frozen?, hk]⟩
    | i + 1, hi => simp at hi
/-- what the region of 'all' keeps -/
def H13 (w3 : World) (b8 : Nat) (T : List (Nat × List Value)) (r : Q4) (PA : Int → Int → Bool) (L : Nat → Bool) (vz : Nat → Value) (wy : World) : Prop :=
  (L 5 = false → Below w3.heap.size w3 wy ∧ Tab wy T ∧ (L 2 = true → RS wy (vz 2) [r]) ∧ (L 3 = true → IsR wy (vz 3) (inQ r)) ∧ (L 4 = true → IsR wy (vz 4) PA)) ∧
  (L 5 = true → ∃ wy0 a n c, Below w3.heap.size w3 wy0 ∧ Tab wy0 T ∧ IsR wy0 (.agg #[.slice a n c]) PA ∧ wy = wy0.setCell ⟨b8, 0, none⟩ (.slice a n c))
theorem H13.add {w3 : World} {b8 : Nat} {T : List (Nat × List Value)} {r : Q4} {PA : Int → Int → Bool} {L : Nat → Bool} {vz : Nat → Value} {wy : World} (h : H13 w3 b8 T r PA L vz wy) (z : L 5 = false) (i : Nat) (v : Value) {w' : World} (hb : Below wy.heap.size wy w') (h5 : i ≠ 5) (h2 : i = 2 → RS w' v [r]) (h3 : i = 3 → IsR w' v (inQ r)) (h4 : i = 4 → IsR w' v PA) : H13 w3 b8 T r PA (addL L i) (upd vz i v) w' := by
  obtain ⟨a, t, r2, r3, r4⟩ := h.1 z
  refine ⟨fun _ => ⟨bel_tr0 a hb, t.later hb, fun q => ?_, fun q => ?_, fun q => ?_⟩, fun q => ?_⟩
  · by_cases e : i = 2
    · subst e; simpa [upd] using h2 rfl
    · have := (r2 (by simpa [addL, Ne.symm e] using q)).later hb
      simpa [upd, Ne.symm e] using this
  · by_cases e : i = 3
    · subst e; simpa [upd] using h3 rfl
    · have := (r3 (by simpa [addL, Ne.symm e] using q)).later hb
      simpa [upd, Ne.symm e] using this
  · by_cases e : i = 4
    · subst e; simpa [upd] using h4 rfl
    · have := (r4 (by simpa [addL, Ne.symm e] using q)).later hb
      simpa [upd, Ne.symm e] using this
  · rw [show addL L i 5 = L 5 by simp [addL, Ne.symm h5], z] at q
    cases q
set_option maxHeartbeats 16000000 in
theorem law_holds (mo : Int) (m0 : 0 ≤ mo) (m1 : mo ≤ 255) (v : Value) (rs : List Q4) (w : World) (hv : RS w v rs) (hi : I64s rs) :
    Calls Try.prog 5 #[.int .u8 mo, v] w fun e w' => e = .returned (.bool true) ∧ Below w.heap.size w w' := by
  obtain ⟨n, hn⟩ : ∃ n, 1 + mo % 64 = n := ⟨_, rfl⟩
  have n0 : 1 ≤ n := by omega
  have n1 : n ≤ 64 := by omega
  obtain ⟨ga, gn, gc, rfl, gl, gb, gcl⟩ := hv.cells
  have HI := Lib.hid hi
  have HG := Lib.hid gcl
  have HGL := Lib.hid gl
  clear hv hi gcl gl
  go_enter Try.func5, Try.ntmps5
  go_wp2_with fail
  refine (speaks8_any _).mono ?_
  rintro _ w1 ⟨rfl, hb⟩
  have K1 := Lib.hid hb
  clear hb
  go_wp2_with fail
  refine (dnew_any n n0 n1 _).mono ?_
  rintro _ w2 ⟨rfl, hd, hb⟩
  have D2 := Lib.hid hd
  have K2 := Lib.hid (bel_tr0 K1.out hb)
  have lbd : w1.heap.size < w2.heap.size := (Array.getElem?_eq_some_iff.1 hd.hk).1
  have ws := K1.out.size
  clear hd hb
  go_wp2_with fail
  obtain ⟨wl, hwl⟩ : ∃ wl, w2.alloc (.cells #[.slice none 0 0] 26) = wl := ⟨_, rfl⟩
  rw [hwl]
  have WL : Hid (Below w.heap.size w wl) := Lib.hid (by rw [← hwl]; exact K2.out.alloc (by omega) _)
  have DL : Hid (DmS wl w1.heap.size n none 0 0 [] false) := Lib.hid (by rw [← hwl]; exact D2.out.later (by go_grown))
  have AL : Hid (wl.heap[w2.heap.size]? = some (.cells #[.slice none 0 0] 26 (0, 0))) := Lib.hid (by rw [← hwl]; exact heap_alloc_new _ _)
  have lb8 : w2.heap.size < wl.heap.size := by rw [← hwl]; simp
  clear hwl
  go_loopw [9] (fun s9 wr => ∃ (j : Nat) (a : Option Addr) (m c : Nat) (a8 : Option Addr) (n8 c8 : Nat) (la ld : List Bd) (co : Bool), s9 = .int .i64 j ∧ j ≤ 30 ∧ j ≤ gn ∧ Hid (DmS wr w1.heap.size n a m c ld co) ∧ Hid (wr.heap[w2.heap.size]? = some (.cells #[.slice a8 n8 c8] 26 (0, 0))) ∧ Hid (Rg wr (.agg #[.slice a8 n8 c8]) la) ∧ Hid (HoI n la ld co j) ∧ Hid (But [w1.heap.size, w2.heap.size] wl wr)) (fun s9 _ => 30 - (intOf s9).toNat)
  case atStart => exact ⟨0, none, 0, 0, none, 0, 0, [], [], false, rfl, by omega, by omega, DL, AL, Lib.hid (Rg.nil _), Lib.hid (HoI.start n n0), Lib.hid (But.refl _ _)⟩
  case round =>
    obtain ⟨j, a, m, c, a8, n8, c8, la, ld, co, rfl, j30, jn, HD, HK8, HRA, HO, KBl⟩ := hrel
    by_cases lt : j < gn ∧ j < 30
    · obtain ⟨lt1, lt2⟩ := lt
      have lt1' : (j : Int) < (gn : Int) := by omega
      have lt2' : (j : Int) < 30 := by omega
      obtain ⟨g, o, rfl, hcl⟩ := HG.out (by omega)
      obtain ⟨r, hr⟩ : ∃ r, rs[j]? = some r := ⟨_, List.getElem?_eq_getElem (by have := HGL.out; omega)⟩
      obtain ⟨x0, x1, x2, x3⟩ := hcl j r hr
      obtain ⟨i0, i1, i2, i3⟩ := HI.out r (List.mem_of_getElem? hr)
      have gw : g < w.heap.size := World.block_lt_of_cell? w _ x0
      have hsz := KBl.out.size
      have cw : ∀ (k : Nat) (u : Value), w.cell? ⟨g, k, none⟩ = some u → wr.cell? ⟨g, k, none⟩ = some u := fun k u hk => KBl.out.cell (by simp; omega) (cell_later WL.out hk)
      have HL : Hid (∀ wy, Below wr.heap.size wr wy → wy.cell? ⟨g, o + j * 4, none⟩ = some (.int .i64 r.1) ∧ wy.cell? ⟨g, o + j * 4 + 1, none⟩ = some (.int .i64 r.2.1) ∧ wy.cell? ⟨g, o + j * 4 + 2, none⟩ = some (.int .i64 r.2.2.1) ∧ wy.cell? ⟨g, o + j * 4 + 3, none⟩ = some (.int .i64 r.2.2.2)) := Lib.hid (fun wy h => ⟨cell_later h (cw _ _ x0), cell_later h (cw _ _ x1), cell_later h (cw _ _ x2), cell_later h (cw _ _ x3)⟩)
      obtain ⟨r0, r1, r2, r3⟩ := r
      dsimp only at HL i0 i1 i2 i3
      obtain ⟨A, B, C, D, nm⟩ := nrm_ex r0 r1 r2 r3
      have kr : Ok4 (A, B, C, D) := ok4_rgt nm.rgt
      have KR := Lib.hid kr
      have M1 := Lib.hid (xnew_any r0 r1 r2 r3 A B C D i0 i1 i2 i3 nm)
      unfold rv at M1
      have ix : ∀ wy : World, (Instr.indexAt 55 (.slice (some ⟨g, o, none⟩) gn gc) (.int .i64 j)).run Try.prog wy = .ok (.pointer (some ⟨g, o + j * 4, none⟩)) wy := fun wy => by
        have k0 : (0 : Int) ≤ (j : Int) := by omega
        simp [go_sem, k0, lt1', Addr.add]
        try omega
      clear x0 x1 x2 x3 hcl hr nm kr cw i0 i1 i2 i3
      go_wp2_with fail
      have KB := Lib.hid (Below.refl wr.heap.size wr)
      have KT := Lib.hid (row1 HK8.out)
      have HN : Hid (wr.heap.size ≤ wr.heap.size) := Lib.hid (Nat.le_refl _)
      have HT : Hid (∀ (kz bz : Nat) (uz : List Value), [(w2.heap.size, [.slice a8 n8 c8])][kz]? = some (bz, uz) → bz < wr.heap.size) := Lib.hid (KT.out.lts rfl)
      have FD : ([21, 22].Nodup) := by decide
      refine wp_region_vals [some (.slice (some ⟨g, o, none⟩) gn gc), some (.int .i64 (j : Int)), some (.pointer (some ⟨g, o + j * 4, none⟩)), some (.pointer (some ⟨g, o + j * 4, none⟩)), some (.int .i64 r0), some (.slice (some ⟨g, o, none⟩) gn gc), some (.int .i64 (j : Int)), some (.pointer (some ⟨g, o + j * 4, none⟩)), some (.pointer (some ⟨g, o + j * 4 + 1, none⟩)), some (.int .i64 r1), some (.slice (some ⟨g, o, none⟩) gn gc), some (.int .i64 (j : Int)), some (.pointer (some ⟨g, o + j * 4, none⟩)), some (.pointer (some ⟨g, o + j * 4 + 2, none⟩)), some (.int .i64 r2), some (.slice (some ⟨g, o, none⟩) gn gc), some (.int .i64 (j : Int)), some (.pointer (some ⟨g, o + j * 4, none⟩)), some (.pointer (some ⟨g, o + j * 4 + 3, none⟩)), some (.int .i64 r3), some (.agg #[.int .i64 A, .int .i64 B, .int .i64 C, .int .i64 D]), none, none] (fun Lz vz wy => Below wr.heap.size wr wy ∧ Tab wy [(w2.heap.size, [.slice a8 n8 c8])] ∧ wr.heap.size ≤ wy.heap.size ∧ Fresh (wr.heap.size) [(21, 22, [.int .i64 0, .int .i64 0, .int .i64 0, .int .i64 0], [.int .i64 A, .int .i64 B, .int .i64 C, .int .i64 D])] Lz vz wy)
        [some 35, some 36, some 37, some 38, some 39, some 40, some 41, some 42, some 43, some 44, some 45, some 46, some 47, some 48, some 49, some 50, some 51, some 52, some 53, some 54, some 55, some 10, none] (by kernel_rfl) (by kernel_rfl) (by kernel_rfl) (by kernel_rfl) (by kernel_rfl) (by kernel_rfl) ⟨KB.out.drew, KT.out.later ((Below.refl _ _).drew), Nat.le_refl _, Fresh.start _ _ _ _⟩ (fun i o ho => ?_) (fun Lz vz wz hL hB => ?_)
      · match i, ho with
        | 0, ho =>
          obtain rfl := Option.some.inj ho
          intro Az Lz vz wy Kz Ez hB k
          have e1 : Az.eval (.tmp 1) = .slice (some ⟨g, o, none⟩) gn gc := Ez.out 1 (by kernel_rfl)
          exact wpo_val (v := .slice (some ⟨g, o, none⟩) gn gc) (run_move e1) (k _ _ rfl ⟨hB.1, hB.2.1, hB.2.2.1, hB.2.2.2.other 0 _ (fresh_ne rfl)⟩)
        | 1, ho =>
          obtain rfl := Option.some.inj ho
          intro Az Lz vz wy Kz Ez hB k
          have e9 : Az.eval (.tmp 9) = .int .i64 (j : Int) := Ez.out 9 (by kernel_rfl)
          exact wpo_val (v := .int .i64 (j : Int)) (run_move e9) (k _ _ rfl ⟨hB.1, hB.2.1, hB.2.2.1, hB.2.2.2.other 1 _ (fresh_ne rfl)⟩)
        | 2, ho =>
          obtain rfl := Option.some.inj ho
          intro Az Lz vz wy Kz Ez hB k
          have e35 : Az.eval (.tmp 35) = .slice (some ⟨g, o, none⟩) gn gc := Ez.dep 0 35 (by kernel_rfl) rfl
          have e36 : Az.eval (.tmp 36) = .int .i64 (j : Int) := Ez.dep 1 36 (by kernel_rfl) rfl
          exact wpo_val (v := .pointer (some ⟨g, o + j * 4, none⟩)) (run_index e35 e36 (ix wy)) (k _ _ rfl ⟨hB.1, hB.2.1, hB.2.2.1, hB.2.2.2.other 2 _ (fresh_ne rfl)⟩)
        | 3, ho =>
          obtain rfl := Option.some.inj ho
          intro Az Lz vz wy Kz Ez hB k
          have e37 : Az.eval (.tmp 37) = .pointer (some ⟨g, o + j * 4, none⟩) := Ez.dep 2 37 (by kernel_rfl) rfl
          exact wpo_val (v := .pointer (some ⟨g, o + j * 4, none⟩)) (run_index e37 rfl (by simp [go_sem, Addr.add])) (k _ _ rfl ⟨hB.1, hB.2.1, hB.2.2.1, hB.2.2.2.other 3 _ (fresh_ne rfl)⟩)
        | 4, ho =>
          obtain rfl := Option.some.inj ho
          intro Az Lz vz wy Kz Ez hB k
          have e38 : Az.eval (.tmp 38) = .pointer (some ⟨g, o + j * 4, none⟩) := Ez.dep 3 38 (by kernel_rfl) rfl
          exact wpo_val (v := .int .i64 r0) (run_load e38 (by have hh := HL.out wy hB.1; simp [go_sem, hh.1, hh.2.1, hh.2.2.1, hh.2.2.2])) (k _ _ rfl ⟨hB.1, hB.2.1, hB.2.2.1, hB.2.2.2.other 4 _ (fresh_ne rfl)⟩)
        | 5, ho =>
          obtain rfl := Option.some.inj ho
          intro Az Lz vz wy Kz Ez hB k
          have e1 : Az.eval (.tmp 1) = .slice (some ⟨g, o, none⟩) gn gc := Ez.out 1 (by kernel_rfl)
          exact wpo_val (v := .slice (some ⟨g, o, none⟩) gn gc) (run_move e1) (k _ _ rfl ⟨hB.1, hB.2.1, hB.2.2.1, hB.2.2.2.other 5 _ (fresh_ne rfl)⟩)
        | 6, ho =>
          obtain rfl := Option.some.inj ho
          intro Az Lz vz wy Kz Ez hB k
          have e9 : Az.eval (.tmp 9) = .int .i64 (j : Int) := Ez.out 9 (by kernel_rfl)
          exact wpo_val (v := .int .i64 (j : Int)) (run_move e9) (k _ _ rfl ⟨hB.1, hB.2.1, hB.2.2.1, hB.2.2.2.other 6 _ (fresh_ne rfl)⟩)
        | 7, ho =>
          obtain rfl := Option.some.inj ho
          intro Az Lz vz wy Kz Ez hB k
          have e40 : Az.eval (.tmp 40) = .slice (some ⟨g, o, none⟩) gn gc := Ez.dep 5 40 (by kernel_rfl) rfl
          have e41 : Az.eval (.tmp 41) = .int .i64 (j : Int) := Ez.dep 6 41 (by kernel_rfl) rfl
          exact wpo_val (v := .pointer (some ⟨g, o + j * 4, none⟩)) (run_index e40 e41 (ix wy)) (k _ _ rfl ⟨hB.1, hB.2.1, hB.2.2.1, hB.2.2.2.other 7 _ (fresh_ne rfl)⟩)
        | 8, ho =>
          obtain rfl := Option.some.inj ho
          intro Az Lz vz wy Kz Ez hB k
          have e42 : Az.eval (.tmp 42) = .pointer (some ⟨g, o + j * 4, none⟩) := Ez.dep 7 42 (by kernel_rfl) rfl
          exact wpo_val (v := .pointer (some ⟨g, o + j * 4 + 1, none⟩)) (run_index e42 rfl (by simp [go_sem, Addr.add])) (k _ _ rfl ⟨hB.1, hB.2.1, hB.2.2.1, hB.2.2.2.other 8 _ (fresh_ne rfl)⟩)
        | 9, ho =>
          obtain rfl := Option.some.inj ho
          intro Az Lz vz wy Kz Ez hB k
          have e43 : Az.eval (.tmp 43) = .pointer (some ⟨g, o + j * 4 + 1, none⟩) := Ez.dep 8 43 (by kernel_rfl) rfl
          exact wpo_val (v := .int .i64 r1) (run_load e43 (by have hh := HL.out wy hB.1; simp [go_sem, hh.1, hh.2.1, hh.2.2.1, hh.2.2.2])) (k _ _ rfl ⟨hB.1, hB.2.1, hB.2.2.1, hB.2.2.2.other 9 _ (fresh_ne rfl)⟩)
        | 10, ho =>
          obtain rfl := Option.some.inj ho
          intro Az Lz vz wy Kz Ez hB k
          have e1 : Az.eval (.tmp 1) = .slice (some ⟨g, o, none⟩) gn gc := Ez.out 1 (by kernel_rfl)
          exact wpo_val (v := .slice (some ⟨g, o, none⟩) gn gc) (run_move e1) (k _ _ rfl ⟨hB.1, hB.2.1, hB.2.2.1, hB.2.2.2.other 10 _ (fresh_ne rfl)⟩)
        | 11, ho =>
          obtain rfl := Option.some.inj ho
          intro Az Lz vz wy Kz Ez hB k
          have e9 : Az.eval (.tmp 9) = .int .i64 (j : Int) := Ez.out 9 (by kernel_rfl)
          exact wpo_val (v := .int .i64 (j : Int)) (run_move e9) (k _ _ rfl ⟨hB.1, hB.2.1, hB.2.2.1, hB.2.2.2.other 11 _ (fresh_ne rfl)⟩)
        | 12, ho =>
          obtain rfl := Option.some.inj ho
          intro Az Lz vz wy Kz Ez hB k
          have e45 : Az.eval (.tmp 45) = .slice (some ⟨g, o, none⟩) gn gc := Ez.dep 10 45 (by kernel_rfl) rfl
          have e46 : Az.eval (.tmp 46) = .int .i64 (j : Int) := Ez.dep 11 46 (by kernel_rfl) rfl
          exact wpo_val (v := .pointer (some ⟨g, o + j * 4, none⟩)) (run_index e45 e46 (ix wy)) (k _ _ rfl ⟨hB.1, hB.2.1, hB.2.2.1, hB.2.2.2.other 12 _ (fresh_ne rfl)⟩)
        | 13, ho =>
          obtain rfl := Option.some.inj ho
          intro Az Lz vz wy Kz Ez hB k
          have e47 : Az.eval (.tmp 47) = .pointer (some ⟨g, o + j * 4, none⟩) := Ez.dep 12 47 (by kernel_rfl) rfl
          exact wpo_val (v := .pointer (some ⟨g, o + j * 4 + 2, none⟩)) (run_index e47 rfl (by simp [go_sem, Addr.add])) (k _ _ rfl ⟨hB.1, hB.2.1, hB.2.2.1, hB.2.2.2.other 13 _ (fresh_ne rfl)⟩)
        | 14, ho =>
          obtain rfl := Option.some.inj ho
          intro Az Lz vz wy Kz Ez hB k
          have e48 : Az.eval (.tmp 48) = .pointer (some ⟨g, o + j * 4 + 2, none⟩) := Ez.dep 13 48 (by kernel_rfl) rfl
          exact wpo_val (v := .int .i64 r2) (run_load e48 (by have hh := HL.out wy hB.1; simp [go_sem, hh.1, hh.2.1, hh.2.2.1, hh.2.2.2])) (k _ _ rfl ⟨hB.1, hB.2.1, hB.2.2.1, hB.2.2.2.other 14 _ (fresh_ne rfl)⟩)
        | 15, ho =>
          obtain rfl := Option.some.inj ho
          intro Az Lz vz wy Kz Ez hB k
          have e1 : Az.eval (.tmp 1) = .slice (some ⟨g, o, none⟩) gn gc := Ez.out 1 (by kernel_rfl)
          exact wpo_val (v := .slice (some ⟨g, o, none⟩) gn gc) (run_move e1) (k _ _ rfl ⟨hB.1, hB.2.1, hB.2.2.1, hB.2.2.2.other 15 _ (fresh_ne rfl)⟩)
        | 16, ho =>
          obtain rfl := Option.some.inj ho
          intro Az Lz vz wy Kz Ez hB k
          have e9 : Az.eval (.tmp 9) = .int .i64 (j : Int) := Ez.out 9 (by kernel_rfl)
          exact wpo_val (v := .int .i64 (j : Int)) (run_move e9) (k _ _ rfl ⟨hB.1, hB.2.1, hB.2.2.1, hB.2.2.2.other 16 _ (fresh_ne rfl)⟩)
        | 17, ho =>
          obtain rfl := Option.some.inj ho
          intro Az Lz vz wy Kz Ez hB k
          have e50 : Az.eval (.tmp 50) = .slice (some ⟨g, o, none⟩) gn gc := Ez.dep 15 50 (by kernel_rfl) rfl
          have e51 : Az.eval (.tmp 51) = .int .i64 (j : Int) := Ez.dep 16 51 (by kernel_rfl) rfl
          exact wpo_val (v := .pointer (some ⟨g, o + j * 4, none⟩)) (run_index e50 e51 (ix wy)) (k _ _ rfl ⟨hB.1, hB.2.1, hB.2.2.1, hB.2.2.2.other 17 _ (fresh_ne rfl)⟩)
        | 18, ho =>
          obtain rfl := Option.some.inj ho
          intro Az Lz vz wy Kz Ez hB k
          have e52 : Az.eval (.tmp 52) = .pointer (some ⟨g, o + j * 4, none⟩) := Ez.dep 17 52 (by kernel_rfl) rfl
          exact wpo_val (v := .pointer (some ⟨g, o + j * 4 + 3, none⟩)) (run_index e52 rfl (by simp [go_sem, Addr.add])) (k _ _ rfl ⟨hB.1, hB.2.1, hB.2.2.1, hB.2.2.2.other 18 _ (fresh_ne rfl)⟩)
        | 19, ho =>
          obtain rfl := Option.some.inj ho
          intro Az Lz vz wy Kz Ez hB k
          have e53 : Az.eval (.tmp 53) = .pointer (some ⟨g, o + j * 4 + 3, none⟩) := Ez.dep 18 53 (by kernel_rfl) rfl
          exact wpo_val (v := .int .i64 r3) (run_load e53 (by have hh := HL.out wy hB.1; simp [go_sem, hh.1, hh.2.1, hh.2.2.1, hh.2.2.2])) (k _ _ rfl ⟨hB.1, hB.2.1, hB.2.2.1, hB.2.2.2.other 19 _ (fresh_ne rfl)⟩)
        | 20, ho =>
          obtain rfl := Option.some.inj ho
          intro Az Lz vz wy Kz Ez hB k
          have e39 : Az.eval (.tmp 39) = .int .i64 r0 := Ez.dep 4 39 (by kernel_rfl) rfl
          have e44 : Az.eval (.tmp 44) = .int .i64 r1 := Ez.dep 9 44 (by kernel_rfl) rfl
          have e49 : Az.eval (.tmp 49) = .int .i64 r2 := Ez.dep 14 49 (by kernel_rfl) rfl
          have e54 : Az.eval (.tmp 54) = .int .i64 r3 := Ez.dep 19 54 (by kernel_rfl) rfl
          refine wpo_call (run_callW (fun _ _ => by kernel_rfl)) (R := fun ez w' => ez = .returned (.agg #[.int .i64 A, .int .i64 B, .int .i64 C, .int .i64 D]) ∧ Below wy.heap.size wy w') ?_ ?_
          · simp only [List.map_toArray, List.map_cons, List.map_nil, eval_const, e39, e44, e49, e54]
            exact M1.out wy
          · rintro ez w' ⟨rfl, hb⟩
            exact ⟨_, rfl, k _ _ rfl ⟨bel_tr0 hB.1 hb, hB.2.1.later hb, Nat.le_trans hB.2.2.1 hb.size, (hB.2.2.2.later hb).other 20 _ (fresh_ne rfl)⟩⟩
        | 21, ho =>
          obtain rfl := Option.some.inj ho
          intro Az Lz vz wy Kz Ez hB k
          have zs : Lz 22 = false := Ez.late 22 _ rfl (by kernel_rfl)
          exact wpo_val (run_alloc (by simp [go_sem])) (k _ _ trivial ⟨bel_al hB.1 _, hB.2.1.alloc _, by rw [World.size_alloc]; exact Nat.le_succ_of_le hB.2.2.1, hB.2.2.2.make FD 0 rfl zs hB.2.2.1 40⟩)
        | 22, ho =>
          obtain rfl := Option.some.inj ho
          intro Az Lz vz wy Kz Ez hB k
          have e55 : Az.eval (.tmp 55) = .agg #[.int .i64 A, .int .i64 B, .int .i64 C, .int .i64 D] := Ez.dep 20 55 (by kernel_rfl) rfl
          obtain ⟨q, hq, hn, hql, hc⟩ := hB.2.2.2.box 0 _ _ _ _ rfl (Ez.had 21 (by kernel_rfl))
          have zs : Lz 22 = false := Ez.not
          rw [zs] at hc
          have e10 : Az.eval (.tmp 10) = .pointer (some ⟨q, 0, none⟩) := (Ez.dep 21 10 (by kernel_rfl) rfl).trans hq
          obtain ⟨c0, f0⟩ := hc 0 _ rfl
          obtain ⟨c1, f1⟩ := hc 1 _ rfl
          obtain ⟨c2, f2⟩ := hc 2 _ rfl
          obtain ⟨c3, f3⟩ := hc 3 _ rfl
          exact wpo_skip (w' := sets wy q 0 [.int .i64 A, .int .i64 B, .int .i64 C, .int .i64 D]) (run_store e10 e55 (by simp [go_sem, sets, c0, f0, c1, f1, c2, f2, c3, f3])) (k _ _ trivial ⟨sets_below (Nat.le_trans HN.out hn) _ _ _ hB.1, hB.2.1.far HT.out hn _, by rw [sets_size]; exact hB.2.2.1, hB.2.2.2.fill FD 0 _ rfl zs (Ez.had 21 (by kernel_rfl)) hq rfl⟩)
        | n + 23, ho => simp at ho
      · obtain ⟨hk, hT, hNz, hF⟩ := hB
        have KB := Lib.hid hk
        have KT := Lib.hid hT
        obtain ⟨q21, hq21, hn21, _, hc21⟩ := hF.box 0 _ _ _ _ rfl (hL 21 (by decide))
        rw [hL 22 (by decide)] at hc21
        have KT := Lib.hid ((KT.out.cons hc21))
        clear hF hc21
        clear hk hT hL
        simp only [puts2, mix, Act.put, List.setIfInBounds_toArray, List.set_cons_zero, List.set_cons_succ, Nat.zero_add, Nat.reduceAdd, List.getElem?_cons_zero, List.getElem?_cons_succ, hq21]
        clear hq21

        have DZ := Lib.hid (HD.out.later KB.out)
        have K8 : Hid (wz.heap[w2.heap.size]? = some (.cells #[.slice a8 n8 c8] 26 (0, 0))) := Lib.hid ((KB.out.block _ (by omega)).trans HK8.out)
        have RA := Lib.hid (HRA.out.later KB.out)
        have BZ := Lib.hid (KBl.out.trans (But.of KB.out))
        have zs := KB.out.size
        have c0 := KT.out.cell 0 0 rfl rfl
        have c1 := KT.out.cell 0 1 rfl rfl
        have c2 := KT.out.cell 0 2 rfl rfl
        have c3 := KT.out.cell 0 3 rfl rfl
        obtain ⟨Sd, hSd, eSd⟩ := HO.out.ed
        have EE := Lib.hid (edge_of (r := (A, B, C, D)) eSd)
        clear eSd
        go_wp2_with fail
        refine (dadd_any (r := (A, B, C, D)) DZ.out KR.out EE.out (by rw [List.length_append]; simp; omega) n0 n1).mono ?_
        rintro _ w3 ⟨rfl, hbt, a', m', c', ld', co', hd', l1, hw1, hr1, hp1, hc1⟩
        have D3 := Lib.hid hd'
        have K83 : Hid (w3.heap[w2.heap.size]? = some (.cells #[.slice a8 n8 c8] 26 (0, 0))) := Lib.hid ((hbt.block _ (by omega) (by simp; omega)).trans K8.out)
        have RA3 := Lib.hid (RA.out.butD hbt DZ.out.hk (fun k e => by cases e))
        have B3 : Hid (But [w1.heap.size, w2.heap.size] wl w3) := Lib.hid (BZ.out.trans (hbt.mono (by simp)))
        have T3 : Hid (Tab w3 [(q21, [.int .i64 A, .int .i64 B, .int .i64 C, .int .i64 D]), (w2.heap.size, [.slice a8 n8 c8])]) := Lib.hid (Tab.but KT.out hbt (fun k b vs hk => by
          match k, hk with
          | 0, hk => simp at hk; rw [List.mem_singleton]; omega
          | 1, hk => simp at hk; rw [List.mem_singleton]; omega
          | k + 2, hk => simp at hk))
        have s3 := hbt.size
        have HC : Hid (∀ la', (∀ x y, hasP la' x y = orB (hasP la x y) (inQ (A, B, C, D) x y)) → HoI n la' ld' co' (j + 1)) := Lib.hid (fun la' ha => HO.out.step n0 KR.out hd'.rg.2 ha hp1 hc1)
        clear hd' hw1 hr1 hp1 hc1 hbt c0 c1 c2 c3 hSd
        go_wp2_with fail
        have HB0 : Hid (H13 w3 w2.heap.size [(q21, [.int .i64 A, .int .i64 B, .int .i64 C, .int .i64 D]), (w2.heap.size, [.slice a8 n8 c8])] (A, B, C, D) (fun x y => orB (hasP la x y) (inQ (A, B, C, D) x y)) (fun _ => false) (fun _ => undef) w3.drew) := Lib.hid ⟨fun _ => ⟨(Below.refl _ _).drew, T3.out.later ((Below.refl _ _).drew), fun z => (by cases z), fun z => (by cases z), fun z => (by cases z)⟩, fun z => (by cases z)⟩
        refine wp_region_vals [some (.agg #[.slice a8 n8 c8]), some (.agg #[.int .i64 A, .int .i64 B, .int .i64 C, .int .i64 D]), none, none, none, none] (H13 w3 w2.heap.size [(q21, [.int .i64 A, .int .i64 B, .int .i64 C, .int .i64 D]), (w2.heap.size, [.slice a8 n8 c8])] (A, B, C, D) (fun x y => orB (hasP la x y) (inQ (A, B, C, D) x y)))
          [some 59, some 60, some 61, some 62, some 63, none] (by kernel_rfl) (by kernel_rfl) (by kernel_rfl) (by kernel_rfl) (by kernel_rfl) (by kernel_rfl) HB0.out (fun i o ho => ?_) (fun Lz vz w4 hL hB => ?_)
        · match i, ho with
          | 0, ho =>
            obtain rfl := Option.some.inj ho
            intro Az Lz vz wy Kz Ez hB k
            have z5 : Lz 5 = false := Ez.late 5 _ rfl (by kernel_rfl)
            obtain ⟨hb0, hT, h2, h3, h4⟩ := hB.1 z5
            have e8 : Az.eval (.tmp 8) = .pointer (some ⟨w2.heap.size, 0, none⟩) := Ez.out 8 (by kernel_rfl)
            have z := hT.cell 1 0 rfl rfl
            exact wpo_val (v := .agg #[.slice a8 n8 c8]) (run_load e8 (by simp [go_sem, z])) (k _ _ rfl (hB.add z5 0 _ (Below.refl _ _) (by decide) (fun z => absurd z (by decide)) (fun z => absurd z (by decide)) (fun z => absurd z (by decide))))
          | 1, ho =>
            obtain rfl := Option.some.inj ho
            intro Az Lz vz wy Kz Ez hB k
            have z5 : Lz 5 = false := Ez.late 5 _ rfl (by kernel_rfl)
            obtain ⟨hb0, hT, h2, h3, h4⟩ := hB.1 z5
            have e10 : Az.eval (.tmp 10) = .pointer (some ⟨q21, 0, none⟩) := Ez.out 10 (by kernel_rfl)
            have c0 := hT.cell 0 0 rfl rfl
            have c1 := hT.cell 0 1 rfl rfl
            have c2 := hT.cell 0 2 rfl rfl
            have c3 := hT.cell 0 3 rfl rfl
            exact wpo_val (v := .agg #[.int .i64 A, .int .i64 B, .int .i64 C, .int .i64 D]) (run_load e10 (by simp [go_sem, c0, c1, c2, c3])) (k _ _ rfl (hB.add z5 1 _ (Below.refl _ _) (by decide) (fun z => absurd z (by decide)) (fun z => absurd z (by decide)) (fun z => absurd z (by decide))))
          | 2, ho =>
            obtain rfl := Option.some.inj ho
            intro Az Lz vz wy Kz Ez hB k
            have z5 : Lz 5 = false := Ez.late 5 _ rfl (by kernel_rfl)
            obtain ⟨hb0, hT, h2, h3, h4⟩ := hB.1 z5
            have e60 : Az.eval (.tmp 60) = .agg #[.int .i64 A, .int .i64 B, .int .i64 C, .int .i64 D] := Ez.dep 1 60 (by kernel_rfl) rfl
            exact wpo_val (run_bslice1 e60 (bslice_rect2 A B C D wy)) (k _ _ trivial (hB.add z5 2 _ (bel_new wy _) (by decide) (fun _ => rs_one wy (A, B, C, D)) (fun z => absurd z (by decide)) (fun z => absurd z (by decide))))
          | 3, ho =>
            obtain rfl := Option.some.inj ho
            intro Az Lz vz wy Kz Ez hB k
            have z5 : Lz 5 = false := Ez.late 5 _ rfl (by kernel_rfl)
            obtain ⟨hb0, hT, h2, h3, h4⟩ := hB.1 z5
            have e61 : Az.eval (.tmp 61) = vz 2 := Ez.dep 2 61 (by kernel_rfl) rfl
            have hs := h2 (Ez.had 2 (by kernel_rfl))
            refine wpo_call (run_callW (fun _ _ => by kernel_rfl)) (R := IsE (anyQ [(A, B, C, D)]) wy) ?_ ?_
            · simp only [List.map_toArray, List.map_cons, List.map_nil, eval_const, e61]
              exact isr_of hs (fun r mr => by rw [List.mem_singleton] at mr; subst mr; exact KR.out) (by simp)
            · rintro ez w' ⟨vr, rfl, hr, hb⟩
              exact ⟨_, rfl, k _ _ trivial (hB.add z5 3 vr hb (by decide) (fun z => absurd z (by decide)) (fun _ => hr.congr fun x y => by simp [anyQ]) (fun z => absurd z (by decide)))⟩
          | 4, ho =>
            obtain rfl := Option.some.inj ho
            intro Az Lz vz wy Kz Ez hB k
            have z5 : Lz 5 = false := Ez.late 5 _ rfl (by kernel_rfl)
            obtain ⟨hb0, hT, h2, h3, h4⟩ := hB.1 z5
            have e59 : Az.eval (.tmp 59) = .agg #[.slice a8 n8 c8] := Ez.dep 0 59 (by kernel_rfl) rfl
            have e62 : Az.eval (.tmp 62) = vz 3 := Ez.dep 3 62 (by kernel_rfl) rfl
            have hs := h3 (Ez.had 3 (by kernel_rfl))
            refine wpo_call (run_callW (fun _ _ => by kernel_rfl)) (R := IsE (fun x y => orB (hasP la x y) (inQ (A, B, C, D) x y)) wy) ?_ ?_
            · simp only [List.map_toArray, List.map_cons, List.map_nil, eval_const, e59, e62]
              exact isr_or ⟨la, RA3.out.later hb0, fun _ _ => rfl⟩ hs
            · rintro ez w' ⟨vr, rfl, hr, hb⟩
              exact ⟨_, rfl, k _ _ trivial (hB.add z5 4 vr hb (by decide) (fun z => absurd z (by decide)) (fun z => absurd z (by decide)) (fun _ => hr))⟩
          | 5, ho =>
            obtain rfl := Option.some.inj ho
            intro Az Lz vz wy Kz Ez hB k
            have z5 : Lz 5 = false := Ez.not
            obtain ⟨hb0, hT, h2, h3, h4⟩ := hB.1 z5
            have e8 : Az.eval (.tmp 8) = .pointer (some ⟨w2.heap.size, 0, none⟩) := Ez.out 8 (by kernel_rfl)
            have e63 : Az.eval (.tmp 63) = vz 4 := Ez.dep 4 63 (by kernel_rfl) rfl
            have hs := h4 (Ez.had 4 (by kernel_rfl))
            obtain ⟨a9, n9, c9, e9⟩ := hs.form
            rw [e9] at hs
            have z := hT.cell 1 0 rfl rfl
            have f := hT.froz 1 0 rfl rfl
            exact wpo_skip (w' := wy.setCell ⟨w2.heap.size, 0, none⟩ (.slice a9 n9 c9)) (run_store e8 (e63.trans e9) (by simp [go_sem, z, f])) (k _ _ trivial ⟨fun z => by simp [addL] at z, fun _ => ⟨wy, a9, n9, c9, hb0, hT, hs, rfl⟩⟩)
          | n + 6, ho => simp at ho
        · obtain ⟨wy0, a9, n9, c9, hb0, hT0, hs0, rfl⟩ := hB.2 (hL 5 (by decide))
          have k80 : wy0.heap[w2.heap.size]? = some (.cells #[.slice a8 n8 c8] 26 (0, 0)) := (hb0.block _ (by omega)).trans K83.out
          obtain ⟨la', rg', hp'⟩ := hs0.setR k80 (x := a8) (y := n8) (z := c8) (by simp [World.cell?, k80]) (.slice a9 n9 c9)
          have RA4 := Lib.hid rg'
          have HP4 := Lib.hid hp'
          have HO4 := Lib.hid (HC.out la' hp')
          have D4 := Lib.hid ((D3.out.later hb0).setR k80 (by omega) (.slice a9 n9 c9))
          have K84 : Hid ((wy0.setCell ⟨w2.heap.size, 0, none⟩ (.slice a9 n9 c9)).heap[w2.heap.size]? = some (.cells #[.slice a9 n9 c9] 26 (0, 0))) := Lib.hid (heap_set0 k80)
          have B4 := Lib.hid ((B3.out.trans (But.of hb0)).setCell (p := ⟨w2.heap.size, 0, none⟩) (.inl (by simp)) (.slice a9 n9 c9))
          have s4 : w3.heap.size ≤ (wy0.setCell ⟨w2.heap.size, 0, none⟩ (.slice a9 n9 c9)).heap.size := by have := hb0.size; simpa [World.setCell] using this
          clear hL hB hT0 hs0 hb0 rg' hp' k80 HB0
          obtain ⟨w4, hw4⟩ : ∃ x, wy0.setCell ⟨w2.heap.size, 0, none⟩ (.slice a9 n9 c9) = x := ⟨_, rfl⟩
          rw [hw4] at RA4 D4 K84 B4 s4 ⊢
          clear hw4
          simp only [puts2, mix, Act.put, List.setIfInBounds_toArray, List.set_cons_zero, List.set_cons_succ, Nat.zero_add, Nat.reduceAdd, List.getElem?_cons_zero, List.getElem?_cons_succ]
          go_wp2_with fail
          refine (dregion_any D4.out).mono ?_
          rintro _ w5 ⟨rfl, hrd, hb⟩
          have D5 := Lib.hid (D4.out.later hb)
          have RD5 := Lib.hid hrd
          have RA5 := Lib.hid (RA4.out.later hb)
          have K85 : Hid (w5.heap[w2.heap.size]? = some (.cells #[.slice a9 n9 c9] 26 (0, 0))) := Lib.hid ((hb.block _ (by omega)).trans K84.out)
          have B5 := Lib.hid (B4.out.later hb)
          have s5 := hb.size
          clear hrd hb
          obtain ⟨w6, hw6⟩ : ∃ x, w5.alloc (.cells #[.slice a' m' c'] 26) = x := ⟨_, rfl⟩
          have bA : Below w5.heap.size w5 w6 := by rw [← hw6]; go_grown
          have s6 : w5.heap.size ≤ w6.heap.size := bA.size
          have D6 := Lib.hid (D5.out.later bA)
          have RD6 := Lib.hid (RD5.out.later bA)
          have RA6 := Lib.hid (RA5.out.later bA)
          have B6 := Lib.hid (B5.out.later bA)
          have K86 : Hid (w6.heap[w2.heap.size]? = some (.cells #[.slice a9 n9 c9] 26 (0, 0))) := Lib.hid ((bA.block _ (by omega)).trans K85.out)
          have T6 : Hid (Tab w6 [(w5.heap.size, [.slice a' m' c']), (w2.heap.size, [.slice a9 n9 c9])]) := Lib.hid (by rw [← hw6]; exact (row1 K85.out).new [.slice a' m' c'] 26)
          obtain ⟨q, hqa, hqd⟩ := HO4.out.hull
          obtain ⟨Sa, hSa, eSa⟩ := HO4.out.ea
          obtain ⟨Se, hSe, eSe⟩ := HO4.out.ed
          have kq := hl_ok4 hqa
          have HHA : Hid (∀ wy, Below w6.heap.size w6 wy → Calls Try.prog 21 #[.agg #[.slice a9 n9 c9]] wy fun e w' => e = .returned (rv q.1 q.2.1 q.2.2.1 q.2.2.2) ∧ Below wy.heap.size wy w') := Lib.hid (fun wy hb => isr_hull ⟨la', RA6.out.later hb, fun _ _ => rfl⟩ eSa (by omega) hqa)
          have HHD : Hid (∀ wy, Below w6.heap.size w6 wy → Calls Try.prog 21 #[.agg #[.slice a' m' c']] wy fun e w' => e = .returned (rv q.1 q.2.1 q.2.2.1 q.2.2.2) ∧ Below wy.heap.size wy w') := Lib.hid (fun wy hb => isr_hull ⟨ld', RD6.out.later hb, fun _ _ => rfl⟩ eSe (by omega) hqd)
          have qi := ok4_i64 kq
          have HOL := Lib.hid (xholds_any q.1 q.2.1 q.2.2.1 q.2.2.2 _ _ _ _ q.1 q.2.1 q.2.2.1 q.2.2.2 _ _ _ _ qi.1 qi.2.1 qi.2.2.1 qi.2.2.2 (rgt_ok4 kq).nrm qi.1 qi.2.1 qi.2.2.1 qi.2.2.2 (rgt_ok4 kq).nrm _ _ _ _ (self_nrm kq))
          rw [eq4_self2] at HOL
          have HMI : Hid (∀ wy, Below w6.heap.size w6 wy → Calls Try.prog 10 #[.agg #[.slice a9 n9 c9], .agg #[.slice a' m' c']] wy fun e w' => ∃ v, e = .returned v ∧ IsR w' v (fun _ _ => false) ∧ Below wy.heap.size wy w') := Lib.hid (fun wy hb => isE_congr2 (isr_minus ⟨la', RA6.out.later hb, fun _ _ => rfl⟩ ⟨ld', RD6.out.later hb, fun _ _ => rfl⟩) (fun x y => by
            have := HO4.out.sub x y
            cases e1 : hasP la' x y
            · rfl
            · rw [this e1]; rfl))
          have ArN : Hid (∀ wy v, IsR wy v (fun _ _ => false) → Calls Try.prog 22 #[v] wy fun e w' => e = .returned (.int .i64 0) ∧ Below wy.heap.size wy w') := Lib.hid (fun wy v h => by
            have := isr_area h edge_none (by simp)
            rwa [area_none2] at this)
          obtain ⟨cn, hcn⟩ : ∃ k, (rectsB ld').length = k := ⟨_, rfl⟩
          have cle : (cn : Int) ≤ n := by rw [← hcn]; exact HO4.out.cnt
          have cle' : ¬ n < (cn : Int) := by omega
          have HRC : Hid (∀ wy, Below w6.heap.size w6 wy → Calls Try.prog 32 #[.agg #[.slice a' m' c']] wy fun e w' => ∃ v, e = .returned v ∧ (∃ x y, v = .slice x cn y) ∧ Below wy.heap.size wy w') := Lib.hid (fun wy hb => by
            refine (rects_any _ ld' wy (RD6.out.later hb) (few_edges RD6.out.2 eSe (by omega) (fun _ _ => rfl))).mono ?_
            rintro e w' ⟨v, rfl, hr, _, hb⟩
            obtain ⟨x, k, y, rfl, hk, _⟩ := hr.cells
            rw [hk, hcn]
            exact ⟨_, rfl, ⟨_, _, rfl⟩, hb⟩)
          have HCO : Hid (∀ wy, Below w6.heap.size w6 wy → Calls Try.prog 34 #[.pointer (some ⟨w1.heap.size, 0, none⟩)] wy fun e w' => e = .returned (.bool co') ∧ Below wy.heap.size wy w') := Lib.hid (fun wy hb => dcoarse_any (D6.out.later hb))
          have HSA : Hid (co' = false → ∀ wy, Below w6.heap.size w6 wy → Calls Try.prog 35 #[.agg #[.slice a' m' c'], .agg #[.slice a9 n9 c9]] wy fun e w' => e = .returned (.bool true) ∧ Below wy.heap.size wy w') := Lib.hid (fun hco wy hb => isr_same ⟨ld', RD6.out.later hb, fun _ _ => rfl⟩ ⟨la', RA6.out.later hb, fun _ _ => rfl⟩ true ⟨fun _ => HO4.out.eq hco, fun _ => rfl⟩)
          obtain ⟨qa, qb, qc, qd⟩ := q
          unfold rv at HHA HHD HOL
          dsimp only at HHA HHD HOL
          clear hqa hqd eSa eSe kq qi hSa hSe bA
          go_wp2_with fail
          try rw [hw6]
          clear hw6
          have KB := Lib.hid (Below.refl w6.heap.size w6)
          have KT := T6
          cases co'
          · have EP : ∀ (i : Nat) (v : Value) (w w' : World), ((fun i => match i with | 2 => fun v w => IsR w v (fun _ _ => false) | 7 => fun v _ => ∃ x y, v = .slice x cn y | _ => fun _ _ => True) : Nat → Value → World → Prop) i v w → Below w.heap.size w w' → ((fun i => match i with | 2 => fun v w => IsR w v (fun _ _ => false) | 7 => fun v _ => ∃ x y, v = .slice x cn y | _ => fun _ _ => True) : Nat → Value → World → Prop) i v w' := by
              intro i v w w' h hb
              try dsimp only at h ⊢
              split at h <;> first | exact IsR.later h hb | exact RS.later h hb | exact h | trivial | (split <;> trivial)
            refine wp_region_vals [some (.agg #[.slice a9 n9 c9]), some (.agg #[.slice a' m' c']), none, some (.int .i64 0), some (.bool false), some (.bool false), some (.agg #[.slice a' m' c']), none, some (.int .i64 cn), some (.int .i64 n), some (.bool false), some (.bool false), some (.bool false), some (.agg #[.slice a9 n9 c9]), some (.agg #[.int .i64 qa, .int .i64 qb, .int .i64 qc, .int .i64 qd]), some (.agg #[.slice a' m' c']), some (.agg #[.int .i64 qa, .int .i64 qb, .int .i64 qc, .int .i64 qd]), some (.bool true), some (.bool false), some (.bool false), some (.bool false), some (.pointer (some ⟨w1.heap.size, 0, none⟩)), some (.bool false), some (.bool true), some (.bool true), some (.agg #[.slice a' m' c']), some (.agg #[.slice a9 n9 c9]), some (.bool true), some (.bool false), some (.bool false), some (.bool false)] (fun Lz vz wy => Below w6.heap.size w6 wy ∧ Tab wy [(w5.heap.size, [.slice a' m' c']), (w2.heap.size, [.slice a9 n9 c9])] ∧ Exs [2, 7] ((fun i => match i with | 2 => fun v w => IsR w v (fun _ _ => false) | 7 => fun v _ => ∃ x y, v = .slice x cn y | _ => fun _ _ => True) : Nat → Value → World → Prop) Lz vz wy)
              [some 66, some 67, some 68, some 69, some 70, some 71, some 72, some 73, some 74, some 75, some 76, some 77, some 78, some 79, some 80, some 81, some 82, some 83, some 84, some 85, some 86, some 87, some 88, some 89, some 90, some 91, some 92, some 93, some 94, some 95, some 96] (by kernel_rfl) (by kernel_rfl) (by kernel_rfl) (by kernel_rfl) (by kernel_rfl) (by kernel_rfl) ⟨KB.out.drew, KT.out.later ((Below.refl _ _).drew), Exs.start _ _ _ _⟩ (fun i o ho => ?_) (fun Lz vz wz hL hB => ?_)
            · match i, ho with
              | 0, ho =>
                obtain rfl := Option.some.inj ho
                intro Az Lz vz wy Kz Ez hB k
                have e8 : Az.eval (.tmp 8) = .pointer (some ⟨w2.heap.size, 0, none⟩) := Ez.out 8 (by kernel_rfl)
                have c1_0 := hB.2.1.cell 1 0 rfl rfl
                exact wpo_val (v := .agg #[.slice a9 n9 c9]) (run_load e8 (by simp [go_sem, c1_0])) (k _ _ rfl ⟨hB.1, hB.2.1, hB.2.2.other 0 _ (by decide)⟩)
              | 1, ho =>
                obtain rfl := Option.some.inj ho
                intro Az Lz vz wy Kz Ez hB k
                have e11 : Az.eval (.tmp 11) = .pointer (some ⟨w5.heap.size, 0, none⟩) := Ez.out 11 (by kernel_rfl)
                have c0_0 := hB.2.1.cell 0 0 rfl rfl
                exact wpo_val (v := .agg #[.slice a' m' c']) (run_load e11 (by simp [go_sem, c0_0])) (k _ _ rfl ⟨hB.1, hB.2.1, hB.2.2.other 1 _ (by decide)⟩)
              | 2, ho =>
                obtain rfl := Option.some.inj ho
                intro Az Lz vz wy Kz Ez hB k
                have e66 : Az.eval (.tmp 66) = .agg #[.slice a9 n9 c9] := Ez.dep 0 66 (by kernel_rfl) rfl
                have e67 : Az.eval (.tmp 67) = .agg #[.slice a' m' c'] := Ez.dep 1 67 (by kernel_rfl) rfl
                refine wpo_call (run_callW (fun _ _ => by kernel_rfl)) (R := fun ez w' => ∃ v, ez = .returned v ∧ (fun v w => IsR w v (fun _ _ => false)) v w' ∧ Below wy.heap.size wy w') ?_ ?_
                · simp only [List.map_toArray, List.map_cons, List.map_nil, eval_const, e66, e67]
                  exact HMI.out wy hB.1
                · rintro ez w' ⟨vr, rfl, hr, hb⟩
                  exact ⟨_, rfl, k _ _ trivial ⟨bel_tr0 hB.1 hb, hB.2.1.later hb, (hB.2.2.later EP hb).add 2 _ hr⟩⟩
              | 3, ho =>
                obtain rfl := Option.some.inj ho
                intro Az Lz vz wy Kz Ez hB k
                have e68 : Az.eval (.tmp 68) = vz 2 := Ez.dep 2 68 (by kernel_rfl) rfl
                refine wpo_call (run_callW (fun _ _ => by kernel_rfl)) (R := fun ez w' => ez = .returned (.int .i64 0) ∧ Below wy.heap.size wy w') ?_ ?_
                · simp only [List.map_toArray, List.map_cons, List.map_nil, eval_const, e68]
                  exact ArN.out wy _ (hB.2.2 2 (by decide) (Ez.had 2 (by kernel_rfl)))
                · rintro ez w' ⟨rfl, hb⟩
                  exact ⟨_, rfl, k _ _ rfl ⟨bel_tr0 hB.1 hb, hB.2.1.later hb, (hB.2.2.later EP hb).other 3 _ (by decide)⟩⟩
              | 4, ho =>
                obtain rfl := Option.some.inj ho
                intro Az Lz vz wy Kz Ez hB k
                have e69 : Az.eval (.tmp 69) = .int .i64 0 := Ez.dep 3 69 (by kernel_rfl) rfl
                exact wpo_val (v := .bool false) (run_bin e69 rfl (by simp [go_sem]) (by simp [go_sem])) (k _ _ rfl ⟨hB.1, hB.2.1, hB.2.2.other 4 _ (by decide)⟩)
              | 5, ho =>
                obtain rfl := Option.some.inj ho
                intro Az Lz vz wy Kz Ez hB k
                have e70 : Az.eval (.tmp 70) = .bool false := Ez.dep 4 70 (by kernel_rfl) rfl
                exact wpo_val (v := .bool false) (run_move e70) (k _ _ rfl ⟨hB.1, hB.2.1, hB.2.2.other 5 _ (by decide)⟩)
              | 6, ho =>
                obtain rfl := Option.some.inj ho
                intro Az Lz vz wy Kz Ez hB k
                have e11 : Az.eval (.tmp 11) = .pointer (some ⟨w5.heap.size, 0, none⟩) := Ez.out 11 (by kernel_rfl)
                have c0_0 := hB.2.1.cell 0 0 rfl rfl
                exact wpo_val (v := .agg #[.slice a' m' c']) (run_load e11 (by simp [go_sem, c0_0])) (k _ _ rfl ⟨hB.1, hB.2.1, hB.2.2.other 6 _ (by decide)⟩)
              | 7, ho =>
                obtain rfl := Option.some.inj ho
                intro Az Lz vz wy Kz Ez hB k
                have e72 : Az.eval (.tmp 72) = .agg #[.slice a' m' c'] := Ez.dep 6 72 (by kernel_rfl) rfl
                refine wpo_call (run_callW (fun _ _ => by kernel_rfl)) (R := fun ez w' => ∃ v, ez = .returned v ∧ (fun v _ => ∃ x y, v = .slice x cn y) v w' ∧ Below wy.heap.size wy w') ?_ ?_
                · simp only [List.map_toArray, List.map_cons, List.map_nil, eval_const, e72]
                  exact HRC.out wy hB.1
                · rintro ez w' ⟨vr, rfl, hr, hb⟩
                  exact ⟨_, rfl, k _ _ trivial ⟨bel_tr0 hB.1 hb, hB.2.1.later hb, (hB.2.2.later EP hb).add 7 _ hr⟩⟩
              | 8, ho =>
                obtain rfl := Option.some.inj ho
                intro Az Lz vz wy Kz Ez hB k
                have e73 : Az.eval (.tmp 73) = vz 7 := Ez.dep 7 73 (by kernel_rfl) rfl
                exact wpo_val (v := .int .i64 cn) (run_lenA e73 (hB.2.2 7 (by decide) (Ez.had 7 (by kernel_rfl)))) (k _ _ rfl ⟨hB.1, hB.2.1, hB.2.2.other 8 _ (by decide)⟩)
              | 9, ho =>
                obtain rfl := Option.some.inj ho
                intro Az Lz vz wy Kz Ez hB k
                have e5 : Az.eval (.tmp 5) = .int .i64 n := Ez.out 5 (by kernel_rfl)
                exact wpo_val (v := .int .i64 n) (run_move e5) (k _ _ rfl ⟨hB.1, hB.2.1, hB.2.2.other 9 _ (by decide)⟩)
              | 10, ho =>
                obtain rfl := Option.some.inj ho
                intro Az Lz vz wy Kz Ez hB k
                have e74 : Az.eval (.tmp 74) = .int .i64 cn := Ez.dep 8 74 (by kernel_rfl) rfl
                have e75 : Az.eval (.tmp 75) = .int .i64 n := Ez.dep 9 75 (by kernel_rfl) rfl
                exact wpo_val (v := .bool false) (run_bin e74 e75 (by simp [go_sem]) (by simp [go_sem, cle'])) (k _ _ rfl ⟨hB.1, hB.2.1, hB.2.2.other 10 _ (by decide)⟩)
              | 11, ho =>
                obtain rfl := Option.some.inj ho
                intro Az Lz vz wy Kz Ez hB k
                have e71 : Az.eval (.tmp 71) = .bool false := Ez.dep 5 71 (by kernel_rfl) rfl
                have e76 : Az.eval (.tmp 76) = .bool false := Ez.dep 10 76 (by kernel_rfl) rfl
                exact wpo_val (v := .bool false) (run_pickF e71 e76) (k _ _ rfl ⟨hB.1, hB.2.1, hB.2.2.other 11 _ (by decide)⟩)
              | 12, ho =>
                obtain rfl := Option.some.inj ho
                intro Az Lz vz wy Kz Ez hB k
                have e77 : Az.eval (.tmp 77) = .bool false := Ez.dep 11 77 (by kernel_rfl) rfl
                exact wpo_val (v := .bool false) (run_move e77) (k _ _ rfl ⟨hB.1, hB.2.1, hB.2.2.other 12 _ (by decide)⟩)
              | 13, ho =>
                obtain rfl := Option.some.inj ho
                intro Az Lz vz wy Kz Ez hB k
                have e8 : Az.eval (.tmp 8) = .pointer (some ⟨w2.heap.size, 0, none⟩) := Ez.out 8 (by kernel_rfl)
                have c1_0 := hB.2.1.cell 1 0 rfl rfl
                exact wpo_val (v := .agg #[.slice a9 n9 c9]) (run_load e8 (by simp [go_sem, c1_0])) (k _ _ rfl ⟨hB.1, hB.2.1, hB.2.2.other 13 _ (by decide)⟩)
              | 14, ho =>
                obtain rfl := Option.some.inj ho
                intro Az Lz vz wy Kz Ez hB k
                have e79 : Az.eval (.tmp 79) = .agg #[.slice a9 n9 c9] := Ez.dep 13 79 (by kernel_rfl) rfl
                refine wpo_call (run_callW (fun _ _ => by kernel_rfl)) (R := fun ez w' => ez = .returned (.agg #[.int .i64 qa, .int .i64 qb, .int .i64 qc, .int .i64 qd]) ∧ Below wy.heap.size wy w') ?_ ?_
                · simp only [List.map_toArray, List.map_cons, List.map_nil, eval_const, e79]
                  exact HHA.out wy hB.1
                · rintro ez w' ⟨rfl, hb⟩
                  exact ⟨_, rfl, k _ _ rfl ⟨bel_tr0 hB.1 hb, hB.2.1.later hb, (hB.2.2.later EP hb).other 14 _ (by decide)⟩⟩
              | 15, ho =>
                obtain rfl := Option.some.inj ho
                intro Az Lz vz wy Kz Ez hB k
                have e11 : Az.eval (.tmp 11) = .pointer (some ⟨w5.heap.size, 0, none⟩) := Ez.out 11 (by kernel_rfl)
                have c0_0 := hB.2.1.cell 0 0 rfl rfl
                exact wpo_val (v := .agg #[.slice a' m' c']) (run_load e11 (by simp [go_sem, c0_0])) (k _ _ rfl ⟨hB.1, hB.2.1, hB.2.2.other 15 _ (by decide)⟩)
              | 16, ho =>
                obtain rfl := Option.some.inj ho
                intro Az Lz vz wy Kz Ez hB k
                have e81 : Az.eval (.tmp 81) = .agg #[.slice a' m' c'] := Ez.dep 15 81 (by kernel_rfl) rfl
                refine wpo_call (run_callW (fun _ _ => by kernel_rfl)) (R := fun ez w' => ez = .returned (.agg #[.int .i64 qa, .int .i64 qb, .int .i64 qc, .int .i64 qd]) ∧ Below wy.heap.size wy w') ?_ ?_
                · simp only [List.map_toArray, List.map_cons, List.map_nil, eval_const, e81]
                  exact HHD.out wy hB.1
                · rintro ez w' ⟨rfl, hb⟩
                  exact ⟨_, rfl, k _ _ rfl ⟨bel_tr0 hB.1 hb, hB.2.1.later hb, (hB.2.2.later EP hb).other 16 _ (by decide)⟩⟩
              | 17, ho =>
                obtain rfl := Option.some.inj ho
                intro Az Lz vz wy Kz Ez hB k
                have e80 : Az.eval (.tmp 80) = .agg #[.int .i64 qa, .int .i64 qb, .int .i64 qc, .int .i64 qd] := Ez.dep 14 80 (by kernel_rfl) rfl
                have e82 : Az.eval (.tmp 82) = .agg #[.int .i64 qa, .int .i64 qb, .int .i64 qc, .int .i64 qd] := Ez.dep 16 82 (by kernel_rfl) rfl
                refine wpo_call (run_callW (fun _ _ => by kernel_rfl)) (R := fun ez w' => ez = .returned (.bool true) ∧ Below wy.heap.size wy w') ?_ ?_
                · simp only [List.map_toArray, List.map_cons, List.map_nil, eval_const, e80, e82]
                  exact HOL.out wy
                · rintro ez w' ⟨rfl, hb⟩
                  exact ⟨_, rfl, k _ _ rfl ⟨bel_tr0 hB.1 hb, hB.2.1.later hb, (hB.2.2.later EP hb).other 17 _ (by decide)⟩⟩
              | 18, ho =>
                obtain rfl := Option.some.inj ho
                intro Az Lz vz wy Kz Ez hB k
                have e83 : Az.eval (.tmp 83) = .bool true := Ez.dep 17 83 (by kernel_rfl) rfl
                exact wpo_val (v := .bool false) (run_un e83 (by simp [go_sem])) (k _ _ rfl ⟨hB.1, hB.2.1, hB.2.2.other 18 _ (by decide)⟩)
              | 19, ho =>
                obtain rfl := Option.some.inj ho
                intro Az Lz vz wy Kz Ez hB k
                have e78 : Az.eval (.tmp 78) = .bool false := Ez.dep 12 78 (by kernel_rfl) rfl
                have e84 : Az.eval (.tmp 84) = .bool false := Ez.dep 18 84 (by kernel_rfl) rfl
                exact wpo_val (v := .bool false) (run_pickF e78 e84) (k _ _ rfl ⟨hB.1, hB.2.1, hB.2.2.other 19 _ (by decide)⟩)
              | 20, ho =>
                obtain rfl := Option.some.inj ho
                intro Az Lz vz wy Kz Ez hB k
                have e85 : Az.eval (.tmp 85) = .bool false := Ez.dep 19 85 (by kernel_rfl) rfl
                exact wpo_val (v := .bool false) (run_move e85) (k _ _ rfl ⟨hB.1, hB.2.1, hB.2.2.other 20 _ (by decide)⟩)
              | 21, ho =>
                obtain rfl := Option.some.inj ho
                intro Az Lz vz wy Kz Ez hB k
                have e6 : Az.eval (.tmp 6) = .pointer (some ⟨w1.heap.size, 0, none⟩) := Ez.out 6 (by kernel_rfl)
                exact wpo_val (v := .pointer (some ⟨w1.heap.size, 0, none⟩)) (run_move e6) (k _ _ rfl ⟨hB.1, hB.2.1, hB.2.2.other 21 _ (by decide)⟩)
              | 22, ho =>
                obtain rfl := Option.some.inj ho
                intro Az Lz vz wy Kz Ez hB k
                have e87 : Az.eval (.tmp 87) = .pointer (some ⟨w1.heap.size, 0, none⟩) := Ez.dep 21 87 (by kernel_rfl) rfl
                refine wpo_call (run_callW (fun _ _ => by kernel_rfl)) (R := fun ez w' => ez = .returned (.bool false) ∧ Below wy.heap.size wy w') ?_ ?_
                · simp only [List.map_toArray, List.map_cons, List.map_nil, eval_const, e87]
                  exact HCO.out wy hB.1
                · rintro ez w' ⟨rfl, hb⟩
                  exact ⟨_, rfl, k _ _ rfl ⟨bel_tr0 hB.1 hb, hB.2.1.later hb, (hB.2.2.later EP hb).other 22 _ (by decide)⟩⟩
              | 23, ho =>
                obtain rfl := Option.some.inj ho
                intro Az Lz vz wy Kz Ez hB k
                have e88 : Az.eval (.tmp 88) = .bool false := Ez.dep 22 88 (by kernel_rfl) rfl
                exact wpo_val (v := .bool true) (run_un e88 (by simp [go_sem])) (k _ _ rfl ⟨hB.1, hB.2.1, hB.2.2.other 23 _ (by decide)⟩)
              | 24, ho =>
                obtain rfl := Option.some.inj ho
                intro Az Lz vz wy Kz Ez hB k
                have e89 : Az.eval (.tmp 89) = .bool true := Ez.dep 23 89 (by kernel_rfl) rfl
                exact wpo_val (v := .bool true) (run_move e89) (k _ _ rfl ⟨hB.1, hB.2.1, hB.2.2.other 24 _ (by decide)⟩)
              | 25, ho =>
                obtain rfl := Option.some.inj ho
                intro Az Lz vz wy Kz Ez hB k
                have e11 : Az.eval (.tmp 11) = .pointer (some ⟨w5.heap.size, 0, none⟩) := Ez.out 11 (by kernel_rfl)
                have c0_0 := hB.2.1.cell 0 0 rfl rfl
                exact wpo_val (v := .agg #[.slice a' m' c']) (run_load e11 (by simp [go_sem, c0_0])) (k _ _ rfl ⟨hB.1, hB.2.1, hB.2.2.other 25 _ (by decide)⟩)
              | 26, ho =>
                obtain rfl := Option.some.inj ho
                intro Az Lz vz wy Kz Ez hB k
                have e8 : Az.eval (.tmp 8) = .pointer (some ⟨w2.heap.size, 0, none⟩) := Ez.out 8 (by kernel_rfl)
                have c1_0 := hB.2.1.cell 1 0 rfl rfl
                exact wpo_val (v := .agg #[.slice a9 n9 c9]) (run_load e8 (by simp [go_sem, c1_0])) (k _ _ rfl ⟨hB.1, hB.2.1, hB.2.2.other 26 _ (by decide)⟩)
              | 27, ho =>
                obtain rfl := Option.some.inj ho
                intro Az Lz vz wy Kz Ez hB k
                have e91 : Az.eval (.tmp 91) = .agg #[.slice a' m' c'] := Ez.dep 25 91 (by kernel_rfl) rfl
                have e92 : Az.eval (.tmp 92) = .agg #[.slice a9 n9 c9] := Ez.dep 26 92 (by kernel_rfl) rfl
                refine wpo_call (run_callW (fun _ _ => by kernel_rfl)) (R := fun ez w' => ez = .returned (.bool true) ∧ Below wy.heap.size wy w') ?_ ?_
                · simp only [List.map_toArray, List.map_cons, List.map_nil, eval_const, e91, e92]
                  exact HSA.out rfl wy hB.1
                · rintro ez w' ⟨rfl, hb⟩
                  exact ⟨_, rfl, k _ _ rfl ⟨bel_tr0 hB.1 hb, hB.2.1.later hb, (hB.2.2.later EP hb).other 27 _ (by decide)⟩⟩
              | 28, ho =>
                obtain rfl := Option.some.inj ho
                intro Az Lz vz wy Kz Ez hB k
                have e93 : Az.eval (.tmp 93) = .bool true := Ez.dep 27 93 (by kernel_rfl) rfl
                exact wpo_val (v := .bool false) (run_un e93 (by simp [go_sem])) (k _ _ rfl ⟨hB.1, hB.2.1, hB.2.2.other 28 _ (by decide)⟩)
              | 29, ho =>
                obtain rfl := Option.some.inj ho
                intro Az Lz vz wy Kz Ez hB k
                have e90 : Az.eval (.tmp 90) = .bool true := Ez.dep 24 90 (by kernel_rfl) rfl
                have e94 : Az.eval (.tmp 94) = .bool false := Ez.dep 28 94 (by kernel_rfl) rfl
                exact wpo_val (v := .bool false) (run_pickT e90 e94) (k _ _ rfl ⟨hB.1, hB.2.1, hB.2.2.other 29 _ (by decide)⟩)
              | 30, ho =>
                obtain rfl := Option.some.inj ho
                intro Az Lz vz wy Kz Ez hB k
                have e86 : Az.eval (.tmp 86) = .bool false := Ez.dep 20 86 (by kernel_rfl) rfl
                have e95 : Az.eval (.tmp 95) = .bool false := Ez.dep 29 95 (by kernel_rfl) rfl
                exact wpo_val (v := .bool false) (run_pickF e86 e95) (k _ _ rfl ⟨hB.1, hB.2.1, hB.2.2.other 30 _ (by decide)⟩)
              | n + 31, ho => simp at ho
            · obtain ⟨hk, hT, hR⟩ := hB
              have KB := Lib.hid hk
              have KT := Lib.hid hT
              clear hk hT hL
              simp only [puts2, mix, Act.put, List.setIfInBounds_toArray, List.set_cons_zero, List.set_cons_succ, Nat.zero_add, Nat.reduceAdd, List.getElem?_cons_zero, List.getElem?_cons_succ]
              have FD := Lib.hid (D6.out.later KB.out)
              have FK : Hid (wz.heap[w2.heap.size]? = some (.cells #[.slice a9 n9 c9] 26 (0, 0))) := Lib.hid ((KB.out.block _ (by omega)).trans K86.out)
              have FR := Lib.hid (RA6.out.later KB.out)
              have FB := Lib.hid (B6.out.later KB.out)
              go_wp2_with fail
              go_roundw
              case rel => exact ⟨j + 1, a', m', c', a9, n9, c9, la', ld', false, by go_num, by omega, by omega, FD, FK, FR, HO4, FB⟩
              case measure => simp [intOf]; omega

          · have EP : ∀ (i : Nat) (v : Value) (w w' : World), ((fun i => match i with | 2 => fun v w => IsR w v (fun _ _ => false) | 7 => fun v _ => ∃ x y, v = .slice x cn y | _ => fun _ _ => True) : Nat → Value → World → Prop) i v w → Below w.heap.size w w' → ((fun i => match i with | 2 => fun v w => IsR w v (fun _ _ => false) | 7 => fun v _ => ∃ x y, v = .slice x cn y | _ => fun _ _ => True) : Nat → Value → World → Prop) i v w' := by
              intro i v w w' h hb
              try dsimp only at h ⊢
              split at h <;> first | exact IsR.later h hb | exact RS.later h hb | exact h | trivial | (split <;> trivial)
            refine wp_region_vals [some (.agg #[.slice a9 n9 c9]), some (.agg #[.slice a' m' c']), none, some (.int .i64 0), some (.bool false), some (.bool false), some (.agg #[.slice a' m' c']), none, some (.int .i64 cn), some (.int .i64 n), some (.bool false), some (.bool false), some (.bool false), some (.agg #[.slice a9 n9 c9]), some (.agg #[.int .i64 qa, .int .i64 qb, .int .i64 qc, .int .i64 qd]), some (.agg #[.slice a' m' c']), some (.agg #[.int .i64 qa, .int .i64 qb, .int .i64 qc, .int .i64 qd]), some (.bool true), some (.bool false), some (.bool false), some (.bool false), some (.pointer (some ⟨w1.heap.size, 0, none⟩)), some (.bool true), some (.bool false), some (.bool false), some (undef), some (undef), some (undef), some (undef), some (.bool false), some (.bool false)] (fun Lz vz wy => Below w6.heap.size w6 wy ∧ Tab wy [(w5.heap.size, [.slice a' m' c']), (w2.heap.size, [.slice a9 n9 c9])] ∧ Exs [2, 7] ((fun i => match i with | 2 => fun v w => IsR w v (fun _ _ => false) | 7 => fun v _ => ∃ x y, v = .slice x cn y | _ => fun _ _ => True) : Nat → Value → World → Prop) Lz vz wy)
              [some 66, some 67, some 68, some 69, some 70, some 71, some 72, some 73, some 74, some 75, some 76, some 77, some 78, some 79, some 80, some 81, some 82, some 83, some 84, some 85, some 86, some 87, some 88, some 89, some 90, some 91, some 92, some 93, some 94, some 95, some 96] (by kernel_rfl) (by kernel_rfl) (by kernel_rfl) (by kernel_rfl) (by kernel_rfl) (by kernel_rfl) ⟨KB.out.drew, KT.out.later ((Below.refl _ _).drew), Exs.start _ _ _ _⟩ (fun i o ho => ?_) (fun Lz vz wz hL hB => ?_)
            · match i, ho with
              | 0, ho =>
                obtain rfl := Option.some.inj ho
                intro Az Lz vz wy Kz Ez hB k
                have e8 : Az.eval (.tmp 8) = .pointer (some ⟨w2.heap.size, 0, none⟩) := Ez.out 8 (by kernel_rfl)
                have c1_0 := hB.2.1.cell 1 0 rfl rfl
                exact wpo_val (v := .agg #[.slice a9 n9 c9]) (run_load e8 (by simp [go_sem, c1_0])) (k _ _ rfl ⟨hB.1, hB.2.1, hB.2.2.other 0 _ (by decide)⟩)
              | 1, ho =>
                obtain rfl := Option.some.inj ho
                intro Az Lz vz wy Kz Ez hB k
                have e11 : Az.eval (.tmp 11) = .pointer (some ⟨w5.heap.size, 0, none⟩) := Ez.out 11 (by kernel_rfl)
                have c0_0 := hB.2.1.cell 0 0 rfl rfl
                exact wpo_val (v := .agg #[.slice a' m' c']) (run_load e11 (by simp [go_sem, c0_0])) (k _ _ rfl ⟨hB.1, hB.2.1, hB.2.2.other 1 _ (by decide)⟩)
              | 2, ho =>
                obtain rfl := Option.some.inj ho
                intro Az Lz vz wy Kz Ez hB k
                have e66 : Az.eval (.tmp 66) = .agg #[.slice a9 n9 c9] := Ez.dep 0 66 (by kernel_rfl) rfl
                have e67 : Az.eval (.tmp 67) = .agg #[.slice a' m' c'] := Ez.dep 1 67 (by kernel_rfl) rfl
                refine wpo_call (run_callW (fun _ _ => by kernel_rfl)) (R := fun ez w' => ∃ v, ez = .returned v ∧ (fun v w => IsR w v (fun _ _ => false)) v w' ∧ Below wy.heap.size wy w') ?_ ?_
                · simp only [List.map_toArray, List.map_cons, List.map_nil, eval_const, e66, e67]
                  exact HMI.out wy hB.1
                · rintro ez w' ⟨vr, rfl, hr, hb⟩
                  exact ⟨_, rfl, k _ _ trivial ⟨bel_tr0 hB.1 hb, hB.2.1.later hb, (hB.2.2.later EP hb).add 2 _ hr⟩⟩
              | 3, ho =>
                obtain rfl := Option.some.inj ho
                intro Az Lz vz wy Kz Ez hB k
                have e68 : Az.eval (.tmp 68) = vz 2 := Ez.dep 2 68 (by kernel_rfl) rfl
                refine wpo_call (run_callW (fun _ _ => by kernel_rfl)) (R := fun ez w' => ez = .returned (.int .i64 0) ∧ Below wy.heap.size wy w') ?_ ?_
                · simp only [List.map_toArray, List.map_cons, List.map_nil, eval_const, e68]
                  exact ArN.out wy _ (hB.2.2 2 (by decide) (Ez.had 2 (by kernel_rfl)))
                · rintro ez w' ⟨rfl, hb⟩
                  exact ⟨_, rfl, k _ _ rfl ⟨bel_tr0 hB.1 hb, hB.2.1.later hb, (hB.2.2.later EP hb).other 3 _ (by decide)⟩⟩
              | 4, ho =>
                obtain rfl := Option.some.inj ho
                intro Az Lz vz wy Kz Ez hB k
                have e69 : Az.eval (.tmp 69) = .int .i64 0 := Ez.dep 3 69 (by kernel_rfl) rfl
                exact wpo_val (v := .bool false) (run_bin e69 rfl (by simp [go_sem]) (by simp [go_sem])) (k _ _ rfl ⟨hB.1, hB.2.1, hB.2.2.other 4 _ (by decide)⟩)
              | 5, ho =>
                obtain rfl := Option.some.inj ho
                intro Az Lz vz wy Kz Ez hB k
                have e70 : Az.eval (.tmp 70) = .bool false := Ez.dep 4 70 (by kernel_rfl) rfl
                exact wpo_val (v := .bool false) (run_move e70) (k _ _ rfl ⟨hB.1, hB.2.1, hB.2.2.other 5 _ (by decide)⟩)
              | 6, ho =>
                obtain rfl := Option.some.inj ho
                intro Az Lz vz wy Kz Ez hB k
                have e11 : Az.eval (.tmp 11) = .pointer (some ⟨w5.heap.size, 0, none⟩) := Ez.out 11 (by kernel_rfl)
                have c0_0 := hB.2.1.cell 0 0 rfl rfl
                exact wpo_val (v := .agg #[.slice a' m' c']) (run_load e11 (by simp [go_sem, c0_0])) (k _ _ rfl ⟨hB.1, hB.2.1, hB.2.2.other 6 _ (by decide)⟩)
              | 7, ho =>
                obtain rfl := Option.some.inj ho
                intro Az Lz vz wy Kz Ez hB k
                have e72 : Az.eval (.tmp 72) = .agg #[.slice a' m' c'] := Ez.dep 6 72 (by kernel_rfl) rfl
                refine wpo_call (run_callW (fun _ _ => by kernel_rfl)) (R := fun ez w' => ∃ v, ez = .returned v ∧ (fun v _ => ∃ x y, v = .slice x cn y) v w' ∧ Below wy.heap.size wy w') ?_ ?_
                · simp only [List.map_toArray, List.map_cons, List.map_nil, eval_const, e72]
                  exact HRC.out wy hB.1
                · rintro ez w' ⟨vr, rfl, hr, hb⟩
                  exact ⟨_, rfl, k _ _ trivial ⟨bel_tr0 hB.1 hb, hB.2.1.later hb, (hB.2.2.later EP hb).add 7 _ hr⟩⟩
              | 8, ho =>
                obtain rfl := Option.some.inj ho
                intro Az Lz vz wy Kz Ez hB k
                have e73 : Az.eval (.tmp 73) = vz 7 := Ez.dep 7 73 (by kernel_rfl) rfl
                exact wpo_val (v := .int .i64 cn) (run_lenA e73 (hB.2.2 7 (by decide) (Ez.had 7 (by kernel_rfl)))) (k _ _ rfl ⟨hB.1, hB.2.1, hB.2.2.other 8 _ (by decide)⟩)
              | 9, ho =>
                obtain rfl := Option.some.inj ho
                intro Az Lz vz wy Kz Ez hB k
                have e5 : Az.eval (.tmp 5) = .int .i64 n := Ez.out 5 (by kernel_rfl)
                exact wpo_val (v := .int .i64 n) (run_move e5) (k _ _ rfl ⟨hB.1, hB.2.1, hB.2.2.other 9 _ (by decide)⟩)
              | 10, ho =>
                obtain rfl := Option.some.inj ho
                intro Az Lz vz wy Kz Ez hB k
                have e74 : Az.eval (.tmp 74) = .int .i64 cn := Ez.dep 8 74 (by kernel_rfl) rfl
                have e75 : Az.eval (.tmp 75) = .int .i64 n := Ez.dep 9 75 (by kernel_rfl) rfl
                exact wpo_val (v := .bool false) (run_bin e74 e75 (by simp [go_sem]) (by simp [go_sem, cle'])) (k _ _ rfl ⟨hB.1, hB.2.1, hB.2.2.other 10 _ (by decide)⟩)
              | 11, ho =>
                obtain rfl := Option.some.inj ho
                intro Az Lz vz wy Kz Ez hB k
                have e71 : Az.eval (.tmp 71) = .bool false := Ez.dep 5 71 (by kernel_rfl) rfl
                have e76 : Az.eval (.tmp 76) = .bool false := Ez.dep 10 76 (by kernel_rfl) rfl
                exact wpo_val (v := .bool false) (run_pickF e71 e76) (k _ _ rfl ⟨hB.1, hB.2.1, hB.2.2.other 11 _ (by decide)⟩)
              | 12, ho =>
                obtain rfl := Option.some.inj ho
                intro Az Lz vz wy Kz Ez hB k
                have e77 : Az.eval (.tmp 77) = .bool false := Ez.dep 11 77 (by kernel_rfl) rfl
                exact wpo_val (v := .bool false) (run_move e77) (k _ _ rfl ⟨hB.1, hB.2.1, hB.2.2.other 12 _ (by decide)⟩)
              | 13, ho =>
                obtain rfl := Option.some.inj ho
                intro Az Lz vz wy Kz Ez hB k
                have e8 : Az.eval (.tmp 8) = .pointer (some ⟨w2.heap.size, 0, none⟩) := Ez.out 8 (by kernel_rfl)
                have c1_0 := hB.2.1.cell 1 0 rfl rfl
                exact wpo_val (v := .agg #[.slice a9 n9 c9]) (run_load e8 (by simp [go_sem, c1_0])) (k _ _ rfl ⟨hB.1, hB.2.1, hB.2.2.other 13 _ (by decide)⟩)
              | 14, ho =>
                obtain rfl := Option.some.inj ho
                intro Az Lz vz wy Kz Ez hB k
                have e79 : Az.eval (.tmp 79) = .agg #[.slice a9 n9 c9] := Ez.dep 13 79 (by kernel_rfl) rfl
                refine wpo_call (run_callW (fun _ _ => by kernel_rfl)) (R := fun ez w' => ez = .returned (.agg #[.int .i64 qa, .int .i64 qb, .int .i64 qc, .int .i64 qd]) ∧ Below wy.heap.size wy w') ?_ ?_
                · simp only [List.map_toArray, List.map_cons, List.map_nil, eval_const, e79]
                  exact HHA.out wy hB.1
                · rintro ez w' ⟨rfl, hb⟩
                  exact ⟨_, rfl, k _ _ rfl ⟨bel_tr0 hB.1 hb, hB.2.1.later hb, (hB.2.2.later EP hb).other 14 _ (by decide)⟩⟩
              | 15, ho =>
                obtain rfl := Option.some.inj ho
                intro Az Lz vz wy Kz Ez hB k
                have e11 : Az.eval (.tmp 11) = .pointer (some ⟨w5.heap.size, 0, none⟩) := Ez.out 11 (by kernel_rfl)
                have c0_0 := hB.2.1.cell 0 0 rfl rfl
                exact wpo_val (v := .agg #[.slice a' m' c']) (run_load e11 (by simp [go_sem, c0_0])) (k _ _ rfl ⟨hB.1, hB.2.1, hB.2.2.other 15 _ (by decide)⟩)
              | 16, ho =>
                obtain rfl := Option.some.inj ho
                intro Az Lz vz wy Kz Ez hB k
                have e81 : Az.eval (.tmp 81) = .agg #[.slice a' m' c'] := Ez.dep 15 81 (by kernel_rfl) rfl
                refine wpo_call (run_callW (fun _ _ => by kernel_rfl)) (R := fun ez w' => ez = .returned (.agg #[.int .i64 qa, .int .i64 qb, .int .i64 qc, .int .i64 qd]) ∧ Below wy.heap.size wy w') ?_ ?_
                · simp only [List.map_toArray, List.map_cons, List.map_nil, eval_const, e81]
                  exact HHD.out wy hB.1
                · rintro ez w' ⟨rfl, hb⟩
                  exact ⟨_, rfl, k _ _ rfl ⟨bel_tr0 hB.1 hb, hB.2.1.later hb, (hB.2.2.later EP hb).other 16 _ (by decide)⟩⟩
              | 17, ho =>
                obtain rfl := Option.some.inj ho
                intro Az Lz vz wy Kz Ez hB k
                have e80 : Az.eval (.tmp 80) = .agg #[.int .i64 qa, .int .i64 qb, .int .i64 qc, .int .i64 qd] := Ez.dep 14 80 (by kernel_rfl) rfl
                have e82 : Az.eval (.tmp 82) = .agg #[.int .i64 qa, .int .i64 qb, .int .i64 qc, .int .i64 qd] := Ez.dep 16 82 (by kernel_rfl) rfl
                refine wpo_call (run_callW (fun _ _ => by kernel_rfl)) (R := fun ez w' => ez = .returned (.bool true) ∧ Below wy.heap.size wy w') ?_ ?_
                · simp only [List.map_toArray, List.map_cons, List.map_nil, eval_const, e80, e82]
                  exact HOL.out wy
                · rintro ez w' ⟨rfl, hb⟩
                  exact ⟨_, rfl, k _ _ rfl ⟨bel_tr0 hB.1 hb, hB.2.1.later hb, (hB.2.2.later EP hb).other 17 _ (by decide)⟩⟩
              | 18, ho =>
                obtain rfl := Option.some.inj ho
                intro Az Lz vz wy Kz Ez hB k
                have e83 : Az.eval (.tmp 83) = .bool true := Ez.dep 17 83 (by kernel_rfl) rfl
                exact wpo_val (v := .bool false) (run_un e83 (by simp [go_sem])) (k _ _ rfl ⟨hB.1, hB.2.1, hB.2.2.other 18 _ (by decide)⟩)
              | 19, ho =>
                obtain rfl := Option.some.inj ho
                intro Az Lz vz wy Kz Ez hB k
                have e78 : Az.eval (.tmp 78) = .bool false := Ez.dep 12 78 (by kernel_rfl) rfl
                have e84 : Az.eval (.tmp 84) = .bool false := Ez.dep 18 84 (by kernel_rfl) rfl
                exact wpo_val (v := .bool false) (run_pickF e78 e84) (k _ _ rfl ⟨hB.1, hB.2.1, hB.2.2.other 19 _ (by decide)⟩)
              | 20, ho =>
                obtain rfl := Option.some.inj ho
                intro Az Lz vz wy Kz Ez hB k
                have e85 : Az.eval (.tmp 85) = .bool false := Ez.dep 19 85 (by kernel_rfl) rfl
                exact wpo_val (v := .bool false) (run_move e85) (k _ _ rfl ⟨hB.1, hB.2.1, hB.2.2.other 20 _ (by decide)⟩)
              | 21, ho =>
                obtain rfl := Option.some.inj ho
                intro Az Lz vz wy Kz Ez hB k
                have e6 : Az.eval (.tmp 6) = .pointer (some ⟨w1.heap.size, 0, none⟩) := Ez.out 6 (by kernel_rfl)
                exact wpo_val (v := .pointer (some ⟨w1.heap.size, 0, none⟩)) (run_move e6) (k _ _ rfl ⟨hB.1, hB.2.1, hB.2.2.other 21 _ (by decide)⟩)
              | 22, ho =>
                obtain rfl := Option.some.inj ho
                intro Az Lz vz wy Kz Ez hB k
                have e87 : Az.eval (.tmp 87) = .pointer (some ⟨w1.heap.size, 0, none⟩) := Ez.dep 21 87 (by kernel_rfl) rfl
                refine wpo_call (run_callW (fun _ _ => by kernel_rfl)) (R := fun ez w' => ez = .returned (.bool true) ∧ Below wy.heap.size wy w') ?_ ?_
                · simp only [List.map_toArray, List.map_cons, List.map_nil, eval_const, e87]
                  exact HCO.out wy hB.1
                · rintro ez w' ⟨rfl, hb⟩
                  exact ⟨_, rfl, k _ _ rfl ⟨bel_tr0 hB.1 hb, hB.2.1.later hb, (hB.2.2.later EP hb).other 22 _ (by decide)⟩⟩
              | 23, ho =>
                obtain rfl := Option.some.inj ho
                intro Az Lz vz wy Kz Ez hB k
                have e88 : Az.eval (.tmp 88) = .bool true := Ez.dep 22 88 (by kernel_rfl) rfl
                exact wpo_val (v := .bool false) (run_un e88 (by simp [go_sem])) (k _ _ rfl ⟨hB.1, hB.2.1, hB.2.2.other 23 _ (by decide)⟩)
              | 24, ho =>
                obtain rfl := Option.some.inj ho
                intro Az Lz vz wy Kz Ez hB k
                have e89 : Az.eval (.tmp 89) = .bool false := Ez.dep 23 89 (by kernel_rfl) rfl
                exact wpo_val (v := .bool false) (run_move e89) (k _ _ rfl ⟨hB.1, hB.2.1, hB.2.2.other 24 _ (by decide)⟩)
              | 25, ho =>
                obtain rfl := Option.some.inj ho
                exact ⟨rfl, fun Lz vz wy h => ⟨h.1, h.2.1, h.2.2.other 25 _ (by decide)⟩⟩
              | 26, ho =>
                obtain rfl := Option.some.inj ho
                exact ⟨rfl, fun Lz vz wy h => ⟨h.1, h.2.1, h.2.2.other 26 _ (by decide)⟩⟩
              | 27, ho =>
                obtain rfl := Option.some.inj ho
                exact ⟨rfl, fun Lz vz wy h => ⟨h.1, h.2.1, h.2.2.other 27 _ (by decide)⟩⟩
              | 28, ho =>
                obtain rfl := Option.some.inj ho
                exact ⟨rfl, fun Lz vz wy h => ⟨h.1, h.2.1, h.2.2.other 28 _ (by decide)⟩⟩
              | 29, ho =>
                obtain rfl := Option.some.inj ho
                intro Az Lz vz wy Kz Ez hB k
                have e90 : Az.eval (.tmp 90) = .bool false := Ez.dep 24 90 (by kernel_rfl) rfl
                have e94 : Az.eval (.tmp 94) = undef := Ez.dep 28 94 (by kernel_rfl) rfl
                exact wpo_val (v := .bool false) (run_pickF e90 rfl) (k _ _ rfl ⟨hB.1, hB.2.1, hB.2.2.other 29 _ (by decide)⟩)
              | 30, ho =>
                obtain rfl := Option.some.inj ho
                intro Az Lz vz wy Kz Ez hB k
                have e86 : Az.eval (.tmp 86) = .bool false := Ez.dep 20 86 (by kernel_rfl) rfl
                have e95 : Az.eval (.tmp 95) = .bool false := Ez.dep 29 95 (by kernel_rfl) rfl
                exact wpo_val (v := .bool false) (run_pickF e86 e95) (k _ _ rfl ⟨hB.1, hB.2.1, hB.2.2.other 30 _ (by decide)⟩)
              | n + 31, ho => simp at ho
            · obtain ⟨hk, hT, hR⟩ := hB
              have KB := Lib.hid hk
              have KT := Lib.hid hT
              clear hk hT hL
              simp only [puts2, mix, Act.put, List.setIfInBounds_toArray, List.set_cons_zero, List.set_cons_succ, Nat.zero_add, Nat.reduceAdd, List.getElem?_cons_zero, List.getElem?_cons_succ]
              have FD := Lib.hid (D6.out.later KB.out)
              have FK : Hid (wz.heap[w2.heap.size]? = some (.cells #[.slice a9 n9 c9] 26 (0, 0))) := Lib.hid ((KB.out.block _ (by omega)).trans K86.out)
              have FR := Lib.hid (RA6.out.later KB.out)
              have FB := Lib.hid (B6.out.later KB.out)
              go_wp2_with fail
              go_roundw
              case rel => exact ⟨j + 1, a', m', c', a9, n9, c9, la', ld', true, by go_num, by omega, by omega, FD, FK, FR, HO4, FB⟩
              case measure => simp [intOf]; omega

    · have nlt : ¬ ((j : Int) < (gn : Int) ∧ (j : Int) < 30) := by omega
      have FIN := Lib.hid (But.below WL.out KBl.out (by have := WL.out.size; omega) (fun i hi => by simp at hi; omega))
      by_cases l1 : j < gn
      · have l1' : (j : Int) < (gn : Int) := by omega
        have l2' : ¬ (j : Int) < 30 := by omega
        go_wp2_with fail
        go_returns
        exact ⟨rfl, FIN.out⟩
      · have l1' : ¬ (j : Int) < (gn : Int) := by omega
        go_wp2_with fail
        go_returns
        exact ⟨rfl, FIN.out⟩
end Go.Proofs.Ytfhepaiefdmlcaa
