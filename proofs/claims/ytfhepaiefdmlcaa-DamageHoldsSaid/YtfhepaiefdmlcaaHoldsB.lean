/- Law 8: what it asks of speaking. -/
import Derived.Test.YtfhepaiefdmlcaaDam
import Derived.WalkKit
import Derived.WalkSpells
import Derived.WalkLawsBesides
import Derived.Handy
import Derived.Lib.Hide
import Derived.Outline
namespace Go.Proofs.Ytfhepaiefdmlcaa
open Go.RowKit Go.Proofs.Reg Go.Proofs.Big Go.Proofs.Bands
set_option linter.unusedVariables false
set_option linter.unusedSimpArgs false
set_option maxRecDepth 100000
def lA : List Bd := [⟨0, 1, [0, 1]⟩]
def lB : List Bd := [⟨0, 1, [0, 1]⟩, ⟨5, 6, [5, 6]⟩]
theorem lA_wf : Wf lA := ⟨⟨by decide, by decide, by unfold Asc; decide, by decide⟩, by decide, fun d h => by simp at h, trivial⟩
theorem lB_wf : Wf lB := by
  refine ⟨⟨by decide, by decide, by unfold Asc; decide, by decide⟩, by decide, fun d h => ?_, ⟨by decide, by decide, by unfold Asc; decide, by decide⟩, by decide, fun d h => ?_, trivial⟩
  · simp at h; subst h; exact .inl (by decide)
  · simp at h
theorem lA_has (x y : Int) : hasP lA x y = orB (hasP [] x y) (inQ (0, 0, 1, 1) x y) := by
  rw [← rects_in lA_wf]
  show anyQ [(0, 0, 1, 1)] x y = (false || inQ (0, 0, 1, 1) x y)
  simp [anyQ]
theorem lB_has (x y : Int) : hasP lB x y = orB (hasP lA x y) (inQ (5, 5, 6, 6) x y) := by
  rw [← rects_in lB_wf, ← rects_in lA_wf]
  show anyQ [(0, 0, 1, 1), (5, 5, 6, 6)] x y = (anyQ [(0, 0, 1, 1)] x y || inQ (5, 5, 6, 6) x y)
  simp [anyQ]
theorem edge_of {l : List Bd} {S : List Int} {r : Q4} (e : EdgeIn (hasP l) S) : EdgeIn (fun x y => orB (hasP l x y) (inQ r x y)) (S ++ [r.1, r.2.2.1]) := edge_two orB e (edge_rect r)
theorem lB_hull : Hl (fun x y => orB (hasP lA x y) (inQ (5, 5, 6, 6) x y)) (0, 0, 6, 6) := by
  have a : Hl (hasP lA) (0, 0, 1, 1) := hl_congr (hl_fil (q := (0, 0, 1, 1)) ⟨by decide, by decide, by decide, by decide, by decide, by decide⟩) fun x y => by rw [lA_has]; exact (Bool.false_or _).symm
  exact hl_more a ⟨by decide, by decide, by decide, by decide, by decide, by decide⟩
set_option maxHeartbeats 4000000 in
theorem speaks8_any (w : World) : Calls Try.prog 28 #[] w fun e w' => e = .returned (.bool true) ∧ Below w.heap.size w w' := by
  have N1 := Lib.hid (xnew_any 0 0 1 1 0 0 1 1 (by decide) (by decide) (by decide) (by decide) (.inl (by decide)))
  have N2 := Lib.hid (xnew_any 5 5 6 6 5 5 6 6 (by decide) (by decide) (by decide) (by decide) (.inl (by decide)))
  have N3 := Lib.hid (xnew_any 0 0 6 6 0 0 6 6 (by decide) (by decide) (by decide) (by decide) (.inl (by decide)))
  unfold rv at N1 N2 N3
  go_enter Try.func28, Try.ntmps28
  go_wp2_with fail
  refine (dnew_any 1 (by decide) (by decide) _).mono ?_
  rintro _ w1 ⟨rfl, hd, hb⟩
  have D1 := Lib.hid hd
  have K1 := Lib.hid hb
  clear hd hb
  go_wp2_with fail
  refine (N1.out _).mono ?_
  rintro _ w2 ⟨rfl, hb⟩
  have D2 := Lib.hid (D1.out.later hb)
  have K2 := Lib.hid (bel_tr0 K1.out hb)
  clear hb D1
  go_wp2_with fail
  refine (dadd_any (r := (0, 0, 1, 1)) D2.out (.inr ⟨by decide, by decide, by decide, by decide, by decide, by decide⟩) (edge_of (S := []) edge_none) (by decide) (by decide) (by decide)).mono ?_
  rintro _ w3 ⟨rfl, hb, a, m, c, l', co, hd, l1, hw, hr, hp, hc⟩
  have e1 : l1 = lA := bands_one hw lA_wf fun x y => by rw [hp, lA_has]
  subst e1
  obtain ⟨rfl, rfl⟩ : l' = lA ∧ co = false := by
    rcases hc with ⟨_, h1, h2⟩ | ⟨h, _⟩
    · exact ⟨h1, h2⟩
    · exact absurd h (by decide)
  have D3 := Lib.hid hd
  have K3 : Hid (Below w.heap.size w w3) := Lib.hid (But.below K2.out hb (K2.out.size) (by simp))
  clear hb hd hw hr hp hc D2
  go_wp2_with fail
  refine (dcoarse_any D3.out).mono ?_
  rintro _ w4 ⟨rfl, hb⟩
  have D4 := Lib.hid (D3.out.later hb)
  have K4 := Lib.hid (bel_tr0 K3.out hb)
  clear hb D3
  go_wp2_with fail
  refine (N2.out _).mono ?_
  rintro _ w5 ⟨rfl, hb⟩
  have D5 := Lib.hid (D4.out.later hb)
  have K5 := Lib.hid (bel_tr0 K4.out hb)
  clear hb D4
  go_wp2_with fail
  refine (dadd_any (r := (5, 5, 6, 6)) D5.out (.inr ⟨by decide, by decide, by decide, by decide, by decide, by decide⟩) (edge_of (S := [0, 1]) (fun x y h => by
    have := edge_rect (0, 0, 1, 1) x y h
    rw [lA_has, lA_has]
    show (false || _) = (false || _)
    rw [this])) (by decide) (by decide) (by decide)).mono ?_
  rintro _ w6 ⟨rfl, hb, a, m, c, l', co, hd, l1, hw, hr, hp, hc⟩
  have e1 : l1 = lB := bands_one hw lB_wf fun x y => by rw [hp, lB_has]
  subst e1
  obtain ⟨rfl, hl⟩ : co = true ∧ ∀ x y, hasP l' x y = inQ (0, 0, 6, 6) x y := by
    rcases hc with ⟨h, _⟩ | ⟨_, h1, q, h2, h3⟩
    · exact absurd h (by decide)
    · obtain rfl := hl_one h2 lB_hull
      exact ⟨h1, h3⟩
  have D6 := Lib.hid hd
  have K6 : Hid (Below w.heap.size w w6) := Lib.hid (But.below K5.out hb (K5.out.size) (by simp))
  have HL := Lib.hid hl
  clear hb hd hw hr hp hc hl D5
  go_wp2_with fail
  refine (dcoarse_any D6.out).mono ?_
  rintro _ w7 ⟨rfl, hb⟩
  have D7 := Lib.hid (D6.out.later hb)
  have K7 := Lib.hid (bel_tr0 K6.out hb)
  clear hb D6
  go_wp2_with fail
  refine (dregion_any D7.out).mono ?_
  rintro _ w8 ⟨rfl, hrg, hb⟩
  have D8 := Lib.hid (D7.out.later hb)
  have I8 := Lib.hid (show IsR w8 _ (inQ (0, 0, 6, 6)) from ⟨_, hrg, HL.out⟩)
  have K8 := Lib.hid (bel_tr0 K7.out hb)
  clear hrg hb D7
  go_wp2_with fail
  refine (isr_hull I8.out (edge_rect _) (by decide) (hl_ok (.inr ⟨by decide, by decide, by decide, by decide, by decide, by decide⟩))).mono ?_
  rintro _ w9 ⟨rfl, hb⟩
  have D9 := Lib.hid (D8.out.later hb)
  have K9 := Lib.hid (bel_tr0 K8.out hb)
  unfold rv
  clear hb D8
  go_wp2_with fail
  refine (N3.out _).mono ?_
  rintro _ w10 ⟨rfl, hb⟩
  have D10 := Lib.hid (D9.out.later hb)
  have K10 := Lib.hid (bel_tr0 K9.out hb)
  clear hb D9
  go_wp2_with fail
  refine (dregion_any D10.out).mono ?_
  rintro _ w11 ⟨rfl, hrg, hb⟩
  have I11 := Lib.hid (show IsR w11 _ (inQ (0, 0, 6, 6)) from ⟨_, hrg, HL.out⟩)
  have K11 := Lib.hid (bel_tr0 K10.out hb)
  clear hrg hb D10
  have AR := isr_area I11.out (edge_rect _) (by decide)
  rw [size_ok (.inr ⟨by decide, by decide, by decide, by decide, by decide, by decide⟩)] at AR
  go_wp2_with fail
  refine AR.mono ?_
  rintro _ w12 ⟨rfl, hb⟩
  have K12 := Lib.hid (bel_tr0 K11.out hb)
  clear hb AR
  go_wp2_with fail
  go_returns
  exact ⟨rfl, K12.out⟩
end Go.Proofs.Ytfhepaiefdmlcaa
/- Law 8: what holds between what was added and what the damage has. -/
namespace Go.Proofs.Ytfhepaiefdmlcaa
open Go.RowKit Go.Proofs.Reg Go.Proofs.Big Go.Proofs.Bands
set_option linter.unusedVariables false
set_option linter.unusedSimpArgs false
set_option maxRecDepth 100000
structure HoI (n : Int) (la ld : List Bd) (co : Bool) (k : Nat) : Prop where
  sub : ∀ x y, hasP la x y = true → hasP ld x y = true
  cnt : ((rectsB ld).length : Int) ≤ n
  hull : ∃ q, Hl (hasP la) q ∧ Hl (hasP ld) q
  eq : co = false → ∀ x y, hasP ld x y = hasP la x y
  ea : ∃ S : List Int, S.length ≤ 2 * k ∧ EdgeIn (hasP la) S
  ed : ∃ S : List Int, S.length ≤ 2 * k + 2 ∧ EdgeIn (hasP ld) S
theorem HoI.start (n : Int) (h : 1 ≤ n) : HoI n [] [] false 0 :=
  ⟨fun _ _ z => z, by show (0 : Int) ≤ n; omega, ⟨(0, 0, 0, 0), hl_none, hl_none⟩, fun _ _ _ => rfl, ⟨[], by simp, edge_none⟩, ⟨[], by simp, edge_none⟩⟩
theorem inQ_zero (x y : Int) : inQ (0, 0, 0, 0) x y = false := decide_eq_false (by dsimp only; omega)
theorem hl_add {P : Int → Int → Bool} {q r : Q4} (h : Hl P q) (k : Ok4 r) : Hl (fun x y => orB (P x y) (inQ r x y)) (if r = (0, 0, 0, 0) then q else if q = (0, 0, 0, 0) then r else hulQ q r) := by
  rcases k with rfl | f
  · rw [if_pos rfl]
    exact hl_congr h fun x y => by rw [inQ_zero]; exact (Bool.or_false _).symm
  · rw [if_neg (fil_ne f)]
    exact hl_more h f
theorem one_count {l : List Bd} (hw : Wf l) {q : Q4} (k : Ok4 q) (h : ∀ x y, hasP l x y = inQ q x y) : (rectsB l).length ≤ 1 := by
  obtain ⟨a, b, c, d⟩ := q
  have rg : Rgt a b c d := rgt_ok4 k
  have e : l = oneB a b c d := bands_one hw (oneB_ok rg).1 fun x y => by rw [h, oneB_has rg]; rfl
  rw [e]
  unfold oneB
  split
  · simp [rectsB]
  · simp [rectsB, bandR, runs]
theorem HoI.step {n : Int} {la ld : List Bd} {co : Bool} {k : Nat} (h : HoI n la ld co k) (n0 : 1 ≤ n) {r : Q4} (kr : Ok4 r) {la' l1 ld' : List Bd} {co' : Bool} (wd : Wf ld') (ha : ∀ x y, hasP la' x y = orB (hasP la x y) (inQ r x y)) (h1 : ∀ x y, hasP l1 x y = orB (hasP ld x y) (inQ r x y))
    (hc : (((rectsB l1).length : Int) ≤ n ∧ ld' = l1 ∧ co' = co) ∨ (n < ((rectsB l1).length : Int) ∧ co' = true ∧ ∃ q, Hl (fun x y => orB (hasP ld x y) (inQ r x y)) q ∧ ∀ x y, hasP ld' x y = inQ q x y)) : HoI n la' ld' co' (k + 1) := by
  obtain ⟨q, hqa, hqd⟩ := h.hull
  have ga := hl_congr (hl_add hqa kr) fun x y => (ha x y).symm
  have gd := hl_add hqd kr
  obtain ⟨S, hS, eS⟩ := h.ea
  obtain ⟨T, hT, eT⟩ := h.ed
  have ea : ∃ S : List Int, S.length ≤ 2 * (k + 1) ∧ EdgeIn (hasP la') S := ⟨S ++ [r.1, r.2.2.1], by rw [List.length_append]; simp; omega, fun x y m => by
    have := edge_two orB eS (edge_rect r) x y m
    rw [ha, ha]; exact this⟩
  rcases hc with ⟨c1, rfl, rfl⟩ | ⟨c1, rfl, q', h2, h3⟩
  · refine ⟨fun x y z => ?_, c1, ⟨_, ga, hl_congr gd fun x y => (h1 x y).symm⟩, fun e x y => by rw [h1, ha, h.eq e], ea, ⟨T ++ [r.1, r.2.2.1], by rw [List.length_append]; simp; omega, fun x y m => by
      have := edge_two orB eT (edge_rect r) x y m
      rw [h1, h1]; exact this⟩⟩
    rw [ha] at z
    rw [h1]
    cases e : hasP la x y
    · rw [e] at z
      rw [show inQ r x y = true from by simpa [orB] using z]
      cases hasP ld x y <;> rfl
    · rw [h.sub x y e]; rfl
  · obtain rfl := hl_one h2 gd
    have ok := hl_ok4 gd
    refine ⟨fun x y z => ?_, by have := one_count wd ok h3; omega, ⟨_, ga, hl_congr (hl_ok ok) fun x y => (h3 x y).symm⟩, fun e => (by cases e), ea, ⟨[_, _], by simp only [List.length_cons, List.length_nil]; omega, fun x y m => by rw [h3, h3]; exact edge_rect _ x y m⟩⟩
    rw [h3]
    rcases ga with ⟨e, f⟩ | ⟨_, f, _⟩
    · rw [f] at z; cases z
    · exact f x y z
theorem Tab.but {w w' : World} {bs : List Nat} {l : List (Nat × List Value)} (h : Tab w l) (k : But bs w w') (hn : ∀ (j b : Nat) (vs : List Value), l[j]? = some (b, vs) → b ∉ bs) : Tab w' l := fun j b vs hj i v hi => by
  obtain ⟨c, z⟩ := h j b vs hj i v hi
  exact ⟨k.cell (hn j b vs hj) c, by rw [k.frozen (hn j b vs hj) (World.block_lt_of_cell? w _ c)]; exact z⟩
theorem DmS.setR {w : World} {b : Nat} {n : Int} {a : Option Addr} {m c : Nat} {l : List Bd} {co : Bool} (h : DmS w b n a m c l co) {b8 : Nat} {x : Option Addr} {y z : Nat} (hk : w.heap[b8]? = some (.cells #[.slice x y z] 26 (0, 0))) (hne : b ≠ b8) (u : Value) : DmS (w.setCell ⟨b8, 0, none⟩ u) b n a m c l co :=
  ⟨by rw [Below.heap_setCell _ _ _ _ hne]; exact h.hk, h.rg.setR hk (x := x) (y := y) (z := z) (by simp [World.cell?, hk]) u⟩
theorem isE_congr2 {f : FuncId} {args : Array Value} {P Q : Int → Int → Bool} {w : World} (h : Calls Try.prog f args w (IsE P w)) (e : ∀ x y, P x y = Q x y) : Calls Try.prog f args w (IsE Q w) := h.mono fun _ _ ⟨v, a, b, c⟩ => ⟨v, a, b.congr e, c⟩
theorem area_none2 : areaP (fun _ _ => false) = 0 := by
  have := area_bands [] trivial (fun d m => by simp at m)
  exact this
theorem bslice_rect2 (A B C D : Int) (w : World) : (Instr.buildSlice 62 1 #[(0, .agg #[.int .i64 A, .int .i64 B, .int .i64 C, .int .i64 D])]).run Try.prog w = .ok (.slice (some ⟨w.heap.size, 0, none⟩) 1 1) (w.alloc (.cells #[.int .i64 A, .int .i64 B, .int .i64 C, .int .i64 D] 40)) := by
  simp [go_sem]
theorem self_nrm {q : Q4} (k : Ok4 q) : Nrm (max q.1 q.1) (max q.2.1 q.2.1) (min q.2.2.1 q.2.2.1) (min q.2.2.2 q.2.2.2) q.1 q.2.1 q.2.2.1 q.2.2.2 := by
  rw [Int.max_self, Int.max_self, Int.min_self, Int.min_self]
  exact (rgt_ok4 k).nrm
theorem eq4_self2 (A B C D : Int) : eq4 A B C D A B C D = true := by simp [eq4]
end Go.Proofs.Ytfhepaiefdmlcaa
