/- Law 7: what it asks of speaking. Made by gen/spk7.py. -/
import Derived.Test.YtjemnjboopabpaaGst
import Derived.Test.YtjemnjboopabpaaLawRect0
import Derived.WalkKit
import Derived.WalkSpells
import Derived.WalkLawsBesides
import Derived.Handy
import Derived.Lib.Hide
import Derived.Deep.QuietTactic
import Derived.BigQuiet
import Derived.LoopTactic
import Derived.Deep.RegionHeld3
import Derived.Deep.RegionWith
import Derived.Outline
import Derived.Deep.DeepCutAuto
namespace Go.Proofs.Ytjemnjboopabpaa
open Go.RowKit Go.Proofs.Reg Go.Proofs.Big Go.Proofs.Bands
set_option linter.unusedVariables false
set_option linter.unusedSimpArgs false
set_option maxRecDepth 100000
theorem rs_one (w : World) (r : Q4) : RS (w.alloc (.cells #[.int .i64 r.1, .int .i64 r.2.1, .int .i64 r.2.2.1, .int .i64 r.2.2.2] 40)) (.slice (some ⟨w.heap.size, 0, none⟩) 1 1) [r] :=
  ⟨_, 1, 1, rfl, rfl, by omega, by decide, fun _ => ⟨w.heap.size, 0, rfl, fun k s h => by
    match k, h with
    | 0, h => simp at h; subst h; simp [go_sem]
    | k + 1, h => simp at h⟩⟩
theorem rs_two (w : World) (r s : Q4) : RS (w.alloc (.cells #[.int .i64 r.1, .int .i64 r.2.1, .int .i64 r.2.2.1, .int .i64 r.2.2.2, .int .i64 s.1, .int .i64 s.2.1, .int .i64 s.2.2.1, .int .i64 s.2.2.2] 40)) (.slice (some ⟨w.heap.size, 0, none⟩) 2 2) [r, s] :=
  ⟨_, 2, 2, rfl, rfl, by omega, by decide, fun _ => ⟨w.heap.size, 0, rfl, fun k t h => by
    match k, h with
    | 0, h => simp at h; subst h; simp [go_sem]
    | 1, h => simp at h; subst h; simp [go_sem]
    | k + 2, h => simp at h⟩⟩
theorem run_lenR {A : Act} {w : World} {p : Operand} {a : Option Addr} {n c : Nat} {ty : TypeId} {x : Option Tmp} {ps : String} {af : Array Edge} {gd : Option (Nat × Bool)} (e : A.eval p = .slice a n c) :
    (execOp A.eval ⟨x, .call ⟨.builtin .len, #[p], #[77]⟩, ty, ps, af, gd⟩).run Try.prog w = .ok (.value (.int .i64 n)) w := by
  simp only [execOp, resolve, List.map_toArray, List.map_cons, List.map_nil, e]
  simp [go_sem]
def l7 : List Bd := [⟨0, 2, [0, 4]⟩, ⟨2, 4, [0, 6]⟩, ⟨4, 6, [2, 6]⟩]
def P7 : Int → Int → Bool := anyQ [(0, 0, 4, 4), (2, 2, 6, 6)]
theorem l7_wf : Wf l7 := by
  refine ⟨⟨by decide, by decide, by unfold Asc; decide, by decide⟩, by decide, fun d h => ?_, ⟨by decide, by decide, by unfold Asc; decide, by decide⟩, by decide, fun d h => ?_, ⟨by decide, by decide, by unfold Asc; decide, by decide⟩, by decide, fun d h => ?_, trivial⟩
  · simp at h; subst h; exact .inr ⟨rfl, by decide⟩
  · simp at h; subst h; exact .inr ⟨rfl, by decide⟩
  · simp at h
theorem l7_has (x y : Int) : hasP l7 x y = P7 x y := by
  rw [← rects_in l7_wf]
  show anyQ [(0, 0, 4, 2), (0, 2, 6, 4), (2, 4, 6, 6)] x y = anyQ [(0, 0, 4, 4), (2, 2, 6, 6)] x y
  unfold anyQ inQ
  simp only [List.any_cons, List.any_nil, Bool.or_false, ← Bool.decide_or]
  exact decide_eq_decide.2 (by omega)
theorem l7_edge : EdgeIn P7 [0, 4, 2, 6] := fun x y h => by
  simp at h
  unfold P7 anyQ inQ
  simp only [List.any_cons, List.any_nil, Bool.or_false, ← Bool.decide_or]
  exact decide_eq_decide.2 (by omega)
theorem l7_area : areaP P7 = 28 := by
  rw [← areaP_congr l7_has, area_bands l7 l7_wf (by unfold InR l7; decide)]
  decide
theorem ok_fil {a b c d : Int} (h : -1073741824 ≤ a ∧ a < c ∧ c ≤ 1073741824 ∧ -1073741824 ≤ b ∧ b < d ∧ d ≤ 1073741824) : Ok4 (a, b, c, d) := .inr ⟨h.1, h.2.1, h.2.2.1, h.2.2.2.1, h.2.2.2.2.1, h.2.2.2.2.2⟩
set_option maxHeartbeats 4000000 in
theorem speaks7_any (w : World) : Calls Try.prog 6 #[] w fun e w' => e = .returned (.bool true) ∧ Below w.heap.size w w' := by
  have N1 := Lib.hid (xnew_any 0 0 4 4 0 0 4 4 (by decide) (by decide) (by decide) (by decide) (.inl (by decide)))
  have N2 := Lib.hid (xnew_any 2 2 6 6 2 2 6 6 (by decide) (by decide) (by decide) (by decide) (.inl (by decide)))
  have N3 := Lib.hid (xnew_any 0 2 6 4 0 2 6 4 (by decide) (by decide) (by decide) (by decide) (.inl (by decide)))
  unfold rv at N1 N2 N3
  go_enter Try.func6, Try.ntmps6
  go_wp2_with fail
  refine (N1.out _).mono ?_
  rintro _ w1 ⟨rfl, hb⟩
  have K1 := Lib.hid hb
  clear hb
  go_wp2_with fail
  refine (N2.out _).mono ?_
  rintro _ w2 ⟨rfl, hb⟩
  have K2 := Lib.hid (bel_tr0 K1.out hb)
  clear hb
  go_wp2_with fail
  have RS2 := rs_two w2 (0, 0, 4, 4) (2, 2, 6, 6)
  refine (isr_of RS2 (fun r m => by simp at m; rcases m with rfl | rfl <;> exact ok_fil (by decide)) (by simp)).mono ?_
  rintro _ w3 ⟨va, rfl, hr, hb⟩
  have K3 := Lib.hid (bel_tr0 (K2.out.alloc K2.out.size _) hb)
  obtain ⟨a, n, c, rfl⟩ := hr.form
  have HR := Lib.hid (show IsR w3 _ P7 from hr)
  clear hb hr RS2
  have hs3 := K3.out.size
  go_wp2_with fail
  have RA : Hid (Rg w3 (.agg #[.slice a n c]) l7) := Lib.hid (by
    obtain ⟨l, r, p⟩ := HR.out
    rwa [bands_one r.2 l7_wf fun x y => by rw [p, l7_has]] at r)
  refine (rects_any _ l7 _ (RA.out.later (by go_grown)) (fun d m => by simp [l7] at m; rcases m with rfl | rfl | rfl <;> decide)).mono ?_
  rintro _ w4 ⟨v2, rfl, hrs, _, hb⟩
  obtain ⟨p2, n2, c2, rfl, hn2, nb2, hc2⟩ := hrs.cells
  obtain rfl : n2 = 3 := hn2
  obtain ⟨g, o, rfl, hcl⟩ := hc2 (by decide)
  obtain ⟨x0, x1, x2, x3⟩ := hcl 1 (0, 2, 6, 4) rfl
  rw [Nat.one_mul] at x0 x1 x2 x3
  dsimp only at x0 x1 x2 x3
  have K4 := Lib.hid (bel_tr0 (K3.out.alloc hs3 _) hb)
  have KT := Lib.hid (((Tab.nil w3).new [.slice a n c] 26).later hb)
  have IS : Hid (∀ wy, Below w4.heap.size w4 wy → IsR wy (.agg #[.slice a n c]) P7) := Lib.hid (fun wy h => (HR.out.later (bel_tr0 (by go_grown) hb)).later h)
  have HL : Hid (∀ wy, Below w4.heap.size w4 wy → wy.cell? ⟨g, o + 4, none⟩ = some (.int .i64 0) ∧ wy.cell? ⟨g, o + 4 + 1, none⟩ = some (.int .i64 2) ∧ wy.cell? ⟨g, o + 4 + 2, none⟩ = some (.int .i64 6) ∧ wy.cell? ⟨g, o + 4 + 3, none⟩ = some (.int .i64 4)) := Lib.hid (fun wy h => ⟨cell_later h x0, cell_later h x1, cell_later h x2, cell_later h x3⟩)
  have HA : Hid (∀ wy, Below w4.heap.size w4 wy → Calls Try.prog 36 #[.agg #[.slice a n c]] wy fun e w' => e = .returned (.int .i64 28) ∧ Below wy.heap.size wy w') := Lib.hid (fun wy h => by
    have := isr_area (IS.out wy h) l7_edge (by decide)
    rwa [l7_area] at this)
  have H1 : Hid (∀ wy, Below w4.heap.size w4 wy → Calls Try.prog 17 #[.agg #[.slice a n c], .int .i64 5, .int .i64 5] wy fun e w' => e = .returned (.bool true) ∧ Below wy.heap.size wy w') := Lib.hid (fun wy h => by
    have := isr_has (IS.out wy h) 5 5
    rwa [show P7 5 5 = true by decide] at this)
  have H2 : Hid (∀ wy, Below w4.heap.size w4 wy → Calls Try.prog 17 #[.agg #[.slice a n c], .int .i64 5, .int .i64 1] wy fun e w' => e = .returned (.bool false) ∧ Below wy.heap.size wy w') := Lib.hid (fun wy h => by
    have := isr_has (IS.out wy h) 5 1
    rwa [show P7 5 1 = false by decide] at this)
  have OF : Hid (∀ wy, Calls Try.prog 9 #[.slice none 0 0] wy (IsE (fun _ _ => false) wy)) := Lib.hid (fun wy => isr_of (rs := []) ⟨none, 0, 0, rfl, rfl, by omega, by decide, fun h => by omega⟩ (fun r m => by simp at m) (by simp))
  have S1 : Hid (∀ wy v, Below w4.heap.size w4 wy → IsR wy v (fun _ _ => false) → Calls Try.prog 37 #[.agg #[.slice a n c], v] wy fun e w' => e = .returned (.bool false) ∧ Below wy.heap.size wy w') := Lib.hid (fun wy v h k => isr_same (IS.out wy h) k false ⟨fun h => (by cases h), fun h => (by have := h 1 1; rw [show P7 1 1 = true by decide] at this; cases this)⟩)
  have S2 : Hid (∀ wy v u, IsR wy v (fun x y => minusB (P7 x y) (P7 x y)) → IsR wy u (fun _ _ => false) → Calls Try.prog 37 #[v, u] wy fun e w' => e = .returned (.bool true) ∧ Below wy.heap.size wy w') := Lib.hid (fun wy v u h k => isr_same h k true ⟨fun _ x y => by show minusB (P7 x y) (P7 x y) = false; cases P7 x y <;> rfl, fun _ => rfl⟩)
  have ix : ∀ wy : World, (Instr.indexAt 77 (.slice (some ⟨g, o, none⟩) 3 c2) (.int .i64 1)).run Try.prog wy = .ok (.pointer (some ⟨g, o + 4, none⟩)) wy := fun wy => by
    simp [go_sem, Addr.add]
  have hs4 := K4.out.size
  clear hb hrs hcl hc2 x0 x1 x2 x3 RA nb2
  go_wp2_with fail
  have KB := Lib.hid (Below.refl w4.heap.size w4)
  refine wp_region_vals [some (.slice (some ⟨g, o, none⟩) 3 c2), some (.int .i64 3), some (.bool true), some (.bool true), some (.slice (some ⟨g, o, none⟩) 3 c2), some (.pointer (some ⟨g, o + 4, none⟩)), some (.agg #[.int .i64 0, .int .i64 2, .int .i64 6, .int .i64 4]), some (.agg #[.int .i64 0, .int .i64 2, .int .i64 6, .int .i64 4]), some (.bool true), some (.bool true), some (.bool true), some (.agg #[.slice a n c]), some (.int .i64 28), some (.bool true), some (.bool true), some (.bool true), some (.agg #[.slice a n c]), some (.bool true), some (.bool true), some (.bool true), some (.agg #[.slice a n c]), some (.bool false), some (.bool true), some (.bool true), some (.bool true), some (.agg #[.slice a n c]), none, some (.bool false), some (.bool true), some (.bool true), some (.bool true), some (.agg #[.slice a n c]), some (.agg #[.slice a n c]), none, none, some (.bool true), some (.bool true), some (.bool true)] (fun Lz vz wy => Below w4.heap.size w4 wy ∧ Tab wy [(w3.heap.size, [.slice a n c])] ∧ Rgs [26, 33, 34] (fun i => if i = 26 then fun _ _ => false else if i = 33 then fun x y => minusB (P7 x y) (P7 x y) else if i = 34 then fun _ _ => false else fun _ _ => false) Lz vz wy)
    [some 9, some 10, some 11, some 12, some 13, some 14, some 15, some 16, some 17, some 18, some 19, some 20, some 21, some 22, some 23, some 24, some 25, some 26, some 27, some 28, some 29, some 30, some 31, some 32, some 33, some 34, some 35, some 36, some 37, some 38, some 39, some 40, some 41, some 42, some 43, some 44, some 45, some 0] (by kernel_rfl) (by kernel_rfl) (by kernel_rfl) (by kernel_rfl) (by kernel_rfl) (by kernel_rfl) ⟨KB.out.drew, KT.out.later ((Below.refl _ _).drew), Rgs.start _ _ _ _⟩ (fun i o ho => ?_) (fun Lz vz wz hL hB => ?_)
  · match i, ho with
    | 0, ho =>
      obtain rfl := Option.some.inj ho
      intro Az Lz vz wy Kz Ez hB k
      have e2 : Az.eval (.tmp 2) = .slice (some ⟨g, o, none⟩) 3 c2 := Ez.out 2 (by kernel_rfl)
      exact wpo_val (v := .slice (some ⟨g, o, none⟩) 3 c2) (run_move e2) (k _ _ rfl ⟨hB.1, hB.2.1, hB.2.2.other 0 _ (by decide)⟩)
    | 1, ho =>
      obtain rfl := Option.some.inj ho
      intro Az Lz vz wy Kz Ez hB k
      have e9 : Az.eval (.tmp 9) = .slice (some ⟨g, o, none⟩) 3 c2 := Ez.dep 0 9 (by kernel_rfl) rfl
      exact wpo_val (v := .int .i64 3) (run_lenR e9) (k _ _ rfl ⟨hB.1, hB.2.1, hB.2.2.other 1 _ (by decide)⟩)
    | 2, ho =>
      obtain rfl := Option.some.inj ho
      intro Az Lz vz wy Kz Ez hB k
      have e10 : Az.eval (.tmp 10) = .int .i64 3 := Ez.dep 1 10 (by kernel_rfl) rfl
      exact wpo_val (v := .bool true) (run_bin e10 rfl (by simp [go_sem]) (by simp [go_sem])) (k _ _ rfl ⟨hB.1, hB.2.1, hB.2.2.other 2 _ (by decide)⟩)
    | 3, ho =>
      obtain rfl := Option.some.inj ho
      intro Az Lz vz wy Kz Ez hB k
      have e11 : Az.eval (.tmp 11) = .bool true := Ez.dep 2 11 (by kernel_rfl) rfl
      exact wpo_val (v := .bool true) (run_move e11) (k _ _ rfl ⟨hB.1, hB.2.1, hB.2.2.other 3 _ (by decide)⟩)
    | 4, ho =>
      obtain rfl := Option.some.inj ho
      intro Az Lz vz wy Kz Ez hB k
      have e2 : Az.eval (.tmp 2) = .slice (some ⟨g, o, none⟩) 3 c2 := Ez.out 2 (by kernel_rfl)
      exact wpo_val (v := .slice (some ⟨g, o, none⟩) 3 c2) (run_move e2) (k _ _ rfl ⟨hB.1, hB.2.1, hB.2.2.other 4 _ (by decide)⟩)
    | 5, ho =>
      obtain rfl := Option.some.inj ho
      intro Az Lz vz wy Kz Ez hB k
      have e13 : Az.eval (.tmp 13) = .slice (some ⟨g, o, none⟩) 3 c2 := Ez.dep 4 13 (by kernel_rfl) rfl
      exact wpo_val (v := .pointer (some ⟨g, o + 4, none⟩)) (run_index e13 rfl (ix wy)) (k _ _ rfl ⟨hB.1, hB.2.1, hB.2.2.other 5 _ (by decide)⟩)
    | 6, ho =>
      obtain rfl := Option.some.inj ho
      intro Az Lz vz wy Kz Ez hB k
      have e14 : Az.eval (.tmp 14) = .pointer (some ⟨g, o + 4, none⟩) := Ez.dep 5 14 (by kernel_rfl) rfl
      exact wpo_val (v := .agg #[.int .i64 0, .int .i64 2, .int .i64 6, .int .i64 4]) (run_load e14 (by have hh := HL.out wy hB.1; simp [go_sem, hh.1, hh.2.1, hh.2.2.1, hh.2.2.2])) (k _ _ rfl ⟨hB.1, hB.2.1, hB.2.2.other 6 _ (by decide)⟩)
    | 7, ho =>
      obtain rfl := Option.some.inj ho
      intro Az Lz vz wy Kz Ez hB k
      refine wpo_call (run_callW (fun _ _ => by kernel_rfl)) (R := fun ez w' => ez = .returned (.agg #[.int .i64 0, .int .i64 2, .int .i64 6, .int .i64 4]) ∧ Below wy.heap.size wy w') ?_ ?_
      · simp only [List.map_toArray, List.map_cons, List.map_nil, eval_const]
        exact N3.out wy
      · rintro ez w' ⟨rfl, hb⟩
        exact ⟨_, rfl, k _ _ rfl ⟨bel_tr0 hB.1 hb, hB.2.1.later hb, (hB.2.2.later hb).other 7 _ (by decide)⟩⟩
    | 8, ho =>
      obtain rfl := Option.some.inj ho
      intro Az Lz vz wy Kz Ez hB k
      have e15 : Az.eval (.tmp 15) = .agg #[.int .i64 0, .int .i64 2, .int .i64 6, .int .i64 4] := Ez.dep 6 15 (by kernel_rfl) rfl
      have e16 : Az.eval (.tmp 16) = .agg #[.int .i64 0, .int .i64 2, .int .i64 6, .int .i64 4] := Ez.dep 7 16 (by kernel_rfl) rfl
      exact wpo_val (v := .bool true) (run_bin e15 e16 (by simp [go_sem]) (by simp [go_sem])) (k _ _ rfl ⟨hB.1, hB.2.1, hB.2.2.other 8 _ (by decide)⟩)
    | 9, ho =>
      obtain rfl := Option.some.inj ho
      intro Az Lz vz wy Kz Ez hB k
      have e12 : Az.eval (.tmp 12) = .bool true := Ez.dep 3 12 (by kernel_rfl) rfl
      have e17 : Az.eval (.tmp 17) = .bool true := Ez.dep 8 17 (by kernel_rfl) rfl
      exact wpo_val (v := .bool true) (run_pickT e12 e17) (k _ _ rfl ⟨hB.1, hB.2.1, hB.2.2.other 9 _ (by decide)⟩)
    | 10, ho =>
      obtain rfl := Option.some.inj ho
      intro Az Lz vz wy Kz Ez hB k
      have e18 : Az.eval (.tmp 18) = .bool true := Ez.dep 9 18 (by kernel_rfl) rfl
      exact wpo_val (v := .bool true) (run_move e18) (k _ _ rfl ⟨hB.1, hB.2.1, hB.2.2.other 10 _ (by decide)⟩)
    | 11, ho =>
      obtain rfl := Option.some.inj ho
      intro Az Lz vz wy Kz Ez hB k
      have e1 : Az.eval (.tmp 1) = .pointer (some ⟨w3.heap.size, 0, none⟩) := Ez.out 1 (by kernel_rfl)
      have c0_0 := hB.2.1.cell 0 0 rfl rfl
      exact wpo_val (v := .agg #[.slice a n c]) (run_load e1 (by simp [go_sem, c0_0])) (k _ _ rfl ⟨hB.1, hB.2.1, hB.2.2.other 11 _ (by decide)⟩)
    | 12, ho =>
      obtain rfl := Option.some.inj ho
      intro Az Lz vz wy Kz Ez hB k
      have e20 : Az.eval (.tmp 20) = .agg #[.slice a n c] := Ez.dep 11 20 (by kernel_rfl) rfl
      refine wpo_call (run_callW (fun _ _ => by kernel_rfl)) (R := fun ez w' => ez = .returned (.int .i64 28) ∧ Below wy.heap.size wy w') ?_ ?_
      · simp only [List.map_toArray, List.map_cons, List.map_nil, eval_const, e20]
        exact HA.out wy hB.1
      · rintro ez w' ⟨rfl, hb⟩
        exact ⟨_, rfl, k _ _ rfl ⟨bel_tr0 hB.1 hb, hB.2.1.later hb, (hB.2.2.later hb).other 12 _ (by decide)⟩⟩
    | 13, ho =>
      obtain rfl := Option.some.inj ho
      intro Az Lz vz wy Kz Ez hB k
      have e21 : Az.eval (.tmp 21) = .int .i64 28 := Ez.dep 12 21 (by kernel_rfl) rfl
      exact wpo_val (v := .bool true) (run_bin e21 rfl (by simp [go_sem]) (by simp [go_sem])) (k _ _ rfl ⟨hB.1, hB.2.1, hB.2.2.other 13 _ (by decide)⟩)
    | 14, ho =>
      obtain rfl := Option.some.inj ho
      intro Az Lz vz wy Kz Ez hB k
      have e19 : Az.eval (.tmp 19) = .bool true := Ez.dep 10 19 (by kernel_rfl) rfl
      have e22 : Az.eval (.tmp 22) = .bool true := Ez.dep 13 22 (by kernel_rfl) rfl
      exact wpo_val (v := .bool true) (run_pickT e19 e22) (k _ _ rfl ⟨hB.1, hB.2.1, hB.2.2.other 14 _ (by decide)⟩)
    | 15, ho =>
      obtain rfl := Option.some.inj ho
      intro Az Lz vz wy Kz Ez hB k
      have e23 : Az.eval (.tmp 23) = .bool true := Ez.dep 14 23 (by kernel_rfl) rfl
      exact wpo_val (v := .bool true) (run_move e23) (k _ _ rfl ⟨hB.1, hB.2.1, hB.2.2.other 15 _ (by decide)⟩)
    | 16, ho =>
      obtain rfl := Option.some.inj ho
      intro Az Lz vz wy Kz Ez hB k
      have e1 : Az.eval (.tmp 1) = .pointer (some ⟨w3.heap.size, 0, none⟩) := Ez.out 1 (by kernel_rfl)
      have c0_0 := hB.2.1.cell 0 0 rfl rfl
      exact wpo_val (v := .agg #[.slice a n c]) (run_load e1 (by simp [go_sem, c0_0])) (k _ _ rfl ⟨hB.1, hB.2.1, hB.2.2.other 16 _ (by decide)⟩)
    | 17, ho =>
      obtain rfl := Option.some.inj ho
      intro Az Lz vz wy Kz Ez hB k
      have e25 : Az.eval (.tmp 25) = .agg #[.slice a n c] := Ez.dep 16 25 (by kernel_rfl) rfl
      refine wpo_call (run_callW (fun _ _ => by kernel_rfl)) (R := fun ez w' => ez = .returned (.bool true) ∧ Below wy.heap.size wy w') ?_ ?_
      · simp only [List.map_toArray, List.map_cons, List.map_nil, eval_const, e25]
        exact H1.out wy hB.1
      · rintro ez w' ⟨rfl, hb⟩
        exact ⟨_, rfl, k _ _ rfl ⟨bel_tr0 hB.1 hb, hB.2.1.later hb, (hB.2.2.later hb).other 17 _ (by decide)⟩⟩
    | 18, ho =>
      obtain rfl := Option.some.inj ho
      intro Az Lz vz wy Kz Ez hB k
      have e24 : Az.eval (.tmp 24) = .bool true := Ez.dep 15 24 (by kernel_rfl) rfl
      have e26 : Az.eval (.tmp 26) = .bool true := Ez.dep 17 26 (by kernel_rfl) rfl
      exact wpo_val (v := .bool true) (run_pickT e24 e26) (k _ _ rfl ⟨hB.1, hB.2.1, hB.2.2.other 18 _ (by decide)⟩)
    | 19, ho =>
      obtain rfl := Option.some.inj ho
      intro Az Lz vz wy Kz Ez hB k
      have e27 : Az.eval (.tmp 27) = .bool true := Ez.dep 18 27 (by kernel_rfl) rfl
      exact wpo_val (v := .bool true) (run_move e27) (k _ _ rfl ⟨hB.1, hB.2.1, hB.2.2.other 19 _ (by decide)⟩)
    | 20, ho =>
      obtain rfl := Option.some.inj ho
      intro Az Lz vz wy Kz Ez hB k
      have e1 : Az.eval (.tmp 1) = .pointer (some ⟨w3.heap.size, 0, none⟩) := Ez.out 1 (by kernel_rfl)
      have c0_0 := hB.2.1.cell 0 0 rfl rfl
      exact wpo_val (v := .agg #[.slice a n c]) (run_load e1 (by simp [go_sem, c0_0])) (k _ _ rfl ⟨hB.1, hB.2.1, hB.2.2.other 20 _ (by decide)⟩)
    | 21, ho =>
      obtain rfl := Option.some.inj ho
      intro Az Lz vz wy Kz Ez hB k
      have e29 : Az.eval (.tmp 29) = .agg #[.slice a n c] := Ez.dep 20 29 (by kernel_rfl) rfl
      refine wpo_call (run_callW (fun _ _ => by kernel_rfl)) (R := fun ez w' => ez = .returned (.bool false) ∧ Below wy.heap.size wy w') ?_ ?_
      · simp only [List.map_toArray, List.map_cons, List.map_nil, eval_const, e29]
        exact H2.out wy hB.1
      · rintro ez w' ⟨rfl, hb⟩
        exact ⟨_, rfl, k _ _ rfl ⟨bel_tr0 hB.1 hb, hB.2.1.later hb, (hB.2.2.later hb).other 21 _ (by decide)⟩⟩
    | 22, ho =>
      obtain rfl := Option.some.inj ho
      intro Az Lz vz wy Kz Ez hB k
      have e30 : Az.eval (.tmp 30) = .bool false := Ez.dep 21 30 (by kernel_rfl) rfl
      exact wpo_val (v := .bool true) (run_un e30 (by simp [go_sem])) (k _ _ rfl ⟨hB.1, hB.2.1, hB.2.2.other 22 _ (by decide)⟩)
    | 23, ho =>
      obtain rfl := Option.some.inj ho
      intro Az Lz vz wy Kz Ez hB k
      have e28 : Az.eval (.tmp 28) = .bool true := Ez.dep 19 28 (by kernel_rfl) rfl
      have e31 : Az.eval (.tmp 31) = .bool true := Ez.dep 22 31 (by kernel_rfl) rfl
      exact wpo_val (v := .bool true) (run_pickT e28 e31) (k _ _ rfl ⟨hB.1, hB.2.1, hB.2.2.other 23 _ (by decide)⟩)
    | 24, ho =>
      obtain rfl := Option.some.inj ho
      intro Az Lz vz wy Kz Ez hB k
      have e32 : Az.eval (.tmp 32) = .bool true := Ez.dep 23 32 (by kernel_rfl) rfl
      exact wpo_val (v := .bool true) (run_move e32) (k _ _ rfl ⟨hB.1, hB.2.1, hB.2.2.other 24 _ (by decide)⟩)
    | 25, ho =>
      obtain rfl := Option.some.inj ho
      intro Az Lz vz wy Kz Ez hB k
      have e1 : Az.eval (.tmp 1) = .pointer (some ⟨w3.heap.size, 0, none⟩) := Ez.out 1 (by kernel_rfl)
      have c0_0 := hB.2.1.cell 0 0 rfl rfl
      exact wpo_val (v := .agg #[.slice a n c]) (run_load e1 (by simp [go_sem, c0_0])) (k _ _ rfl ⟨hB.1, hB.2.1, hB.2.2.other 25 _ (by decide)⟩)
    | 26, ho =>
      obtain rfl := Option.some.inj ho
      intro Az Lz vz wy Kz Ez hB k
      refine wpo_call (run_callW (fun _ _ => by kernel_rfl)) (R := IsE (fun _ _ => false) wy) ?_ ?_
      · simp only [List.map_toArray, List.map_cons, List.map_nil, eval_const]
        exact OF.out wy
      · rintro ez w' ⟨vr, rfl, hr, hb⟩
        exact ⟨_, rfl, k _ _ trivial ⟨bel_tr0 hB.1 hb, hB.2.1.later hb, (hB.2.2.later hb).add 26 _ hr⟩⟩
    | 27, ho =>
      obtain rfl := Option.some.inj ho
      intro Az Lz vz wy Kz Ez hB k
      have e34 : Az.eval (.tmp 34) = .agg #[.slice a n c] := Ez.dep 25 34 (by kernel_rfl) rfl
      have e35 : Az.eval (.tmp 35) = vz 26 := Ez.dep 26 35 (by kernel_rfl) rfl
      refine wpo_call (run_callW (fun _ _ => by kernel_rfl)) (R := fun ez w' => ez = .returned (.bool false) ∧ Below wy.heap.size wy w') ?_ ?_
      · simp only [List.map_toArray, List.map_cons, List.map_nil, eval_const, e34, e35]
        exact S1.out wy _ hB.1 (hB.2.2 26 (by decide) (Ez.had 26 (by kernel_rfl)))
      · rintro ez w' ⟨rfl, hb⟩
        exact ⟨_, rfl, k _ _ rfl ⟨bel_tr0 hB.1 hb, hB.2.1.later hb, (hB.2.2.later hb).other 27 _ (by decide)⟩⟩
    | 28, ho =>
      obtain rfl := Option.some.inj ho
      intro Az Lz vz wy Kz Ez hB k
      have e36 : Az.eval (.tmp 36) = .bool false := Ez.dep 27 36 (by kernel_rfl) rfl
      exact wpo_val (v := .bool true) (run_un e36 (by simp [go_sem])) (k _ _ rfl ⟨hB.1, hB.2.1, hB.2.2.other 28 _ (by decide)⟩)
    | 29, ho =>
      obtain rfl := Option.some.inj ho
      intro Az Lz vz wy Kz Ez hB k
      have e33 : Az.eval (.tmp 33) = .bool true := Ez.dep 24 33 (by kernel_rfl) rfl
      have e37 : Az.eval (.tmp 37) = .bool true := Ez.dep 28 37 (by kernel_rfl) rfl
      exact wpo_val (v := .bool true) (run_pickT e33 e37) (k _ _ rfl ⟨hB.1, hB.2.1, hB.2.2.other 29 _ (by decide)⟩)
    | 30, ho =>
      obtain rfl := Option.some.inj ho
      intro Az Lz vz wy Kz Ez hB k
      have e38 : Az.eval (.tmp 38) = .bool true := Ez.dep 29 38 (by kernel_rfl) rfl
      exact wpo_val (v := .bool true) (run_move e38) (k _ _ rfl ⟨hB.1, hB.2.1, hB.2.2.other 30 _ (by decide)⟩)
    | 31, ho =>
      obtain rfl := Option.some.inj ho
      intro Az Lz vz wy Kz Ez hB k
      have e1 : Az.eval (.tmp 1) = .pointer (some ⟨w3.heap.size, 0, none⟩) := Ez.out 1 (by kernel_rfl)
      have c0_0 := hB.2.1.cell 0 0 rfl rfl
      exact wpo_val (v := .agg #[.slice a n c]) (run_load e1 (by simp [go_sem, c0_0])) (k _ _ rfl ⟨hB.1, hB.2.1, hB.2.2.other 31 _ (by decide)⟩)
    | 32, ho =>
      obtain rfl := Option.some.inj ho
      intro Az Lz vz wy Kz Ez hB k
      have e1 : Az.eval (.tmp 1) = .pointer (some ⟨w3.heap.size, 0, none⟩) := Ez.out 1 (by kernel_rfl)
      have c0_0 := hB.2.1.cell 0 0 rfl rfl
      exact wpo_val (v := .agg #[.slice a n c]) (run_load e1 (by simp [go_sem, c0_0])) (k _ _ rfl ⟨hB.1, hB.2.1, hB.2.2.other 32 _ (by decide)⟩)
    | 33, ho =>
      obtain rfl := Option.some.inj ho
      intro Az Lz vz wy Kz Ez hB k
      have e40 : Az.eval (.tmp 40) = .agg #[.slice a n c] := Ez.dep 31 40 (by kernel_rfl) rfl
      have e41 : Az.eval (.tmp 41) = .agg #[.slice a n c] := Ez.dep 32 41 (by kernel_rfl) rfl
      refine wpo_call (run_callW (fun _ _ => by kernel_rfl)) (R := IsE (fun x y => minusB (P7 x y) (P7 x y)) wy) ?_ ?_
      · simp only [List.map_toArray, List.map_cons, List.map_nil, eval_const, e40, e41]
        exact isr_minus (IS.out wy hB.1) (IS.out wy hB.1)
      · rintro ez w' ⟨vr, rfl, hr, hb⟩
        exact ⟨_, rfl, k _ _ trivial ⟨bel_tr0 hB.1 hb, hB.2.1.later hb, (hB.2.2.later hb).add 33 _ hr⟩⟩
    | 34, ho =>
      obtain rfl := Option.some.inj ho
      intro Az Lz vz wy Kz Ez hB k
      refine wpo_call (run_callW (fun _ _ => by kernel_rfl)) (R := IsE (fun _ _ => false) wy) ?_ ?_
      · simp only [List.map_toArray, List.map_cons, List.map_nil, eval_const]
        exact OF.out wy
      · rintro ez w' ⟨vr, rfl, hr, hb⟩
        exact ⟨_, rfl, k _ _ trivial ⟨bel_tr0 hB.1 hb, hB.2.1.later hb, (hB.2.2.later hb).add 34 _ hr⟩⟩
    | 35, ho =>
      obtain rfl := Option.some.inj ho
      intro Az Lz vz wy Kz Ez hB k
      have e42 : Az.eval (.tmp 42) = vz 33 := Ez.dep 33 42 (by kernel_rfl) rfl
      have e43 : Az.eval (.tmp 43) = vz 34 := Ez.dep 34 43 (by kernel_rfl) rfl
      refine wpo_call (run_callW (fun _ _ => by kernel_rfl)) (R := fun ez w' => ez = .returned (.bool true) ∧ Below wy.heap.size wy w') ?_ ?_
      · simp only [List.map_toArray, List.map_cons, List.map_nil, eval_const, e42, e43]
        exact S2.out wy _ _ (hB.2.2 33 (by decide) (Ez.had 33 (by kernel_rfl))) (hB.2.2 34 (by decide) (Ez.had 34 (by kernel_rfl)))
      · rintro ez w' ⟨rfl, hb⟩
        exact ⟨_, rfl, k _ _ rfl ⟨bel_tr0 hB.1 hb, hB.2.1.later hb, (hB.2.2.later hb).other 35 _ (by decide)⟩⟩
    | 36, ho =>
      obtain rfl := Option.some.inj ho
      intro Az Lz vz wy Kz Ez hB k
      have e39 : Az.eval (.tmp 39) = .bool true := Ez.dep 30 39 (by kernel_rfl) rfl
      have e44 : Az.eval (.tmp 44) = .bool true := Ez.dep 35 44 (by kernel_rfl) rfl
      exact wpo_val (v := .bool true) (run_pickT e39 e44) (k _ _ rfl ⟨hB.1, hB.2.1, hB.2.2.other 36 _ (by decide)⟩)
    | 37, ho =>
      obtain rfl := Option.some.inj ho
      intro Az Lz vz wy Kz Ez hB k
      have e45 : Az.eval (.tmp 45) = .bool true := Ez.dep 36 45 (by kernel_rfl) rfl
      exact wpo_val (v := .bool true) (run_assign e45) (k _ _ rfl ⟨hB.1, hB.2.1, hB.2.2.other 37 _ (by decide)⟩)
    | n + 38, ho => simp at ho
  · obtain ⟨hk, hT, hR⟩ := hB
    have KB := Lib.hid hk
    have KT := Lib.hid hT
    clear hk hT hL
    simp only [puts2, mix, Act.put, List.setIfInBounds_toArray, List.set_cons_zero, List.set_cons_succ, Nat.zero_add, Nat.reduceAdd, List.getElem?_cons_zero, List.getElem?_cons_succ]
    go_wp2_with fail
    go_returns
    exact ⟨rfl, bel_tr0 K4.out KB.out⟩
end Go.Proofs.Ytjemnjboopabpaa

