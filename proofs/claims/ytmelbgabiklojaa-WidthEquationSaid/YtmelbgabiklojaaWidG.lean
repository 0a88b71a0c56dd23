/- Law 15: WidthEquation. Made by gen/widg.py. -/
import Derived.Test.YtmelbgabiklojaaWidF
import Derived.Deep.DeepCutAuto
import Derived.Deep.CutBlock
import Derived.WalkKit
import Derived.WalkSpells
import Derived.WalkLawsBesides
import Derived.Handy
import Derived.Lib.Hide
import Derived.Deep.QuietTactic
import Derived.BigQuiet
import Derived.LoopTactic
import Derived.Outline
namespace Go.Proofs.Ytmelbgabiklojaa
open Go.RowKit Go.Proofs.Reg Go.Proofs.Big Wid
set_option linter.unusedVariables false
set_option linter.unusedSimpArgs false
set_option maxRecDepth 100000
theorem once_rng {A W L R E : Int} {a al ar : Bool} (hA : Cu A) (hW : Cu W) (hL : Cu L) (hR : Cu R) (hE : Cu E) : let o := onceT A W L R E a al ar; (-17592186044416 < o.1 ∧ o.1 < 17592186044416) ∧ (-17592186044416 < o.2.1 ∧ o.2.1 < 17592186044416) ∧ (-17592186044416 < o.2.2 ∧ o.2.2 < 17592186044416) := by
  intro o
  obtain ⟨A0, A1⟩ := hA; obtain ⟨W0, W1⟩ := @tz_cu W a hW; obtain ⟨L0, L1⟩ := @tz_cu L al hL; obtain ⟨R0, R1⟩ := @tz_cu R ar hR; obtain ⟨E0, E1⟩ := hE
  show (-17592186044416 < wW _ _ a ∧ wW _ _ a < 17592186044416) ∧ (-17592186044416 < lW _ _ a al ar ∧ lW _ _ a al ar < 17592186044416) ∧ (-17592186044416 < A - (lW _ _ a al ar + wW _ _ a + E) ∧ A - (lW _ _ a al ar + wW _ _ a + E) < 17592186044416)
  generalize tz W a = w at *
  generalize tz L al = l at *
  generalize tz R ar = r at *
  have hd : restW A w l r E = A - (l + w + E + r) := rfl
  rw [hd]
  have B : -5497558138880 < lW (A - (l + w + E + r)) l a al ar ∧ lW (A - (l + w + E + r)) l a al ar < 5497558138880 := by
    unfold lW; repeat' split
    all_goals omega
  have C : -5497558138880 < wW (A - (l + w + E + r)) w a ∧ wW (A - (l + w + E + r)) w a < 5497558138880 := by
    unfold wW; split <;> omega
  omega
theorem cu_max {x : Int} (h : Cu x) : Cu (max x 0) := by
  obtain ⟨h0, h1⟩ := h
  exact ⟨by omega, by omega⟩
theorem once_all (A W L R E Lo Hi : Int) (a al ar bd : Bool) (hA : Cu A) (hW : Cu W) (hL : Cu L) (hR : Cu R) (hE : Cu E) (h0 : Cu Lo) (h1 : Cu Hi) : let o := solveT A W L R E Lo Hi a al ar bd; (-17592186044416 < o.1 ∧ o.1 < 17592186044416) ∧ (-17592186044416 < o.2.1 ∧ o.2.1 < 17592186044416) ∧ (-17592186044416 < o.2.2 ∧ o.2.2 < 17592186044416) := by
  intro o
  show (-17592186044416 < (solveT A W L R E Lo Hi a al ar bd).1 ∧ (solveT A W L R E Lo Hi a al ar bd).1 < 17592186044416) ∧ (-17592186044416 < (solveT A W L R E Lo Hi a al ar bd).2.1 ∧ (solveT A W L R E Lo Hi a al ar bd).2.1 < 17592186044416) ∧ (-17592186044416 < (solveT A W L R E Lo Hi a al ar bd).2.2 ∧ (solveT A W L R E Lo Hi a al ar bd).2.2 < 17592186044416)
  unfold solveT
  dsimp only
  by_cases c : bd = true ∧ Hi < (onceT A W L R E a al ar).1
  · simp only [if_pos c]
    split
    · exact once_rng hA h0 hL hR hE
    · exact once_rng hA h1 hL hR hE
  · simp only [if_neg c]
    split
    · exact once_rng hA h0 hL hR hE
    · exact once_rng hA hW hL hR hE
/-- all that the law asks of a solution -/
structure EqF (A W L E Lo Hi : Int) (a al ar bd : Bool) (y0 y1 y2 : Int) : Prop where
  r0 : -17592186044416 < y0 ∧ y0 < 17592186044416
  r1 : -17592186044416 < y1 ∧ y1 < 17592186044416
  r2 : -17592186044416 < y2 ∧ y2 < 17592186044416
  s : y1 + y0 + E + y2 = A
  lo : ¬ y0 < Lo
  hi : bd = true → ¬ max Lo Hi < y0
  w : a = false → Lo ≤ W → (bd = true → W ≤ Hi) → y0 = W
  l : al = false → y1 = L
  t : al = true → ar = true → 0 ≤ A - y0 - E → (y1 ≤ y2 ∧ y2 ≤ y1 + 1) ∨ (a = true ∧ y1 = 0)
  n : al = true → A - y0 - E < 0 → y1 = 0 ∨ (ar = false ∧ 0 ≤ y1)
theorem eqF_of {A W L R E Lo Hi : Int} {a al ar bd : Bool} (hA : Cu A) (hW : Cu W) (hL : Cu L) (hR : Cu R) (hE : Cu E) (h0 : Cu Lo) (h1 : Cu Hi) {y0 y1 y2 : Int} (hy : solveT A W L R E Lo Hi a al ar bd = (y0, y1, y2)) : EqF A W L E Lo Hi a al ar bd y0 y1 y2 := by
  obtain ⟨V, b, hs, hb⟩ := solve_is A W L R E Lo Hi a al ar bd
  have hV : Cu V ∨ True := .inr trivial
  obtain ⟨w1, w2, w3⟩ := solve_w A W L R E Lo Hi a al ar bd
  rw [hy] at w1 w2 w3
  have RR : (-17592186044416 < y0 ∧ y0 < 17592186044416) ∧ (-17592186044416 < y1 ∧ y1 < 17592186044416) ∧ (-17592186044416 < y2 ∧ y2 < 17592186044416) := by
    have := once_all A W L R E Lo Hi a al ar bd hA hW hL hR hE h0 h1
    rw [hy] at this; exact this
  rw [hy] at hs
  have e0 : (onceT A V L R E b al ar).1 = y0 := by rw [← hs]
  have e1 : (onceT A V L R E b al ar).2.1 = y1 := by rw [← hs]
  have e2 : (onceT A V L R E b al ar).2.2 = y2 := by rw [← hs]
  refine ⟨RR.1, RR.2.1, RR.2.2, ?_, ?_, fun h => ?_, w3, fun h => ?_, fun h k m => ?_, fun h m => ?_⟩
  · have := once_eq A V L R E b al ar
    rw [e0, e1, e2] at this; exact this
  · dsimp only at w1; omega
  · have := w2 h; dsimp only at this; omega
  · subst h; rw [← e1]; exact once_l A V L R E b ar
  · subst h k
    have := once_two A V L R E b
    dsimp only at this
    rw [e0, e1, e2] at this
    rcases this m with q | ⟨q, r⟩
    · exact .inl q
    · exact .inr ⟨hb q, r⟩
  · subst h
    have := once_neg A V L R E b ar
    dsimp only at this
    rw [e0, e1] at this
    exact this m
set_option maxHeartbeats 16000000 in
theorem law_we_tt (A W L R E Lo Hi : Int) (ar bd : Bool) (hA : In64 A) (hW : In64 W) (hL : In64 L) (hR : In64 R) (hE : In64 E) (hLo : In64 Lo) (hHi : In64 Hi) (w : World) : Calls Try.prog 6 #[.agg #[.int .i64 A, .int .i64 W, .bool true, .int .i64 L, .int .i64 R, .bool true, .bool ar, .int .i64 E, .int .i64 Lo, .int .i64 Hi, .bool bd]] w fun e w' => e = .returned (.bool true) ∧ Below w.heap.size w w' := by
  have SP := Lib.hid speaks15_any
  have CU := Lib.hid (cut15_any A W L R E Lo Hi true true ar bd hA hW hL hR hE hLo hHi)
  obtain ⟨CA, qA⟩ : ∃ x, A.tmod 1099511627776 = x := ⟨_, rfl⟩
  have cA : Cu CA := by rw [← qA]; exact cu_of A
  rw [qA] at CU
  obtain ⟨CW, qW⟩ : ∃ x, W.tmod 1099511627776 = x := ⟨_, rfl⟩
  have cW : Cu CW := by rw [← qW]; exact cu_of W
  rw [qW] at CU
  obtain ⟨CL, qL⟩ : ∃ x, L.tmod 1099511627776 = x := ⟨_, rfl⟩
  have cL : Cu CL := by rw [← qL]; exact cu_of L
  rw [qL] at CU
  obtain ⟨CR, qR⟩ : ∃ x, R.tmod 1099511627776 = x := ⟨_, rfl⟩
  have cR : Cu CR := by rw [← qR]; exact cu_of R
  rw [qR] at CU
  obtain ⟨CE, qE⟩ : ∃ x, E.tmod 1099511627776 = x := ⟨_, rfl⟩
  have cE : Cu CE := by rw [← qE]; exact cu_of E
  rw [qE] at CU
  obtain ⟨CLo, qLo⟩ : ∃ x, Lo.tmod 1099511627776 = x := ⟨_, rfl⟩
  have cLo : Cu CLo := by rw [← qLo]; exact cu_of Lo
  rw [qLo] at CU
  obtain ⟨CHi, qHi⟩ : ∃ x, Hi.tmod 1099511627776 = x := ⟨_, rfl⟩
  have cHi : Cu CHi := by rw [← qHi]; exact cu_of Hi
  rw [qHi] at CU
  obtain ⟨E2, qE2⟩ : ∃ x, max CE 0 = x := ⟨_, rfl⟩
  obtain ⟨Lo2, qLo2⟩ : ∃ x, max CLo 0 = x := ⟨_, rfl⟩
  obtain ⟨Hi2, qHi2⟩ : ∃ x, max CHi 0 = x := ⟨_, rfl⟩
  obtain ⟨W2, qW2⟩ : ∃ x, CW = x := ⟨_, rfl⟩
  have cE2 : Cu E2 := by rw [← qE2]; exact cu_max cE
  have cLo2 : Cu Lo2 := by rw [← qLo2]; exact cu_max cLo
  have cHi2 : Cu Hi2 := by rw [← qHi2]; exact cu_max cHi
  have cW2 : Cu W2 := by rw [← qW2]; exact cW
  have SO := Lib.hid (solved15_any CA W2 CL CR E2 Lo2 Hi2 true true ar bd)
  rw [solve_cut cA cW2 cL cR cE2 cLo2 cHi2] at SO
  simp only [slV, slE] at SO
  obtain ⟨⟨y0, y1, y2⟩, hy⟩ : ∃ y, solveT CA W2 CL CR E2 Lo2 Hi2 true true ar bd = y := ⟨_, rfl⟩
  have HF := Lib.hid (eqF_of cA cW2 cL cR cE2 cLo2 cHi2 hy)
  rw [hy] at SO
  dsimp only at SO
  have RG := Lib.hid (show Cu CA ∧ Cu E2 from ⟨cA, cE2⟩)
  have HM := Lib.hid (show max CE 0 = E2 ∧ max CLo 0 = Lo2 ∧ max CHi 0 = Hi2 ∧ CW = W2 from ⟨qE2, qLo2, qHi2, qW2⟩)
  clear hA hW hL hR hE hLo hHi cA cW cL cR cE cLo cHi qA qW qL qR qE qLo qHi hy cE2 cLo2 cHi2 cW2 qE2 qLo2 qHi2 qW2
  go_enter Try.func6, Try.ntmps6
  go_wp2_with fail
  have KB : Hid (Below w.heap.size w (w.alloc (.cells #[.int .i64 A, .int .i64 W, .bool true, .int .i64 L, .int .i64 R, .bool true, .bool ar, .int .i64 E, .int .i64 Lo, .int .i64 Hi, .bool bd] 41))) := Lib.hid (bel_newR _ _)
  have KT : Hid (Tab (w.alloc (.cells #[.int .i64 A, .int .i64 W, .bool true, .int .i64 L, .int .i64 R, .bool true, .bool ar, .int .i64 E, .int .i64 Lo, .int .i64 Hi, .bool bd] 41)) [(w.heap.size, [.int .i64 A, .int .i64 W, .bool true, .int .i64 L, .int .i64 R, .bool true, .bool ar, .int .i64 E, .int .i64 Lo, .int .i64 Hi, .bool bd])]) := Lib.hid ((Tab.nil w).new' _ _ rfl)
  refine (SP.out _).mono ?_
  rintro e w1 ⟨rfl, hb⟩
  have KB := Lib.hid (bel_tr0 KB.out hb)
  have KT := Lib.hid (KT.out.later hb)
  clear hb
  have c0 := KT.out.cell 0 0 rfl rfl
  have c1 := KT.out.cell 0 1 rfl rfl
  have c2 := KT.out.cell 0 2 rfl rfl
  have c3 := KT.out.cell 0 3 rfl rfl
  have c4 := KT.out.cell 0 4 rfl rfl
  have c5 := KT.out.cell 0 5 rfl rfl
  have c6 := KT.out.cell 0 6 rfl rfl
  have c7 := KT.out.cell 0 7 rfl rfl
  have c8 := KT.out.cell 0 8 rfl rfl
  have c9 := KT.out.cell 0 9 rfl rfl
  have c10 := KT.out.cell 0 10 rfl rfl
  go_wp2_with fail
  refine (CU.out _).mono ?_
  rintro e w2 ⟨rfl, hb⟩
  have KB := Lib.hid (bel_tr0 KB.out hb)
  have KT := Lib.hid (KT.out.later hb)
  clear hb c0 c1 c2 c3 c4 c5 c6 c7 c8 c9 c10
  have c0 := KT.out.cell 0 0 rfl rfl
  have cf0 := KT.out.froz 0 0 rfl rfl
  have c1 := KT.out.cell 0 1 rfl rfl
  have cf1 := KT.out.froz 0 1 rfl rfl
  have c2 := KT.out.cell 0 2 rfl rfl
  have cf2 := KT.out.froz 0 2 rfl rfl
  have c3 := KT.out.cell 0 3 rfl rfl
  have cf3 := KT.out.froz 0 3 rfl rfl
  have c4 := KT.out.cell 0 4 rfl rfl
  have cf4 := KT.out.froz 0 4 rfl rfl
  have c5 := KT.out.cell 0 5 rfl rfl
  have cf5 := KT.out.froz 0 5 rfl rfl
  have c6 := KT.out.cell 0 6 rfl rfl
  have cf6 := KT.out.froz 0 6 rfl rfl
  have c7 := KT.out.cell 0 7 rfl rfl
  have cf7 := KT.out.froz 0 7 rfl rfl
  have c8 := KT.out.cell 0 8 rfl rfl
  have cf8 := KT.out.froz 0 8 rfl rfl
  have c9 := KT.out.cell 0 9 rfl rfl
  have cf9 := KT.out.froz 0 9 rfl rfl
  have c10 := KT.out.cell 0 10 rfl rfl
  have cf10 := KT.out.froz 0 10 rfl rfl
  obtain ⟨w3, hw⟩ : ∃ x, (((((((((((w2.setCell ⟨w.heap.size, 0, none⟩ (.int .i64 CA)).setCell ⟨w.heap.size, 1, none⟩ (.int .i64 CW)).setCell ⟨w.heap.size, 2, none⟩ (.bool true)).setCell ⟨w.heap.size, 3, none⟩ (.int .i64 CL)).setCell ⟨w.heap.size, 4, none⟩ (.int .i64 CR)).setCell ⟨w.heap.size, 5, none⟩ (.bool true)).setCell ⟨w.heap.size, 6, none⟩ (.bool ar)).setCell ⟨w.heap.size, 7, none⟩ (.int .i64 CE)).setCell ⟨w.heap.size, 8, none⟩ (.int .i64 CLo)).setCell ⟨w.heap.size, 9, none⟩ (.int .i64 CHi)).setCell ⟨w.heap.size, 10, none⟩ (.bool bd)) = x := ⟨_, rfl⟩
  have KTa : Hid (Tab w3 [(w.heap.size, [.int .i64 CA, .int .i64 CW, .bool true, .int .i64 CL, .int .i64 CR, .bool true, .bool ar, .int .i64 CE, .int .i64 CLo, .int .i64 CHi, .bool bd])]) := Lib.hid (by rw [← hw]; exact (((((((((((KT.out.set1 0 0 (.int .i64 CA) rfl (by simp)).set1 0 1 (.int .i64 CW) rfl (by simp)).set1 0 2 (.bool true) rfl (by simp)).set1 0 3 (.int .i64 CL) rfl (by simp)).set1 0 4 (.int .i64 CR) rfl (by simp)).set1 0 5 (.bool true) rfl (by simp)).set1 0 6 (.bool ar) rfl (by simp)).set1 0 7 (.int .i64 CE) rfl (by simp)).set1 0 8 (.int .i64 CLo) rfl (by simp)).set1 0 9 (.int .i64 CHi) rfl (by simp)).set1 0 10 (.bool bd) rfl (by simp)))
  have KB : Hid (Below w.heap.size w w3) := Lib.hid (by rw [← hw]; exact (((((((((((KB.out.setCell (Nat.le_refl _) _).setCell (Nat.le_refl _) _).setCell (Nat.le_refl _) _).setCell (Nat.le_refl _) _).setCell (Nat.le_refl _) _).setCell (Nat.le_refl _) _).setCell (Nat.le_refl _) _).setCell (Nat.le_refl _) _).setCell (Nat.le_refl _) _).setCell (Nat.le_refl _) _).setCell (Nat.le_refl _) _))
  go_upto_region 4 with fail
  clear hw c0 cf0 c1 cf1 c2 cf2 c3 cf3 c4 cf4 c5 cf5 c6 cf6 c7 cf7 c8 cf8 c9 cf9 c10 cf10
  have KT := KTa
  clear KTa
  obtain ⟨m1, m2, m3, m4⟩ := HM.out
  have c0 := KT.out.cell 0 0 rfl rfl
  have cf0 := KT.out.froz 0 0 rfl rfl
  have c1 := KT.out.cell 0 1 rfl rfl
  have cf1 := KT.out.froz 0 1 rfl rfl
  have c2 := KT.out.cell 0 2 rfl rfl
  have cf2 := KT.out.froz 0 2 rfl rfl
  have c3 := KT.out.cell 0 3 rfl rfl
  have cf3 := KT.out.froz 0 3 rfl rfl
  have c4 := KT.out.cell 0 4 rfl rfl
  have cf4 := KT.out.froz 0 4 rfl rfl
  have c5 := KT.out.cell 0 5 rfl rfl
  have cf5 := KT.out.froz 0 5 rfl rfl
  have c6 := KT.out.cell 0 6 rfl rfl
  have cf6 := KT.out.froz 0 6 rfl rfl
  have c7 := KT.out.cell 0 7 rfl rfl
  have cf7 := KT.out.froz 0 7 rfl rfl
  have c8 := KT.out.cell 0 8 rfl rfl
  have cf8 := KT.out.froz 0 8 rfl rfl
  have c9 := KT.out.cell 0 9 rfl rfl
  have cf9 := KT.out.froz 0 9 rfl rfl
  have c10 := KT.out.cell 0 10 rfl rfl
  have cf10 := KT.out.froz 0 10 rfl rfl
  obtain ⟨w4, hw⟩ : ∃ x, ((w3.setCell ⟨w.heap.size, 8, none⟩ (.int .i64 Lo2)).setCell ⟨w.heap.size, 9, none⟩ (.int .i64 Hi2)).setCell ⟨w.heap.size, 7, none⟩ (.int .i64 E2) = x := ⟨_, rfl⟩
  have KTa : Hid (Tab w4 [(w.heap.size, [.int .i64 CA, .int .i64 CW, .bool true, .int .i64 CL, .int .i64 CR, .bool true, .bool ar, .int .i64 E2, .int .i64 Lo2, .int .i64 Hi2, .bool bd])]) := Lib.hid (by rw [← hw]; exact ((KT.out.set1 0 8 (.int .i64 Lo2) rfl (by simp)).set1 0 9 (.int .i64 Hi2) rfl (by simp)).set1 0 7 (.int .i64 E2) rfl (by simp))
  have KB : Hid (Below w.heap.size w w4) := Lib.hid (by rw [← hw]; exact ((KB.out.setCell (Nat.le_refl _) _).setCell (Nat.le_refl _) _).setCell (Nat.le_refl _) _)
  go_upto_region 5 with fail
  clear hw c0 cf0 c1 cf1 c2 cf2 c3 cf3 c4 cf4 c5 cf5 c6 cf6 c7 cf7 c8 cf8 c9 cf9 c10 cf10 m1 m2 m3
  have KT := KTa
  clear KTa
  subst m4
  have c0 := KT.out.cell 0 0 rfl rfl
  have cf0 := KT.out.froz 0 0 rfl rfl
  have c1 := KT.out.cell 0 1 rfl rfl
  have cf1 := KT.out.froz 0 1 rfl rfl
  have c2 := KT.out.cell 0 2 rfl rfl
  have cf2 := KT.out.froz 0 2 rfl rfl
  have c3 := KT.out.cell 0 3 rfl rfl
  have cf3 := KT.out.froz 0 3 rfl rfl
  have c4 := KT.out.cell 0 4 rfl rfl
  have cf4 := KT.out.froz 0 4 rfl rfl
  have c5 := KT.out.cell 0 5 rfl rfl
  have cf5 := KT.out.froz 0 5 rfl rfl
  have c6 := KT.out.cell 0 6 rfl rfl
  have cf6 := KT.out.froz 0 6 rfl rfl
  have c7 := KT.out.cell 0 7 rfl rfl
  have cf7 := KT.out.froz 0 7 rfl rfl
  have c8 := KT.out.cell 0 8 rfl rfl
  have cf8 := KT.out.froz 0 8 rfl rfl
  have c9 := KT.out.cell 0 9 rfl rfl
  have cf9 := KT.out.froz 0 9 rfl rfl
  have c10 := KT.out.cell 0 10 rfl rfl
  have cf10 := KT.out.froz 0 10 rfl rfl
  go_wp2_with fail
  refine (SO.out _).mono ?_
  rintro e w5 ⟨rfl, hb⟩
  have KB := Lib.hid (bel_tr0 KB.out hb)
  have KT := Lib.hid (KT.out.later hb)
  clear hb c0 cf0 c1 cf1 c2 cf2 c3 cf3 c4 cf4 c5 cf5 c6 cf6 c7 cf7 c8 cf8 c9 cf9 c10 cf10
  obtain ⟨b3, hb3⟩ : ∃ b, w5.heap.size = b := ⟨_, rfl⟩
  obtain ⟨w6, hw6⟩ : ∃ x, w5.alloc (.cells #[.int .i64 y0, .int .i64 y1, .int .i64 y2] 43) = x := ⟨_, rfl⟩
  have KT : Hid (Tab w6 [(b3, [.int .i64 y0, .int .i64 y1, .int .i64 y2]), (w.heap.size, [.int .i64 CA, .int .i64 CW, .bool true, .int .i64 CL, .int .i64 CR, .bool true, .bool ar, .int .i64 E2, .int .i64 Lo2, .int .i64 Hi2, .bool bd])]) := Lib.hid (by rw [← hw6]; exact KT.out.new' _ _ hb3.symm)
  have KB : Hid (Below w.heap.size w w6) := Lib.hid (by rw [← hw6]; exact bel_tr0 KB.out (bel_newR _ _))
  go_upto_region 8 with fail
  clear hw6 hb3 SO CU SP HM
  have KB9 := KB
  have KT9 := KT
  clear KB KT
  obtain ⟨⟨r0, r0'⟩, ⟨r1, r1'⟩, ⟨r2, r2'⟩, s, lo, hi, fw, fl, ft, fn⟩ := HF.out
  obtain ⟨⟨A0, A1⟩, ⟨E0, E1⟩⟩ := RG.out
  have FT := Lib.hid ft
  have FN := Lib.hid fn
  have FW := Lib.hid fw
  have FL := Lib.hid fl
  have HI := Lib.hid hi
  clear ft fn fw fl hi HF RG
  have c0 := KT9.out.cell 1 0 rfl rfl
  have c1 := KT9.out.cell 1 1 rfl rfl
  have c2 := KT9.out.cell 1 2 rfl rfl
  have c3 := KT9.out.cell 1 3 rfl rfl
  have c4 := KT9.out.cell 1 4 rfl rfl
  have c5 := KT9.out.cell 1 5 rfl rfl
  have c6 := KT9.out.cell 1 6 rfl rfl
  have c7 := KT9.out.cell 1 7 rfl rfl
  have c8 := KT9.out.cell 1 8 rfl rfl
  have c9 := KT9.out.cell 1 9 rfl rfl
  have c10 := KT9.out.cell 1 10 rfl rfl
  have g0 := KT9.out.cell 0 0 rfl rfl
  have g1 := KT9.out.cell 0 1 rfl rfl
  have g2 := KT9.out.cell 0 2 rfl rfl
  go_cut [72] (fun s72 wx => s72 = .bool false ∧ wx = w6)
  case first =>
    have s2 : (y1 + y0 + E2 + y2 != CA) = false := by simp [s]
    cases bd
    · go_wp2_with fail
      go_meet
      exact ⟨rfl, rfl⟩
    · have hi := HI.out rfl
      go_wp2_with fail
      go_meet
      exact ⟨rfl, rfl⟩
  case rest =>
    obtain ⟨rfl, hwx⟩ := hcut
    obtain rfl := hwx.symm
    go_upto_region 10 with fail
    clear s lo HI
    go_cut [113] (fun s113 wx => s113 = .bool false ∧ wx = w6)
    case first =>
      go_wp2_with fail
      go_meet
      exact ⟨rfl, rfl⟩
    case rest =>
      obtain ⟨rfl, hwx⟩ := hcut
      obtain rfl := hwx.symm
      clear FW FL
      go_upto_region 13 with fail
      obtain ⟨fr, hfr⟩ : ∃ x, CA - y0 - E2 = x := ⟨_, rfl⟩
      rw [hfr] at FT FN ⊢
      clear hfr A0 A1 E0 E1 r0 r0' r2 r2'
      go_cut [156] (fun s156 wx => s156 = .bool false ∧ wx = w6)
      case first =>
        cases ar
        · go_wp2_with fail
          go_meet
          exact ⟨rfl, rfl⟩
        · by_cases p : 0 ≤ fr
          · by_cases q : y1 ≤ y2 ∧ y2 ≤ y1 + 1
            · obtain ⟨q1, q2⟩ := q
              have q3 : ¬ y2 < y1 := by omega
              have q4 : ¬ y1 + 1 < y2 := by omega
              go_wp2_with fail
              go_meet
              exact ⟨rfl, rfl⟩
            · rcases FT.out rfl rfl p with h | ⟨_, h⟩
              · exact absurd h q
              · subst h
                by_cases q3 : y2 < 0
                · go_wp2_with fail
                  go_meet
                  exact ⟨rfl, rfl⟩
                · have q4 : (0 : Int) + 1 < y2 := by omega
                  go_wp2_with fail
                  go_meet
                  exact ⟨rfl, rfl⟩
          · go_wp2_with fail
            go_meet
            exact ⟨rfl, rfl⟩
      case rest =>
        obtain ⟨rfl, hwx⟩ := hcut
        obtain rfl := hwx.symm
        clear FT
        by_cases p : 0 ≤ fr
        · go_wp2_with fail
          go_returns
          exact ⟨rfl, KB9.out⟩
        · by_cases q : y1 = 0
          · subst q
            go_wp2_with fail
            go_returns
            exact ⟨rfl, KB9.out⟩
          · rcases FN.out rfl (by omega) with h | ⟨h, h2⟩
            · exact absurd h q
            · subst h
              have q2 : (y1 == 0) = false := by simpa using q
              go_wp2_with fail
              go_returns
              exact ⟨rfl, KB9.out⟩
set_option maxHeartbeats 16000000 in
theorem law_we_tf (A W L R E Lo Hi : Int) (ar bd : Bool) (hA : In64 A) (hW : In64 W) (hL : In64 L) (hR : In64 R) (hE : In64 E) (hLo : In64 Lo) (hHi : In64 Hi) (w : World) : Calls Try.prog 6 #[.agg #[.int .i64 A, .int .i64 W, .bool true, .int .i64 L, .int .i64 R, .bool false, .bool ar, .int .i64 E, .int .i64 Lo, .int .i64 Hi, .bool bd]] w fun e w' => e = .returned (.bool true) ∧ Below w.heap.size w w' := by
  have SP := Lib.hid speaks15_any
  have CU := Lib.hid (cut15_any A W L R E Lo Hi true false ar bd hA hW hL hR hE hLo hHi)
  obtain ⟨CA, qA⟩ : ∃ x, A.tmod 1099511627776 = x := ⟨_, rfl⟩
  have cA : Cu CA := by rw [← qA]; exact cu_of A
  rw [qA] at CU
  obtain ⟨CW, qW⟩ : ∃ x, W.tmod 1099511627776 = x := ⟨_, rfl⟩
  have cW : Cu CW := by rw [← qW]; exact cu_of W
  rw [qW] at CU
  obtain ⟨CL, qL⟩ : ∃ x, L.tmod 1099511627776 = x := ⟨_, rfl⟩
  have cL : Cu CL := by rw [← qL]; exact cu_of L
  rw [qL] at CU
  obtain ⟨CR, qR⟩ : ∃ x, R.tmod 1099511627776 = x := ⟨_, rfl⟩
  have cR : Cu CR := by rw [← qR]; exact cu_of R
  rw [qR] at CU
  obtain ⟨CE, qE⟩ : ∃ x, E.tmod 1099511627776 = x := ⟨_, rfl⟩
  have cE : Cu CE := by rw [← qE]; exact cu_of E
  rw [qE] at CU
  obtain ⟨CLo, qLo⟩ : ∃ x, Lo.tmod 1099511627776 = x := ⟨_, rfl⟩
  have cLo : Cu CLo := by rw [← qLo]; exact cu_of Lo
  rw [qLo] at CU
  obtain ⟨CHi, qHi⟩ : ∃ x, Hi.tmod 1099511627776 = x := ⟨_, rfl⟩
  have cHi : Cu CHi := by rw [← qHi]; exact cu_of Hi
  rw [qHi] at CU
  obtain ⟨E2, qE2⟩ : ∃ x, max CE 0 = x := ⟨_, rfl⟩
  obtain ⟨Lo2, qLo2⟩ : ∃ x, max CLo 0 = x := ⟨_, rfl⟩
  obtain ⟨Hi2, qHi2⟩ : ∃ x, max CHi 0 = x := ⟨_, rfl⟩
  obtain ⟨W2, qW2⟩ : ∃ x, CW = x := ⟨_, rfl⟩
  have cE2 : Cu E2 := by rw [← qE2]; exact cu_max cE
  have cLo2 : Cu Lo2 := by rw [← qLo2]; exact cu_max cLo
  have cHi2 : Cu Hi2 := by rw [← qHi2]; exact cu_max cHi
  have cW2 : Cu W2 := by rw [← qW2]; exact cW
  have SO := Lib.hid (solved15_any CA W2 CL CR E2 Lo2 Hi2 true false ar bd)
  rw [solve_cut cA cW2 cL cR cE2 cLo2 cHi2] at SO
  simp only [slV, slE] at SO
  obtain ⟨⟨y0, y1, y2⟩, hy⟩ : ∃ y, solveT CA W2 CL CR E2 Lo2 Hi2 true false ar bd = y := ⟨_, rfl⟩
  have HF := Lib.hid (eqF_of cA cW2 cL cR cE2 cLo2 cHi2 hy)
  rw [hy] at SO
  dsimp only at SO
  have RG := Lib.hid (show Cu CA ∧ Cu E2 from ⟨cA, cE2⟩)
  have HM := Lib.hid (show max CE 0 = E2 ∧ max CLo 0 = Lo2 ∧ max CHi 0 = Hi2 ∧ CW = W2 from ⟨qE2, qLo2, qHi2, qW2⟩)
  clear hA hW hL hR hE hLo hHi cA cW cL cR cE cLo cHi qA qW qL qR qE qLo qHi hy cE2 cLo2 cHi2 cW2 qE2 qLo2 qHi2 qW2
  go_enter Try.func6, Try.ntmps6
  go_wp2_with fail
  have KB : Hid (Below w.heap.size w (w.alloc (.cells #[.int .i64 A, .int .i64 W, .bool true, .int .i64 L, .int .i64 R, .bool false, .bool ar, .int .i64 E, .int .i64 Lo, .int .i64 Hi, .bool bd] 41))) := Lib.hid (bel_newR _ _)
  have KT : Hid (Tab (w.alloc (.cells #[.int .i64 A, .int .i64 W, .bool true, .int .i64 L, .int .i64 R, .bool false, .bool ar, .int .i64 E, .int .i64 Lo, .int .i64 Hi, .bool bd] 41)) [(w.heap.size, [.int .i64 A, .int .i64 W, .bool true, .int .i64 L, .int .i64 R, .bool false, .bool ar, .int .i64 E, .int .i64 Lo, .int .i64 Hi, .bool bd])]) := Lib.hid ((Tab.nil w).new' _ _ rfl)
  refine (SP.out _).mono ?_
  rintro e w1 ⟨rfl, hb⟩
  have KB := Lib.hid (bel_tr0 KB.out hb)
  have KT := Lib.hid (KT.out.later hb)
  clear hb
  have c0 := KT.out.cell 0 0 rfl rfl
  have c1 := KT.out.cell 0 1 rfl rfl
  have c2 := KT.out.cell 0 2 rfl rfl
  have c3 := KT.out.cell 0 3 rfl rfl
  have c4 := KT.out.cell 0 4 rfl rfl
  have c5 := KT.out.cell 0 5 rfl rfl
  have c6 := KT.out.cell 0 6 rfl rfl
  have c7 := KT.out.cell 0 7 rfl rfl
  have c8 := KT.out.cell 0 8 rfl rfl
  have c9 := KT.out.cell 0 9 rfl rfl
  have c10 := KT.out.cell 0 10 rfl rfl
  go_wp2_with fail
  refine (CU.out _).mono ?_
  rintro e w2 ⟨rfl, hb⟩
  have KB := Lib.hid (bel_tr0 KB.out hb)
  have KT := Lib.hid (KT.out.later hb)
  clear hb c0 c1 c2 c3 c4 c5 c6 c7 c8 c9 c10
  have c0 := KT.out.cell 0 0 rfl rfl
  have cf0 := KT.out.froz 0 0 rfl rfl
  have c1 := KT.out.cell 0 1 rfl rfl
  have cf1 := KT.out.froz 0 1 rfl rfl
  have c2 := KT.out.cell 0 2 rfl rfl
  have cf2 := KT.out.froz 0 2 rfl rfl
  have c3 := KT.out.cell 0 3 rfl rfl
  have cf3 := KT.out.froz 0 3 rfl rfl
  have c4 := KT.out.cell 0 4 rfl rfl
  have cf4 := KT.out.froz 0 4 rfl rfl
  have c5 := KT.out.cell 0 5 rfl rfl
  have cf5 := KT.out.froz 0 5 rfl rfl
  have c6 := KT.out.cell 0 6 rfl rfl
  have cf6 := KT.out.froz 0 6 rfl rfl
  have c7 := KT.out.cell 0 7 rfl rfl
  have cf7 := KT.out.froz 0 7 rfl rfl
  have c8 := KT.out.cell 0 8 rfl rfl
  have cf8 := KT.out.froz 0 8 rfl rfl
  have c9 := KT.out.cell 0 9 rfl rfl
  have cf9 := KT.out.froz 0 9 rfl rfl
  have c10 := KT.out.cell 0 10 rfl rfl
  have cf10 := KT.out.froz 0 10 rfl rfl
  obtain ⟨w3, hw⟩ : ∃ x, (((((((((((w2.setCell ⟨w.heap.size, 0, none⟩ (.int .i64 CA)).setCell ⟨w.heap.size, 1, none⟩ (.int .i64 CW)).setCell ⟨w.heap.size, 2, none⟩ (.bool true)).setCell ⟨w.heap.size, 3, none⟩ (.int .i64 CL)).setCell ⟨w.heap.size, 4, none⟩ (.int .i64 CR)).setCell ⟨w.heap.size, 5, none⟩ (.bool false)).setCell ⟨w.heap.size, 6, none⟩ (.bool ar)).setCell ⟨w.heap.size, 7, none⟩ (.int .i64 CE)).setCell ⟨w.heap.size, 8, none⟩ (.int .i64 CLo)).setCell ⟨w.heap.size, 9, none⟩ (.int .i64 CHi)).setCell ⟨w.heap.size, 10, none⟩ (.bool bd)) = x := ⟨_, rfl⟩
  have KTa : Hid (Tab w3 [(w.heap.size, [.int .i64 CA, .int .i64 CW, .bool true, .int .i64 CL, .int .i64 CR, .bool false, .bool ar, .int .i64 CE, .int .i64 CLo, .int .i64 CHi, .bool bd])]) := Lib.hid (by rw [← hw]; exact (((((((((((KT.out.set1 0 0 (.int .i64 CA) rfl (by simp)).set1 0 1 (.int .i64 CW) rfl (by simp)).set1 0 2 (.bool true) rfl (by simp)).set1 0 3 (.int .i64 CL) rfl (by simp)).set1 0 4 (.int .i64 CR) rfl (by simp)).set1 0 5 (.bool false) rfl (by simp)).set1 0 6 (.bool ar) rfl (by simp)).set1 0 7 (.int .i64 CE) rfl (by simp)).set1 0 8 (.int .i64 CLo) rfl (by simp)).set1 0 9 (.int .i64 CHi) rfl (by simp)).set1 0 10 (.bool bd) rfl (by simp)))
  have KB : Hid (Below w.heap.size w w3) := Lib.hid (by rw [← hw]; exact (((((((((((KB.out.setCell (Nat.le_refl _) _).setCell (Nat.le_refl _) _).setCell (Nat.le_refl _) _).setCell (Nat.le_refl _) _).setCell (Nat.le_refl _) _).setCell (Nat.le_refl _) _).setCell (Nat.le_refl _) _).setCell (Nat.le_refl _) _).setCell (Nat.le_refl _) _).setCell (Nat.le_refl _) _).setCell (Nat.le_refl _) _))
  go_upto_region 4 with fail
  clear hw c0 cf0 c1 cf1 c2 cf2 c3 cf3 c4 cf4 c5 cf5 c6 cf6 c7 cf7 c8 cf8 c9 cf9 c10 cf10
  have KT := KTa
  clear KTa
  obtain ⟨m1, m2, m3, m4⟩ := HM.out
  have c0 := KT.out.cell 0 0 rfl rfl
  have cf0 := KT.out.froz 0 0 rfl rfl
  have c1 := KT.out.cell 0 1 rfl rfl
  have cf1 := KT.out.froz 0 1 rfl rfl
  have c2 := KT.out.cell 0 2 rfl rfl
  have cf2 := KT.out.froz 0 2 rfl rfl
  have c3 := KT.out.cell 0 3 rfl rfl
  have cf3 := KT.out.froz 0 3 rfl rfl
  have c4 := KT.out.cell 0 4 rfl rfl
  have cf4 := KT.out.froz 0 4 rfl rfl
  have c5 := KT.out.cell 0 5 rfl rfl
  have cf5 := KT.out.froz 0 5 rfl rfl
  have c6 := KT.out.cell 0 6 rfl rfl
  have cf6 := KT.out.froz 0 6 rfl rfl
  have c7 := KT.out.cell 0 7 rfl rfl
  have cf7 := KT.out.froz 0 7 rfl rfl
  have c8 := KT.out.cell 0 8 rfl rfl
  have cf8 := KT.out.froz 0 8 rfl rfl
  have c9 := KT.out.cell 0 9 rfl rfl
  have cf9 := KT.out.froz 0 9 rfl rfl
  have c10 := KT.out.cell 0 10 rfl rfl
  have cf10 := KT.out.froz 0 10 rfl rfl
  obtain ⟨w4, hw⟩ : ∃ x, ((w3.setCell ⟨w.heap.size, 8, none⟩ (.int .i64 Lo2)).setCell ⟨w.heap.size, 9, none⟩ (.int .i64 Hi2)).setCell ⟨w.heap.size, 7, none⟩ (.int .i64 E2) = x := ⟨_, rfl⟩
  have KTa : Hid (Tab w4 [(w.heap.size, [.int .i64 CA, .int .i64 CW, .bool true, .int .i64 CL, .int .i64 CR, .bool false, .bool ar, .int .i64 E2, .int .i64 Lo2, .int .i64 Hi2, .bool bd])]) := Lib.hid (by rw [← hw]; exact ((KT.out.set1 0 8 (.int .i64 Lo2) rfl (by simp)).set1 0 9 (.int .i64 Hi2) rfl (by simp)).set1 0 7 (.int .i64 E2) rfl (by simp))
  have KB : Hid (Below w.heap.size w w4) := Lib.hid (by rw [← hw]; exact ((KB.out.setCell (Nat.le_refl _) _).setCell (Nat.le_refl _) _).setCell (Nat.le_refl _) _)
  go_upto_region 5 with fail
  clear hw c0 cf0 c1 cf1 c2 cf2 c3 cf3 c4 cf4 c5 cf5 c6 cf6 c7 cf7 c8 cf8 c9 cf9 c10 cf10 m1 m2 m3
  have KT := KTa
  clear KTa
  subst m4
  have c0 := KT.out.cell 0 0 rfl rfl
  have cf0 := KT.out.froz 0 0 rfl rfl
  have c1 := KT.out.cell 0 1 rfl rfl
  have cf1 := KT.out.froz 0 1 rfl rfl
  have c2 := KT.out.cell 0 2 rfl rfl
  have cf2 := KT.out.froz 0 2 rfl rfl
  have c3 := KT.out.cell 0 3 rfl rfl
  have cf3 := KT.out.froz 0 3 rfl rfl
  have c4 := KT.out.cell 0 4 rfl rfl
  have cf4 := KT.out.froz 0 4 rfl rfl
  have c5 := KT.out.cell 0 5 rfl rfl
  have cf5 := KT.out.froz 0 5 rfl rfl
  have c6 := KT.out.cell 0 6 rfl rfl
  have cf6 := KT.out.froz 0 6 rfl rfl
  have c7 := KT.out.cell 0 7 rfl rfl
  have cf7 := KT.out.froz 0 7 rfl rfl
  have c8 := KT.out.cell 0 8 rfl rfl
  have cf8 := KT.out.froz 0 8 rfl rfl
  have c9 := KT.out.cell 0 9 rfl rfl
  have cf9 := KT.out.froz 0 9 rfl rfl
  have c10 := KT.out.cell 0 10 rfl rfl
  have cf10 := KT.out.froz 0 10 rfl rfl
  go_wp2_with fail
  refine (SO.out _).mono ?_
  rintro e w5 ⟨rfl, hb⟩
  have KB := Lib.hid (bel_tr0 KB.out hb)
  have KT := Lib.hid (KT.out.later hb)
  clear hb c0 cf0 c1 cf1 c2 cf2 c3 cf3 c4 cf4 c5 cf5 c6 cf6 c7 cf7 c8 cf8 c9 cf9 c10 cf10
  obtain ⟨b3, hb3⟩ : ∃ b, w5.heap.size = b := ⟨_, rfl⟩
  obtain ⟨w6, hw6⟩ : ∃ x, w5.alloc (.cells #[.int .i64 y0, .int .i64 y1, .int .i64 y2] 43) = x := ⟨_, rfl⟩
  have KT : Hid (Tab w6 [(b3, [.int .i64 y0, .int .i64 y1, .int .i64 y2]), (w.heap.size, [.int .i64 CA, .int .i64 CW, .bool true, .int .i64 CL, .int .i64 CR, .bool false, .bool ar, .int .i64 E2, .int .i64 Lo2, .int .i64 Hi2, .bool bd])]) := Lib.hid (by rw [← hw6]; exact KT.out.new' _ _ hb3.symm)
  have KB : Hid (Below w.heap.size w w6) := Lib.hid (by rw [← hw6]; exact bel_tr0 KB.out (bel_newR _ _))
  go_upto_region 8 with fail
  clear hw6 hb3 SO CU SP HM
  have KB9 := KB
  have KT9 := KT
  clear KB KT
  obtain ⟨⟨r0, r0'⟩, ⟨r1, r1'⟩, ⟨r2, r2'⟩, s, lo, hi, fw, fl, ft, fn⟩ := HF.out
  obtain ⟨⟨A0, A1⟩, ⟨E0, E1⟩⟩ := RG.out
  have FT := Lib.hid ft
  have FN := Lib.hid fn
  have FW := Lib.hid fw
  have FL := Lib.hid fl
  have HI := Lib.hid hi
  clear ft fn fw fl hi HF RG
  have c0 := KT9.out.cell 1 0 rfl rfl
  have c1 := KT9.out.cell 1 1 rfl rfl
  have c2 := KT9.out.cell 1 2 rfl rfl
  have c3 := KT9.out.cell 1 3 rfl rfl
  have c4 := KT9.out.cell 1 4 rfl rfl
  have c5 := KT9.out.cell 1 5 rfl rfl
  have c6 := KT9.out.cell 1 6 rfl rfl
  have c7 := KT9.out.cell 1 7 rfl rfl
  have c8 := KT9.out.cell 1 8 rfl rfl
  have c9 := KT9.out.cell 1 9 rfl rfl
  have c10 := KT9.out.cell 1 10 rfl rfl
  have g0 := KT9.out.cell 0 0 rfl rfl
  have g1 := KT9.out.cell 0 1 rfl rfl
  have g2 := KT9.out.cell 0 2 rfl rfl
  go_cut [72] (fun s72 wx => s72 = .bool false ∧ wx = w6)
  case first =>
    have s2 : (y1 + y0 + E2 + y2 != CA) = false := by simp [s]
    cases bd
    · go_wp2_with fail
      go_meet
      exact ⟨rfl, rfl⟩
    · have hi := HI.out rfl
      go_wp2_with fail
      go_meet
      exact ⟨rfl, rfl⟩
  case rest =>
    obtain ⟨rfl, hwx⟩ := hcut
    obtain rfl := hwx.symm
    go_upto_region 10 with fail
    clear s lo HI
    go_cut [113] (fun s113 wx => s113 = .bool false ∧ wx = w6)
    case first =>
      have f : (y1 != CL) = false := by simp [FL.out rfl]
      go_wp2_with fail
      go_meet
      exact ⟨rfl, rfl⟩
    case rest =>
      obtain ⟨rfl, hwx⟩ := hcut
      obtain rfl := hwx.symm
      clear FW FL
      go_upto_region 13 with fail
      obtain ⟨fr, hfr⟩ : ∃ x, CA - y0 - E2 = x := ⟨_, rfl⟩
      rw [hfr] at FT FN ⊢
      clear hfr A0 A1 E0 E1 r0 r0' r2 r2'
      go_cut [156] (fun s156 wx => s156 = .bool false ∧ wx = w6)
      case first =>
        go_wp2_with fail
        go_meet
        exact ⟨rfl, rfl⟩
      case rest =>
        obtain ⟨rfl, hwx⟩ := hcut
        obtain rfl := hwx.symm
        clear FT
        go_wp2_with fail
        go_returns
        exact ⟨rfl, KB9.out⟩
set_option maxHeartbeats 16000000 in
theorem law_we_ft (A W L R E Lo Hi : Int) (ar bd : Bool) (hA : In64 A) (hW : In64 W) (hL : In64 L) (hR : In64 R) (hE : In64 E) (hLo : In64 Lo) (hHi : In64 Hi) (w : World) : Calls Try.prog 6 #[.agg #[.int .i64 A, .int .i64 W, .bool false, .int .i64 L, .int .i64 R, .bool true, .bool ar, .int .i64 E, .int .i64 Lo, .int .i64 Hi, .bool bd]] w fun e w' => e = .returned (.bool true) ∧ Below w.heap.size w w' := by
  have SP := Lib.hid speaks15_any
  have CU := Lib.hid (cut15_any A W L R E Lo Hi false true ar bd hA hW hL hR hE hLo hHi)
  obtain ⟨CA, qA⟩ : ∃ x, A.tmod 1099511627776 = x := ⟨_, rfl⟩
  have cA : Cu CA := by rw [← qA]; exact cu_of A
  rw [qA] at CU
  obtain ⟨CW, qW⟩ : ∃ x, W.tmod 1099511627776 = x := ⟨_, rfl⟩
  have cW : Cu CW := by rw [← qW]; exact cu_of W
  rw [qW] at CU
  obtain ⟨CL, qL⟩ : ∃ x, L.tmod 1099511627776 = x := ⟨_, rfl⟩
  have cL : Cu CL := by rw [← qL]; exact cu_of L
  rw [qL] at CU
  obtain ⟨CR, qR⟩ : ∃ x, R.tmod 1099511627776 = x := ⟨_, rfl⟩
  have cR : Cu CR := by rw [← qR]; exact cu_of R
  rw [qR] at CU
  obtain ⟨CE, qE⟩ : ∃ x, E.tmod 1099511627776 = x := ⟨_, rfl⟩
  have cE : Cu CE := by rw [← qE]; exact cu_of E
  rw [qE] at CU
  obtain ⟨CLo, qLo⟩ : ∃ x, Lo.tmod 1099511627776 = x := ⟨_, rfl⟩
  have cLo : Cu CLo := by rw [← qLo]; exact cu_of Lo
  rw [qLo] at CU
  obtain ⟨CHi, qHi⟩ : ∃ x, Hi.tmod 1099511627776 = x := ⟨_, rfl⟩
  have cHi : Cu CHi := by rw [← qHi]; exact cu_of Hi
  rw [qHi] at CU
  obtain ⟨E2, qE2⟩ : ∃ x, max CE 0 = x := ⟨_, rfl⟩
  obtain ⟨Lo2, qLo2⟩ : ∃ x, max CLo 0 = x := ⟨_, rfl⟩
  obtain ⟨Hi2, qHi2⟩ : ∃ x, max CHi 0 = x := ⟨_, rfl⟩
  obtain ⟨W2, qW2⟩ : ∃ x, max CW 0 = x := ⟨_, rfl⟩
  have cE2 : Cu E2 := by rw [← qE2]; exact cu_max cE
  have cLo2 : Cu Lo2 := by rw [← qLo2]; exact cu_max cLo
  have cHi2 : Cu Hi2 := by rw [← qHi2]; exact cu_max cHi
  have cW2 : Cu W2 := by rw [← qW2]; exact cu_max cW
  have SO := Lib.hid (solved15_any CA W2 CL CR E2 Lo2 Hi2 false true ar bd)
  rw [solve_cut cA cW2 cL cR cE2 cLo2 cHi2] at SO
  simp only [slV, slE] at SO
  obtain ⟨⟨y0, y1, y2⟩, hy⟩ : ∃ y, solveT CA W2 CL CR E2 Lo2 Hi2 false true ar bd = y := ⟨_, rfl⟩
  have HF := Lib.hid (eqF_of cA cW2 cL cR cE2 cLo2 cHi2 hy)
  rw [hy] at SO
  dsimp only at SO
  have RG := Lib.hid (show Cu CA ∧ Cu E2 from ⟨cA, cE2⟩)
  have HM := Lib.hid (show max CE 0 = E2 ∧ max CLo 0 = Lo2 ∧ max CHi 0 = Hi2 ∧ max CW 0 = W2 from ⟨qE2, qLo2, qHi2, qW2⟩)
  clear hA hW hL hR hE hLo hHi cA cW cL cR cE cLo cHi qA qW qL qR qE qLo qHi hy cE2 cLo2 cHi2 cW2 qE2 qLo2 qHi2 qW2
  go_enter Try.func6, Try.ntmps6
  go_wp2_with fail
  have KB : Hid (Below w.heap.size w (w.alloc (.cells #[.int .i64 A, .int .i64 W, .bool false, .int .i64 L, .int .i64 R, .bool true, .bool ar, .int .i64 E, .int .i64 Lo, .int .i64 Hi, .bool bd] 41))) := Lib.hid (bel_newR _ _)
  have KT : Hid (Tab (w.alloc (.cells #[.int .i64 A, .int .i64 W, .bool false, .int .i64 L, .int .i64 R, .bool true, .bool ar, .int .i64 E, .int .i64 Lo, .int .i64 Hi, .bool bd] 41)) [(w.heap.size, [.int .i64 A, .int .i64 W, .bool false, .int .i64 L, .int .i64 R, .bool true, .bool ar, .int .i64 E, .int .i64 Lo, .int .i64 Hi, .bool bd])]) := Lib.hid ((Tab.nil w).new' _ _ rfl)
  refine (SP.out _).mono ?_
  rintro e w1 ⟨rfl, hb⟩
  have KB := Lib.hid (bel_tr0 KB.out hb)
  have KT := Lib.hid (KT.out.later hb)
  clear hb
  have c0 := KT.out.cell 0 0 rfl rfl
  have c1 := KT.out.cell 0 1 rfl rfl
  have c2 := KT.out.cell 0 2 rfl rfl
  have c3 := KT.out.cell 0 3 rfl rfl
  have c4 := KT.out.cell 0 4 rfl rfl
  have c5 := KT.out.cell 0 5 rfl rfl
  have c6 := KT.out.cell 0 6 rfl rfl
  have c7 := KT.out.cell 0 7 rfl rfl
  have c8 := KT.out.cell 0 8 rfl rfl
  have c9 := KT.out.cell 0 9 rfl rfl
  have c10 := KT.out.cell 0 10 rfl rfl
  go_wp2_with fail
  refine (CU.out _).mono ?_
  rintro e w2 ⟨rfl, hb⟩
  have KB := Lib.hid (bel_tr0 KB.out hb)
  have KT := Lib.hid (KT.out.later hb)
  clear hb c0 c1 c2 c3 c4 c5 c6 c7 c8 c9 c10
  have c0 := KT.out.cell 0 0 rfl rfl
  have cf0 := KT.out.froz 0 0 rfl rfl
  have c1 := KT.out.cell 0 1 rfl rfl
  have cf1 := KT.out.froz 0 1 rfl rfl
  have c2 := KT.out.cell 0 2 rfl rfl
  have cf2 := KT.out.froz 0 2 rfl rfl
  have c3 := KT.out.cell 0 3 rfl rfl
  have cf3 := KT.out.froz 0 3 rfl rfl
  have c4 := KT.out.cell 0 4 rfl rfl
  have cf4 := KT.out.froz 0 4 rfl rfl
  have c5 := KT.out.cell 0 5 rfl rfl
  have cf5 := KT.out.froz 0 5 rfl rfl
  have c6 := KT.out.cell 0 6 rfl rfl
  have cf6 := KT.out.froz 0 6 rfl rfl
  have c7 := KT.out.cell 0 7 rfl rfl
  have cf7 := KT.out.froz 0 7 rfl rfl
  have c8 := KT.out.cell 0 8 rfl rfl
  have cf8 := KT.out.froz 0 8 rfl rfl
  have c9 := KT.out.cell 0 9 rfl rfl
  have cf9 := KT.out.froz 0 9 rfl rfl
  have c10 := KT.out.cell 0 10 rfl rfl
  have cf10 := KT.out.froz 0 10 rfl rfl
  obtain ⟨w3, hw⟩ : ∃ x, (((((((((((w2.setCell ⟨w.heap.size, 0, none⟩ (.int .i64 CA)).setCell ⟨w.heap.size, 1, none⟩ (.int .i64 CW)).setCell ⟨w.heap.size, 2, none⟩ (.bool false)).setCell ⟨w.heap.size, 3, none⟩ (.int .i64 CL)).setCell ⟨w.heap.size, 4, none⟩ (.int .i64 CR)).setCell ⟨w.heap.size, 5, none⟩ (.bool true)).setCell ⟨w.heap.size, 6, none⟩ (.bool ar)).setCell ⟨w.heap.size, 7, none⟩ (.int .i64 CE)).setCell ⟨w.heap.size, 8, none⟩ (.int .i64 CLo)).setCell ⟨w.heap.size, 9, none⟩ (.int .i64 CHi)).setCell ⟨w.heap.size, 10, none⟩ (.bool bd)) = x := ⟨_, rfl⟩
  have KTa : Hid (Tab w3 [(w.heap.size, [.int .i64 CA, .int .i64 CW, .bool false, .int .i64 CL, .int .i64 CR, .bool true, .bool ar, .int .i64 CE, .int .i64 CLo, .int .i64 CHi, .bool bd])]) := Lib.hid (by rw [← hw]; exact (((((((((((KT.out.set1 0 0 (.int .i64 CA) rfl (by simp)).set1 0 1 (.int .i64 CW) rfl (by simp)).set1 0 2 (.bool false) rfl (by simp)).set1 0 3 (.int .i64 CL) rfl (by simp)).set1 0 4 (.int .i64 CR) rfl (by simp)).set1 0 5 (.bool true) rfl (by simp)).set1 0 6 (.bool ar) rfl (by simp)).set1 0 7 (.int .i64 CE) rfl (by simp)).set1 0 8 (.int .i64 CLo) rfl (by simp)).set1 0 9 (.int .i64 CHi) rfl (by simp)).set1 0 10 (.bool bd) rfl (by simp)))
  have KB : Hid (Below w.heap.size w w3) := Lib.hid (by rw [← hw]; exact (((((((((((KB.out.setCell (Nat.le_refl _) _).setCell (Nat.le_refl _) _).setCell (Nat.le_refl _) _).setCell (Nat.le_refl _) _).setCell (Nat.le_refl _) _).setCell (Nat.le_refl _) _).setCell (Nat.le_refl _) _).setCell (Nat.le_refl _) _).setCell (Nat.le_refl _) _).setCell (Nat.le_refl _) _).setCell (Nat.le_refl _) _))
  go_upto_region 4 with fail
  clear hw c0 cf0 c1 cf1 c2 cf2 c3 cf3 c4 cf4 c5 cf5 c6 cf6 c7 cf7 c8 cf8 c9 cf9 c10 cf10
  have KT := KTa
  clear KTa
  obtain ⟨m1, m2, m3, m4⟩ := HM.out
  have c0 := KT.out.cell 0 0 rfl rfl
  have cf0 := KT.out.froz 0 0 rfl rfl
  have c1 := KT.out.cell 0 1 rfl rfl
  have cf1 := KT.out.froz 0 1 rfl rfl
  have c2 := KT.out.cell 0 2 rfl rfl
  have cf2 := KT.out.froz 0 2 rfl rfl
  have c3 := KT.out.cell 0 3 rfl rfl
  have cf3 := KT.out.froz 0 3 rfl rfl
  have c4 := KT.out.cell 0 4 rfl rfl
  have cf4 := KT.out.froz 0 4 rfl rfl
  have c5 := KT.out.cell 0 5 rfl rfl
  have cf5 := KT.out.froz 0 5 rfl rfl
  have c6 := KT.out.cell 0 6 rfl rfl
  have cf6 := KT.out.froz 0 6 rfl rfl
  have c7 := KT.out.cell 0 7 rfl rfl
  have cf7 := KT.out.froz 0 7 rfl rfl
  have c8 := KT.out.cell 0 8 rfl rfl
  have cf8 := KT.out.froz 0 8 rfl rfl
  have c9 := KT.out.cell 0 9 rfl rfl
  have cf9 := KT.out.froz 0 9 rfl rfl
  have c10 := KT.out.cell 0 10 rfl rfl
  have cf10 := KT.out.froz 0 10 rfl rfl
  obtain ⟨w4, hw⟩ : ∃ x, ((w3.setCell ⟨w.heap.size, 8, none⟩ (.int .i64 Lo2)).setCell ⟨w.heap.size, 9, none⟩ (.int .i64 Hi2)).setCell ⟨w.heap.size, 7, none⟩ (.int .i64 E2) = x := ⟨_, rfl⟩
  have KTa : Hid (Tab w4 [(w.heap.size, [.int .i64 CA, .int .i64 CW, .bool false, .int .i64 CL, .int .i64 CR, .bool true, .bool ar, .int .i64 E2, .int .i64 Lo2, .int .i64 Hi2, .bool bd])]) := Lib.hid (by rw [← hw]; exact ((KT.out.set1 0 8 (.int .i64 Lo2) rfl (by simp)).set1 0 9 (.int .i64 Hi2) rfl (by simp)).set1 0 7 (.int .i64 E2) rfl (by simp))
  have KB : Hid (Below w.heap.size w w4) := Lib.hid (by rw [← hw]; exact ((KB.out.setCell (Nat.le_refl _) _).setCell (Nat.le_refl _) _).setCell (Nat.le_refl _) _)
  go_upto_region 5 with fail
  clear hw c0 cf0 c1 cf1 c2 cf2 c3 cf3 c4 cf4 c5 cf5 c6 cf6 c7 cf7 c8 cf8 c9 cf9 c10 cf10 m1 m2 m3
  have KT := KTa
  clear KTa
  have c0 := KT.out.cell 0 0 rfl rfl
  have cf0 := KT.out.froz 0 0 rfl rfl
  have c1 := KT.out.cell 0 1 rfl rfl
  have cf1 := KT.out.froz 0 1 rfl rfl
  have c2 := KT.out.cell 0 2 rfl rfl
  have cf2 := KT.out.froz 0 2 rfl rfl
  have c3 := KT.out.cell 0 3 rfl rfl
  have cf3 := KT.out.froz 0 3 rfl rfl
  have c4 := KT.out.cell 0 4 rfl rfl
  have cf4 := KT.out.froz 0 4 rfl rfl
  have c5 := KT.out.cell 0 5 rfl rfl
  have cf5 := KT.out.froz 0 5 rfl rfl
  have c6 := KT.out.cell 0 6 rfl rfl
  have cf6 := KT.out.froz 0 6 rfl rfl
  have c7 := KT.out.cell 0 7 rfl rfl
  have cf7 := KT.out.froz 0 7 rfl rfl
  have c8 := KT.out.cell 0 8 rfl rfl
  have cf8 := KT.out.froz 0 8 rfl rfl
  have c9 := KT.out.cell 0 9 rfl rfl
  have cf9 := KT.out.froz 0 9 rfl rfl
  have c10 := KT.out.cell 0 10 rfl rfl
  have cf10 := KT.out.froz 0 10 rfl rfl
  obtain ⟨w4b, hw⟩ : ∃ x, w4.setCell ⟨w.heap.size, 1, none⟩ (.int .i64 W2) = x := ⟨_, rfl⟩
  have KTa : Hid (Tab w4b [(w.heap.size, [.int .i64 CA, .int .i64 W2, .bool false, .int .i64 CL, .int .i64 CR, .bool true, .bool ar, .int .i64 E2, .int .i64 Lo2, .int .i64 Hi2, .bool bd])]) := Lib.hid (by rw [← hw]; exact KT.out.set1 0 1 (.int .i64 W2) rfl (by simp))
  have KB : Hid (Below w.heap.size w w4b) := Lib.hid (by rw [← hw]; exact KB.out.setCell (Nat.le_refl _) _)
  go_upto_region 7 with fail
  clear hw m4 c0 cf0 c1 cf1 c2 cf2 c3 cf3 c4 cf4 c5 cf5 c6 cf6 c7 cf7 c8 cf8 c9 cf9 c10 cf10
  have KT := KTa
  clear KTa
  have c0 := KT.out.cell 0 0 rfl rfl
  have cf0 := KT.out.froz 0 0 rfl rfl
  have c1 := KT.out.cell 0 1 rfl rfl
  have cf1 := KT.out.froz 0 1 rfl rfl
  have c2 := KT.out.cell 0 2 rfl rfl
  have cf2 := KT.out.froz 0 2 rfl rfl
  have c3 := KT.out.cell 0 3 rfl rfl
  have cf3 := KT.out.froz 0 3 rfl rfl
  have c4 := KT.out.cell 0 4 rfl rfl
  have cf4 := KT.out.froz 0 4 rfl rfl
  have c5 := KT.out.cell 0 5 rfl rfl
  have cf5 := KT.out.froz 0 5 rfl rfl
  have c6 := KT.out.cell 0 6 rfl rfl
  have cf6 := KT.out.froz 0 6 rfl rfl
  have c7 := KT.out.cell 0 7 rfl rfl
  have cf7 := KT.out.froz 0 7 rfl rfl
  have c8 := KT.out.cell 0 8 rfl rfl
  have cf8 := KT.out.froz 0 8 rfl rfl
  have c9 := KT.out.cell 0 9 rfl rfl
  have cf9 := KT.out.froz 0 9 rfl rfl
  have c10 := KT.out.cell 0 10 rfl rfl
  have cf10 := KT.out.froz 0 10 rfl rfl
  go_wp2_with fail
  refine (SO.out _).mono ?_
  rintro e w5 ⟨rfl, hb⟩
  have KB := Lib.hid (bel_tr0 KB.out hb)
  have KT := Lib.hid (KT.out.later hb)
  clear hb c0 cf0 c1 cf1 c2 cf2 c3 cf3 c4 cf4 c5 cf5 c6 cf6 c7 cf7 c8 cf8 c9 cf9 c10 cf10
  obtain ⟨b3, hb3⟩ : ∃ b, w5.heap.size = b := ⟨_, rfl⟩
  obtain ⟨w6, hw6⟩ : ∃ x, w5.alloc (.cells #[.int .i64 y0, .int .i64 y1, .int .i64 y2] 43) = x := ⟨_, rfl⟩
  have KT : Hid (Tab w6 [(b3, [.int .i64 y0, .int .i64 y1, .int .i64 y2]), (w.heap.size, [.int .i64 CA, .int .i64 W2, .bool false, .int .i64 CL, .int .i64 CR, .bool true, .bool ar, .int .i64 E2, .int .i64 Lo2, .int .i64 Hi2, .bool bd])]) := Lib.hid (by rw [← hw6]; exact KT.out.new' _ _ hb3.symm)
  have KB : Hid (Below w.heap.size w w6) := Lib.hid (by rw [← hw6]; exact bel_tr0 KB.out (bel_newR _ _))
  go_upto_region 8 with fail
  clear hw6 hb3 SO CU SP HM
  have KB9 := KB
  have KT9 := KT
  clear KB KT
  obtain ⟨⟨r0, r0'⟩, ⟨r1, r1'⟩, ⟨r2, r2'⟩, s, lo, hi, fw, fl, ft, fn⟩ := HF.out
  obtain ⟨⟨A0, A1⟩, ⟨E0, E1⟩⟩ := RG.out
  have FT := Lib.hid ft
  have FN := Lib.hid fn
  have FW := Lib.hid fw
  have FL := Lib.hid fl
  have HI := Lib.hid hi
  clear ft fn fw fl hi HF RG
  have c0 := KT9.out.cell 1 0 rfl rfl
  have c1 := KT9.out.cell 1 1 rfl rfl
  have c2 := KT9.out.cell 1 2 rfl rfl
  have c3 := KT9.out.cell 1 3 rfl rfl
  have c4 := KT9.out.cell 1 4 rfl rfl
  have c5 := KT9.out.cell 1 5 rfl rfl
  have c6 := KT9.out.cell 1 6 rfl rfl
  have c7 := KT9.out.cell 1 7 rfl rfl
  have c8 := KT9.out.cell 1 8 rfl rfl
  have c9 := KT9.out.cell 1 9 rfl rfl
  have c10 := KT9.out.cell 1 10 rfl rfl
  have g0 := KT9.out.cell 0 0 rfl rfl
  have g1 := KT9.out.cell 0 1 rfl rfl
  have g2 := KT9.out.cell 0 2 rfl rfl
  go_cut [72] (fun s72 wx => s72 = .bool false ∧ wx = w6)
  case first =>
    have s2 : (y1 + y0 + E2 + y2 != CA) = false := by simp [s]
    cases bd
    · go_wp2_with fail
      go_meet
      exact ⟨rfl, rfl⟩
    · have hi := HI.out rfl
      go_wp2_with fail
      go_meet
      exact ⟨rfl, rfl⟩
  case rest =>
    obtain ⟨rfl, hwx⟩ := hcut
    obtain rfl := hwx.symm
    go_upto_region 10 with fail
    clear s lo HI
    go_cut [113] (fun s113 wx => s113 = .bool false ∧ wx = w6)
    case first =>
      by_cases p : Lo2 ≤ W2
      · cases bd
        · have q := FW.out rfl p (fun h => by cases h)
          have q2 : (y0 != W2) = false := by simp [q]
          clear q
          go_wp2_with fail
          go_meet
          exact ⟨rfl, rfl⟩
        · by_cases r : W2 ≤ Hi2
          · have q := FW.out rfl p (fun _ => r)
            have q2 : (y0 != W2) = false := by simp [q]
            clear q
            go_wp2_with fail
            go_meet
            exact ⟨rfl, rfl⟩
          · clear FW
            go_wp2_with fail
            go_meet
            exact ⟨rfl, rfl⟩
      · clear FW
        go_wp2_with fail
        go_meet
        exact ⟨rfl, rfl⟩
    case rest =>
      obtain ⟨rfl, hwx⟩ := hcut
      obtain rfl := hwx.symm
      clear FW FL
      go_upto_region 13 with fail
      obtain ⟨fr, hfr⟩ : ∃ x, CA - y0 - E2 = x := ⟨_, rfl⟩
      rw [hfr] at FT FN ⊢
      clear hfr A0 A1 E0 E1 r0 r0' r2 r2'
      go_cut [156] (fun s156 wx => s156 = .bool false ∧ wx = w6)
      case first =>
        cases ar
        · go_wp2_with fail
          go_meet
          exact ⟨rfl, rfl⟩
        · by_cases p : 0 ≤ fr
          · by_cases q : y1 ≤ y2 ∧ y2 ≤ y1 + 1
            · obtain ⟨q1, q2⟩ := q
              have q3 : ¬ y2 < y1 := by omega
              have q4 : ¬ y1 + 1 < y2 := by omega
              go_wp2_with fail
              go_meet
              exact ⟨rfl, rfl⟩
            · rcases FT.out rfl rfl p with h | ⟨h, _⟩
              · exact absurd h q
              · cases h
          · go_wp2_with fail
            go_meet
            exact ⟨rfl, rfl⟩
      case rest =>
        obtain ⟨rfl, hwx⟩ := hcut
        obtain rfl := hwx.symm
        clear FT
        by_cases p : 0 ≤ fr
        · go_wp2_with fail
          go_returns
          exact ⟨rfl, KB9.out⟩
        · by_cases q : y1 = 0
          · subst q
            go_wp2_with fail
            go_returns
            exact ⟨rfl, KB9.out⟩
          · rcases FN.out rfl (by omega) with h | ⟨h, h2⟩
            · exact absurd h q
            · subst h
              have q2 : (y1 == 0) = false := by simpa using q
              go_wp2_with fail
              go_returns
              exact ⟨rfl, KB9.out⟩
set_option maxHeartbeats 16000000 in
theorem law_we_ff (A W L R E Lo Hi : Int) (ar bd : Bool) (hA : In64 A) (hW : In64 W) (hL : In64 L) (hR : In64 R) (hE : In64 E) (hLo : In64 Lo) (hHi : In64 Hi) (w : World) : Calls Try.prog 6 #[.agg #[.int .i64 A, .int .i64 W, .bool false, .int .i64 L, .int .i64 R, .bool false, .bool ar, .int .i64 E, .int .i64 Lo, .int .i64 Hi, .bool bd]] w fun e w' => e = .returned (.bool true) ∧ Below w.heap.size w w' := by
  have SP := Lib.hid speaks15_any
  have CU := Lib.hid (cut15_any A W L R E Lo Hi false false ar bd hA hW hL hR hE hLo hHi)
  obtain ⟨CA, qA⟩ : ∃ x, A.tmod 1099511627776 = x := ⟨_, rfl⟩
  have cA : Cu CA := by rw [← qA]; exact cu_of A
  rw [qA] at CU
  obtain ⟨CW, qW⟩ : ∃ x, W.tmod 1099511627776 = x := ⟨_, rfl⟩
  have cW : Cu CW := by rw [← qW]; exact cu_of W
  rw [qW] at CU
  obtain ⟨CL, qL⟩ : ∃ x, L.tmod 1099511627776 = x := ⟨_, rfl⟩
  have cL : Cu CL := by rw [← qL]; exact cu_of L
  rw [qL] at CU
  obtain ⟨CR, qR⟩ : ∃ x, R.tmod 1099511627776 = x := ⟨_, rfl⟩
  have cR : Cu CR := by rw [← qR]; exact cu_of R
  rw [qR] at CU
  obtain ⟨CE, qE⟩ : ∃ x, E.tmod 1099511627776 = x := ⟨_, rfl⟩
  have cE : Cu CE := by rw [← qE]; exact cu_of E
  rw [qE] at CU
  obtain ⟨CLo, qLo⟩ : ∃ x, Lo.tmod 1099511627776 = x := ⟨_, rfl⟩
  have cLo : Cu CLo := by rw [← qLo]; exact cu_of Lo
  rw [qLo] at CU
  obtain ⟨CHi, qHi⟩ : ∃ x, Hi.tmod 1099511627776 = x := ⟨_, rfl⟩
  have cHi : Cu CHi := by rw [← qHi]; exact cu_of Hi
  rw [qHi] at CU
  obtain ⟨E2, qE2⟩ : ∃ x, max CE 0 = x := ⟨_, rfl⟩
  obtain ⟨Lo2, qLo2⟩ : ∃ x, max CLo 0 = x := ⟨_, rfl⟩
  obtain ⟨Hi2, qHi2⟩ : ∃ x, max CHi 0 = x := ⟨_, rfl⟩
  obtain ⟨W2, qW2⟩ : ∃ x, max CW 0 = x := ⟨_, rfl⟩
  have cE2 : Cu E2 := by rw [← qE2]; exact cu_max cE
  have cLo2 : Cu Lo2 := by rw [← qLo2]; exact cu_max cLo
  have cHi2 : Cu Hi2 := by rw [← qHi2]; exact cu_max cHi
  have cW2 : Cu W2 := by rw [← qW2]; exact cu_max cW
  have SO := Lib.hid (solved15_any CA W2 CL CR E2 Lo2 Hi2 false false ar bd)
  rw [solve_cut cA cW2 cL cR cE2 cLo2 cHi2] at SO
  simp only [slV, slE] at SO
  obtain ⟨⟨y0, y1, y2⟩, hy⟩ : ∃ y, solveT CA W2 CL CR E2 Lo2 Hi2 false false ar bd = y := ⟨_, rfl⟩
  have HF := Lib.hid (eqF_of cA cW2 cL cR cE2 cLo2 cHi2 hy)
  rw [hy] at SO
  dsimp only at SO
  have RG := Lib.hid (show Cu CA ∧ Cu E2 from ⟨cA, cE2⟩)
  have HM := Lib.hid (show max CE 0 = E2 ∧ max CLo 0 = Lo2 ∧ max CHi 0 = Hi2 ∧ max CW 0 = W2 from ⟨qE2, qLo2, qHi2, qW2⟩)
  clear hA hW hL hR hE hLo hHi cA cW cL cR cE cLo cHi qA qW qL qR qE qLo qHi hy cE2 cLo2 cHi2 cW2 qE2 qLo2 qHi2 qW2
  go_enter Try.func6, Try.ntmps6
  go_wp2_with fail
  have KB : Hid (Below w.heap.size w (w.alloc (.cells #[.int .i64 A, .int .i64 W, .bool false, .int .i64 L, .int .i64 R, .bool false, .bool ar, .int .i64 E, .int .i64 Lo, .int .i64 Hi, .bool bd] 41))) := Lib.hid (bel_newR _ _)
  have KT : Hid (Tab (w.alloc (.cells #[.int .i64 A, .int .i64 W, .bool false, .int .i64 L, .int .i64 R, .bool false, .bool ar, .int .i64 E, .int .i64 Lo, .int .i64 Hi, .bool bd] 41)) [(w.heap.size, [.int .i64 A, .int .i64 W, .bool false, .int .i64 L, .int .i64 R, .bool false, .bool ar, .int .i64 E, .int .i64 Lo, .int .i64 Hi, .bool bd])]) := Lib.hid ((Tab.nil w).new' _ _ rfl)
  refine (SP.out _).mono ?_
  rintro e w1 ⟨rfl, hb⟩
  have KB := Lib.hid (bel_tr0 KB.out hb)
  have KT := Lib.hid (KT.out.later hb)
  clear hb
  have c0 := KT.out.cell 0 0 rfl rfl
  have c1 := KT.out.cell 0 1 rfl rfl
  have c2 := KT.out.cell 0 2 rfl rfl
  have c3 := KT.out.cell 0 3 rfl rfl
  have c4 := KT.out.cell 0 4 rfl rfl
  have c5 := KT.out.cell 0 5 rfl rfl
  have c6 := KT.out.cell 0 6 rfl rfl
  have c7 := KT.out.cell 0 7 rfl rfl
  have c8 := KT.out.cell 0 8 rfl rfl
  have c9 := KT.out.cell 0 9 rfl rfl
  have c10 := KT.out.cell 0 10 rfl rfl
  go_wp2_with fail
  refine (CU.out _).mono ?_
  rintro e w2 ⟨rfl, hb⟩
  have KB := Lib.hid (bel_tr0 KB.out hb)
  have KT := Lib.hid (KT.out.later hb)
  clear hb c0 c1 c2 c3 c4 c5 c6 c7 c8 c9 c10
  have c0 := KT.out.cell 0 0 rfl rfl
  have cf0 := KT.out.froz 0 0 rfl rfl
  have c1 := KT.out.cell 0 1 rfl rfl
  have cf1 := KT.out.froz 0 1 rfl rfl
  have c2 := KT.out.cell 0 2 rfl rfl
  have cf2 := KT.out.froz 0 2 rfl rfl
  have c3 := KT.out.cell 0 3 rfl rfl
  have cf3 := KT.out.froz 0 3 rfl rfl
  have c4 := KT.out.cell 0 4 rfl rfl
  have cf4 := KT.out.froz 0 4 rfl rfl
  have c5 := KT.out.cell 0 5 rfl rfl
  have cf5 := KT.out.froz 0 5 rfl rfl
  have c6 := KT.out.cell 0 6 rfl rfl
  have cf6 := KT.out.froz 0 6 rfl rfl
  have c7 := KT.out.cell 0 7 rfl rfl
  have cf7 := KT.out.froz 0 7 rfl rfl
  have c8 := KT.out.cell 0 8 rfl rfl
  have cf8 := KT.out.froz 0 8 rfl rfl
  have c9 := KT.out.cell 0 9 rfl rfl
  have cf9 := KT.out.froz 0 9 rfl rfl
  have c10 := KT.out.cell 0 10 rfl rfl
  have cf10 := KT.out.froz 0 10 rfl rfl
  obtain ⟨w3, hw⟩ : ∃ x, (((((((((((w2.setCell ⟨w.heap.size, 0, none⟩ (.int .i64 CA)).setCell ⟨w.heap.size, 1, none⟩ (.int .i64 CW)).setCell ⟨w.heap.size, 2, none⟩ (.bool false)).setCell ⟨w.heap.size, 3, none⟩ (.int .i64 CL)).setCell ⟨w.heap.size, 4, none⟩ (.int .i64 CR)).setCell ⟨w.heap.size, 5, none⟩ (.bool false)).setCell ⟨w.heap.size, 6, none⟩ (.bool ar)).setCell ⟨w.heap.size, 7, none⟩ (.int .i64 CE)).setCell ⟨w.heap.size, 8, none⟩ (.int .i64 CLo)).setCell ⟨w.heap.size, 9, none⟩ (.int .i64 CHi)).setCell ⟨w.heap.size, 10, none⟩ (.bool bd)) = x := ⟨_, rfl⟩
  have KTa : Hid (Tab w3 [(w.heap.size, [.int .i64 CA, .int .i64 CW, .bool false, .int .i64 CL, .int .i64 CR, .bool false, .bool ar, .int .i64 CE, .int .i64 CLo, .int .i64 CHi, .bool bd])]) := Lib.hid (by rw [← hw]; exact (((((((((((KT.out.set1 0 0 (.int .i64 CA) rfl (by simp)).set1 0 1 (.int .i64 CW) rfl (by simp)).set1 0 2 (.bool false) rfl (by simp)).set1 0 3 (.int .i64 CL) rfl (by simp)).set1 0 4 (.int .i64 CR) rfl (by simp)).set1 0 5 (.bool false) rfl (by simp)).set1 0 6 (.bool ar) rfl (by simp)).set1 0 7 (.int .i64 CE) rfl (by simp)).set1 0 8 (.int .i64 CLo) rfl (by simp)).set1 0 9 (.int .i64 CHi) rfl (by simp)).set1 0 10 (.bool bd) rfl (by simp)))
  have KB : Hid (Below w.heap.size w w3) := Lib.hid (by rw [← hw]; exact (((((((((((KB.out.setCell (Nat.le_refl _) _).setCell (Nat.le_refl _) _).setCell (Nat.le_refl _) _).setCell (Nat.le_refl _) _).setCell (Nat.le_refl _) _).setCell (Nat.le_refl _) _).setCell (Nat.le_refl _) _).setCell (Nat.le_refl _) _).setCell (Nat.le_refl _) _).setCell (Nat.le_refl _) _).setCell (Nat.le_refl _) _))
  go_upto_region 4 with fail
  clear hw c0 cf0 c1 cf1 c2 cf2 c3 cf3 c4 cf4 c5 cf5 c6 cf6 c7 cf7 c8 cf8 c9 cf9 c10 cf10
  have KT := KTa
  clear KTa
  obtain ⟨m1, m2, m3, m4⟩ := HM.out
  have c0 := KT.out.cell 0 0 rfl rfl
  have cf0 := KT.out.froz 0 0 rfl rfl
  have c1 := KT.out.cell 0 1 rfl rfl
  have cf1 := KT.out.froz 0 1 rfl rfl
  have c2 := KT.out.cell 0 2 rfl rfl
  have cf2 := KT.out.froz 0 2 rfl rfl
  have c3 := KT.out.cell 0 3 rfl rfl
  have cf3 := KT.out.froz 0 3 rfl rfl
  have c4 := KT.out.cell 0 4 rfl rfl
  have cf4 := KT.out.froz 0 4 rfl rfl
  have c5 := KT.out.cell 0 5 rfl rfl
  have cf5 := KT.out.froz 0 5 rfl rfl
  have c6 := KT.out.cell 0 6 rfl rfl
  have cf6 := KT.out.froz 0 6 rfl rfl
  have c7 := KT.out.cell 0 7 rfl rfl
  have cf7 := KT.out.froz 0 7 rfl rfl
  have c8 := KT.out.cell 0 8 rfl rfl
  have cf8 := KT.out.froz 0 8 rfl rfl
  have c9 := KT.out.cell 0 9 rfl rfl
  have cf9 := KT.out.froz 0 9 rfl rfl
  have c10 := KT.out.cell 0 10 rfl rfl
  have cf10 := KT.out.froz 0 10 rfl rfl
  obtain ⟨w4, hw⟩ : ∃ x, ((w3.setCell ⟨w.heap.size, 8, none⟩ (.int .i64 Lo2)).setCell ⟨w.heap.size, 9, none⟩ (.int .i64 Hi2)).setCell ⟨w.heap.size, 7, none⟩ (.int .i64 E2) = x := ⟨_, rfl⟩
  have KTa : Hid (Tab w4 [(w.heap.size, [.int .i64 CA, .int .i64 CW, .bool false, .int .i64 CL, .int .i64 CR, .bool false, .bool ar, .int .i64 E2, .int .i64 Lo2, .int .i64 Hi2, .bool bd])]) := Lib.hid (by rw [← hw]; exact ((KT.out.set1 0 8 (.int .i64 Lo2) rfl (by simp)).set1 0 9 (.int .i64 Hi2) rfl (by simp)).set1 0 7 (.int .i64 E2) rfl (by simp))
  have KB : Hid (Below w.heap.size w w4) := Lib.hid (by rw [← hw]; exact ((KB.out.setCell (Nat.le_refl _) _).setCell (Nat.le_refl _) _).setCell (Nat.le_refl _) _)
  go_upto_region 5 with fail
  clear hw c0 cf0 c1 cf1 c2 cf2 c3 cf3 c4 cf4 c5 cf5 c6 cf6 c7 cf7 c8 cf8 c9 cf9 c10 cf10 m1 m2 m3
  have KT := KTa
  clear KTa
  have c0 := KT.out.cell 0 0 rfl rfl
  have cf0 := KT.out.froz 0 0 rfl rfl
  have c1 := KT.out.cell 0 1 rfl rfl
  have cf1 := KT.out.froz 0 1 rfl rfl
  have c2 := KT.out.cell 0 2 rfl rfl
  have cf2 := KT.out.froz 0 2 rfl rfl
  have c3 := KT.out.cell 0 3 rfl rfl
  have cf3 := KT.out.froz 0 3 rfl rfl
  have c4 := KT.out.cell 0 4 rfl rfl
  have cf4 := KT.out.froz 0 4 rfl rfl
  have c5 := KT.out.cell 0 5 rfl rfl
  have cf5 := KT.out.froz 0 5 rfl rfl
  have c6 := KT.out.cell 0 6 rfl rfl
  have cf6 := KT.out.froz 0 6 rfl rfl
  have c7 := KT.out.cell 0 7 rfl rfl
  have cf7 := KT.out.froz 0 7 rfl rfl
  have c8 := KT.out.cell 0 8 rfl rfl
  have cf8 := KT.out.froz 0 8 rfl rfl
  have c9 := KT.out.cell 0 9 rfl rfl
  have cf9 := KT.out.froz 0 9 rfl rfl
  have c10 := KT.out.cell 0 10 rfl rfl
  have cf10 := KT.out.froz 0 10 rfl rfl
  obtain ⟨w4b, hw⟩ : ∃ x, w4.setCell ⟨w.heap.size, 1, none⟩ (.int .i64 W2) = x := ⟨_, rfl⟩
  have KTa : Hid (Tab w4b [(w.heap.size, [.int .i64 CA, .int .i64 W2, .bool false, .int .i64 CL, .int .i64 CR, .bool false, .bool ar, .int .i64 E2, .int .i64 Lo2, .int .i64 Hi2, .bool bd])]) := Lib.hid (by rw [← hw]; exact KT.out.set1 0 1 (.int .i64 W2) rfl (by simp))
  have KB : Hid (Below w.heap.size w w4b) := Lib.hid (by rw [← hw]; exact KB.out.setCell (Nat.le_refl _) _)
  go_upto_region 7 with fail
  clear hw m4 c0 cf0 c1 cf1 c2 cf2 c3 cf3 c4 cf4 c5 cf5 c6 cf6 c7 cf7 c8 cf8 c9 cf9 c10 cf10
  have KT := KTa
  clear KTa
  have c0 := KT.out.cell 0 0 rfl rfl
  have cf0 := KT.out.froz 0 0 rfl rfl
  have c1 := KT.out.cell 0 1 rfl rfl
  have cf1 := KT.out.froz 0 1 rfl rfl
  have c2 := KT.out.cell 0 2 rfl rfl
  have cf2 := KT.out.froz 0 2 rfl rfl
  have c3 := KT.out.cell 0 3 rfl rfl
  have cf3 := KT.out.froz 0 3 rfl rfl
  have c4 := KT.out.cell 0 4 rfl rfl
  have cf4 := KT.out.froz 0 4 rfl rfl
  have c5 := KT.out.cell 0 5 rfl rfl
  have cf5 := KT.out.froz 0 5 rfl rfl
  have c6 := KT.out.cell 0 6 rfl rfl
  have cf6 := KT.out.froz 0 6 rfl rfl
  have c7 := KT.out.cell 0 7 rfl rfl
  have cf7 := KT.out.froz 0 7 rfl rfl
  have c8 := KT.out.cell 0 8 rfl rfl
  have cf8 := KT.out.froz 0 8 rfl rfl
  have c9 := KT.out.cell 0 9 rfl rfl
  have cf9 := KT.out.froz 0 9 rfl rfl
  have c10 := KT.out.cell 0 10 rfl rfl
  have cf10 := KT.out.froz 0 10 rfl rfl
  go_wp2_with fail
  refine (SO.out _).mono ?_
  rintro e w5 ⟨rfl, hb⟩
  have KB := Lib.hid (bel_tr0 KB.out hb)
  have KT := Lib.hid (KT.out.later hb)
  clear hb c0 cf0 c1 cf1 c2 cf2 c3 cf3 c4 cf4 c5 cf5 c6 cf6 c7 cf7 c8 cf8 c9 cf9 c10 cf10
  obtain ⟨b3, hb3⟩ : ∃ b, w5.heap.size = b := ⟨_, rfl⟩
  obtain ⟨w6, hw6⟩ : ∃ x, w5.alloc (.cells #[.int .i64 y0, .int .i64 y1, .int .i64 y2] 43) = x := ⟨_, rfl⟩
  have KT : Hid (Tab w6 [(b3, [.int .i64 y0, .int .i64 y1, .int .i64 y2]), (w.heap.size, [.int .i64 CA, .int .i64 W2, .bool false, .int .i64 CL, .int .i64 CR, .bool false, .bool ar, .int .i64 E2, .int .i64 Lo2, .int .i64 Hi2, .bool bd])]) := Lib.hid (by rw [← hw6]; exact KT.out.new' _ _ hb3.symm)
  have KB : Hid (Below w.heap.size w w6) := Lib.hid (by rw [← hw6]; exact bel_tr0 KB.out (bel_newR _ _))
  go_upto_region 8 with fail
  clear hw6 hb3 SO CU SP HM
  have KB9 := KB
  have KT9 := KT
  clear KB KT
  obtain ⟨⟨r0, r0'⟩, ⟨r1, r1'⟩, ⟨r2, r2'⟩, s, lo, hi, fw, fl, ft, fn⟩ := HF.out
  obtain ⟨⟨A0, A1⟩, ⟨E0, E1⟩⟩ := RG.out
  have FT := Lib.hid ft
  have FN := Lib.hid fn
  have FW := Lib.hid fw
  have FL := Lib.hid fl
  have HI := Lib.hid hi
  clear ft fn fw fl hi HF RG
  have c0 := KT9.out.cell 1 0 rfl rfl
  have c1 := KT9.out.cell 1 1 rfl rfl
  have c2 := KT9.out.cell 1 2 rfl rfl
  have c3 := KT9.out.cell 1 3 rfl rfl
  have c4 := KT9.out.cell 1 4 rfl rfl
  have c5 := KT9.out.cell 1 5 rfl rfl
  have c6 := KT9.out.cell 1 6 rfl rfl
  have c7 := KT9.out.cell 1 7 rfl rfl
  have c8 := KT9.out.cell 1 8 rfl rfl
  have c9 := KT9.out.cell 1 9 rfl rfl
  have c10 := KT9.out.cell 1 10 rfl rfl
  have g0 := KT9.out.cell 0 0 rfl rfl
  have g1 := KT9.out.cell 0 1 rfl rfl
  have g2 := KT9.out.cell 0 2 rfl rfl
  go_cut [72] (fun s72 wx => s72 = .bool false ∧ wx = w6)
  case first =>
    have s2 : (y1 + y0 + E2 + y2 != CA) = false := by simp [s]
    cases bd
    · go_wp2_with fail
      go_meet
      exact ⟨rfl, rfl⟩
    · have hi := HI.out rfl
      go_wp2_with fail
      go_meet
      exact ⟨rfl, rfl⟩
  case rest =>
    obtain ⟨rfl, hwx⟩ := hcut
    obtain rfl := hwx.symm
    go_upto_region 10 with fail
    clear s lo HI
    go_cut [113] (fun s113 wx => s113 = .bool false ∧ wx = w6)
    case first =>
      have f : (y1 != CL) = false := by simp [FL.out rfl]
      by_cases p : Lo2 ≤ W2
      · cases bd
        · have q := FW.out rfl p (fun h => by cases h)
          have q2 : (y0 != W2) = false := by simp [q]
          clear q
          go_wp2_with fail
          go_meet
          exact ⟨rfl, rfl⟩
        · by_cases r : W2 ≤ Hi2
          · have q := FW.out rfl p (fun _ => r)
            have q2 : (y0 != W2) = false := by simp [q]
            clear q
            go_wp2_with fail
            go_meet
            exact ⟨rfl, rfl⟩
          · clear FW
            go_wp2_with fail
            go_meet
            exact ⟨rfl, rfl⟩
      · clear FW
        go_wp2_with fail
        go_meet
        exact ⟨rfl, rfl⟩
    case rest =>
      obtain ⟨rfl, hwx⟩ := hcut
      obtain rfl := hwx.symm
      clear FW FL
      go_upto_region 13 with fail
      obtain ⟨fr, hfr⟩ : ∃ x, CA - y0 - E2 = x := ⟨_, rfl⟩
      rw [hfr] at FT FN ⊢
      clear hfr A0 A1 E0 E1 r0 r0' r2 r2'
      go_cut [156] (fun s156 wx => s156 = .bool false ∧ wx = w6)
      case first =>
        go_wp2_with fail
        go_meet
        exact ⟨rfl, rfl⟩
      case rest =>
        obtain ⟨rfl, hwx⟩ := hcut
        obtain rfl := hwx.symm
        clear FT
        go_wp2_with fail
        go_returns
        exact ⟨rfl, KB9.out⟩
theorem law_widthequation (A W L R E Lo Hi : Int) (a al ar bd : Bool) (hA : In64 A) (hW : In64 W) (hL : In64 L) (hR : In64 R) (hE : In64 E) (hLo : In64 Lo) (hHi : In64 Hi) (w : World) : Calls Try.prog 6 #[.agg #[.int .i64 A, .int .i64 W, .bool a, .int .i64 L, .int .i64 R, .bool al, .bool ar, .int .i64 E, .int .i64 Lo, .int .i64 Hi, .bool bd]] w fun e w' => e = .returned (.bool true) ∧ Below w.heap.size w w' := by
  cases a <;> cases al
  · exact law_we_ff A W L R E Lo Hi ar bd hA hW hL hR hE hLo hHi w
  · exact law_we_ft A W L R E Lo Hi ar bd hA hW hL hR hE hLo hHi w
  · exact law_we_tf A W L R E Lo Hi ar bd hA hW hL hR hE hLo hHi w
  · exact law_we_tt A W L R E Lo Hi ar bd hA hW hL hR hE hLo hHi w
end Go.Proofs.Ytmelbgabiklojaa
