/- Widths of blocks, program-free. -/
import Derived.WalkKit
namespace Go.Proofs.Ytmelbgabiklojaa.Wid
set_option linter.unusedVariables false
set_option linter.unusedSimpArgs false
def lnB (x : Int) : Bool := decide (-17592186044416 ≤ x) && decide (x ≤ 17592186044416)
theorem lnB_yes {x : Int} (h : -17592186044416 ≤ x ∧ x ≤ 17592186044416) : lnB x = true := by simp [lnB, h.1, h.2]
theorem lnB_no {x : Int} (h : ¬ (-17592186044416 ≤ x ∧ x ≤ 17592186044416)) : lnB x = false := by
  simp only [lnB, Bool.and_eq_false_iff, decide_eq_false_iff_not]; omega
/-- a number, or 0 where it is auto -/
def tz (n : Int) (a : Bool) : Int := if a then 0 else n
/-- what is left -/
def restW (A w l r E : Int) : Int := A - (l + w + E + r)
def wW (d w : Int) (a : Bool) : Int := if a then max d 0 else w
def lW (d l : Int) (a al ar : Bool) : Int := if a then l else if 0 < d then (if al then (if ar then d / 2 else d) else l) else l
/-- the equation solved once -/
def onceT (A W L R E : Int) (a al ar : Bool) : Int × Int × Int :=
  (wW (restW A (tz W a) (tz L al) (tz R ar) E) (tz W a) a, lW (restW A (tz W a) (tz L al) (tz R ar) E) (tz L al) a al ar,
    A - (lW (restW A (tz W a) (tz L al) (tz R ar) E) (tz L al) a al ar + wW (restW A (tz W a) (tz L al) (tz R ar) E) (tz W a) a + E))
/-- the sums of the equation are lengths -/
def sumsB (A w l r E : Int) (a al ar : Bool) : Bool :=
  lnB (l + w) && (lnB (l + w + E) && (lnB (l + w + E + r) && (lnB (restW A w l r E) && (lnB (lW (restW A w l r E) l a al ar + wW (restW A w l r E) w a) && (lnB (lW (restW A w l r E) l a al ar + wW (restW A w l r E) w a + E) && lnB (A - (lW (restW A w l r E) l a al ar + wW (restW A w l r E) w a + E)))))))
def fitO (A W L R E : Int) (a al ar : Bool) : Bool :=
  lnB A && (lnB E && (lnB (tz W a) && (lnB (tz L al) && (lnB (tz R ar) && sumsB A (tz W a) (tz L al) (tz R ar) E a al ar))))
def onceE (A W L R E : Int) (a al ar : Bool) : Option (Int × Int × Int) := if fitO A W L R E a al ar then some (onceT A W L R E a al ar) else none
def solveE (A W L R E Lo Hi : Int) (a al ar bd : Bool) : Option (Int × Int × Int) :=
  (onceE A W L R E a al ar).bind fun o1 => (if bd = true ∧ Hi < o1.1 then onceE A Hi L R E false al ar else some o1).bind fun o2 => if o2.1 < Lo then onceE A Lo L R E false al ar else some o2
def solveT (A W L R E Lo Hi : Int) (a al ar bd : Bool) : Int × Int × Int :=
  let o1 := onceT A W L R E a al ar
  let o2 := if bd = true ∧ Hi < o1.1 then onceT A Hi L R E false al ar else o1
  if o2.1 < Lo then onceT A Lo L R E false al ar else o2
/-- numbers that have room -/
def Cu (x : Int) : Prop := -1099511627776 < x ∧ x < 1099511627776
theorem fit_cut {A W L R E : Int} {a al ar : Bool} (hA : Cu A) (hW : Cu W) (hL : Cu L) (hR : Cu R) (hE : Cu E) : fitO A W L R E a al ar = true := by
  obtain ⟨A0, A1⟩ := hA; obtain ⟨W0, W1⟩ := hW; obtain ⟨L0, L1⟩ := hL; obtain ⟨R0, R1⟩ := hR; obtain ⟨E0, E1⟩ := hE
  have T : ∀ (n : Int) (b : Bool), -1099511627776 < n → n < 1099511627776 → -1099511627776 < tz n b ∧ tz n b < 1099511627776 := fun n b h0 h1 => by
    unfold tz; cases b <;> simp <;> omega
  obtain ⟨w0, w1⟩ := T W a W0 W1
  obtain ⟨l0, l1⟩ := T L al L0 L1
  obtain ⟨r0, r1⟩ := T R ar R0 R1
  unfold fitO sumsB
  generalize tz W a = w at *
  generalize tz L al = l at *
  generalize tz R ar = r at *
  obtain ⟨d, hd⟩ : ∃ d, restW A w l r E = d := ⟨_, rfl⟩
  have hd' : d = A - (l + w + E + r) := hd.symm
  have B : -5497558138880 < lW d l a al ar ∧ lW d l a al ar < 5497558138880 := by
    unfold lW; repeat' split
    all_goals omega
  have C : -5497558138880 < wW d w a ∧ wW d w a < 5497558138880 := by
    unfold wW; split <;> omega
  rw [hd]
  generalize lW d l a al ar = l' at *
  generalize wW d w a = w' at *
  simp only [Bool.and_eq_true]
  refine ⟨lnB_yes ?_, lnB_yes ?_, lnB_yes ?_, lnB_yes ?_, lnB_yes ?_, lnB_yes ?_, lnB_yes ?_, lnB_yes ?_, lnB_yes ?_, lnB_yes ?_, lnB_yes ?_, lnB_yes ?_⟩ <;> omega
theorem once_cut {A W L R E : Int} {a al ar : Bool} (hA : Cu A) (hW : Cu W) (hL : Cu L) (hR : Cu R) (hE : Cu E) : onceE A W L R E a al ar = some (onceT A W L R E a al ar) := by
  unfold onceE; rw [fit_cut hA hW hL hR hE]; rfl
theorem solve_cut {A W L R E Lo Hi : Int} {a al ar bd : Bool} (hA : Cu A) (hW : Cu W) (hL : Cu L) (hR : Cu R) (hE : Cu E) (h0 : Cu Lo) (h1 : Cu Hi) : solveE A W L R E Lo Hi a al ar bd = some (solveT A W L R E Lo Hi a al ar bd) := by
  unfold solveE solveT
  rw [once_cut hA hW hL hR hE]
  rw [Option.bind_some]
  by_cases c : bd = true ∧ Hi < (onceT A W L R E a al ar).1
  · rw [if_pos c, once_cut hA h1 hL hR hE, Option.bind_some]
    simp only [if_pos c]
    split
    · rw [once_cut hA h0 hL hR hE]
    · rfl
  · rw [if_neg c, Option.bind_some]
    simp only [if_neg c]
    split
    · rw [once_cut hA h0 hL hR hE]
    · rfl
/-- what doesn't count doesn't count -/
theorem solve_same (A W W' L L' R R' E Lo Hi : Int) (a al ar bd : Bool) (hW : a = false → W = W') (hL : al = false → L = L') (hR : ar = false → R = R') :
    solveE A W L R E Lo Hi a al ar bd = solveE A W' L' R' E Lo Hi a al ar bd := by
  have z : ∀ (n n' : Int) (b : Bool), (b = false → n = n') → tz n b = tz n' b := fun n n' b h => by
    cases b
    · rw [h rfl]
    · rfl
  have o : ∀ (V V' : Int) (b : Bool), tz V b = tz V' b → onceE A V L R E b al ar = onceE A V' L' R' E b al ar := fun V V' b h => by
    unfold onceE fitO onceT
    rw [h, z L L' al hL, z R R' ar hR]
  unfold solveE
  rw [o W W' a (z W W' a hW), o Hi Hi false rfl, o Lo Lo false rfl]
theorem solve_far {A W L R E Lo Hi : Int} {a al ar bd : Bool} (h : lnB A = false ∨ (a = false ∧ lnB W = false) ∨ (al = false ∧ lnB L = false)) : solveE A W L R E Lo Hi a al ar bd = none := by
  unfold solveE
  rw [show onceE A W L R E a al ar = none from ?_]
  · rfl
  · unfold onceE
    rw [show fitO A W L R E a al ar = false from ?_]
    · rfl
    · unfold fitO
      rcases h with h | ⟨rfl, h⟩ | ⟨rfl, h⟩
      · rw [h]; rfl
      · rw [show tz W false = W from rfl, h]; simp
      · rw [show tz L false = L from rfl, h]; simp
theorem once_eq (A W L R E : Int) (a al ar : Bool) : (onceT A W L R E a al ar).2.1 + (onceT A W L R E a al ar).1 + E + (onceT A W L R E a al ar).2.2 = A := by
  unfold onceT; dsimp only; omega
theorem once_w (A W L R E : Int) (al ar : Bool) : (onceT A W L R E false al ar).1 = W := rfl
theorem once_w0 (A W L R E : Int) (al ar : Bool) : 0 ≤ (onceT A W L R E true al ar).1 := by
  unfold onceT wW; dsimp only; rw [if_pos rfl]; omega
theorem once_l (A W L R E : Int) (a ar : Bool) : (onceT A W L R E a false ar).2.1 = L := by
  show lW _ _ a false ar = L
  unfold lW tz; repeat' split
  all_goals simp_all
/-- the margins when both are auto -/
theorem once_two (A W L R E : Int) (a : Bool) : let o := onceT A W L R E a true true; 0 ≤ A - o.1 - E → (o.2.1 ≤ o.2.2 ∧ o.2.2 ≤ o.2.1 + 1) ∨ (a = true ∧ o.2.1 = 0) := by
  intro o
  show 0 ≤ A - wW _ _ a - E → _
  intro h
  cases a
  · left
    show lW _ _ false true true ≤ A - (lW _ _ false true true + wW _ _ false + E) ∧ A - (lW _ _ false true true + wW _ _ false + E) ≤ lW _ _ false true true + 1
    simp only [wW, lW, tz, restW] at h ⊢
    simp only [if_true, if_false, Bool.false_eq_true, Bool.true_eq_false] at h ⊢
    split <;> omega
  · right
    refine ⟨rfl, ?_⟩
    rfl
theorem once_neg (A W L R E : Int) (a ar : Bool) : let o := onceT A W L R E a true ar; A - o.1 - E < 0 → o.2.1 = 0 ∨ (ar = false ∧ 0 ≤ o.2.1) := by
  intro o
  show A - wW _ _ a - E < 0 → _
  intro h
  show lW _ _ a true ar = 0 ∨ (ar = false ∧ 0 ≤ lW _ _ a true ar)
  cases a
  · cases ar
    · right
      simp only [wW, lW, tz, restW] at h ⊢
      simp only [if_true, if_false, Bool.false_eq_true, Bool.true_eq_false] at h ⊢
      refine ⟨trivial, ?_⟩
      split <;> omega
    · left
      simp only [wW, lW, tz, restW] at h ⊢
      simp only [if_true, if_false, Bool.false_eq_true, Bool.true_eq_false] at h ⊢
      split <;> omega
  · left; rfl
/-- one of three solutions -/
theorem solve_is (A W L R E Lo Hi : Int) (a al ar bd : Bool) : ∃ V b, solveT A W L R E Lo Hi a al ar bd = onceT A V L R E b al ar ∧ (b = true → a = true) := by
  unfold solveT
  dsimp only
  by_cases c : bd = true ∧ Hi < (onceT A W L R E a al ar).1
  · simp only [if_pos c]
    by_cases d : (onceT A Hi L R E false al ar).1 < Lo
    · simp only [if_pos d]; exact ⟨Lo, false, rfl, fun h => by cases h⟩
    · simp only [if_neg d]; exact ⟨Hi, false, rfl, fun h => by cases h⟩
  · simp only [if_neg c]
    by_cases d : (onceT A W L R E a al ar).1 < Lo
    · simp only [if_pos d]; exact ⟨Lo, false, rfl, fun h => by cases h⟩
    · simp only [if_neg d]; exact ⟨W, a, rfl, fun h => h⟩
theorem solve_w (A W L R E Lo Hi : Int) (a al ar bd : Bool) : Lo ≤ (solveT A W L R E Lo Hi a al ar bd).1 ∧ (bd = true → (solveT A W L R E Lo Hi a al ar bd).1 ≤ max Lo Hi) ∧ (a = false → Lo ≤ W → (bd = true → W ≤ Hi) → (solveT A W L R E Lo Hi a al ar bd).1 = W) := by
  unfold solveT
  dsimp only
  by_cases c : bd = true ∧ Hi < (onceT A W L R E a al ar).1
  · simp only [if_pos c, once_w]
    split
    · refine ⟨by rw [once_w]; omega, fun _ => by rw [once_w]; omega, fun h k m => ?_⟩
      subst h; rw [once_w] at c; have := m c.1; omega
    · refine ⟨by rw [once_w]; omega, fun _ => by rw [once_w]; omega, fun h k m => ?_⟩
      subst h; rw [once_w] at c; have := m c.1; omega
  · simp only [if_neg c]
    split
    · refine ⟨by rw [once_w]; omega, fun _ => by rw [once_w]; omega, fun h k m => ?_⟩
      subst h; rename_i q; rw [once_w] at q; omega
    · refine ⟨by omega, fun h => ?_, fun h k m => by subst h; rfl⟩
      have : ¬ Hi < (onceT A W L R E a al ar).1 := fun q => c ⟨h, q⟩
      omega
end Go.Proofs.Ytmelbgabiklojaa.Wid
