/- Law 14: SizingLimits. -/
import Derived.Test.YtbolifjkhoiphaaSizE
import Derived.WalkKit
import Derived.WalkSpells
import Derived.WalkLawsBesides
import Derived.Handy
import Derived.Lib.Hide
import Derived.Deep.QuietTactic
import Derived.BigQuiet
import Derived.Outline
namespace Go.Proofs.Ytbolifjkhoiphaa
open Go.RowKit Go.Proofs.Reg Go.Proofs.Big
set_option linter.unusedVariables false
set_option linter.unusedSimpArgs false
set_option maxRecDepth 100000
def lim4 (bl bg : Nat) (v1 v2 : Int) (ok : Bool) (g : Int) : List (Addr × Value) := [(⟨bl, 0, none⟩, .int .i64 v1), (⟨bl, 1, none⟩, .int .i64 v2), (⟨bl, 2, none⟩, .bool ok), (⟨bg, 0, none⟩, .int .i64 g)]
/-- the boxes of the law's closure -/
def BL (bl bg bn b1 ba : Nat) (v1 v2 : Int) (ok : Bool) (g n k1 n1 k2 n2 base p q sz ed : Int) (kn : Bool) : List (Nat × List Value) := [(bl, [.int .i64 v1, .int .i64 v2, .bool ok]), (bg, [.int .i64 g]), (bn, [.int .i64 n]), (b1, [.int .i64 k1, .int .i64 n1, .int .i64 k2, .int .i64 n2]), (ba, [.int .i64 base, .bool kn, .int .i64 p, .int .i64 q, .int .i64 sz, .int .i64 ed])]
structure Dif5 (bl bg bn b1 ba : Nat) : Prop where
  h1 : bl ≠ bg
  h2 : bl ≠ bn
  h3 : bl ≠ b1
  h4 : bl ≠ ba
  h5 : bg ≠ bn
  h6 : bg ≠ b1
  h7 : bg ≠ ba
theorem BL.set0 {bl bg bn b1 ba : Nat} (D : Dif5 bl bg bn b1 ba) {v1 v2 : Int} {ok : Bool} {g n k1 n1 k2 n2 base p q sz ed : Int} {kn : Bool} {w : World} (h : Tab w (BL bl bg bn b1 ba v1 v2 ok g n k1 n1 k2 n2 base p q sz ed kn)) (x y : Int) (z : Bool) :
    Tab (((w.setCell ⟨bl, 0, none⟩ (.int .i64 x)).setCell ⟨bl, 1, none⟩ (.int .i64 y)).setCell ⟨bl, 2, none⟩ (.bool z)) (BL bl bg bn b1 ba x y z g n k1 n1 k2 n2 base p q sz ed kn) := by
  have N : ∀ (l : List (Nat × List Value)) (c0 c1 c2 c3 c4 : List Value), l = [(bl, c0), (bg, c1), (bn, c2), (b1, c3), (ba, c4)] → ∀ (j b' : Nat) (vs' : List Value), l[j]? = some (b', vs') → j ≠ 0 → b' ≠ bl := by
    intro l c0 c1 c2 c3 c4 e j b' vs' hj ne
    subst e
    match j, ne, hj with
    | 1, _, hj => simp at hj; rw [← hj.1]; exact D.h1.symm
    | 2, _, hj => simp at hj; rw [← hj.1]; exact D.h2.symm
    | 3, _, hj => simp at hj; rw [← hj.1]; exact D.h3.symm
    | 4, _, hj => simp at hj; rw [← hj.1]; exact D.h4.symm
    | k + 5, _, hj => simp at hj
  have T1 := h.set 0 0 (.int .i64 x) rfl (N _ _ _ _ _ _ rfl)
  have T2 := T1.set 0 1 (.int .i64 y) rfl (N _ _ _ _ _ _ rfl)
  exact T2.set 0 2 (.bool z) rfl (N _ _ _ _ _ _ rfl)
theorem BL.set1 {bl bg bn b1 ba : Nat} (D : Dif5 bl bg bn b1 ba) {v1 v2 : Int} {ok : Bool} {g n k1 n1 k2 n2 base p q sz ed : Int} {kn : Bool} {w : World} (h : Tab w (BL bl bg bn b1 ba v1 v2 ok g n k1 n1 k2 n2 base p q sz ed kn)) (x : Int) :
    Tab (w.setCell ⟨bg, 0, none⟩ (.int .i64 x)) (BL bl bg bn b1 ba v1 v2 ok x n k1 n1 k2 n2 base p q sz ed kn) := by
  refine h.set 1 0 (.int .i64 x) rfl ?_
  intro j b' vs' hj ne
  match j, ne, hj with
  | 0, _, hj => simp [BL] at hj; rw [← hj.1]; exact D.h1
  | 2, _, hj => simp [BL] at hj; rw [← hj.1]; exact D.h5.symm
  | 3, _, hj => simp [BL] at hj; rw [← hj.1]; exact D.h6.symm
  | 4, _, hj => simp [BL] at hj; rw [← hj.1]; exact D.h7.symm
  | k + 5, _, hj => simp [BL] at hj
theorem BL.vars {bl bg bn b1 ba : Nat} {v1 v2 : Int} {ok : Bool} {g n k1 n1 k2 n2 base p q sz ed : Int} {kn : Bool} {w : World} (h : Tab w (BL bl bg bn b1 ba v1 v2 ok g n k1 n1 k2 n2 base p q sz ed kn)) : Vars w (lim4 bl bg v1 v2 ok g) := fun x hx => by
  simp only [lim4, List.mem_cons, List.not_mem_nil, or_false] at hx
  rcases hx with rfl | rfl | rfl | rfl
  · exact ⟨h.cell 0 0 rfl rfl, h.froz 0 0 rfl rfl⟩
  · exact ⟨h.cell 0 1 rfl rfl, h.froz 0 1 rfl rfl⟩
  · exact ⟨h.cell 0 2 rfl rfl, h.froz 0 2 rfl rfl⟩
  · exact ⟨h.cell 1 0 rfl rfl, h.froz 1 0 rfl rfl⟩
set_option maxHeartbeats 4000000 in
theorem zl1_any (bl bg bn b1 ba : Nat) (D : Dif5 bl bg bn b1 ba) (n k1 n1 k2 n2 base p q sz ed v1 v2 e1 e2 : Int) (kn ok : Bool) (w : World) (hT : Tab w (BL bl bg bn b1 ba 0 0 false 0 n k1 n1 k2 n2 base p q sz ed kn))
    (hF : ∀ w, Calls Try.prog 36 #[.agg #[.int .i64 k1, .int .i64 n1], .agg #[.int .i64 k2, .int .i64 n2], .agg #[.int .i64 base, .bool kn, .int .i64 p, .int .i64 q, .int .i64 sz, .int .i64 ed]] w fun e w' => BtR v1 v2 ok e1 e2 e ∧ Below w.heap.size w w') :
    Calls Try.prog 35 #[.pointer (some ⟨b1, 0, none⟩), .pointer (some ⟨ba, 0, none⟩), .pointer (some ⟨bl, 0, none⟩), .pointer (some ⟨bn, 0, none⟩), .pointer (some ⟨bg, 0, none⟩)] w fun e w' =>
      ((e1 = 0 ∧ e2 = 0 ∧ e = .returned (.tuple #[]) ∧ Vars w' (lim4 bl bg v1 v2 ok (within n v1 v2 ok))) ∨ (e1 ≠ 0 ∧ e = .panicked (gave e1)) ∨ (e1 = 0 ∧ e2 ≠ 0 ∧ e = .panicked (gave e2))) ∧ But [bl, bg] w w' := by
  have HF := Lib.hid hF
  have HT := Lib.hid hT
  have HD := Lib.hid D
  have ZL := Lib.hid zlof_any
  have a0 := hT.cell 3 0 rfl rfl
  have a1 := hT.cell 3 1 rfl rfl
  have a2 := hT.cell 3 2 rfl rfl
  have a3 := hT.cell 3 3 rfl rfl
  have c0 := hT.cell 4 0 rfl rfl
  have c1 := hT.cell 4 1 rfl rfl
  have c2 := hT.cell 4 2 rfl rfl
  have c3 := hT.cell 4 3 rfl rfl
  have c4 := hT.cell 4 4 rfl rfl
  have c5 := hT.cell 4 5 rfl rfl
  obtain ⟨N1, N2, N3, N4, N5, N6, N7⟩ := D
  have N2' : ¬ bn = bl := fun h => N2 h.symm
  have N1' : ¬ bg = bl := fun h => N1 h.symm
  clear hF hT N3 N4 N6 N7
  go_enter Try.func35, Try.ntmps35
  go_wp2_with fail
  refine (HF.out _).mono ?_
  rintro e w1 ⟨he, hb⟩
  have T1 := Lib.hid (HT.out.later hb)
  have B1 := Lib.hid (But.of (bs := [bl, bg]) hb)
  clear hb a0 a1 a2 a3 c0 c1 c2 c3 c4 c5
  rcases he with ⟨rfl, rfl, rfl⟩ | ⟨hz, rfl⟩ | ⟨hz, hy, rfl⟩
  · have d0 := T1.out.cell 0 0 rfl rfl
    have d1 := T1.out.cell 0 1 rfl rfl
    have d2 := T1.out.cell 0 2 rfl rfl
    have f0 := T1.out.froz 0 0 rfl rfl
    have f1 := T1.out.froz 0 1 rfl rfl
    have f2 := T1.out.froz 0 2 rfl rfl
    have g0 := T1.out.cell 2 0 rfl rfl
    have T2 := Lib.hid (BL.set0 HD.out T1.out v1 v2 ok)
    have B2 := Lib.hid (((B1.out.setCell (p := ⟨bl, 0, none⟩) (.inl (by simp)) (.int .i64 v1)).setCell (p := ⟨bl, 1, none⟩) (.inl (by simp)) (.int .i64 v2)).setCell (p := ⟨bl, 2, none⟩) (.inl (by simp)) (.bool ok))
    go_wp2_with fail
    refine (ZL.out n v1 v2 ok _).mono ?_
    rintro e w2 ⟨rfl, hb⟩
    have T3 := Lib.hid (T2.out.later hb)
    have B3 := Lib.hid (B2.out.trans (But.of (bs := [bl, bg]) hb))
    clear hb T2 B2 d0 d1 d2 f0 f1 f2 g0
    have d0 := T3.out.cell 1 0 rfl rfl
    have f0 := T3.out.froz 1 0 rfl rfl
    go_wp2_with fail
    go_end0
    first
    | exact ⟨.inl ⟨rfl, rfl, rfl, BL.vars (BL.set1 HD.out T3.out _)⟩, B3.out.setCell (.inl (by simp)) _⟩
    | exact ⟨⟨rfl, BL.vars (BL.set1 HD.out T3.out _)⟩, B3.out.setCell (.inl (by simp)) _⟩
  · exact ⟨rfl, .inr (.inl ⟨hz, rfl⟩), B1.out⟩
  · exact ⟨rfl, .inr (.inr ⟨hz, hy, rfl⟩), B1.out⟩
theorem zl_try (bl bg bn b1 ba : Nat) (D : Dif5 bl bg bn b1 ba) (n k1 n1 k2 n2 base p q sz ed v1 v2 e1 e2 er : Int) (kn ok : Bool) (w : World) (hT : Tab w (BL bl bg bn b1 ba 0 0 false 0 n k1 n1 k2 n2 base p q sz ed kn)) (her : er = if e1 = 0 then e2 else e1)
    (hF : ∀ w, Calls Try.prog 36 #[.agg #[.int .i64 k1, .int .i64 n1], .agg #[.int .i64 k2, .int .i64 n2], .agg #[.int .i64 base, .bool kn, .int .i64 p, .int .i64 q, .int .i64 sz, .int .i64 ed]] w fun e w' => BtR v1 v2 ok e1 e2 e ∧ Below w.heap.size w w') :
    Calls Try.prog 12 #[.func (.func 35) #[] #[.pointer (some ⟨b1, 0, none⟩), .pointer (some ⟨ba, 0, none⟩), .pointer (some ⟨bl, 0, none⟩), .pointer (some ⟨bn, 0, none⟩), .pointer (some ⟨bg, 0, none⟩)]] w fun e w' => e = .returned (.int .i64 er) ∧ But [bl, bg] w w' ∧ (er = 0 → Vars w' (lim4 bl bg v1 v2 ok (within n v1 v2 ok))) := by
  have ba' : Below w.heap.size w (w.alloc (.cells #[.int .i64 0] 29)) := (Below.refl _ _).alloc (Nat.le_refl _) _
  have l1 := hT.lt 0 rfl
  have l2 := hT.lt 1 rfl
  have lv : ∀ x ∈ lim4 bl bg v1 v2 ok (within n v1 v2 ok), x.1.block < w.heap.size := fun x hx => by
    simp only [lim4, List.mem_cons, List.not_mem_nil, or_false] at hx
    rcases hx with rfl | rfl | rfl | rfl <;> assumption
  have C := zl1_any bl bg bn b1 ba D n k1 n1 k2 n2 base p q sz ed v1 v2 e1 e2 kn ok _ (hT.later ba') hF
  by_cases z1 : e1 = 0
  · by_cases z2 : e2 = 0
    · have : er = 0 := by rw [her, if_pos z1]; exact z2
      subst this
      refine (tryB_ret 35 _ [bl, bg] (lim4 bl bg v1 v2 ok (within n v1 v2 ok)) w (two_lt l1 l2) lv (fun _ => by kernel_rfl) (C.mono ?_)).mono (fun e w' h => ⟨h.1, h.2.1, fun _ => h.2.2⟩)
      rintro e w' ⟨h | h | h, hb⟩
      · exact ⟨h.2.2.1, hb, h.2.2.2⟩
      · exact absurd z1 h.1
      · exact absurd z2 h.2.1
    · have : er = e2 := by rw [her, if_pos z1]
      subst this
      refine (tryB_gave 35 _ er [bl, bg] [] w (two_lt l1 l2) (fun x hx => by cases hx) (fun _ => by kernel_rfl) (C.mono ?_)).mono (fun e w' h => ⟨h.1, h.2.1, fun z => absurd z z2⟩)
      rintro e w' ⟨h | h | h, hb⟩
      · exact absurd h.2.1 z2
      · exact absurd z1 h.1
      · exact ⟨h.2.2, hb, fun x hx => by cases hx⟩
  · have : er = e1 := by rw [her, if_neg z1]
    subst this
    refine (tryB_gave 35 _ er [bl, bg] [] w (two_lt l1 l2) (fun x hx => by cases hx) (fun _ => by kernel_rfl) (C.mono ?_)).mono (fun e w' h => ⟨h.1, h.2.1, fun z => absurd z z1⟩)
    rintro e w' ⟨h | h | h, hb⟩
    · exact absurd h.1 z1
    · exact ⟨h.2, hb, fun x hx => by cases hx⟩
    · exact absurd h.1 z1
end Go.Proofs.Ytbolifjkhoiphaa
