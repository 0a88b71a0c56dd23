/- The walk of RectPixels. -/
import Derived.Test.YtlkpegfbnmecpaaLawRect0
import Derived.Test.YtlkpegfbnmecpaaRegT
import Derived.WalkKit
import Derived.WalkSpells
import Derived.WalkLawsBesides
import Derived.Handy
import Derived.Lib.Hide
import Derived.Deep.QuietTactic
import Derived.BigQuiet
import Derived.LoopTactic
import Derived.Deep.RegionHeld3
import Derived.Deep.RegionWith
import Derived.Outline
import Derived.Deep.DeepCutAuto
namespace Go.Proofs.Ytlkpegfbnmecpaa
open Go.RowKit Go.Proofs.Reg
set_option linter.unusedVariables false
set_option linter.unusedSimpArgs false
set_option maxRecDepth 100000
theorem em_cases {A B C D : Int} (r : Rgt A B C D) : (emB A B C D = true ∧ A = 0 ∧ B = 0 ∧ C = 0 ∧ D = 0) ∨ (emB A B C D = false ∧ -1073741824 ≤ A ∧ A < C ∧ C ≤ 1073741824 ∧ -1073741824 ≤ B ∧ B < D ∧ D ≤ 1073741824) := by
  unfold Rgt at r
  rcases r with ⟨rfl, rfl, rfl, rfl⟩ | ⟨h1, h2, h3, h4, h5, h6⟩
  · exact .inl ⟨rfl, rfl, rfl, rfl, rfl⟩
  · refine .inr ⟨?_, h1, h2, h3, h4, h5, h6⟩
    unfold emB
    by_cases a : A = 0
    · have : ¬ C = 0 := by omega
      simp [this]
    · simp [a]
/-- the four ways two rectangles may be empty -/
theorem hul_cases {A B C D E F G H X Y Z T : Int} (h : HulR A B C D E F G H X Y Z T) (r : Rgt A B C D) (s : Rgt E F G H) :
    (A = 0 ∧ B = 0 ∧ C = 0 ∧ D = 0 ∧ emB A B C D = true ∧ X = E ∧ Y = F ∧ Z = G ∧ T = H) ∨
    (emB A B C D = false ∧ E = 0 ∧ F = 0 ∧ G = 0 ∧ H = 0 ∧ emB E F G H = true ∧ X = A ∧ Y = B ∧ Z = C ∧ T = D ∧ -1073741824 ≤ A ∧ A < C ∧ C ≤ 1073741824 ∧ -1073741824 ≤ B ∧ B < D ∧ D ≤ 1073741824) ∨
    (emB A B C D = false ∧ emB E F G H = false ∧ X = min A E ∧ Y = min B F ∧ Z = max C G ∧ T = max D H ∧ (-1073741824 ≤ A ∧ A < C ∧ C ≤ 1073741824 ∧ -1073741824 ≤ B ∧ B < D ∧ D ≤ 1073741824) ∧ (-1073741824 ≤ E ∧ E < G ∧ G ≤ 1073741824 ∧ -1073741824 ≤ F ∧ F < H ∧ H ≤ 1073741824)) := by
  unfold HulR at h
  rcases em_cases r with ⟨e1, q1, q2, q3, q4⟩ | ⟨e1, b1, b2, b3, b4, b5, b6⟩
  · rcases h with ⟨_, x1, x2, x3, x4⟩ | ⟨k, _⟩ | ⟨k, _⟩
    · exact .inl ⟨q1, q2, q3, q4, e1, x1, x2, x3, x4⟩
    · rw [e1] at k; cases k
    · rw [e1] at k; cases k
  · rcases h with ⟨k, _⟩ | ⟨_, k, x1, x2, x3, x4⟩ | ⟨_, k, x1, x2, x3, x4⟩
    · rw [e1] at k; cases k
    · rcases em_cases s with ⟨e2, p1, p2, p3, p4⟩ | ⟨e2, _⟩
      · exact .inr (.inl ⟨e1, p1, p2, p3, p4, e2, x1, x2, x3, x4, b1, b2, b3, b4, b5, b6⟩)
      · rw [e2] at k; cases k
    · rcases em_cases s with ⟨e2, _⟩ | ⟨e2, d1, d2, d3, d4, d5, d6⟩
      · rw [e2] at k; cases k
      · exact .inr (.inr ⟨e1, e2, x1, x2, x3, x4, ⟨b1, b2, b3, b4, b5, b6⟩, d1, d2, d3, d4, d5, d6⟩)
theorem hul_comm {A B C D E F G H X Y Z T : Int} (h : HulR A B C D E F G H X Y Z T) (r : Rgt A B C D) (s : Rgt E F G H) : HulR E F G H A B C D X Y Z T := by
  unfold HulR
  rcases hul_cases h r s with ⟨q1, q2, q3, q4, e1, x1, x2, x3, x4⟩ | ⟨e1, p1, p2, p3, p4, e2, x1, x2, x3, x4, _⟩ | ⟨e1, e2, x1, x2, x3, x4, _, _⟩
  · rcases em_cases s with ⟨e2, p1, p2, p3, p4⟩ | ⟨e2, _⟩
    · exact .inl ⟨e2, by omega, by omega, by omega, by omega⟩
    · exact .inr (.inl ⟨e2, e1, x1, x2, x3, x4⟩)
  · exact .inl ⟨e2, x1, x2, x3, x4⟩
  · exact .inr (.inr ⟨e2, e1, by omega, by omega, by omega, by omega⟩)
theorem nrm_comm {A B C D E F G H P Q R S : Int} (h : Nrm (max A E) (max B F) (min C G) (min D H) P Q R S) : Nrm (max E A) (max F B) (min G C) (min H D) P Q R S := by
  rw [Int.max_comm E A, Int.max_comm F B, Int.min_comm G C, Int.min_comm H D]
  exact h
theorem hul_rgt {A B C D E F G H X Y Z T : Int} (h : HulR A B C D E F G H X Y Z T) (r : Rgt A B C D) (s : Rgt E F G H) : Rgt X Y Z T := by
  rcases hul_cases h r s with ⟨q1, q2, q3, q4, e1, x1, x2, x3, x4⟩ | ⟨e1, p1, p2, p3, p4, e2, x1, x2, x3, x4, _⟩ | ⟨e1, e2, x1, x2, x3, x4, k1, k2⟩
  · rw [x1, x2, x3, x4]; exact s
  · rw [x1, x2, x3, x4]; exact r
  · exact .inr (by omega)
/-- within the bounds a part of both is as it stands -/
theorem and_cases {A B C D E F G H P Q R S : Int} (n : Nrm (max A E) (max B F) (min C G) (min D H) P Q R S) (r : Rgt A B C D) (s : Rgt E F G H) :
    (max A E < min C G ∧ max B F < min D H ∧ P = max A E ∧ Q = max B F ∧ R = min C G ∧ S = min D H) ∨ ((min C G ≤ max A E ∨ min D H ≤ max B F) ∧ P = 0 ∧ Q = 0 ∧ R = 0 ∧ S = 0) := by
  have l1 : lim (max A E) = max A E := by unfold Rgt at r s; unfold lim; omega
  have l2 : lim (max B F) = max B F := by unfold Rgt at r s; unfold lim; omega
  have l3 : lim (min C G) = min C G := by unfold Rgt at r s; unfold lim; omega
  have l4 : lim (min D H) = min D H := by unfold Rgt at r s; unfold lim; omega
  unfold Nrm at n
  rw [l1, l2, l3, l4] at n
  exact n
theorem has_and {A B C D E F G H P Q R S x y : Int} (n : Nrm (max A E) (max B F) (min C G) (min D H) P Q R S) (r : Rgt A B C D) (s : Rgt E F G H) : hasB P Q R S x y = (hasB A B C D x y && hasB E F G H x y) := by
  rw [Bool.eq_iff_iff]
  unfold hasB
  simp only [Bool.and_eq_true, decide_eq_true_eq]
  rcases and_cases n r s with ⟨k1, k2, rfl, rfl, rfl, rfl⟩ | ⟨k, rfl, rfl, rfl, rfl⟩
  · omega
  · omega
theorem has_hul {A B C D E F G H X Y Z T x y : Int} (h : HulR A B C D E F G H X Y Z T) (r : Rgt A B C D) (s : Rgt E F G H) (k : hasB A B C D x y = true ∨ hasB E F G H x y = true) : hasB X Y Z T x y = true := by
  unfold hasB at *
  simp only [Bool.and_eq_true, decide_eq_true_eq] at *
  rcases hul_cases h r s with ⟨q1, q2, q3, q4, e1, x1, x2, x3, x4⟩ | ⟨e1, p1, p2, p3, p4, e2, x1, x2, x3, x4, _⟩ | ⟨e1, e2, x1, x2, x3, x4, k1, k2⟩ <;> rcases k with k | k <;> omega
theorem nrm_of {a b c d A B C D : Int} (r : Rgt A B C D) (h1 : A = a ∨ (A = 0 ∧ B = 0 ∧ C = 0 ∧ D = 0)) (h : (a = A ∧ b = B ∧ c = C ∧ d = D ∧ A < C ∧ B < D) ∨ ((lim c ≤ lim a ∨ lim d ≤ lim b) ∧ A = 0 ∧ B = 0 ∧ C = 0 ∧ D = 0)) : Nrm a b c d A B C D := by
  rcases h with ⟨rfl, rfl, rfl, rfl, k1, k2⟩ | h
  · exact r.nrm
  · exact .inr h
/-- what one holds of the other -/
theorem and_hul {A B C D E F G H X Y Z T : Int} (h : HulR A B C D E F G H X Y Z T) (r : Rgt A B C D) (s : Rgt E F G H) : Nrm (max X A) (max Y B) (min Z C) (min T D) A B C D ∧ Nrm (max X E) (max Y F) (min Z G) (min T H) E F G H := by
  have zero : ∀ {a b c d A B C D : Int}, A = 0 → B = 0 → C = 0 → D = 0 → c ≤ a → Nrm a b c d A B C D := fun h1 h2 h3 h4 k => .inr ⟨.inl (by unfold lim; omega), h1, h2, h3, h4⟩
  have same : ∀ {a b c d A B C D : Int}, Rgt A B C D → a = A → b = B → c = C → d = D → Nrm a b c d A B C D := fun k h1 h2 h3 h4 => by subst h1 h2 h3 h4; exact k.nrm
  rcases hul_cases h r s with ⟨q1, q2, q3, q4, e1, x1, x2, x3, x4⟩ | ⟨e1, p1, p2, p3, p4, e2, x1, x2, x3, x4, k⟩ | ⟨e1, e2, x1, x2, x3, x4, k1, k2⟩
  · refine ⟨?_, same s (by omega) (by omega) (by omega) (by omega)⟩
    by_cases c : min Z C ≤ max X A
    · exact zero q1 q2 q3 q4 c
    · rw [x1, x3] at c
      exact absurd q1 (by omega)
  · refine ⟨same r (by omega) (by omega) (by omega) (by omega), ?_⟩
    by_cases c : min Z G ≤ max X E
    · exact zero p1 p2 p3 p4 c
    · rw [x1, x3] at c
      exact absurd p1 (by omega)
  · exact ⟨same r (by omega) (by omega) (by omega) (by omega), same s (by omega) (by omega) (by omega) (by omega)⟩
theorem and_and {A B C D E F G H P Q R S : Int} (n : Nrm (max A E) (max B F) (min C G) (min D H) P Q R S) (r : Rgt A B C D) (s : Rgt E F G H) : Nrm (max A P) (max B Q) (min C R) (min D S) P Q R S ∧ Nrm (max E P) (max F Q) (min G R) (min H S) P Q R S := by
  have same : ∀ {a b c d A B C D : Int}, Rgt A B C D → a = A → b = B → c = C → d = D → Nrm a b c d A B C D := fun k h1 h2 h3 h4 => by subst h1 h2 h3 h4; exact k.nrm
  have rP := n.rgt
  rcases and_cases n r s with ⟨k1, k2, h1, h2, h3, h4⟩ | ⟨k, h1, h2, h3, h4⟩
  · exact ⟨same rP (by omega) (by omega) (by omega) (by omega), same rP (by omega) (by omega) (by omega) (by omega)⟩
  · subst h1 h2 h3 h4
    refine ⟨.inr ⟨.inl ?_, rfl, rfl, rfl, rfl⟩, .inr ⟨.inl ?_, rfl, rfl, rfl, rfl⟩⟩ <;> unfold lim <;> omega
theorem and_nil {A B C D : Int} (r : Rgt A B C D) : Nrm (max A 0) (max B 0) (min C 0) (min D 0) 0 0 0 0 := by
  refine .inr ⟨.inl ?_, rfl, rfl, rfl, rfl⟩
  unfold lim
  omega
theorem nil_nrm : Nrm 0 0 0 0 0 0 0 0 := by unfold Nrm lim; omega
theorem holds_has {E F G H P Q R S x y : Int} {A B C D : Int} (n : Nrm (max A E) (max B F) (min C G) (min D H) P Q R S) (r : Rgt A B C D) (s : Rgt E F G H) (k : eq4 P Q R S E F G H = true) (l : hasB E F G H x y = true) : hasB A B C D x y = true := by
  unfold eq4 at k
  simp only [Bool.and_eq_true, beq_iff_eq] at k
  obtain ⟨⟨⟨rfl, rfl⟩, rfl⟩, rfl⟩ := k
  have := has_and (x := x) (y := y) n r s
  rw [l] at this
  simpa using this.symm
theorem rect_neqself (a b c d : Int) (w : World) : (binOp BinOp.neq 40 (rv a b c d) (rv a b c d)).run Try.prog w = .ok (.bool false) w := by
  unfold rv
  simp [go_sem]
set_option maxHeartbeats 8000000 in
theorem law_pixels6 (a b c d e f g h x y : Int) (ia : I64 a) (ib : I64 b) (ic : I64 c) (id : I64 d) (ie : I64 e) (jf : I64 f) (ig : I64 g) (ih : I64 h) (ix : I64 x) (iy : I64 y) (w : World) :
    Calls Try.prog 9 #[rv a b c d, rv e f g h, .agg #[.int .i64 x, .int .i64 y]] w fun e w' => e = .returned (.bool true) ∧ Below w.heap.size w w' := by
  obtain ⟨A, B, C, D, n1⟩ := nrm_ex a b c d
  obtain ⟨E, F, G, H, n2⟩ := nrm_ex e f g h
  have rA := n1.rgt
  have rE := n2.rgt
  obtain ⟨P, Q, R, S, nP⟩ := nrm_ex (max A E) (max B F) (min C G) (min D H)
  obtain ⟨X, Y, Z, T, hX⟩ := hul_ex A B C D E F G H
  have rP := nP.rgt
  have rX := hul_rgt hX rA rE
  obtain ⟨iA, iB, iC, iD⟩ := rA.i64
  obtain ⟨iE, iF, iG, iH⟩ := rE.i64
  obtain ⟨iP, iQ, iR, iS⟩ := rP.i64
  obtain ⟨iX, iY, iZ, iT⟩ := rX.i64
  have M1 := Lib.hid (made6_any a b c d)
  have M2 := Lib.hid (made6_any e f g h)
  have NA := Lib.hid (xand_any a b c d A B C D e f g h E F G H ia ib ic id n1 ie jf ig ih n2 P Q R S nP)
  have NA2 := Lib.hid (xand_any e f g h E F G H a b c d A B C D ie jf ig ih n2 ia ib ic id n1 P Q R S (nrm_comm nP))
  have NH := Lib.hid (xhull_any a b c d A B C D e f g h E F G H ia ib ic id n1 ie jf ig ih n2 X Y Z T hX)
  have NH2 := Lib.hid (xhull_any e f g h E F G H a b c d A B C D ie jf ig ih n2 ia ib ic id n1 X Y Z T (hul_comm hX rA rE))
  have Ha := Lib.hid (xhas_any a b c d A B C D x y ia ib ic id n1)
  have Hb := Lib.hid (xhas_any e f g h E F G H x y ie jf ig ih n2)
  have Hn := Lib.hid (xhas_any P Q R S P Q R S x y iP iQ iR iS rP.nrm)
  have Hh := Lib.hid (xhas_any X Y Z T X Y Z T x y iX iY iZ iT rX.nrm)
  have O1 := Lib.hid (xholds_any a b c d A B C D e f g h E F G H ia ib ic id n1 ie jf ig ih n2 P Q R S nP)
  have O2 := Lib.hid (xholds_any X Y Z T X Y Z T a b c d A B C D iX iY iZ iT rX.nrm ia ib ic id n1 A B C D (and_hul hX rA rE).1)
  have O3 := Lib.hid (xholds_any X Y Z T X Y Z T e f g h E F G H iX iY iZ iT rX.nrm ie jf ig ih n2 E F G H (and_hul hX rA rE).2)
  have O4 := Lib.hid (xholds_any a b c d A B C D P Q R S P Q R S ia ib ic id n1 iP iQ iR iS rP.nrm P Q R S (and_and nP rA rE).1)
  have O5 := Lib.hid (xholds_any e f g h E F G H P Q R S P Q R S ie jf ig ih n2 iP iQ iR iS rP.nrm P Q R S (and_and nP rA rE).2)
  have O6 := Lib.hid (xholds_any a b c d A B C D 0 0 0 0 0 0 0 0 ia ib ic id n1 (by decide) (by decide) (by decide) (by decide) nil_nrm 0 0 0 0 (and_nil rA))
  rw [eq4_self] at O2 O3 O4 O5 O6
  have R1 := Lib.hid (xright_any X Y Z T X Y Z T iX iY iZ iT rX.nrm)
  have R2 := Lib.hid (xright_any a b c d A B C D ia ib ic id n1)
  have R3 := Lib.hid (xright_any e f g h E F G H ie jf ig ih n2)
  have EA := Lib.hid (xempty_any a b c d A B C D ia ib ic id n1)
  have EE := Lib.hid (xempty_any e f g h E F G H ie jf ig ih n2)
  have QA : Hid (∀ w : World, (binOp BinOp.neq 40 (.agg #[.int .i64 P, .int .i64 Q, .int .i64 R, .int .i64 S]) (.agg #[.int .i64 P, .int .i64 Q, .int .i64 R, .int .i64 S])).run Try.prog w = .ok (.bool false) w) := Lib.hid (rect_neqself P Q R S)
  have QH : Hid (∀ w : World, (binOp BinOp.neq 40 (.agg #[.int .i64 X, .int .i64 Y, .int .i64 Z, .int .i64 T]) (.agg #[.int .i64 X, .int .i64 Y, .int .i64 Z, .int .i64 T])).run Try.prog w = .ok (.bool false) w) := Lib.hid (rect_neqself X Y Z T)
  have QX : Hid (∀ w : World, (binOp BinOp.eql 40 (.agg #[.int .i64 X, .int .i64 Y, .int .i64 Z, .int .i64 T]) (.agg #[.int .i64 X, .int .i64 Y, .int .i64 Z, .int .i64 T])).run Try.prog w = .ok (.bool true) w) := Lib.hid (fun w => by
    have := rect_eql X Y Z T X Y Z T w
    rw [show ((X == X) && (Y == Y) && (Z == Z) && (T == T)) = true by simp] at this
    exact this)
  have CB : Hid ((hasB A B C D x y = true ∨ hasB E F G H x y = true) → hasB X Y Z T x y = true) := Lib.hid (has_hul hX rA rE)
  have CN : Hid (hasB P Q R S x y = (hasB A B C D x y && hasB E F G H x y)) := Lib.hid (has_and nP rA rE)
  have CH : Hid (eq4 P Q R S E F G H = true → hasB E F G H x y = true → hasB A B C D x y = true) := Lib.hid (fun k l => holds_has nP rA rE k l)
  have HX := Lib.hid hX
  obtain ⟨ha, eha⟩ : ∃ v, hasB A B C D x y = v := ⟨_, rfl⟩
  obtain ⟨hb, ehb⟩ : ∃ v, hasB E F G H x y = v := ⟨_, rfl⟩
  obtain ⟨hn, ehn⟩ : ∃ v, hasB P Q R S x y = v := ⟨_, rfl⟩
  obtain ⟨hh, ehh⟩ : ∃ v, hasB X Y Z T x y = v := ⟨_, rfl⟩
  obtain ⟨ho, eho⟩ : ∃ v, eq4 P Q R S E F G H = v := ⟨_, rfl⟩
  rw [eha] at Ha CB CN CH
  rw [ehb] at Hb CB CN CH
  rw [ehn] at Hn CN
  rw [ehh] at Hh CB
  rw [eho] at O1 CH
  clear n1 n2 nP hX rA rE rP rX eha ehb ehn ehh eho
  unfold rv at M1 M2 NA NA2 NH NH2 Ha Hb Hn Hh O1 O2 O3 O4 O5 O6 R1 R2 R3 EA EE ⊢
  go_enter Try.func9, Try.ntmps9
  go_wp2_with fail
  refine (speaks6_any _).mono ?_
  rintro en w1 ⟨rfl, hb1⟩
  have KT := Lib.hid (((((Tab.nil w).new' [.int .i64 a, .int .i64 b, .int .i64 c, .int .i64 d] 38 rfl).new' [.int .i64 e, .int .i64 f, .int .i64 g, .int .i64 h] 38 (by simp : w.heap.size + 1 = _)).new' [.int .i64 x, .int .i64 y] 55 (by simp : w.heap.size + 1 + 1 = _)).later hb1)
  have KB : Hid (Below w.heap.size w w1) := Lib.hid (bel_tr0 (by go_grown) hb1)
  clear hb1
  go_wp2_with fail
  have HN : Hid (w.heap.size ≤ w1.heap.size) := Lib.hid KB.out.size
  have HT : Hid (∀ (kz bz : Nat) (uz : List Value), [(w.heap.size + 1 + 1, [.int .i64 x, .int .i64 y]), (w.heap.size + 1, [.int .i64 e, .int .i64 f, .int .i64 g, .int .i64 h]), (w.heap.size, [.int .i64 a, .int .i64 b, .int .i64 c, .int .i64 d])][kz]? = some (bz, uz) → bz < w1.heap.size) := Lib.hid (KT.out.lts rfl)
  have FD : ([4, 5, 6, 7].Nodup) := by decide
  refine wp_region_vals [some (.agg #[.int .i64 a, .int .i64 b, .int .i64 c, .int .i64 d]), some (.agg #[.int .i64 a, .int .i64 b, .int .i64 c, .int .i64 d]), some (.agg #[.int .i64 e, .int .i64 f, .int .i64 g, .int .i64 h]), some (.agg #[.int .i64 e, .int .i64 f, .int .i64 g, .int .i64 h]), none, none, none, none] (fun Lz vz wy => Below w.heap.size w wy ∧ Tab wy [(w.heap.size + 1 + 1, [.int .i64 x, .int .i64 y]), (w.heap.size + 1, [.int .i64 e, .int .i64 f, .int .i64 g, .int .i64 h]), (w.heap.size, [.int .i64 a, .int .i64 b, .int .i64 c, .int .i64 d])] ∧ w1.heap.size ≤ wy.heap.size ∧ Fresh (w1.heap.size) [(4, 6, [.int .i64 0, .int .i64 0, .int .i64 0, .int .i64 0], [.int .i64 a, .int .i64 b, .int .i64 c, .int .i64 d]), (5, 7, [.int .i64 0, .int .i64 0, .int .i64 0, .int .i64 0], [.int .i64 e, .int .i64 f, .int .i64 g, .int .i64 h])] Lz vz wy)
    [some 18, some 19, some 20, some 21, some 7, some 8, none, none] (by kernel_rfl) (by kernel_rfl) (by kernel_rfl) (by kernel_rfl) (by kernel_rfl) (by kernel_rfl) ⟨KB.out.drew, KT.out.later ((Below.refl _ _).drew), Nat.le_refl _, Fresh.start _ _ _ _⟩ (fun i o ho => ?_) (fun Lz vz wz hL hB => ?_)
  · match i, ho with
    | 0, ho =>
      obtain rfl := Option.some.inj ho
      intro Az Lz vz wy Kz Ez hB k
      have e3 : Az.eval (.tmp 3) = .pointer (some ⟨w.heap.size, 0, none⟩) := Ez.out 3 (by kernel_rfl)
      have c2_0 := hB.2.1.cell 2 0 rfl rfl
      have c2_1 := hB.2.1.cell 2 1 rfl rfl
      have c2_2 := hB.2.1.cell 2 2 rfl rfl
      have c2_3 := hB.2.1.cell 2 3 rfl rfl
      exact wpo_val (v := .agg #[.int .i64 a, .int .i64 b, .int .i64 c, .int .i64 d]) (run_load e3 (by simp [go_sem, c2_0, c2_1, c2_2, c2_3])) (k _ _ rfl ⟨hB.1, hB.2.1, hB.2.2.1, hB.2.2.2.other 0 _ (fresh_ne rfl)⟩)
    | 1, ho =>
      obtain rfl := Option.some.inj ho
      intro Az Lz vz wy Kz Ez hB k
      have e18 : Az.eval (.tmp 18) = .agg #[.int .i64 a, .int .i64 b, .int .i64 c, .int .i64 d] := Ez.dep 0 18 (by kernel_rfl) rfl
      refine wpo_call (run_callW (fun _ _ => by kernel_rfl)) (R := fun ez w' => ez = .returned (.agg #[.int .i64 a, .int .i64 b, .int .i64 c, .int .i64 d]) ∧ Below wy.heap.size wy w') ?_ ?_
      · simp only [List.map_toArray, List.map_cons, List.map_nil, eval_const, e18]
        exact M1.out wy
      · rintro ez w' ⟨rfl, hb⟩
        exact ⟨_, rfl, k _ _ rfl ⟨bel_tr0 hB.1 hb, hB.2.1.later hb, Nat.le_trans hB.2.2.1 hb.size, (hB.2.2.2.later hb).other 1 _ (fresh_ne rfl)⟩⟩
    | 2, ho =>
      obtain rfl := Option.some.inj ho
      intro Az Lz vz wy Kz Ez hB k
      have e4 : Az.eval (.tmp 4) = .pointer (some ⟨w.heap.size + 1, 0, none⟩) := Ez.out 4 (by kernel_rfl)
      have c1_0 := hB.2.1.cell 1 0 rfl rfl
      have c1_1 := hB.2.1.cell 1 1 rfl rfl
      have c1_2 := hB.2.1.cell 1 2 rfl rfl
      have c1_3 := hB.2.1.cell 1 3 rfl rfl
      exact wpo_val (v := .agg #[.int .i64 e, .int .i64 f, .int .i64 g, .int .i64 h]) (run_load e4 (by simp [go_sem, c1_0, c1_1, c1_2, c1_3])) (k _ _ rfl ⟨hB.1, hB.2.1, hB.2.2.1, hB.2.2.2.other 2 _ (fresh_ne rfl)⟩)
    | 3, ho =>
      obtain rfl := Option.some.inj ho
      intro Az Lz vz wy Kz Ez hB k
      have e20 : Az.eval (.tmp 20) = .agg #[.int .i64 e, .int .i64 f, .int .i64 g, .int .i64 h] := Ez.dep 2 20 (by kernel_rfl) rfl
      refine wpo_call (run_callW (fun _ _ => by kernel_rfl)) (R := fun ez w' => ez = .returned (.agg #[.int .i64 e, .int .i64 f, .int .i64 g, .int .i64 h]) ∧ Below wy.heap.size wy w') ?_ ?_
      · simp only [List.map_toArray, List.map_cons, List.map_nil, eval_const, e20]
        exact M2.out wy
      · rintro ez w' ⟨rfl, hb⟩
        exact ⟨_, rfl, k _ _ rfl ⟨bel_tr0 hB.1 hb, hB.2.1.later hb, Nat.le_trans hB.2.2.1 hb.size, (hB.2.2.2.later hb).other 3 _ (fresh_ne rfl)⟩⟩
    | 4, ho =>
      obtain rfl := Option.some.inj ho
      intro Az Lz vz wy Kz Ez hB k
      have zs : Lz 6 = false := Ez.late 6 _ rfl (by kernel_rfl)
      exact wpo_val (run_alloc (by simp [go_sem])) (k _ _ trivial ⟨bel_al hB.1 _, hB.2.1.alloc _, by rw [World.size_alloc]; exact Nat.le_succ_of_le hB.2.2.1, hB.2.2.2.make FD 0 rfl zs hB.2.2.1 40⟩)
    | 5, ho =>
      obtain rfl := Option.some.inj ho
      intro Az Lz vz wy Kz Ez hB k
      have zs : Lz 7 = false := Ez.late 7 _ rfl (by kernel_rfl)
      exact wpo_val (run_alloc (by simp [go_sem])) (k _ _ trivial ⟨bel_al hB.1 _, hB.2.1.alloc _, by rw [World.size_alloc]; exact Nat.le_succ_of_le hB.2.2.1, hB.2.2.2.make FD 1 rfl zs hB.2.2.1 40⟩)
    | 6, ho =>
      obtain rfl := Option.some.inj ho
      intro Az Lz vz wy Kz Ez hB k
      have e19 : Az.eval (.tmp 19) = .agg #[.int .i64 a, .int .i64 b, .int .i64 c, .int .i64 d] := Ez.dep 1 19 (by kernel_rfl) rfl
      obtain ⟨q, hq, hn, hql, hc⟩ := hB.2.2.2.box 0 _ _ _ _ rfl (Ez.had 4 (by kernel_rfl))
      have zs : Lz 6 = false := Ez.not
      rw [zs] at hc
      have e7 : Az.eval (.tmp 7) = .pointer (some ⟨q, 0, none⟩) := (Ez.dep 4 7 (by kernel_rfl) rfl).trans hq
      obtain ⟨c0, f0⟩ := hc 0 _ rfl
      obtain ⟨c1, f1⟩ := hc 1 _ rfl
      obtain ⟨c2, f2⟩ := hc 2 _ rfl
      obtain ⟨c3, f3⟩ := hc 3 _ rfl
      exact wpo_skip (w' := sets wy q 0 [.int .i64 a, .int .i64 b, .int .i64 c, .int .i64 d]) (run_store e7 e19 (by simp [go_sem, sets, c0, f0, c1, f1, c2, f2, c3, f3])) (k _ _ trivial ⟨sets_below (Nat.le_trans HN.out hn) _ _ _ hB.1, hB.2.1.far HT.out hn _, by rw [sets_size]; exact hB.2.2.1, hB.2.2.2.fill FD 0 _ rfl zs (Ez.had 4 (by kernel_rfl)) hq rfl⟩)
    | 7, ho =>
      obtain rfl := Option.some.inj ho
      intro Az Lz vz wy Kz Ez hB k
      have e21 : Az.eval (.tmp 21) = .agg #[.int .i64 e, .int .i64 f, .int .i64 g, .int .i64 h] := Ez.dep 3 21 (by kernel_rfl) rfl
      obtain ⟨q, hq, hn, hql, hc⟩ := hB.2.2.2.box 1 _ _ _ _ rfl (Ez.had 5 (by kernel_rfl))
      have zs : Lz 7 = false := Ez.not
      rw [zs] at hc
      have e8 : Az.eval (.tmp 8) = .pointer (some ⟨q, 0, none⟩) := (Ez.dep 5 8 (by kernel_rfl) rfl).trans hq
      obtain ⟨c0, f0⟩ := hc 0 _ rfl
      obtain ⟨c1, f1⟩ := hc 1 _ rfl
      obtain ⟨c2, f2⟩ := hc 2 _ rfl
      obtain ⟨c3, f3⟩ := hc 3 _ rfl
      exact wpo_skip (w' := sets wy q 0 [.int .i64 e, .int .i64 f, .int .i64 g, .int .i64 h]) (run_store e8 e21 (by simp [go_sem, sets, c0, f0, c1, f1, c2, f2, c3, f3])) (k _ _ trivial ⟨sets_below (Nat.le_trans HN.out hn) _ _ _ hB.1, hB.2.1.far HT.out hn _, by rw [sets_size]; exact hB.2.2.1, hB.2.2.2.fill FD 1 _ rfl zs (Ez.had 5 (by kernel_rfl)) hq rfl⟩)
    | n + 8, ho => simp at ho
  · obtain ⟨hk, hT, hNz, hF⟩ := hB
    have KB := Lib.hid hk
    have KT := Lib.hid hT
    obtain ⟨q4, hq4, hn4, _, hc4⟩ := hF.box 0 _ _ _ _ rfl (hL 4 (by decide))
    rw [hL 6 (by decide)] at hc4
    obtain ⟨q5, hq5, hn5, _, hc5⟩ := hF.box 1 _ _ _ _ rfl (hL 5 (by decide))
    rw [hL 7 (by decide)] at hc5
    have hne5_4 : q5 ≠ q4 := fun e => hF.ne 1 0 _ _ _ _ _ _ _ _ rfl rfl (by decide) (hL 5 (by decide)) (hL 4 (by decide)) (by rw [hq5, hq4, e])
    have KT := Lib.hid (((KT.out.cons hc4).cons hc5))
    clear hF hc4 hc5
    clear hk hT hL
    simp only [puts2, mix, Act.put, List.setIfInBounds_toArray, List.set_cons_zero, List.set_cons_succ, Nat.zero_add, Nat.reduceAdd, List.getElem?_cons_zero, List.getElem?_cons_succ, hq4, hq5]
    clear hq4 hq5
    go_wp2_with fail
    refine wp_region_vals [some (.pointer (some ⟨w.heap.size + 1 + 1, 0, none⟩)), some (.int .i64 x), some (.pointer (some ⟨w.heap.size + 1 + 1, 1, none⟩)), some (.int .i64 y), some (.int .i64 x), some (.int .i64 y)] (fun Lz _ wy => Below w.heap.size w wy ∧ Tab wy [(q5, [.int .i64 e, .int .i64 f, .int .i64 g, .int .i64 h]), (q4, [.int .i64 a, .int .i64 b, .int .i64 c, .int .i64 d]), (w.heap.size + 1 + 1, [.int .i64 x, .int .i64 y]), (w.heap.size + 1, [.int .i64 e, .int .i64 f, .int .i64 g, .int .i64 h]), (w.heap.size, [.int .i64 a, .int .i64 b, .int .i64 c, .int .i64 d])])
      [some 22, some 23, some 24, some 25, some 9, some 10] (by kernel_rfl) (by kernel_rfl) (by kernel_rfl) (by kernel_rfl) (by kernel_rfl) (by kernel_rfl) ⟨KB.out.drew, KT.out.later ((Below.refl _ _).drew)⟩ (fun i o ho => ?_) (fun Lz vz wz hL hB => ?_)
    · match i, ho with
      | 0, ho =>
        obtain rfl := Option.some.inj ho
        intro Az Lz vz wy Kz Ez hB k
        have e5 : Az.eval (.tmp 5) = .pointer (some ⟨w.heap.size + 1 + 1, 0, none⟩) := Ez.out 5 (by kernel_rfl)
        exact wpo_val (v := .pointer (some ⟨w.heap.size + 1 + 1, 0, none⟩)) (run_index e5 rfl (by simp [go_sem])) (k _ _ rfl hB)
      | 1, ho =>
        obtain rfl := Option.some.inj ho
        intro Az Lz vz wy Kz Ez hB k
        have e22 : Az.eval (.tmp 22) = .pointer (some ⟨w.heap.size + 1 + 1, 0, none⟩) := Ez.dep 0 22 (by kernel_rfl) rfl
        have c2_0 := hB.2.cell 2 0 rfl rfl
        exact wpo_val (v := .int .i64 x) (run_load e22 (by simp [go_sem, c2_0])) (k _ _ rfl hB)
      | 2, ho =>
        obtain rfl := Option.some.inj ho
        intro Az Lz vz wy Kz Ez hB k
        have e5 : Az.eval (.tmp 5) = .pointer (some ⟨w.heap.size + 1 + 1, 0, none⟩) := Ez.out 5 (by kernel_rfl)
        exact wpo_val (v := .pointer (some ⟨w.heap.size + 1 + 1, 1, none⟩)) (run_index e5 rfl (by simp [go_sem])) (k _ _ rfl hB)
      | 3, ho =>
        obtain rfl := Option.some.inj ho
        intro Az Lz vz wy Kz Ez hB k
        have e24 : Az.eval (.tmp 24) = .pointer (some ⟨w.heap.size + 1 + 1, 1, none⟩) := Ez.dep 2 24 (by kernel_rfl) rfl
        have c2_1 := hB.2.cell 2 1 rfl rfl
        exact wpo_val (v := .int .i64 y) (run_load e24 (by simp [go_sem, c2_1])) (k _ _ rfl hB)
      | 4, ho =>
        obtain rfl := Option.some.inj ho
        intro Az Lz vz wy Kz Ez hB k
        have e23 : Az.eval (.tmp 23) = .int .i64 x := Ez.dep 1 23 (by kernel_rfl) rfl
        exact wpo_val (v := .int .i64 x) (run_assign e23) (k _ _ rfl hB)
      | 5, ho =>
        obtain rfl := Option.some.inj ho
        intro Az Lz vz wy Kz Ez hB k
        have e25 : Az.eval (.tmp 25) = .int .i64 y := Ez.dep 3 25 (by kernel_rfl) rfl
        exact wpo_val (v := .int .i64 y) (run_assign e25) (k _ _ rfl hB)
      | n + 6, ho => simp at ho
    · obtain ⟨hk, hT⟩ := hB
      have KB := Lib.hid hk
      have KT := Lib.hid hT
      clear hk hT hL
      simp only [puts2, mix, Act.put, List.setIfInBounds_toArray, List.set_cons_zero, List.set_cons_succ, Nat.zero_add, Nat.reduceAdd, List.getElem?_cons_zero, List.getElem?_cons_succ]
      have HN : Hid (w.heap.size ≤ wz.heap.size) := Lib.hid KB.out.size
      have HT : Hid (∀ (kz bz : Nat) (uz : List Value), [(q5, [.int .i64 e, .int .i64 f, .int .i64 g, .int .i64 h]), (q4, [.int .i64 a, .int .i64 b, .int .i64 c, .int .i64 d]), (w.heap.size + 1 + 1, [.int .i64 x, .int .i64 y]), (w.heap.size + 1, [.int .i64 e, .int .i64 f, .int .i64 g, .int .i64 h]), (w.heap.size, [.int .i64 a, .int .i64 b, .int .i64 c, .int .i64 d])][kz]? = some (bz, uz) → bz < wz.heap.size) := Lib.hid (KT.out.lts rfl)
      go_wp2_with fail
      have FD : ([6, 7, 8, 9].Nodup) := by decide
      refine wp_region_vals [some (.agg #[.int .i64 a, .int .i64 b, .int .i64 c, .int .i64 d]), some (.agg #[.int .i64 e, .int .i64 f, .int .i64 g, .int .i64 h]), some (.agg #[.int .i64 P, .int .i64 Q, .int .i64 R, .int .i64 S]), some (.agg #[.int .i64 a, .int .i64 b, .int .i64 c, .int .i64 d]), some (.agg #[.int .i64 e, .int .i64 f, .int .i64 g, .int .i64 h]), some (.agg #[.int .i64 X, .int .i64 Y, .int .i64 Z, .int .i64 T]), none, none, none, none] (fun Lz vz wy => Below w.heap.size w wy ∧ Tab wy [(q5, [.int .i64 e, .int .i64 f, .int .i64 g, .int .i64 h]), (q4, [.int .i64 a, .int .i64 b, .int .i64 c, .int .i64 d]), (w.heap.size + 1 + 1, [.int .i64 x, .int .i64 y]), (w.heap.size + 1, [.int .i64 e, .int .i64 f, .int .i64 g, .int .i64 h]), (w.heap.size, [.int .i64 a, .int .i64 b, .int .i64 c, .int .i64 d])] ∧ wz.heap.size ≤ wy.heap.size ∧ Fresh (wz.heap.size) [(6, 8, [.int .i64 0, .int .i64 0, .int .i64 0, .int .i64 0], [.int .i64 P, .int .i64 Q, .int .i64 R, .int .i64 S]), (7, 9, [.int .i64 0, .int .i64 0, .int .i64 0, .int .i64 0], [.int .i64 X, .int .i64 Y, .int .i64 Z, .int .i64 T])] Lz vz wy)
        [some 26, some 27, some 28, some 29, some 30, some 31, some 11, some 12, none, none] (by kernel_rfl) (by kernel_rfl) (by kernel_rfl) (by kernel_rfl) (by kernel_rfl) (by kernel_rfl) ⟨KB.out.drew, KT.out.later ((Below.refl _ _).drew), Nat.le_refl _, Fresh.start _ _ _ _⟩ (fun i o ho => ?_) (fun Lz vz wz hL hB => ?_)
      · match i, ho with
        | 0, ho =>
          obtain rfl := Option.some.inj ho
          intro Az Lz vz wy Kz Ez hB k
          have e7 : Az.eval (.tmp 7) = .pointer (some ⟨q4, 0, none⟩) := Ez.out 7 (by kernel_rfl)
          have c1_0 := hB.2.1.cell 1 0 rfl rfl
          have c1_1 := hB.2.1.cell 1 1 rfl rfl
          have c1_2 := hB.2.1.cell 1 2 rfl rfl
          have c1_3 := hB.2.1.cell 1 3 rfl rfl
          exact wpo_val (v := .agg #[.int .i64 a, .int .i64 b, .int .i64 c, .int .i64 d]) (run_load e7 (by simp [go_sem, c1_0, c1_1, c1_2, c1_3])) (k _ _ rfl ⟨hB.1, hB.2.1, hB.2.2.1, hB.2.2.2.other 0 _ (fresh_ne rfl)⟩)
        | 1, ho =>
          obtain rfl := Option.some.inj ho
          intro Az Lz vz wy Kz Ez hB k
          have e8 : Az.eval (.tmp 8) = .pointer (some ⟨q5, 0, none⟩) := Ez.out 8 (by kernel_rfl)
          have c0_0 := hB.2.1.cell 0 0 rfl rfl
          have c0_1 := hB.2.1.cell 0 1 rfl rfl
          have c0_2 := hB.2.1.cell 0 2 rfl rfl
          have c0_3 := hB.2.1.cell 0 3 rfl rfl
          exact wpo_val (v := .agg #[.int .i64 e, .int .i64 f, .int .i64 g, .int .i64 h]) (run_load e8 (by simp [go_sem, c0_0, c0_1, c0_2, c0_3])) (k _ _ rfl ⟨hB.1, hB.2.1, hB.2.2.1, hB.2.2.2.other 1 _ (fresh_ne rfl)⟩)
        | 2, ho =>
          obtain rfl := Option.some.inj ho
          intro Az Lz vz wy Kz Ez hB k
          have e26 : Az.eval (.tmp 26) = .agg #[.int .i64 a, .int .i64 b, .int .i64 c, .int .i64 d] := Ez.dep 0 26 (by kernel_rfl) rfl
          have e27 : Az.eval (.tmp 27) = .agg #[.int .i64 e, .int .i64 f, .int .i64 g, .int .i64 h] := Ez.dep 1 27 (by kernel_rfl) rfl
          refine wpo_call (run_callW (fun _ _ => by kernel_rfl)) (R := fun ez w' => ez = .returned (.agg #[.int .i64 P, .int .i64 Q, .int .i64 R, .int .i64 S]) ∧ Below wy.heap.size wy w') ?_ ?_
          · simp only [List.map_toArray, List.map_cons, List.map_nil, eval_const, e26, e27]
            exact NA.out wy
          · rintro ez w' ⟨rfl, hb⟩
            exact ⟨_, rfl, k _ _ rfl ⟨bel_tr0 hB.1 hb, hB.2.1.later hb, Nat.le_trans hB.2.2.1 hb.size, (hB.2.2.2.later hb).other 2 _ (fresh_ne rfl)⟩⟩
        | 3, ho =>
          obtain rfl := Option.some.inj ho
          intro Az Lz vz wy Kz Ez hB k
          have e7 : Az.eval (.tmp 7) = .pointer (some ⟨q4, 0, none⟩) := Ez.out 7 (by kernel_rfl)
          have c1_0 := hB.2.1.cell 1 0 rfl rfl
          have c1_1 := hB.2.1.cell 1 1 rfl rfl
          have c1_2 := hB.2.1.cell 1 2 rfl rfl
          have c1_3 := hB.2.1.cell 1 3 rfl rfl
          exact wpo_val (v := .agg #[.int .i64 a, .int .i64 b, .int .i64 c, .int .i64 d]) (run_load e7 (by simp [go_sem, c1_0, c1_1, c1_2, c1_3])) (k _ _ rfl ⟨hB.1, hB.2.1, hB.2.2.1, hB.2.2.2.other 3 _ (fresh_ne rfl)⟩)
        | 4, ho =>
          obtain rfl := Option.some.inj ho
          intro Az Lz vz wy Kz Ez hB k
          have e8 : Az.eval (.tmp 8) = .pointer (some ⟨q5, 0, none⟩) := Ez.out 8 (by kernel_rfl)
          have c0_0 := hB.2.1.cell 0 0 rfl rfl
          have c0_1 := hB.2.1.cell 0 1 rfl rfl
          have c0_2 := hB.2.1.cell 0 2 rfl rfl
          have c0_3 := hB.2.1.cell 0 3 rfl rfl
          exact wpo_val (v := .agg #[.int .i64 e, .int .i64 f, .int .i64 g, .int .i64 h]) (run_load e8 (by simp [go_sem, c0_0, c0_1, c0_2, c0_3])) (k _ _ rfl ⟨hB.1, hB.2.1, hB.2.2.1, hB.2.2.2.other 4 _ (fresh_ne rfl)⟩)
        | 5, ho =>
          obtain rfl := Option.some.inj ho
          intro Az Lz vz wy Kz Ez hB k
          have e29 : Az.eval (.tmp 29) = .agg #[.int .i64 a, .int .i64 b, .int .i64 c, .int .i64 d] := Ez.dep 3 29 (by kernel_rfl) rfl
          have e30 : Az.eval (.tmp 30) = .agg #[.int .i64 e, .int .i64 f, .int .i64 g, .int .i64 h] := Ez.dep 4 30 (by kernel_rfl) rfl
          refine wpo_call (run_callW (fun _ _ => by kernel_rfl)) (R := fun ez w' => ez = .returned (.agg #[.int .i64 X, .int .i64 Y, .int .i64 Z, .int .i64 T]) ∧ Below wy.heap.size wy w') ?_ ?_
          · simp only [List.map_toArray, List.map_cons, List.map_nil, eval_const, e29, e30]
            exact NH.out wy
          · rintro ez w' ⟨rfl, hb⟩
            exact ⟨_, rfl, k _ _ rfl ⟨bel_tr0 hB.1 hb, hB.2.1.later hb, Nat.le_trans hB.2.2.1 hb.size, (hB.2.2.2.later hb).other 5 _ (fresh_ne rfl)⟩⟩
        | 6, ho =>
          obtain rfl := Option.some.inj ho
          intro Az Lz vz wy Kz Ez hB k
          have zs : Lz 8 = false := Ez.late 8 _ rfl (by kernel_rfl)
          exact wpo_val (run_alloc (by simp [go_sem])) (k _ _ trivial ⟨bel_al hB.1 _, hB.2.1.alloc _, by rw [World.size_alloc]; exact Nat.le_succ_of_le hB.2.2.1, hB.2.2.2.make FD 0 rfl zs hB.2.2.1 40⟩)
        | 7, ho =>
          obtain rfl := Option.some.inj ho
          intro Az Lz vz wy Kz Ez hB k
          have zs : Lz 9 = false := Ez.late 9 _ rfl (by kernel_rfl)
          exact wpo_val (run_alloc (by simp [go_sem])) (k _ _ trivial ⟨bel_al hB.1 _, hB.2.1.alloc _, by rw [World.size_alloc]; exact Nat.le_succ_of_le hB.2.2.1, hB.2.2.2.make FD 1 rfl zs hB.2.2.1 40⟩)
        | 8, ho =>
          obtain rfl := Option.some.inj ho
          intro Az Lz vz wy Kz Ez hB k
          have e28 : Az.eval (.tmp 28) = .agg #[.int .i64 P, .int .i64 Q, .int .i64 R, .int .i64 S] := Ez.dep 2 28 (by kernel_rfl) rfl
          obtain ⟨q, hq, hn, hql, hc⟩ := hB.2.2.2.box 0 _ _ _ _ rfl (Ez.had 6 (by kernel_rfl))
          have zs : Lz 8 = false := Ez.not
          rw [zs] at hc
          have e11 : Az.eval (.tmp 11) = .pointer (some ⟨q, 0, none⟩) := (Ez.dep 6 11 (by kernel_rfl) rfl).trans hq
          obtain ⟨c0, f0⟩ := hc 0 _ rfl
          obtain ⟨c1, f1⟩ := hc 1 _ rfl
          obtain ⟨c2, f2⟩ := hc 2 _ rfl
          obtain ⟨c3, f3⟩ := hc 3 _ rfl
          exact wpo_skip (w' := sets wy q 0 [.int .i64 P, .int .i64 Q, .int .i64 R, .int .i64 S]) (run_store e11 e28 (by simp [go_sem, sets, c0, f0, c1, f1, c2, f2, c3, f3])) (k _ _ trivial ⟨sets_below (Nat.le_trans HN.out hn) _ _ _ hB.1, hB.2.1.far HT.out hn _, by rw [sets_size]; exact hB.2.2.1, hB.2.2.2.fill FD 0 _ rfl zs (Ez.had 6 (by kernel_rfl)) hq rfl⟩)
        | 9, ho =>
          obtain rfl := Option.some.inj ho
          intro Az Lz vz wy Kz Ez hB k
          have e31 : Az.eval (.tmp 31) = .agg #[.int .i64 X, .int .i64 Y, .int .i64 Z, .int .i64 T] := Ez.dep 5 31 (by kernel_rfl) rfl
          obtain ⟨q, hq, hn, hql, hc⟩ := hB.2.2.2.box 1 _ _ _ _ rfl (Ez.had 7 (by kernel_rfl))
          have zs : Lz 9 = false := Ez.not
          rw [zs] at hc
          have e12 : Az.eval (.tmp 12) = .pointer (some ⟨q, 0, none⟩) := (Ez.dep 7 12 (by kernel_rfl) rfl).trans hq
          obtain ⟨c0, f0⟩ := hc 0 _ rfl
          obtain ⟨c1, f1⟩ := hc 1 _ rfl
          obtain ⟨c2, f2⟩ := hc 2 _ rfl
          obtain ⟨c3, f3⟩ := hc 3 _ rfl
          exact wpo_skip (w' := sets wy q 0 [.int .i64 X, .int .i64 Y, .int .i64 Z, .int .i64 T]) (run_store e12 e31 (by simp [go_sem, sets, c0, f0, c1, f1, c2, f2, c3, f3])) (k _ _ trivial ⟨sets_below (Nat.le_trans HN.out hn) _ _ _ hB.1, hB.2.1.far HT.out hn _, by rw [sets_size]; exact hB.2.2.1, hB.2.2.2.fill FD 1 _ rfl zs (Ez.had 7 (by kernel_rfl)) hq rfl⟩)
        | n + 10, ho => simp at ho
      · obtain ⟨hk, hT, hNz, hF⟩ := hB
        have KB := Lib.hid hk
        have KT := Lib.hid hT
        obtain ⟨q6, hq6, hn6, _, hc6⟩ := hF.box 0 _ _ _ _ rfl (hL 6 (by decide))
        rw [hL 8 (by decide)] at hc6
        obtain ⟨q7, hq7, hn7, _, hc7⟩ := hF.box 1 _ _ _ _ rfl (hL 7 (by decide))
        rw [hL 9 (by decide)] at hc7
        have hne7_6 : q7 ≠ q6 := fun e => hF.ne 1 0 _ _ _ _ _ _ _ _ rfl rfl (by decide) (hL 7 (by decide)) (hL 6 (by decide)) (by rw [hq7, hq6, e])
        have KT := Lib.hid (((KT.out.cons hc6).cons hc7))
        clear hF hc6 hc7
        clear hk hT hL
        simp only [puts2, mix, Act.put, List.setIfInBounds_toArray, List.set_cons_zero, List.set_cons_succ, Nat.zero_add, Nat.reduceAdd, List.getElem?_cons_zero, List.getElem?_cons_succ, hq6, hq7]
        clear hq6 hq7
        go_wp2_with fail
        have KTT := KT
        go_upto_region 6 with fail
        go_cut [79] (fun s wx => s = .bool false ∧ Hid (Below w.heap.size w wx ∧ Tab wx [(q7, [.int .i64 X, .int .i64 Y, .int .i64 Z, .int .i64 T]), (q6, [.int .i64 P, .int .i64 Q, .int .i64 R, .int .i64 S]), (q5, [.int .i64 e, .int .i64 f, .int .i64 g, .int .i64 h]), (q4, [.int .i64 a, .int .i64 b, .int .i64 c, .int .i64 d]), (w.heap.size + 1 + 1, [.int .i64 x, .int .i64 y]), (w.heap.size + 1, [.int .i64 e, .int .i64 f, .int .i64 g, .int .i64 h]), (w.heap.size, [.int .i64 a, .int .i64 b, .int .i64 c, .int .i64 d])]))
        case first =>
          cases ha <;> cases hb
          · have cn := CN.out
            have cb := CB.out
            obtain rfl : hn = false := cn
            clear cb KTT
            refine wp_region_vals [some (.agg #[.int .i64 P, .int .i64 Q, .int .i64 R, .int .i64 S]), some (.int .i64 x), some (.int .i64 y), some (.bool false), some (.agg #[.int .i64 a, .int .i64 b, .int .i64 c, .int .i64 d]), some (.int .i64 x), some (.int .i64 y), some (.bool false), some (.bool false), some (undef), some (undef), some (undef), some (undef), some (.bool false), some (.bool false), some (.bool false), some (.agg #[.int .i64 a, .int .i64 b, .int .i64 c, .int .i64 d]), some (.int .i64 x), some (.int .i64 y), some (.bool false), some (.bool false), some (.agg #[.int .i64 e, .int .i64 f, .int .i64 g, .int .i64 h]), some (.int .i64 x), some (.int .i64 y), some (.bool false), some (.bool false), some (.bool false), some (undef), some (undef), some (undef), some (undef), some (undef), some (.bool false), some (.bool false), some (.bool false), some (.agg #[.int .i64 P, .int .i64 Q, .int .i64 R, .int .i64 S]), some (.agg #[.int .i64 e, .int .i64 f, .int .i64 g, .int .i64 h]), some (.agg #[.int .i64 a, .int .i64 b, .int .i64 c, .int .i64 d]), some (.agg #[.int .i64 P, .int .i64 Q, .int .i64 R, .int .i64 S]), some (.bool false), some (.bool false), some (.bool false), some (.agg #[.int .i64 X, .int .i64 Y, .int .i64 Z, .int .i64 T]), some (.agg #[.int .i64 e, .int .i64 f, .int .i64 g, .int .i64 h]), some (.agg #[.int .i64 a, .int .i64 b, .int .i64 c, .int .i64 d]), some (.agg #[.int .i64 X, .int .i64 Y, .int .i64 Z, .int .i64 T]), some (.bool false), some (.bool false)] (fun Lz _ wy => Below w.heap.size w wy ∧ Tab wy [(q7, [.int .i64 X, .int .i64 Y, .int .i64 Z, .int .i64 T]), (q6, [.int .i64 P, .int .i64 Q, .int .i64 R, .int .i64 S]), (q5, [.int .i64 e, .int .i64 f, .int .i64 g, .int .i64 h]), (q4, [.int .i64 a, .int .i64 b, .int .i64 c, .int .i64 d]), (w.heap.size + 1 + 1, [.int .i64 x, .int .i64 y]), (w.heap.size + 1, [.int .i64 e, .int .i64 f, .int .i64 g, .int .i64 h]), (w.heap.size, [.int .i64 a, .int .i64 b, .int .i64 c, .int .i64 d])])
              [some 32, some 33, some 34, some 35, some 36, some 37, some 38, some 39, some 40, some 41, some 42, some 43, some 44, some 45, some 46, some 47, some 48, some 49, some 50, some 51, some 52, some 53, some 54, some 55, some 56, some 57, some 58, some 59, some 60, some 61, some 62, some 63, some 64, some 65, some 66, some 67, some 68, some 69, some 70, some 71, some 72, some 73, some 74, some 75, some 76, some 77, some 78, some 79] (by kernel_rfl) (by kernel_rfl) (by kernel_rfl) (by kernel_rfl) (by kernel_rfl) (by kernel_rfl) ⟨KB.out.drew, KT.out.later ((Below.refl _ _).drew)⟩ (fun i o ho => ?_) (fun Lz vz wz hL hB => ?_)
            · match i, ho with
              | 0, ho =>
                obtain rfl := Option.some.inj ho
                intro Az Lz vz wy Kz Ez hB k
                have e11 : Az.eval (.tmp 11) = .pointer (some ⟨q6, 0, none⟩) := Ez.out 11 (by kernel_rfl)
                have c1_0 := hB.2.cell 1 0 rfl rfl
                have c1_1 := hB.2.cell 1 1 rfl rfl
                have c1_2 := hB.2.cell 1 2 rfl rfl
                have c1_3 := hB.2.cell 1 3 rfl rfl
                exact wpo_val (v := .agg #[.int .i64 P, .int .i64 Q, .int .i64 R, .int .i64 S]) (run_load e11 (by simp [go_sem, c1_0, c1_1, c1_2, c1_3])) (k _ _ rfl hB)
              | 1, ho =>
                obtain rfl := Option.some.inj ho
                intro Az Lz vz wy Kz Ez hB k
                have e9 : Az.eval (.tmp 9) = .int .i64 x := Ez.out 9 (by kernel_rfl)
                exact wpo_val (v := .int .i64 x) (run_move e9) (k _ _ rfl hB)
              | 2, ho =>
                obtain rfl := Option.some.inj ho
                intro Az Lz vz wy Kz Ez hB k
                have e10 : Az.eval (.tmp 10) = .int .i64 y := Ez.out 10 (by kernel_rfl)
                exact wpo_val (v := .int .i64 y) (run_move e10) (k _ _ rfl hB)
              | 3, ho =>
                obtain rfl := Option.some.inj ho
                intro Az Lz vz wy Kz Ez hB k
                have e32 : Az.eval (.tmp 32) = .agg #[.int .i64 P, .int .i64 Q, .int .i64 R, .int .i64 S] := Ez.dep 0 32 (by kernel_rfl) rfl
                have e33 : Az.eval (.tmp 33) = .int .i64 x := Ez.dep 1 33 (by kernel_rfl) rfl
                have e34 : Az.eval (.tmp 34) = .int .i64 y := Ez.dep 2 34 (by kernel_rfl) rfl
                refine wpo_call (run_callW (fun _ _ => by kernel_rfl)) (R := fun ez w' => ez = .returned (.bool false) ∧ Below wy.heap.size wy w') ?_ ?_
                · simp only [List.map_toArray, List.map_cons, List.map_nil, eval_const, e32, e33, e34]
                  exact Hn.out wy
                · rintro ez w' ⟨rfl, hb⟩
                  exact ⟨_, rfl, k _ _ rfl ⟨bel_tr0 hB.1 hb, hB.2.later hb⟩⟩
              | 4, ho =>
                obtain rfl := Option.some.inj ho
                intro Az Lz vz wy Kz Ez hB k
                have e7 : Az.eval (.tmp 7) = .pointer (some ⟨q4, 0, none⟩) := Ez.out 7 (by kernel_rfl)
                have c3_0 := hB.2.cell 3 0 rfl rfl
                have c3_1 := hB.2.cell 3 1 rfl rfl
                have c3_2 := hB.2.cell 3 2 rfl rfl
                have c3_3 := hB.2.cell 3 3 rfl rfl
                exact wpo_val (v := .agg #[.int .i64 a, .int .i64 b, .int .i64 c, .int .i64 d]) (run_load e7 (by simp [go_sem, c3_0, c3_1, c3_2, c3_3])) (k _ _ rfl hB)
              | 5, ho =>
                obtain rfl := Option.some.inj ho
                intro Az Lz vz wy Kz Ez hB k
                have e9 : Az.eval (.tmp 9) = .int .i64 x := Ez.out 9 (by kernel_rfl)
                exact wpo_val (v := .int .i64 x) (run_move e9) (k _ _ rfl hB)
              | 6, ho =>
                obtain rfl := Option.some.inj ho
                intro Az Lz vz wy Kz Ez hB k
                have e10 : Az.eval (.tmp 10) = .int .i64 y := Ez.out 10 (by kernel_rfl)
                exact wpo_val (v := .int .i64 y) (run_move e10) (k _ _ rfl hB)
              | 7, ho =>
                obtain rfl := Option.some.inj ho
                intro Az Lz vz wy Kz Ez hB k
                have e36 : Az.eval (.tmp 36) = .agg #[.int .i64 a, .int .i64 b, .int .i64 c, .int .i64 d] := Ez.dep 4 36 (by kernel_rfl) rfl
                have e37 : Az.eval (.tmp 37) = .int .i64 x := Ez.dep 5 37 (by kernel_rfl) rfl
                have e38 : Az.eval (.tmp 38) = .int .i64 y := Ez.dep 6 38 (by kernel_rfl) rfl
                refine wpo_call (run_callW (fun _ _ => by kernel_rfl)) (R := fun ez w' => ez = .returned (.bool false) ∧ Below wy.heap.size wy w') ?_ ?_
                · simp only [List.map_toArray, List.map_cons, List.map_nil, eval_const, e36, e37, e38]
                  exact Ha.out wy
                · rintro ez w' ⟨rfl, hb⟩
                  exact ⟨_, rfl, k _ _ rfl ⟨bel_tr0 hB.1 hb, hB.2.later hb⟩⟩
              | 8, ho =>
                obtain rfl := Option.some.inj ho
                intro Az Lz vz wy Kz Ez hB k
                have e39 : Az.eval (.tmp 39) = .bool false := Ez.dep 7 39 (by kernel_rfl) rfl
                exact wpo_val (v := .bool false) (run_move e39) (k _ _ rfl hB)
              | 9, ho =>
                obtain rfl := Option.some.inj ho
                exact ⟨rfl, fun Lz vz wy h => h⟩
              | 10, ho =>
                obtain rfl := Option.some.inj ho
                exact ⟨rfl, fun Lz vz wy h => h⟩
              | 11, ho =>
                obtain rfl := Option.some.inj ho
                exact ⟨rfl, fun Lz vz wy h => h⟩
              | 12, ho =>
                obtain rfl := Option.some.inj ho
                exact ⟨rfl, fun Lz vz wy h => h⟩
              | 13, ho =>
                obtain rfl := Option.some.inj ho
                intro Az Lz vz wy Kz Ez hB k
                have e40 : Az.eval (.tmp 40) = .bool false := Ez.dep 8 40 (by kernel_rfl) rfl
                have e44 : Az.eval (.tmp 44) = undef := Ez.dep 12 44 (by kernel_rfl) rfl
                exact wpo_val (v := .bool false) (run_pickF e40 rfl) (k _ _ rfl hB)
              | 14, ho =>
                obtain rfl := Option.some.inj ho
                intro Az Lz vz wy Kz Ez hB k
                have e35 : Az.eval (.tmp 35) = .bool false := Ez.dep 3 35 (by kernel_rfl) rfl
                have e45 : Az.eval (.tmp 45) = .bool false := Ez.dep 13 45 (by kernel_rfl) rfl
                exact wpo_val (v := .bool false) (run_bin e35 e45 (by simp [go_sem]) (by simp [go_sem])) (k _ _ rfl hB)
              | 15, ho =>
                obtain rfl := Option.some.inj ho
                intro Az Lz vz wy Kz Ez hB k
                have e46 : Az.eval (.tmp 46) = .bool false := Ez.dep 14 46 (by kernel_rfl) rfl
                exact wpo_val (v := .bool false) (run_move e46) (k _ _ rfl hB)
              | 16, ho =>
                obtain rfl := Option.some.inj ho
                intro Az Lz vz wy Kz Ez hB k
                have e7 : Az.eval (.tmp 7) = .pointer (some ⟨q4, 0, none⟩) := Ez.out 7 (by kernel_rfl)
                have c3_0 := hB.2.cell 3 0 rfl rfl
                have c3_1 := hB.2.cell 3 1 rfl rfl
                have c3_2 := hB.2.cell 3 2 rfl rfl
                have c3_3 := hB.2.cell 3 3 rfl rfl
                exact wpo_val (v := .agg #[.int .i64 a, .int .i64 b, .int .i64 c, .int .i64 d]) (run_load e7 (by simp [go_sem, c3_0, c3_1, c3_2, c3_3])) (k _ _ rfl hB)
              | 17, ho =>
                obtain rfl := Option.some.inj ho
                intro Az Lz vz wy Kz Ez hB k
                have e9 : Az.eval (.tmp 9) = .int .i64 x := Ez.out 9 (by kernel_rfl)
                exact wpo_val (v := .int .i64 x) (run_move e9) (k _ _ rfl hB)
              | 18, ho =>
                obtain rfl := Option.some.inj ho
                intro Az Lz vz wy Kz Ez hB k
                have e10 : Az.eval (.tmp 10) = .int .i64 y := Ez.out 10 (by kernel_rfl)
                exact wpo_val (v := .int .i64 y) (run_move e10) (k _ _ rfl hB)
              | 19, ho =>
                obtain rfl := Option.some.inj ho
                intro Az Lz vz wy Kz Ez hB k
                have e48 : Az.eval (.tmp 48) = .agg #[.int .i64 a, .int .i64 b, .int .i64 c, .int .i64 d] := Ez.dep 16 48 (by kernel_rfl) rfl
                have e49 : Az.eval (.tmp 49) = .int .i64 x := Ez.dep 17 49 (by kernel_rfl) rfl
                have e50 : Az.eval (.tmp 50) = .int .i64 y := Ez.dep 18 50 (by kernel_rfl) rfl
                refine wpo_call (run_callW (fun _ _ => by kernel_rfl)) (R := fun ez w' => ez = .returned (.bool false) ∧ Below wy.heap.size wy w') ?_ ?_
                · simp only [List.map_toArray, List.map_cons, List.map_nil, eval_const, e48, e49, e50]
                  exact Ha.out wy
                · rintro ez w' ⟨rfl, hb⟩
                  exact ⟨_, rfl, k _ _ rfl ⟨bel_tr0 hB.1 hb, hB.2.later hb⟩⟩
              | 20, ho =>
                obtain rfl := Option.some.inj ho
                intro Az Lz vz wy Kz Ez hB k
                have e51 : Az.eval (.tmp 51) = .bool false := Ez.dep 19 51 (by kernel_rfl) rfl
                exact wpo_val (v := .bool false) (run_move e51) (k _ _ rfl hB)
              | 21, ho =>
                obtain rfl := Option.some.inj ho
                intro Az Lz vz wy Kz Ez hB k
                have e8 : Az.eval (.tmp 8) = .pointer (some ⟨q5, 0, none⟩) := Ez.out 8 (by kernel_rfl)
                have c2_0 := hB.2.cell 2 0 rfl rfl
                have c2_1 := hB.2.cell 2 1 rfl rfl
                have c2_2 := hB.2.cell 2 2 rfl rfl
                have c2_3 := hB.2.cell 2 3 rfl rfl
                exact wpo_val (v := .agg #[.int .i64 e, .int .i64 f, .int .i64 g, .int .i64 h]) (run_load e8 (by simp [go_sem, c2_0, c2_1, c2_2, c2_3])) (k _ _ rfl hB)
              | 22, ho =>
                obtain rfl := Option.some.inj ho
                intro Az Lz vz wy Kz Ez hB k
                have e9 : Az.eval (.tmp 9) = .int .i64 x := Ez.out 9 (by kernel_rfl)
                exact wpo_val (v := .int .i64 x) (run_move e9) (k _ _ rfl hB)
              | 23, ho =>
                obtain rfl := Option.some.inj ho
                intro Az Lz vz wy Kz Ez hB k
                have e10 : Az.eval (.tmp 10) = .int .i64 y := Ez.out 10 (by kernel_rfl)
                exact wpo_val (v := .int .i64 y) (run_move e10) (k _ _ rfl hB)
              | 24, ho =>
                obtain rfl := Option.some.inj ho
                intro Az Lz vz wy Kz Ez hB k
                have e53 : Az.eval (.tmp 53) = .agg #[.int .i64 e, .int .i64 f, .int .i64 g, .int .i64 h] := Ez.dep 21 53 (by kernel_rfl) rfl
                have e54 : Az.eval (.tmp 54) = .int .i64 x := Ez.dep 22 54 (by kernel_rfl) rfl
                have e55 : Az.eval (.tmp 55) = .int .i64 y := Ez.dep 23 55 (by kernel_rfl) rfl
                refine wpo_call (run_callW (fun _ _ => by kernel_rfl)) (R := fun ez w' => ez = .returned (.bool false) ∧ Below wy.heap.size wy w') ?_ ?_
                · simp only [List.map_toArray, List.map_cons, List.map_nil, eval_const, e53, e54, e55]
                  exact Hb.out wy
                · rintro ez w' ⟨rfl, hb⟩
                  exact ⟨_, rfl, k _ _ rfl ⟨bel_tr0 hB.1 hb, hB.2.later hb⟩⟩
              | 25, ho =>
                obtain rfl := Option.some.inj ho
                intro Az Lz vz wy Kz Ez hB k
                have e52 : Az.eval (.tmp 52) = .bool false := Ez.dep 20 52 (by kernel_rfl) rfl
                have e56 : Az.eval (.tmp 56) = .bool false := Ez.dep 24 56 (by kernel_rfl) rfl
                exact wpo_val (v := .bool false) (run_pickF e52 e56) (k _ _ rfl hB)
              | 26, ho =>
                obtain rfl := Option.some.inj ho
                intro Az Lz vz wy Kz Ez hB k
                have e57 : Az.eval (.tmp 57) = .bool false := Ez.dep 25 57 (by kernel_rfl) rfl
                exact wpo_val (v := .bool false) (run_move e57) (k _ _ rfl hB)
              | 27, ho =>
                obtain rfl := Option.some.inj ho
                exact ⟨rfl, fun Lz vz wy h => h⟩
              | 28, ho =>
                obtain rfl := Option.some.inj ho
                exact ⟨rfl, fun Lz vz wy h => h⟩
              | 29, ho =>
                obtain rfl := Option.some.inj ho
                exact ⟨rfl, fun Lz vz wy h => h⟩
              | 30, ho =>
                obtain rfl := Option.some.inj ho
                exact ⟨rfl, fun Lz vz wy h => h⟩
              | 31, ho =>
                obtain rfl := Option.some.inj ho
                exact ⟨rfl, fun Lz vz wy h => h⟩
              | 32, ho =>
                obtain rfl := Option.some.inj ho
                intro Az Lz vz wy Kz Ez hB k
                have e58 : Az.eval (.tmp 58) = .bool false := Ez.dep 26 58 (by kernel_rfl) rfl
                have e63 : Az.eval (.tmp 63) = undef := Ez.dep 31 63 (by kernel_rfl) rfl
                exact wpo_val (v := .bool false) (run_pickF e58 rfl) (k _ _ rfl hB)
              | 33, ho =>
                obtain rfl := Option.some.inj ho
                intro Az Lz vz wy Kz Ez hB k
                have e47 : Az.eval (.tmp 47) = .bool false := Ez.dep 15 47 (by kernel_rfl) rfl
                have e64 : Az.eval (.tmp 64) = .bool false := Ez.dep 32 64 (by kernel_rfl) rfl
                exact wpo_val (v := .bool false) (run_pickF e47 e64) (k _ _ rfl hB)
              | 34, ho =>
                obtain rfl := Option.some.inj ho
                intro Az Lz vz wy Kz Ez hB k
                have e65 : Az.eval (.tmp 65) = .bool false := Ez.dep 33 65 (by kernel_rfl) rfl
                exact wpo_val (v := .bool false) (run_move e65) (k _ _ rfl hB)
              | 35, ho =>
                obtain rfl := Option.some.inj ho
                intro Az Lz vz wy Kz Ez hB k
                have e11 : Az.eval (.tmp 11) = .pointer (some ⟨q6, 0, none⟩) := Ez.out 11 (by kernel_rfl)
                have c1_0 := hB.2.cell 1 0 rfl rfl
                have c1_1 := hB.2.cell 1 1 rfl rfl
                have c1_2 := hB.2.cell 1 2 rfl rfl
                have c1_3 := hB.2.cell 1 3 rfl rfl
                exact wpo_val (v := .agg #[.int .i64 P, .int .i64 Q, .int .i64 R, .int .i64 S]) (run_load e11 (by simp [go_sem, c1_0, c1_1, c1_2, c1_3])) (k _ _ rfl hB)
              | 36, ho =>
                obtain rfl := Option.some.inj ho
                intro Az Lz vz wy Kz Ez hB k
                have e8 : Az.eval (.tmp 8) = .pointer (some ⟨q5, 0, none⟩) := Ez.out 8 (by kernel_rfl)
                have c2_0 := hB.2.cell 2 0 rfl rfl
                have c2_1 := hB.2.cell 2 1 rfl rfl
                have c2_2 := hB.2.cell 2 2 rfl rfl
                have c2_3 := hB.2.cell 2 3 rfl rfl
                exact wpo_val (v := .agg #[.int .i64 e, .int .i64 f, .int .i64 g, .int .i64 h]) (run_load e8 (by simp [go_sem, c2_0, c2_1, c2_2, c2_3])) (k _ _ rfl hB)
              | 37, ho =>
                obtain rfl := Option.some.inj ho
                intro Az Lz vz wy Kz Ez hB k
                have e7 : Az.eval (.tmp 7) = .pointer (some ⟨q4, 0, none⟩) := Ez.out 7 (by kernel_rfl)
                have c3_0 := hB.2.cell 3 0 rfl rfl
                have c3_1 := hB.2.cell 3 1 rfl rfl
                have c3_2 := hB.2.cell 3 2 rfl rfl
                have c3_3 := hB.2.cell 3 3 rfl rfl
                exact wpo_val (v := .agg #[.int .i64 a, .int .i64 b, .int .i64 c, .int .i64 d]) (run_load e7 (by simp [go_sem, c3_0, c3_1, c3_2, c3_3])) (k _ _ rfl hB)
              | 38, ho =>
                obtain rfl := Option.some.inj ho
                intro Az Lz vz wy Kz Ez hB k
                have e68 : Az.eval (.tmp 68) = .agg #[.int .i64 e, .int .i64 f, .int .i64 g, .int .i64 h] := Ez.dep 36 68 (by kernel_rfl) rfl
                have e69 : Az.eval (.tmp 69) = .agg #[.int .i64 a, .int .i64 b, .int .i64 c, .int .i64 d] := Ez.dep 37 69 (by kernel_rfl) rfl
                refine wpo_call (run_callW (fun _ _ => by kernel_rfl)) (R := fun ez w' => ez = .returned (.agg #[.int .i64 P, .int .i64 Q, .int .i64 R, .int .i64 S]) ∧ Below wy.heap.size wy w') ?_ ?_
                · simp only [List.map_toArray, List.map_cons, List.map_nil, eval_const, e68, e69]
                  exact NA2.out wy
                · rintro ez w' ⟨rfl, hb⟩
                  exact ⟨_, rfl, k _ _ rfl ⟨bel_tr0 hB.1 hb, hB.2.later hb⟩⟩
              | 39, ho =>
                obtain rfl := Option.some.inj ho
                intro Az Lz vz wy Kz Ez hB k
                have e67 : Az.eval (.tmp 67) = .agg #[.int .i64 P, .int .i64 Q, .int .i64 R, .int .i64 S] := Ez.dep 35 67 (by kernel_rfl) rfl
                have e70 : Az.eval (.tmp 70) = .agg #[.int .i64 P, .int .i64 Q, .int .i64 R, .int .i64 S] := Ez.dep 38 70 (by kernel_rfl) rfl
                exact wpo_val (v := .bool false) (run_bin e67 e70 (by simp [go_sem]) (by exact QA.out wy)) (k _ _ rfl hB)
              | 40, ho =>
                obtain rfl := Option.some.inj ho
                intro Az Lz vz wy Kz Ez hB k
                have e66 : Az.eval (.tmp 66) = .bool false := Ez.dep 34 66 (by kernel_rfl) rfl
                have e71 : Az.eval (.tmp 71) = .bool false := Ez.dep 39 71 (by kernel_rfl) rfl
                exact wpo_val (v := .bool false) (run_pickF e66 e71) (k _ _ rfl hB)
              | 41, ho =>
                obtain rfl := Option.some.inj ho
                intro Az Lz vz wy Kz Ez hB k
                have e72 : Az.eval (.tmp 72) = .bool false := Ez.dep 40 72 (by kernel_rfl) rfl
                exact wpo_val (v := .bool false) (run_move e72) (k _ _ rfl hB)
              | 42, ho =>
                obtain rfl := Option.some.inj ho
                intro Az Lz vz wy Kz Ez hB k
                have e12 : Az.eval (.tmp 12) = .pointer (some ⟨q7, 0, none⟩) := Ez.out 12 (by kernel_rfl)
                have c0_0 := hB.2.cell 0 0 rfl rfl
                have c0_1 := hB.2.cell 0 1 rfl rfl
                have c0_2 := hB.2.cell 0 2 rfl rfl
                have c0_3 := hB.2.cell 0 3 rfl rfl
                exact wpo_val (v := .agg #[.int .i64 X, .int .i64 Y, .int .i64 Z, .int .i64 T]) (run_load e12 (by simp [go_sem, c0_0, c0_1, c0_2, c0_3])) (k _ _ rfl hB)
              | 43, ho =>
                obtain rfl := Option.some.inj ho
                intro Az Lz vz wy Kz Ez hB k
                have e8 : Az.eval (.tmp 8) = .pointer (some ⟨q5, 0, none⟩) := Ez.out 8 (by kernel_rfl)
                have c2_0 := hB.2.cell 2 0 rfl rfl
                have c2_1 := hB.2.cell 2 1 rfl rfl
                have c2_2 := hB.2.cell 2 2 rfl rfl
                have c2_3 := hB.2.cell 2 3 rfl rfl
                exact wpo_val (v := .agg #[.int .i64 e, .int .i64 f, .int .i64 g, .int .i64 h]) (run_load e8 (by simp [go_sem, c2_0, c2_1, c2_2, c2_3])) (k _ _ rfl hB)
              | 44, ho =>
                obtain rfl := Option.some.inj ho
                intro Az Lz vz wy Kz Ez hB k
                have e7 : Az.eval (.tmp 7) = .pointer (some ⟨q4, 0, none⟩) := Ez.out 7 (by kernel_rfl)
                have c3_0 := hB.2.cell 3 0 rfl rfl
                have c3_1 := hB.2.cell 3 1 rfl rfl
                have c3_2 := hB.2.cell 3 2 rfl rfl
                have c3_3 := hB.2.cell 3 3 rfl rfl
                exact wpo_val (v := .agg #[.int .i64 a, .int .i64 b, .int .i64 c, .int .i64 d]) (run_load e7 (by simp [go_sem, c3_0, c3_1, c3_2, c3_3])) (k _ _ rfl hB)
              | 45, ho =>
                obtain rfl := Option.some.inj ho
                intro Az Lz vz wy Kz Ez hB k
                have e75 : Az.eval (.tmp 75) = .agg #[.int .i64 e, .int .i64 f, .int .i64 g, .int .i64 h] := Ez.dep 43 75 (by kernel_rfl) rfl
                have e76 : Az.eval (.tmp 76) = .agg #[.int .i64 a, .int .i64 b, .int .i64 c, .int .i64 d] := Ez.dep 44 76 (by kernel_rfl) rfl
                refine wpo_call (run_callW (fun _ _ => by kernel_rfl)) (R := fun ez w' => ez = .returned (.agg #[.int .i64 X, .int .i64 Y, .int .i64 Z, .int .i64 T]) ∧ Below wy.heap.size wy w') ?_ ?_
                · simp only [List.map_toArray, List.map_cons, List.map_nil, eval_const, e75, e76]
                  exact NH2.out wy
                · rintro ez w' ⟨rfl, hb⟩
                  exact ⟨_, rfl, k _ _ rfl ⟨bel_tr0 hB.1 hb, hB.2.later hb⟩⟩
              | 46, ho =>
                obtain rfl := Option.some.inj ho
                intro Az Lz vz wy Kz Ez hB k
                have e74 : Az.eval (.tmp 74) = .agg #[.int .i64 X, .int .i64 Y, .int .i64 Z, .int .i64 T] := Ez.dep 42 74 (by kernel_rfl) rfl
                have e77 : Az.eval (.tmp 77) = .agg #[.int .i64 X, .int .i64 Y, .int .i64 Z, .int .i64 T] := Ez.dep 45 77 (by kernel_rfl) rfl
                exact wpo_val (v := .bool false) (run_bin e74 e77 (by simp [go_sem]) (by exact QH.out wy)) (k _ _ rfl hB)
              | 47, ho =>
                obtain rfl := Option.some.inj ho
                intro Az Lz vz wy Kz Ez hB k
                have e73 : Az.eval (.tmp 73) = .bool false := Ez.dep 41 73 (by kernel_rfl) rfl
                have e78 : Az.eval (.tmp 78) = .bool false := Ez.dep 46 78 (by kernel_rfl) rfl
                exact wpo_val (v := .bool false) (run_pickF e73 e78) (k _ _ rfl hB)
              | n + 48, ho => simp at ho
            · obtain ⟨hk, hT⟩ := hB
              have KB := Lib.hid hk
              have KT := Lib.hid hT
              clear hk hT hL
              simp only [puts2, mix, Act.put, List.setIfInBounds_toArray, List.set_cons_zero, List.set_cons_succ, Nat.zero_add, Nat.reduceAdd, List.getElem?_cons_zero, List.getElem?_cons_succ]
              go_wp2_with fail
              go_meet
              exact ⟨rfl, Lib.hid ⟨KB.out, KT.out⟩⟩
          · have cn := CN.out
            have cb := CB.out
            obtain rfl : hn = false := cn
            obtain rfl : hh = true := cb (by simp)
            clear cb KTT
            refine wp_region_vals [some (.agg #[.int .i64 P, .int .i64 Q, .int .i64 R, .int .i64 S]), some (.int .i64 x), some (.int .i64 y), some (.bool false), some (.agg #[.int .i64 a, .int .i64 b, .int .i64 c, .int .i64 d]), some (.int .i64 x), some (.int .i64 y), some (.bool false), some (.bool false), some (undef), some (undef), some (undef), some (undef), some (.bool false), some (.bool false), some (.bool false), some (.agg #[.int .i64 a, .int .i64 b, .int .i64 c, .int .i64 d]), some (.int .i64 x), some (.int .i64 y), some (.bool false), some (.bool false), some (.agg #[.int .i64 e, .int .i64 f, .int .i64 g, .int .i64 h]), some (.int .i64 x), some (.int .i64 y), some (.bool true), some (.bool true), some (.bool true), some (.agg #[.int .i64 X, .int .i64 Y, .int .i64 Z, .int .i64 T]), some (.int .i64 x), some (.int .i64 y), some (.bool true), some (.bool false), some (.bool false), some (.bool false), some (.bool false), some (.agg #[.int .i64 P, .int .i64 Q, .int .i64 R, .int .i64 S]), some (.agg #[.int .i64 e, .int .i64 f, .int .i64 g, .int .i64 h]), some (.agg #[.int .i64 a, .int .i64 b, .int .i64 c, .int .i64 d]), some (.agg #[.int .i64 P, .int .i64 Q, .int .i64 R, .int .i64 S]), some (.bool false), some (.bool false), some (.bool false), some (.agg #[.int .i64 X, .int .i64 Y, .int .i64 Z, .int .i64 T]), some (.agg #[.int .i64 e, .int .i64 f, .int .i64 g, .int .i64 h]), some (.agg #[.int .i64 a, .int .i64 b, .int .i64 c, .int .i64 d]), some (.agg #[.int .i64 X, .int .i64 Y, .int .i64 Z, .int .i64 T]), some (.bool false), some (.bool false)] (fun Lz _ wy => Below w.heap.size w wy ∧ Tab wy [(q7, [.int .i64 X, .int .i64 Y, .int .i64 Z, .int .i64 T]), (q6, [.int .i64 P, .int .i64 Q, .int .i64 R, .int .i64 S]), (q5, [.int .i64 e, .int .i64 f, .int .i64 g, .int .i64 h]), (q4, [.int .i64 a, .int .i64 b, .int .i64 c, .int .i64 d]), (w.heap.size + 1 + 1, [.int .i64 x, .int .i64 y]), (w.heap.size + 1, [.int .i64 e, .int .i64 f, .int .i64 g, .int .i64 h]), (w.heap.size, [.int .i64 a, .int .i64 b, .int .i64 c, .int .i64 d])])
              [some 32, some 33, some 34, some 35, some 36, some 37, some 38, some 39, some 40, some 41, some 42, some 43, some 44, some 45, some 46, some 47, some 48, some 49, some 50, some 51, some 52, some 53, some 54, some 55, some 56, some 57, some 58, some 59, some 60, some 61, some 62, some 63, some 64, some 65, some 66, some 67, some 68, some 69, some 70, some 71, some 72, some 73, some 74, some 75, some 76, some 77, some 78, some 79] (by kernel_rfl) (by kernel_rfl) (by kernel_rfl) (by kernel_rfl) (by kernel_rfl) (by kernel_rfl) ⟨KB.out.drew, KT.out.later ((Below.refl _ _).drew)⟩ (fun i o ho => ?_) (fun Lz vz wz hL hB => ?_)
            · match i, ho with
              | 0, ho =>
                obtain rfl := Option.some.inj ho
                intro Az Lz vz wy Kz Ez hB k
                have e11 : Az.eval (.tmp 11) = .pointer (some ⟨q6, 0, none⟩) := Ez.out 11 (by kernel_rfl)
                have c1_0 := hB.2.cell 1 0 rfl rfl
                have c1_1 := hB.2.cell 1 1 rfl rfl
                have c1_2 := hB.2.cell 1 2 rfl rfl
                have c1_3 := hB.2.cell 1 3 rfl rfl
                exact wpo_val (v := .agg #[.int .i64 P, .int .i64 Q, .int .i64 R, .int .i64 S]) (run_load e11 (by simp [go_sem, c1_0, c1_1, c1_2, c1_3])) (k _ _ rfl hB)
              | 1, ho =>
                obtain rfl := Option.some.inj ho
                intro Az Lz vz wy Kz Ez hB k
                have e9 : Az.eval (.tmp 9) = .int .i64 x := Ez.out 9 (by kernel_rfl)
                exact wpo_val (v := .int .i64 x) (run_move e9) (k _ _ rfl hB)
              | 2, ho =>
                obtain rfl := Option.some.inj ho
                intro Az Lz vz wy Kz Ez hB k
                have e10 : Az.eval (.tmp 10) = .int .i64 y := Ez.out 10 (by kernel_rfl)
                exact wpo_val (v := .int .i64 y) (run_move e10) (k _ _ rfl hB)
              | 3, ho =>
                obtain rfl := Option.some.inj ho
                intro Az Lz vz wy Kz Ez hB k
                have e32 : Az.eval (.tmp 32) = .agg #[.int .i64 P, .int .i64 Q, .int .i64 R, .int .i64 S] := Ez.dep 0 32 (by kernel_rfl) rfl
                have e33 : Az.eval (.tmp 33) = .int .i64 x := Ez.dep 1 33 (by kernel_rfl) rfl
                have e34 : Az.eval (.tmp 34) = .int .i64 y := Ez.dep 2 34 (by kernel_rfl) rfl
                refine wpo_call (run_callW (fun _ _ => by kernel_rfl)) (R := fun ez w' => ez = .returned (.bool false) ∧ Below wy.heap.size wy w') ?_ ?_
                · simp only [List.map_toArray, List.map_cons, List.map_nil, eval_const, e32, e33, e34]
                  exact Hn.out wy
                · rintro ez w' ⟨rfl, hb⟩
                  exact ⟨_, rfl, k _ _ rfl ⟨bel_tr0 hB.1 hb, hB.2.later hb⟩⟩
              | 4, ho =>
                obtain rfl := Option.some.inj ho
                intro Az Lz vz wy Kz Ez hB k
                have e7 : Az.eval (.tmp 7) = .pointer (some ⟨q4, 0, none⟩) := Ez.out 7 (by kernel_rfl)
                have c3_0 := hB.2.cell 3 0 rfl rfl
                have c3_1 := hB.2.cell 3 1 rfl rfl
                have c3_2 := hB.2.cell 3 2 rfl rfl
                have c3_3 := hB.2.cell 3 3 rfl rfl
                exact wpo_val (v := .agg #[.int .i64 a, .int .i64 b, .int .i64 c, .int .i64 d]) (run_load e7 (by simp [go_sem, c3_0, c3_1, c3_2, c3_3])) (k _ _ rfl hB)
              | 5, ho =>
                obtain rfl := Option.some.inj ho
                intro Az Lz vz wy Kz Ez hB k
                have e9 : Az.eval (.tmp 9) = .int .i64 x := Ez.out 9 (by kernel_rfl)
                exact wpo_val (v := .int .i64 x) (run_move e9) (k _ _ rfl hB)
              | 6, ho =>
                obtain rfl := Option.some.inj ho
                intro Az Lz vz wy Kz Ez hB k
                have e10 : Az.eval (.tmp 10) = .int .i64 y := Ez.out 10 (by kernel_rfl)
                exact wpo_val (v := .int .i64 y) (run_move e10) (k _ _ rfl hB)
              | 7, ho =>
                obtain rfl := Option.some.inj ho
                intro Az Lz vz wy Kz Ez hB k
                have e36 : Az.eval (.tmp 36) = .agg #[.int .i64 a, .int .i64 b, .int .i64 c, .int .i64 d] := Ez.dep 4 36 (by kernel_rfl) rfl
                have e37 : Az.eval (.tmp 37) = .int .i64 x := Ez.dep 5 37 (by kernel_rfl) rfl
                have e38 : Az.eval (.tmp 38) = .int .i64 y := Ez.dep 6 38 (by kernel_rfl) rfl
                refine wpo_call (run_callW (fun _ _ => by kernel_rfl)) (R := fun ez w' => ez = .returned (.bool false) ∧ Below wy.heap.size wy w') ?_ ?_
                · simp only [List.map_toArray, List.map_cons, List.map_nil, eval_const, e36, e37, e38]
                  exact Ha.out wy
                · rintro ez w' ⟨rfl, hb⟩
                  exact ⟨_, rfl, k _ _ rfl ⟨bel_tr0 hB.1 hb, hB.2.later hb⟩⟩
              | 8, ho =>
                obtain rfl := Option.some.inj ho
                intro Az Lz vz wy Kz Ez hB k
                have e39 : Az.eval (.tmp 39) = .bool false := Ez.dep 7 39 (by kernel_rfl) rfl
                exact wpo_val (v := .bool false) (run_move e39) (k _ _ rfl hB)
              | 9, ho =>
                obtain rfl := Option.some.inj ho
                exact ⟨rfl, fun Lz vz wy h => h⟩
              | 10, ho =>
                obtain rfl := Option.some.inj ho
                exact ⟨rfl, fun Lz vz wy h => h⟩
              | 11, ho =>
                obtain rfl := Option.some.inj ho
                exact ⟨rfl, fun Lz vz wy h => h⟩
              | 12, ho =>
                obtain rfl := Option.some.inj ho
                exact ⟨rfl, fun Lz vz wy h => h⟩
              | 13, ho =>
                obtain rfl := Option.some.inj ho
                intro Az Lz vz wy Kz Ez hB k
                have e40 : Az.eval (.tmp 40) = .bool false := Ez.dep 8 40 (by kernel_rfl) rfl
                have e44 : Az.eval (.tmp 44) = undef := Ez.dep 12 44 (by kernel_rfl) rfl
                exact wpo_val (v := .bool false) (run_pickF e40 rfl) (k _ _ rfl hB)
              | 14, ho =>
                obtain rfl := Option.some.inj ho
                intro Az Lz vz wy Kz Ez hB k
                have e35 : Az.eval (.tmp 35) = .bool false := Ez.dep 3 35 (by kernel_rfl) rfl
                have e45 : Az.eval (.tmp 45) = .bool false := Ez.dep 13 45 (by kernel_rfl) rfl
                exact wpo_val (v := .bool false) (run_bin e35 e45 (by simp [go_sem]) (by simp [go_sem])) (k _ _ rfl hB)
              | 15, ho =>
                obtain rfl := Option.some.inj ho
                intro Az Lz vz wy Kz Ez hB k
                have e46 : Az.eval (.tmp 46) = .bool false := Ez.dep 14 46 (by kernel_rfl) rfl
                exact wpo_val (v := .bool false) (run_move e46) (k _ _ rfl hB)
              | 16, ho =>
                obtain rfl := Option.some.inj ho
                intro Az Lz vz wy Kz Ez hB k
                have e7 : Az.eval (.tmp 7) = .pointer (some ⟨q4, 0, none⟩) := Ez.out 7 (by kernel_rfl)
                have c3_0 := hB.2.cell 3 0 rfl rfl
                have c3_1 := hB.2.cell 3 1 rfl rfl
                have c3_2 := hB.2.cell 3 2 rfl rfl
                have c3_3 := hB.2.cell 3 3 rfl rfl
                exact wpo_val (v := .agg #[.int .i64 a, .int .i64 b, .int .i64 c, .int .i64 d]) (run_load e7 (by simp [go_sem, c3_0, c3_1, c3_2, c3_3])) (k _ _ rfl hB)
              | 17, ho =>
                obtain rfl := Option.some.inj ho
                intro Az Lz vz wy Kz Ez hB k
                have e9 : Az.eval (.tmp 9) = .int .i64 x := Ez.out 9 (by kernel_rfl)
                exact wpo_val (v := .int .i64 x) (run_move e9) (k _ _ rfl hB)
              | 18, ho =>
                obtain rfl := Option.some.inj ho
                intro Az Lz vz wy Kz Ez hB k
                have e10 : Az.eval (.tmp 10) = .int .i64 y := Ez.out 10 (by kernel_rfl)
                exact wpo_val (v := .int .i64 y) (run_move e10) (k _ _ rfl hB)
              | 19, ho =>
                obtain rfl := Option.some.inj ho
                intro Az Lz vz wy Kz Ez hB k
                have e48 : Az.eval (.tmp 48) = .agg #[.int .i64 a, .int .i64 b, .int .i64 c, .int .i64 d] := Ez.dep 16 48 (by kernel_rfl) rfl
                have e49 : Az.eval (.tmp 49) = .int .i64 x := Ez.dep 17 49 (by kernel_rfl) rfl
                have e50 : Az.eval (.tmp 50) = .int .i64 y := Ez.dep 18 50 (by kernel_rfl) rfl
                refine wpo_call (run_callW (fun _ _ => by kernel_rfl)) (R := fun ez w' => ez = .returned (.bool false) ∧ Below wy.heap.size wy w') ?_ ?_
                · simp only [List.map_toArray, List.map_cons, List.map_nil, eval_const, e48, e49, e50]
                  exact Ha.out wy
                · rintro ez w' ⟨rfl, hb⟩
                  exact ⟨_, rfl, k _ _ rfl ⟨bel_tr0 hB.1 hb, hB.2.later hb⟩⟩
              | 20, ho =>
                obtain rfl := Option.some.inj ho
                intro Az Lz vz wy Kz Ez hB k
                have e51 : Az.eval (.tmp 51) = .bool false := Ez.dep 19 51 (by kernel_rfl) rfl
                exact wpo_val (v := .bool false) (run_move e51) (k _ _ rfl hB)
              | 21, ho =>
                obtain rfl := Option.some.inj ho
                intro Az Lz vz wy Kz Ez hB k
                have e8 : Az.eval (.tmp 8) = .pointer (some ⟨q5, 0, none⟩) := Ez.out 8 (by kernel_rfl)
                have c2_0 := hB.2.cell 2 0 rfl rfl
                have c2_1 := hB.2.cell 2 1 rfl rfl
                have c2_2 := hB.2.cell 2 2 rfl rfl
                have c2_3 := hB.2.cell 2 3 rfl rfl
                exact wpo_val (v := .agg #[.int .i64 e, .int .i64 f, .int .i64 g, .int .i64 h]) (run_load e8 (by simp [go_sem, c2_0, c2_1, c2_2, c2_3])) (k _ _ rfl hB)
              | 22, ho =>
                obtain rfl := Option.some.inj ho
                intro Az Lz vz wy Kz Ez hB k
                have e9 : Az.eval (.tmp 9) = .int .i64 x := Ez.out 9 (by kernel_rfl)
                exact wpo_val (v := .int .i64 x) (run_move e9) (k _ _ rfl hB)
              | 23, ho =>
                obtain rfl := Option.some.inj ho
                intro Az Lz vz wy Kz Ez hB k
                have e10 : Az.eval (.tmp 10) = .int .i64 y := Ez.out 10 (by kernel_rfl)
                exact wpo_val (v := .int .i64 y) (run_move e10) (k _ _ rfl hB)
              | 24, ho =>
                obtain rfl := Option.some.inj ho
                intro Az Lz vz wy Kz Ez hB k
                have e53 : Az.eval (.tmp 53) = .agg #[.int .i64 e, .int .i64 f, .int .i64 g, .int .i64 h] := Ez.dep 21 53 (by kernel_rfl) rfl
                have e54 : Az.eval (.tmp 54) = .int .i64 x := Ez.dep 22 54 (by kernel_rfl) rfl
                have e55 : Az.eval (.tmp 55) = .int .i64 y := Ez.dep 23 55 (by kernel_rfl) rfl
                refine wpo_call (run_callW (fun _ _ => by kernel_rfl)) (R := fun ez w' => ez = .returned (.bool true) ∧ Below wy.heap.size wy w') ?_ ?_
                · simp only [List.map_toArray, List.map_cons, List.map_nil, eval_const, e53, e54, e55]
                  exact Hb.out wy
                · rintro ez w' ⟨rfl, hb⟩
                  exact ⟨_, rfl, k _ _ rfl ⟨bel_tr0 hB.1 hb, hB.2.later hb⟩⟩
              | 25, ho =>
                obtain rfl := Option.some.inj ho
                intro Az Lz vz wy Kz Ez hB k
                have e52 : Az.eval (.tmp 52) = .bool false := Ez.dep 20 52 (by kernel_rfl) rfl
                have e56 : Az.eval (.tmp 56) = .bool true := Ez.dep 24 56 (by kernel_rfl) rfl
                exact wpo_val (v := .bool true) (run_pickF e52 e56) (k _ _ rfl hB)
              | 26, ho =>
                obtain rfl := Option.some.inj ho
                intro Az Lz vz wy Kz Ez hB k
                have e57 : Az.eval (.tmp 57) = .bool true := Ez.dep 25 57 (by kernel_rfl) rfl
                exact wpo_val (v := .bool true) (run_move e57) (k _ _ rfl hB)
              | 27, ho =>
                obtain rfl := Option.some.inj ho
                intro Az Lz vz wy Kz Ez hB k
                have e12 : Az.eval (.tmp 12) = .pointer (some ⟨q7, 0, none⟩) := Ez.out 12 (by kernel_rfl)
                have c0_0 := hB.2.cell 0 0 rfl rfl
                have c0_1 := hB.2.cell 0 1 rfl rfl
                have c0_2 := hB.2.cell 0 2 rfl rfl
                have c0_3 := hB.2.cell 0 3 rfl rfl
                exact wpo_val (v := .agg #[.int .i64 X, .int .i64 Y, .int .i64 Z, .int .i64 T]) (run_load e12 (by simp [go_sem, c0_0, c0_1, c0_2, c0_3])) (k _ _ rfl hB)
              | 28, ho =>
                obtain rfl := Option.some.inj ho
                intro Az Lz vz wy Kz Ez hB k
                have e9 : Az.eval (.tmp 9) = .int .i64 x := Ez.out 9 (by kernel_rfl)
                exact wpo_val (v := .int .i64 x) (run_move e9) (k _ _ rfl hB)
              | 29, ho =>
                obtain rfl := Option.some.inj ho
                intro Az Lz vz wy Kz Ez hB k
                have e10 : Az.eval (.tmp 10) = .int .i64 y := Ez.out 10 (by kernel_rfl)
                exact wpo_val (v := .int .i64 y) (run_move e10) (k _ _ rfl hB)
              | 30, ho =>
                obtain rfl := Option.some.inj ho
                intro Az Lz vz wy Kz Ez hB k
                have e59 : Az.eval (.tmp 59) = .agg #[.int .i64 X, .int .i64 Y, .int .i64 Z, .int .i64 T] := Ez.dep 27 59 (by kernel_rfl) rfl
                have e60 : Az.eval (.tmp 60) = .int .i64 x := Ez.dep 28 60 (by kernel_rfl) rfl
                have e61 : Az.eval (.tmp 61) = .int .i64 y := Ez.dep 29 61 (by kernel_rfl) rfl
                refine wpo_call (run_callW (fun _ _ => by kernel_rfl)) (R := fun ez w' => ez = .returned (.bool true) ∧ Below wy.heap.size wy w') ?_ ?_
                · simp only [List.map_toArray, List.map_cons, List.map_nil, eval_const, e59, e60, e61]
                  exact Hh.out wy
                · rintro ez w' ⟨rfl, hb⟩
                  exact ⟨_, rfl, k _ _ rfl ⟨bel_tr0 hB.1 hb, hB.2.later hb⟩⟩
              | 31, ho =>
                obtain rfl := Option.some.inj ho
                intro Az Lz vz wy Kz Ez hB k
                have e62 : Az.eval (.tmp 62) = .bool true := Ez.dep 30 62 (by kernel_rfl) rfl
                exact wpo_val (v := .bool false) (run_un e62 (by simp [go_sem])) (k _ _ rfl hB)
              | 32, ho =>
                obtain rfl := Option.some.inj ho
                intro Az Lz vz wy Kz Ez hB k
                have e58 : Az.eval (.tmp 58) = .bool true := Ez.dep 26 58 (by kernel_rfl) rfl
                have e63 : Az.eval (.tmp 63) = .bool false := Ez.dep 31 63 (by kernel_rfl) rfl
                exact wpo_val (v := .bool false) (run_pickT e58 e63) (k _ _ rfl hB)
              | 33, ho =>
                obtain rfl := Option.some.inj ho
                intro Az Lz vz wy Kz Ez hB k
                have e47 : Az.eval (.tmp 47) = .bool false := Ez.dep 15 47 (by kernel_rfl) rfl
                have e64 : Az.eval (.tmp 64) = .bool false := Ez.dep 32 64 (by kernel_rfl) rfl
                exact wpo_val (v := .bool false) (run_pickF e47 e64) (k _ _ rfl hB)
              | 34, ho =>
                obtain rfl := Option.some.inj ho
                intro Az Lz vz wy Kz Ez hB k
                have e65 : Az.eval (.tmp 65) = .bool false := Ez.dep 33 65 (by kernel_rfl) rfl
                exact wpo_val (v := .bool false) (run_move e65) (k _ _ rfl hB)
              | 35, ho =>
                obtain rfl := Option.some.inj ho
                intro Az Lz vz wy Kz Ez hB k
                have e11 : Az.eval (.tmp 11) = .pointer (some ⟨q6, 0, none⟩) := Ez.out 11 (by kernel_rfl)
                have c1_0 := hB.2.cell 1 0 rfl rfl
                have c1_1 := hB.2.cell 1 1 rfl rfl
                have c1_2 := hB.2.cell 1 2 rfl rfl
                have c1_3 := hB.2.cell 1 3 rfl rfl
                exact wpo_val (v := .agg #[.int .i64 P, .int .i64 Q, .int .i64 R, .int .i64 S]) (run_load e11 (by simp [go_sem, c1_0, c1_1, c1_2, c1_3])) (k _ _ rfl hB)
              | 36, ho =>
                obtain rfl := Option.some.inj ho
                intro Az Lz vz wy Kz Ez hB k
                have e8 : Az.eval (.tmp 8) = .pointer (some ⟨q5, 0, none⟩) := Ez.out 8 (by kernel_rfl)
                have c2_0 := hB.2.cell 2 0 rfl rfl
                have c2_1 := hB.2.cell 2 1 rfl rfl
                have c2_2 := hB.2.cell 2 2 rfl rfl
                have c2_3 := hB.2.cell 2 3 rfl rfl
                exact wpo_val (v := .agg #[.int .i64 e, .int .i64 f, .int .i64 g, .int .i64 h]) (run_load e8 (by simp [go_sem, c2_0, c2_1, c2_2, c2_3])) (k _ _ rfl hB)
              | 37, ho =>
                obtain rfl := Option.some.inj ho
                intro Az Lz vz wy Kz Ez hB k
                have e7 : Az.eval (.tmp 7) = .pointer (some ⟨q4, 0, none⟩) := Ez.out 7 (by kernel_rfl)
                have c3_0 := hB.2.cell 3 0 rfl rfl
                have c3_1 := hB.2.cell 3 1 rfl rfl
                have c3_2 := hB.2.cell 3 2 rfl rfl
                have c3_3 := hB.2.cell 3 3 rfl rfl
                exact wpo_val (v := .agg #[.int .i64 a, .int .i64 b, .int .i64 c, .int .i64 d]) (run_load e7 (by simp [go_sem, c3_0, c3_1, c3_2, c3_3])) (k _ _ rfl hB)
              | 38, ho =>
                obtain rfl := Option.some.inj ho
                intro Az Lz vz wy Kz Ez hB k
                have e68 : Az.eval (.tmp 68) = .agg #[.int .i64 e, .int .i64 f, .int .i64 g, .int .i64 h] := Ez.dep 36 68 (by kernel_rfl) rfl
                have e69 : Az.eval (.tmp 69) = .agg #[.int .i64 a, .int .i64 b, .int .i64 c, .int .i64 d] := Ez.dep 37 69 (by kernel_rfl) rfl
                refine wpo_call (run_callW (fun _ _ => by kernel_rfl)) (R := fun ez w' => ez = .returned (.agg #[.int .i64 P, .int .i64 Q, .int .i64 R, .int .i64 S]) ∧ Below wy.heap.size wy w') ?_ ?_
                · simp only [List.map_toArray, List.map_cons, List.map_nil, eval_const, e68, e69]
                  exact NA2.out wy
                · rintro ez w' ⟨rfl, hb⟩
                  exact ⟨_, rfl, k _ _ rfl ⟨bel_tr0 hB.1 hb, hB.2.later hb⟩⟩
              | 39, ho =>
                obtain rfl := Option.some.inj ho
                intro Az Lz vz wy Kz Ez hB k
                have e67 : Az.eval (.tmp 67) = .agg #[.int .i64 P, .int .i64 Q, .int .i64 R, .int .i64 S] := Ez.dep 35 67 (by kernel_rfl) rfl
                have e70 : Az.eval (.tmp 70) = .agg #[.int .i64 P, .int .i64 Q, .int .i64 R, .int .i64 S] := Ez.dep 38 70 (by kernel_rfl) rfl
                exact wpo_val (v := .bool false) (run_bin e67 e70 (by simp [go_sem]) (by exact QA.out wy)) (k _ _ rfl hB)
              | 40, ho =>
                obtain rfl := Option.some.inj ho
                intro Az Lz vz wy Kz Ez hB k
                have e66 : Az.eval (.tmp 66) = .bool false := Ez.dep 34 66 (by kernel_rfl) rfl
                have e71 : Az.eval (.tmp 71) = .bool false := Ez.dep 39 71 (by kernel_rfl) rfl
                exact wpo_val (v := .bool false) (run_pickF e66 e71) (k _ _ rfl hB)
              | 41, ho =>
                obtain rfl := Option.some.inj ho
                intro Az Lz vz wy Kz Ez hB k
                have e72 : Az.eval (.tmp 72) = .bool false := Ez.dep 40 72 (by kernel_rfl) rfl
                exact wpo_val (v := .bool false) (run_move e72) (k _ _ rfl hB)
              | 42, ho =>
                obtain rfl := Option.some.inj ho
                intro Az Lz vz wy Kz Ez hB k
                have e12 : Az.eval (.tmp 12) = .pointer (some ⟨q7, 0, none⟩) := Ez.out 12 (by kernel_rfl)
                have c0_0 := hB.2.cell 0 0 rfl rfl
                have c0_1 := hB.2.cell 0 1 rfl rfl
                have c0_2 := hB.2.cell 0 2 rfl rfl
                have c0_3 := hB.2.cell 0 3 rfl rfl
                exact wpo_val (v := .agg #[.int .i64 X, .int .i64 Y, .int .i64 Z, .int .i64 T]) (run_load e12 (by simp [go_sem, c0_0, c0_1, c0_2, c0_3])) (k _ _ rfl hB)
              | 43, ho =>
                obtain rfl := Option.some.inj ho
                intro Az Lz vz wy Kz Ez hB k
                have e8 : Az.eval (.tmp 8) = .pointer (some ⟨q5, 0, none⟩) := Ez.out 8 (by kernel_rfl)
                have c2_0 := hB.2.cell 2 0 rfl rfl
                have c2_1 := hB.2.cell 2 1 rfl rfl
                have c2_2 := hB.2.cell 2 2 rfl rfl
                have c2_3 := hB.2.cell 2 3 rfl rfl
                exact wpo_val (v := .agg #[.int .i64 e, .int .i64 f, .int .i64 g, .int .i64 h]) (run_load e8 (by simp [go_sem, c2_0, c2_1, c2_2, c2_3])) (k _ _ rfl hB)
              | 44, ho =>
                obtain rfl := Option.some.inj ho
                intro Az Lz vz wy Kz Ez hB k
                have e7 : Az.eval (.tmp 7) = .pointer (some ⟨q4, 0, none⟩) := Ez.out 7 (by kernel_rfl)
                have c3_0 := hB.2.cell 3 0 rfl rfl
                have c3_1 := hB.2.cell 3 1 rfl rfl
                have c3_2 := hB.2.cell 3 2 rfl rfl
                have c3_3 := hB.2.cell 3 3 rfl rfl
                exact wpo_val (v := .agg #[.int .i64 a, .int .i64 b, .int .i64 c, .int .i64 d]) (run_load e7 (by simp [go_sem, c3_0, c3_1, c3_2, c3_3])) (k _ _ rfl hB)
              | 45, ho =>
                obtain rfl := Option.some.inj ho
                intro Az Lz vz wy Kz Ez hB k
                have e75 : Az.eval (.tmp 75) = .agg #[.int .i64 e, .int .i64 f, .int .i64 g, .int .i64 h] := Ez.dep 43 75 (by kernel_rfl) rfl
                have e76 : Az.eval (.tmp 76) = .agg #[.int .i64 a, .int .i64 b, .int .i64 c, .int .i64 d] := Ez.dep 44 76 (by kernel_rfl) rfl
                refine wpo_call (run_callW (fun _ _ => by kernel_rfl)) (R := fun ez w' => ez = .returned (.agg #[.int .i64 X, .int .i64 Y, .int .i64 Z, .int .i64 T]) ∧ Below wy.heap.size wy w') ?_ ?_
                · simp only [List.map_toArray, List.map_cons, List.map_nil, eval_const, e75, e76]
                  exact NH2.out wy
                · rintro ez w' ⟨rfl, hb⟩
                  exact ⟨_, rfl, k _ _ rfl ⟨bel_tr0 hB.1 hb, hB.2.later hb⟩⟩
              | 46, ho =>
                obtain rfl := Option.some.inj ho
                intro Az Lz vz wy Kz Ez hB k
                have e74 : Az.eval (.tmp 74) = .agg #[.int .i64 X, .int .i64 Y, .int .i64 Z, .int .i64 T] := Ez.dep 42 74 (by kernel_rfl) rfl
                have e77 : Az.eval (.tmp 77) = .agg #[.int .i64 X, .int .i64 Y, .int .i64 Z, .int .i64 T] := Ez.dep 45 77 (by kernel_rfl) rfl
                exact wpo_val (v := .bool false) (run_bin e74 e77 (by simp [go_sem]) (by exact QH.out wy)) (k _ _ rfl hB)
              | 47, ho =>
                obtain rfl := Option.some.inj ho
                intro Az Lz vz wy Kz Ez hB k
                have e73 : Az.eval (.tmp 73) = .bool false := Ez.dep 41 73 (by kernel_rfl) rfl
                have e78 : Az.eval (.tmp 78) = .bool false := Ez.dep 46 78 (by kernel_rfl) rfl
                exact wpo_val (v := .bool false) (run_pickF e73 e78) (k _ _ rfl hB)
              | n + 48, ho => simp at ho
            · obtain ⟨hk, hT⟩ := hB
              have KB := Lib.hid hk
              have KT := Lib.hid hT
              clear hk hT hL
              simp only [puts2, mix, Act.put, List.setIfInBounds_toArray, List.set_cons_zero, List.set_cons_succ, Nat.zero_add, Nat.reduceAdd, List.getElem?_cons_zero, List.getElem?_cons_succ]
              go_wp2_with fail
              go_meet
              exact ⟨rfl, Lib.hid ⟨KB.out, KT.out⟩⟩
          · have cn := CN.out
            have cb := CB.out
            obtain rfl : hn = false := cn
            obtain rfl : hh = true := cb (by simp)
            clear cb KTT
            refine wp_region_vals [some (.agg #[.int .i64 P, .int .i64 Q, .int .i64 R, .int .i64 S]), some (.int .i64 x), some (.int .i64 y), some (.bool false), some (.agg #[.int .i64 a, .int .i64 b, .int .i64 c, .int .i64 d]), some (.int .i64 x), some (.int .i64 y), some (.bool true), some (.bool true), some (.agg #[.int .i64 e, .int .i64 f, .int .i64 g, .int .i64 h]), some (.int .i64 x), some (.int .i64 y), some (.bool false), some (.bool false), some (.bool false), some (.bool false), some (.agg #[.int .i64 a, .int .i64 b, .int .i64 c, .int .i64 d]), some (.int .i64 x), some (.int .i64 y), some (.bool true), some (.bool true), some (undef), some (undef), some (undef), some (undef), some (.bool true), some (.bool true), some (.agg #[.int .i64 X, .int .i64 Y, .int .i64 Z, .int .i64 T]), some (.int .i64 x), some (.int .i64 y), some (.bool true), some (.bool false), some (.bool false), some (.bool false), some (.bool false), some (.agg #[.int .i64 P, .int .i64 Q, .int .i64 R, .int .i64 S]), some (.agg #[.int .i64 e, .int .i64 f, .int .i64 g, .int .i64 h]), some (.agg #[.int .i64 a, .int .i64 b, .int .i64 c, .int .i64 d]), some (.agg #[.int .i64 P, .int .i64 Q, .int .i64 R, .int .i64 S]), some (.bool false), some (.bool false), some (.bool false), some (.agg #[.int .i64 X, .int .i64 Y, .int .i64 Z, .int .i64 T]), some (.agg #[.int .i64 e, .int .i64 f, .int .i64 g, .int .i64 h]), some (.agg #[.int .i64 a, .int .i64 b, .int .i64 c, .int .i64 d]), some (.agg #[.int .i64 X, .int .i64 Y, .int .i64 Z, .int .i64 T]), some (.bool false), some (.bool false)] (fun Lz _ wy => Below w.heap.size w wy ∧ Tab wy [(q7, [.int .i64 X, .int .i64 Y, .int .i64 Z, .int .i64 T]), (q6, [.int .i64 P, .int .i64 Q, .int .i64 R, .int .i64 S]), (q5, [.int .i64 e, .int .i64 f, .int .i64 g, .int .i64 h]), (q4, [.int .i64 a, .int .i64 b, .int .i64 c, .int .i64 d]), (w.heap.size + 1 + 1, [.int .i64 x, .int .i64 y]), (w.heap.size + 1, [.int .i64 e, .int .i64 f, .int .i64 g, .int .i64 h]), (w.heap.size, [.int .i64 a, .int .i64 b, .int .i64 c, .int .i64 d])])
              [some 32, some 33, some 34, some 35, some 36, some 37, some 38, some 39, some 40, some 41, some 42, some 43, some 44, some 45, some 46, some 47, some 48, some 49, some 50, some 51, some 52, some 53, some 54, some 55, some 56, some 57, some 58, some 59, some 60, some 61, some 62, some 63, some 64, some 65, some 66, some 67, some 68, some 69, some 70, some 71, some 72, some 73, some 74, some 75, some 76, some 77, some 78, some 79] (by kernel_rfl) (by kernel_rfl) (by kernel_rfl) (by kernel_rfl) (by kernel_rfl) (by kernel_rfl) ⟨KB.out.drew, KT.out.later ((Below.refl _ _).drew)⟩ (fun i o ho => ?_) (fun Lz vz wz hL hB => ?_)
            · match i, ho with
              | 0, ho =>
                obtain rfl := Option.some.inj ho
                intro Az Lz vz wy Kz Ez hB k
                have e11 : Az.eval (.tmp 11) = .pointer (some ⟨q6, 0, none⟩) := Ez.out 11 (by kernel_rfl)
                have c1_0 := hB.2.cell 1 0 rfl rfl
                have c1_1 := hB.2.cell 1 1 rfl rfl
                have c1_2 := hB.2.cell 1 2 rfl rfl
                have c1_3 := hB.2.cell 1 3 rfl rfl
                exact wpo_val (v := .agg #[.int .i64 P, .int .i64 Q, .int .i64 R, .int .i64 S]) (run_load e11 (by simp [go_sem, c1_0, c1_1, c1_2, c1_3])) (k _ _ rfl hB)
              | 1, ho =>
                obtain rfl := Option.some.inj ho
                intro Az Lz vz wy Kz Ez hB k
                have e9 : Az.eval (.tmp 9) = .int .i64 x := Ez.out 9 (by kernel_rfl)
                exact wpo_val (v := .int .i64 x) (run_move e9) (k _ _ rfl hB)
              | 2, ho =>
                obtain rfl := Option.some.inj ho
                intro Az Lz vz wy Kz Ez hB k
                have e10 : Az.eval (.tmp 10) = .int .i64 y := Ez.out 10 (by kernel_rfl)
                exact wpo_val (v := .int .i64 y) (run_move e10) (k _ _ rfl hB)
              | 3, ho =>
                obtain rfl := Option.some.inj ho
                intro Az Lz vz wy Kz Ez hB k
                have e32 : Az.eval (.tmp 32) = .agg #[.int .i64 P, .int .i64 Q, .int .i64 R, .int .i64 S] := Ez.dep 0 32 (by kernel_rfl) rfl
                have e33 : Az.eval (.tmp 33) = .int .i64 x := Ez.dep 1 33 (by kernel_rfl) rfl
                have e34 : Az.eval (.tmp 34) = .int .i64 y := Ez.dep 2 34 (by kernel_rfl) rfl
                refine wpo_call (run_callW (fun _ _ => by kernel_rfl)) (R := fun ez w' => ez = .returned (.bool false) ∧ Below wy.heap.size wy w') ?_ ?_
                · simp only [List.map_toArray, List.map_cons, List.map_nil, eval_const, e32, e33, e34]
                  exact Hn.out wy
                · rintro ez w' ⟨rfl, hb⟩
                  exact ⟨_, rfl, k _ _ rfl ⟨bel_tr0 hB.1 hb, hB.2.later hb⟩⟩
              | 4, ho =>
                obtain rfl := Option.some.inj ho
                intro Az Lz vz wy Kz Ez hB k
                have e7 : Az.eval (.tmp 7) = .pointer (some ⟨q4, 0, none⟩) := Ez.out 7 (by kernel_rfl)
                have c3_0 := hB.2.cell 3 0 rfl rfl
                have c3_1 := hB.2.cell 3 1 rfl rfl
                have c3_2 := hB.2.cell 3 2 rfl rfl
                have c3_3 := hB.2.cell 3 3 rfl rfl
                exact wpo_val (v := .agg #[.int .i64 a, .int .i64 b, .int .i64 c, .int .i64 d]) (run_load e7 (by simp [go_sem, c3_0, c3_1, c3_2, c3_3])) (k _ _ rfl hB)
              | 5, ho =>
                obtain rfl := Option.some.inj ho
                intro Az Lz vz wy Kz Ez hB k
                have e9 : Az.eval (.tmp 9) = .int .i64 x := Ez.out 9 (by kernel_rfl)
                exact wpo_val (v := .int .i64 x) (run_move e9) (k _ _ rfl hB)
              | 6, ho =>
                obtain rfl := Option.some.inj ho
                intro Az Lz vz wy Kz Ez hB k
                have e10 : Az.eval (.tmp 10) = .int .i64 y := Ez.out 10 (by kernel_rfl)
                exact wpo_val (v := .int .i64 y) (run_move e10) (k _ _ rfl hB)
              | 7, ho =>
                obtain rfl := Option.some.inj ho
                intro Az Lz vz wy Kz Ez hB k
                have e36 : Az.eval (.tmp 36) = .agg #[.int .i64 a, .int .i64 b, .int .i64 c, .int .i64 d] := Ez.dep 4 36 (by kernel_rfl) rfl
                have e37 : Az.eval (.tmp 37) = .int .i64 x := Ez.dep 5 37 (by kernel_rfl) rfl
                have e38 : Az.eval (.tmp 38) = .int .i64 y := Ez.dep 6 38 (by kernel_rfl) rfl
                refine wpo_call (run_callW (fun _ _ => by kernel_rfl)) (R := fun ez w' => ez = .returned (.bool true) ∧ Below wy.heap.size wy w') ?_ ?_
                · simp only [List.map_toArray, List.map_cons, List.map_nil, eval_const, e36, e37, e38]
                  exact Ha.out wy
                · rintro ez w' ⟨rfl, hb⟩
                  exact ⟨_, rfl, k _ _ rfl ⟨bel_tr0 hB.1 hb, hB.2.later hb⟩⟩
              | 8, ho =>
                obtain rfl := Option.some.inj ho
                intro Az Lz vz wy Kz Ez hB k
                have e39 : Az.eval (.tmp 39) = .bool true := Ez.dep 7 39 (by kernel_rfl) rfl
                exact wpo_val (v := .bool true) (run_move e39) (k _ _ rfl hB)
              | 9, ho =>
                obtain rfl := Option.some.inj ho
                intro Az Lz vz wy Kz Ez hB k
                have e8 : Az.eval (.tmp 8) = .pointer (some ⟨q5, 0, none⟩) := Ez.out 8 (by kernel_rfl)
                have c2_0 := hB.2.cell 2 0 rfl rfl
                have c2_1 := hB.2.cell 2 1 rfl rfl
                have c2_2 := hB.2.cell 2 2 rfl rfl
                have c2_3 := hB.2.cell 2 3 rfl rfl
                exact wpo_val (v := .agg #[.int .i64 e, .int .i64 f, .int .i64 g, .int .i64 h]) (run_load e8 (by simp [go_sem, c2_0, c2_1, c2_2, c2_3])) (k _ _ rfl hB)
              | 10, ho =>
                obtain rfl := Option.some.inj ho
                intro Az Lz vz wy Kz Ez hB k
                have e9 : Az.eval (.tmp 9) = .int .i64 x := Ez.out 9 (by kernel_rfl)
                exact wpo_val (v := .int .i64 x) (run_move e9) (k _ _ rfl hB)
              | 11, ho =>
                obtain rfl := Option.some.inj ho
                intro Az Lz vz wy Kz Ez hB k
                have e10 : Az.eval (.tmp 10) = .int .i64 y := Ez.out 10 (by kernel_rfl)
                exact wpo_val (v := .int .i64 y) (run_move e10) (k _ _ rfl hB)
              | 12, ho =>
                obtain rfl := Option.some.inj ho
                intro Az Lz vz wy Kz Ez hB k
                have e41 : Az.eval (.tmp 41) = .agg #[.int .i64 e, .int .i64 f, .int .i64 g, .int .i64 h] := Ez.dep 9 41 (by kernel_rfl) rfl
                have e42 : Az.eval (.tmp 42) = .int .i64 x := Ez.dep 10 42 (by kernel_rfl) rfl
                have e43 : Az.eval (.tmp 43) = .int .i64 y := Ez.dep 11 43 (by kernel_rfl) rfl
                refine wpo_call (run_callW (fun _ _ => by kernel_rfl)) (R := fun ez w' => ez = .returned (.bool false) ∧ Below wy.heap.size wy w') ?_ ?_
                · simp only [List.map_toArray, List.map_cons, List.map_nil, eval_const, e41, e42, e43]
                  exact Hb.out wy
                · rintro ez w' ⟨rfl, hb⟩
                  exact ⟨_, rfl, k _ _ rfl ⟨bel_tr0 hB.1 hb, hB.2.later hb⟩⟩
              | 13, ho =>
                obtain rfl := Option.some.inj ho
                intro Az Lz vz wy Kz Ez hB k
                have e40 : Az.eval (.tmp 40) = .bool true := Ez.dep 8 40 (by kernel_rfl) rfl
                have e44 : Az.eval (.tmp 44) = .bool false := Ez.dep 12 44 (by kernel_rfl) rfl
                exact wpo_val (v := .bool false) (run_pickT e40 e44) (k _ _ rfl hB)
              | 14, ho =>
                obtain rfl := Option.some.inj ho
                intro Az Lz vz wy Kz Ez hB k
                have e35 : Az.eval (.tmp 35) = .bool false := Ez.dep 3 35 (by kernel_rfl) rfl
                have e45 : Az.eval (.tmp 45) = .bool false := Ez.dep 13 45 (by kernel_rfl) rfl
                exact wpo_val (v := .bool false) (run_bin e35 e45 (by simp [go_sem]) (by simp [go_sem])) (k _ _ rfl hB)
              | 15, ho =>
                obtain rfl := Option.some.inj ho
                intro Az Lz vz wy Kz Ez hB k
                have e46 : Az.eval (.tmp 46) = .bool false := Ez.dep 14 46 (by kernel_rfl) rfl
                exact wpo_val (v := .bool false) (run_move e46) (k _ _ rfl hB)
              | 16, ho =>
                obtain rfl := Option.some.inj ho
                intro Az Lz vz wy Kz Ez hB k
                have e7 : Az.eval (.tmp 7) = .pointer (some ⟨q4, 0, none⟩) := Ez.out 7 (by kernel_rfl)
                have c3_0 := hB.2.cell 3 0 rfl rfl
                have c3_1 := hB.2.cell 3 1 rfl rfl
                have c3_2 := hB.2.cell 3 2 rfl rfl
                have c3_3 := hB.2.cell 3 3 rfl rfl
                exact wpo_val (v := .agg #[.int .i64 a, .int .i64 b, .int .i64 c, .int .i64 d]) (run_load e7 (by simp [go_sem, c3_0, c3_1, c3_2, c3_3])) (k _ _ rfl hB)
              | 17, ho =>
                obtain rfl := Option.some.inj ho
                intro Az Lz vz wy Kz Ez hB k
                have e9 : Az.eval (.tmp 9) = .int .i64 x := Ez.out 9 (by kernel_rfl)
                exact wpo_val (v := .int .i64 x) (run_move e9) (k _ _ rfl hB)
              | 18, ho =>
                obtain rfl := Option.some.inj ho
                intro Az Lz vz wy Kz Ez hB k
                have e10 : Az.eval (.tmp 10) = .int .i64 y := Ez.out 10 (by kernel_rfl)
                exact wpo_val (v := .int .i64 y) (run_move e10) (k _ _ rfl hB)
              | 19, ho =>
                obtain rfl := Option.some.inj ho
                intro Az Lz vz wy Kz Ez hB k
                have e48 : Az.eval (.tmp 48) = .agg #[.int .i64 a, .int .i64 b, .int .i64 c, .int .i64 d] := Ez.dep 16 48 (by kernel_rfl) rfl
                have e49 : Az.eval (.tmp 49) = .int .i64 x := Ez.dep 17 49 (by kernel_rfl) rfl
                have e50 : Az.eval (.tmp 50) = .int .i64 y := Ez.dep 18 50 (by kernel_rfl) rfl
                refine wpo_call (run_callW (fun _ _ => by kernel_rfl)) (R := fun ez w' => ez = .returned (.bool true) ∧ Below wy.heap.size wy w') ?_ ?_
                · simp only [List.map_toArray, List.map_cons, List.map_nil, eval_const, e48, e49, e50]
                  exact Ha.out wy
                · rintro ez w' ⟨rfl, hb⟩
                  exact ⟨_, rfl, k _ _ rfl ⟨bel_tr0 hB.1 hb, hB.2.later hb⟩⟩
              | 20, ho =>
                obtain rfl := Option.some.inj ho
                intro Az Lz vz wy Kz Ez hB k
                have e51 : Az.eval (.tmp 51) = .bool true := Ez.dep 19 51 (by kernel_rfl) rfl
                exact wpo_val (v := .bool true) (run_move e51) (k _ _ rfl hB)
              | 21, ho =>
                obtain rfl := Option.some.inj ho
                exact ⟨rfl, fun Lz vz wy h => h⟩
              | 22, ho =>
                obtain rfl := Option.some.inj ho
                exact ⟨rfl, fun Lz vz wy h => h⟩
              | 23, ho =>
                obtain rfl := Option.some.inj ho
                exact ⟨rfl, fun Lz vz wy h => h⟩
              | 24, ho =>
                obtain rfl := Option.some.inj ho
                exact ⟨rfl, fun Lz vz wy h => h⟩
              | 25, ho =>
                obtain rfl := Option.some.inj ho
                intro Az Lz vz wy Kz Ez hB k
                have e52 : Az.eval (.tmp 52) = .bool true := Ez.dep 20 52 (by kernel_rfl) rfl
                have e56 : Az.eval (.tmp 56) = undef := Ez.dep 24 56 (by kernel_rfl) rfl
                exact wpo_val (v := .bool true) (run_pickT e52 rfl) (k _ _ rfl hB)
              | 26, ho =>
                obtain rfl := Option.some.inj ho
                intro Az Lz vz wy Kz Ez hB k
                have e57 : Az.eval (.tmp 57) = .bool true := Ez.dep 25 57 (by kernel_rfl) rfl
                exact wpo_val (v := .bool true) (run_move e57) (k _ _ rfl hB)
              | 27, ho =>
                obtain rfl := Option.some.inj ho
                intro Az Lz vz wy Kz Ez hB k
                have e12 : Az.eval (.tmp 12) = .pointer (some ⟨q7, 0, none⟩) := Ez.out 12 (by kernel_rfl)
                have c0_0 := hB.2.cell 0 0 rfl rfl
                have c0_1 := hB.2.cell 0 1 rfl rfl
                have c0_2 := hB.2.cell 0 2 rfl rfl
                have c0_3 := hB.2.cell 0 3 rfl rfl
                exact wpo_val (v := .agg #[.int .i64 X, .int .i64 Y, .int .i64 Z, .int .i64 T]) (run_load e12 (by simp [go_sem, c0_0, c0_1, c0_2, c0_3])) (k _ _ rfl hB)
              | 28, ho =>
                obtain rfl := Option.some.inj ho
                intro Az Lz vz wy Kz Ez hB k
                have e9 : Az.eval (.tmp 9) = .int .i64 x := Ez.out 9 (by kernel_rfl)
                exact wpo_val (v := .int .i64 x) (run_move e9) (k _ _ rfl hB)
              | 29, ho =>
                obtain rfl := Option.some.inj ho
                intro Az Lz vz wy Kz Ez hB k
                have e10 : Az.eval (.tmp 10) = .int .i64 y := Ez.out 10 (by kernel_rfl)
                exact wpo_val (v := .int .i64 y) (run_move e10) (k _ _ rfl hB)
              | 30, ho =>
                obtain rfl := Option.some.inj ho
                intro Az Lz vz wy Kz Ez hB k
                have e59 : Az.eval (.tmp 59) = .agg #[.int .i64 X, .int .i64 Y, .int .i64 Z, .int .i64 T] := Ez.dep 27 59 (by kernel_rfl) rfl
                have e60 : Az.eval (.tmp 60) = .int .i64 x := Ez.dep 28 60 (by kernel_rfl) rfl
                have e61 : Az.eval (.tmp 61) = .int .i64 y := Ez.dep 29 61 (by kernel_rfl) rfl
                refine wpo_call (run_callW (fun _ _ => by kernel_rfl)) (R := fun ez w' => ez = .returned (.bool true) ∧ Below wy.heap.size wy w') ?_ ?_
                · simp only [List.map_toArray, List.map_cons, List.map_nil, eval_const, e59, e60, e61]
                  exact Hh.out wy
                · rintro ez w' ⟨rfl, hb⟩
                  exact ⟨_, rfl, k _ _ rfl ⟨bel_tr0 hB.1 hb, hB.2.later hb⟩⟩
              | 31, ho =>
                obtain rfl := Option.some.inj ho
                intro Az Lz vz wy Kz Ez hB k
                have e62 : Az.eval (.tmp 62) = .bool true := Ez.dep 30 62 (by kernel_rfl) rfl
                exact wpo_val (v := .bool false) (run_un e62 (by simp [go_sem])) (k _ _ rfl hB)
              | 32, ho =>
                obtain rfl := Option.some.inj ho
                intro Az Lz vz wy Kz Ez hB k
                have e58 : Az.eval (.tmp 58) = .bool true := Ez.dep 26 58 (by kernel_rfl) rfl
                have e63 : Az.eval (.tmp 63) = .bool false := Ez.dep 31 63 (by kernel_rfl) rfl
                exact wpo_val (v := .bool false) (run_pickT e58 e63) (k _ _ rfl hB)
              | 33, ho =>
                obtain rfl := Option.some.inj ho
                intro Az Lz vz wy Kz Ez hB k
                have e47 : Az.eval (.tmp 47) = .bool false := Ez.dep 15 47 (by kernel_rfl) rfl
                have e64 : Az.eval (.tmp 64) = .bool false := Ez.dep 32 64 (by kernel_rfl) rfl
                exact wpo_val (v := .bool false) (run_pickF e47 e64) (k _ _ rfl hB)
              | 34, ho =>
                obtain rfl := Option.some.inj ho
                intro Az Lz vz wy Kz Ez hB k
                have e65 : Az.eval (.tmp 65) = .bool false := Ez.dep 33 65 (by kernel_rfl) rfl
                exact wpo_val (v := .bool false) (run_move e65) (k _ _ rfl hB)
              | 35, ho =>
                obtain rfl := Option.some.inj ho
                intro Az Lz vz wy Kz Ez hB k
                have e11 : Az.eval (.tmp 11) = .pointer (some ⟨q6, 0, none⟩) := Ez.out 11 (by kernel_rfl)
                have c1_0 := hB.2.cell 1 0 rfl rfl
                have c1_1 := hB.2.cell 1 1 rfl rfl
                have c1_2 := hB.2.cell 1 2 rfl rfl
                have c1_3 := hB.2.cell 1 3 rfl rfl
                exact wpo_val (v := .agg #[.int .i64 P, .int .i64 Q, .int .i64 R, .int .i64 S]) (run_load e11 (by simp [go_sem, c1_0, c1_1, c1_2, c1_3])) (k _ _ rfl hB)
              | 36, ho =>
                obtain rfl := Option.some.inj ho
                intro Az Lz vz wy Kz Ez hB k
                have e8 : Az.eval (.tmp 8) = .pointer (some ⟨q5, 0, none⟩) := Ez.out 8 (by kernel_rfl)
                have c2_0 := hB.2.cell 2 0 rfl rfl
                have c2_1 := hB.2.cell 2 1 rfl rfl
                have c2_2 := hB.2.cell 2 2 rfl rfl
                have c2_3 := hB.2.cell 2 3 rfl rfl
                exact wpo_val (v := .agg #[.int .i64 e, .int .i64 f, .int .i64 g, .int .i64 h]) (run_load e8 (by simp [go_sem, c2_0, c2_1, c2_2, c2_3])) (k _ _ rfl hB)
              | 37, ho =>
                obtain rfl := Option.some.inj ho
                intro Az Lz vz wy Kz Ez hB k
                have e7 : Az.eval (.tmp 7) = .pointer (some ⟨q4, 0, none⟩) := Ez.out 7 (by kernel_rfl)
                have c3_0 := hB.2.cell 3 0 rfl rfl
                have c3_1 := hB.2.cell 3 1 rfl rfl
                have c3_2 := hB.2.cell 3 2 rfl rfl
                have c3_3 := hB.2.cell 3 3 rfl rfl
                exact wpo_val (v := .agg #[.int .i64 a, .int .i64 b, .int .i64 c, .int .i64 d]) (run_load e7 (by simp [go_sem, c3_0, c3_1, c3_2, c3_3])) (k _ _ rfl hB)
              | 38, ho =>
                obtain rfl := Option.some.inj ho
                intro Az Lz vz wy Kz Ez hB k
                have e68 : Az.eval (.tmp 68) = .agg #[.int .i64 e, .int .i64 f, .int .i64 g, .int .i64 h] := Ez.dep 36 68 (by kernel_rfl) rfl
                have e69 : Az.eval (.tmp 69) = .agg #[.int .i64 a, .int .i64 b, .int .i64 c, .int .i64 d] := Ez.dep 37 69 (by kernel_rfl) rfl
                refine wpo_call (run_callW (fun _ _ => by kernel_rfl)) (R := fun ez w' => ez = .returned (.agg #[.int .i64 P, .int .i64 Q, .int .i64 R, .int .i64 S]) ∧ Below wy.heap.size wy w') ?_ ?_
                · simp only [List.map_toArray, List.map_cons, List.map_nil, eval_const, e68, e69]
                  exact NA2.out wy
                · rintro ez w' ⟨rfl, hb⟩
                  exact ⟨_, rfl, k _ _ rfl ⟨bel_tr0 hB.1 hb, hB.2.later hb⟩⟩
              | 39, ho =>
                obtain rfl := Option.some.inj ho
                intro Az Lz vz wy Kz Ez hB k
                have e67 : Az.eval (.tmp 67) = .agg #[.int .i64 P, .int .i64 Q, .int .i64 R, .int .i64 S] := Ez.dep 35 67 (by kernel_rfl) rfl
                have e70 : Az.eval (.tmp 70) = .agg #[.int .i64 P, .int .i64 Q, .int .i64 R, .int .i64 S] := Ez.dep 38 70 (by kernel_rfl) rfl
                exact wpo_val (v := .bool false) (run_bin e67 e70 (by simp [go_sem]) (by exact QA.out wy)) (k _ _ rfl hB)
              | 40, ho =>
                obtain rfl := Option.some.inj ho
                intro Az Lz vz wy Kz Ez hB k
                have e66 : Az.eval (.tmp 66) = .bool false := Ez.dep 34 66 (by kernel_rfl) rfl
                have e71 : Az.eval (.tmp 71) = .bool false := Ez.dep 39 71 (by kernel_rfl) rfl
                exact wpo_val (v := .bool false) (run_pickF e66 e71) (k _ _ rfl hB)
              | 41, ho =>
                obtain rfl := Option.some.inj ho
                intro Az Lz vz wy Kz Ez hB k
                have e72 : Az.eval (.tmp 72) = .bool false := Ez.dep 40 72 (by kernel_rfl) rfl
                exact wpo_val (v := .bool false) (run_move e72) (k _ _ rfl hB)
              | 42, ho =>
                obtain rfl := Option.some.inj ho
                intro Az Lz vz wy Kz Ez hB k
                have e12 : Az.eval (.tmp 12) = .pointer (some ⟨q7, 0, none⟩) := Ez.out 12 (by kernel_rfl)
                have c0_0 := hB.2.cell 0 0 rfl rfl
                have c0_1 := hB.2.cell 0 1 rfl rfl
                have c0_2 := hB.2.cell 0 2 rfl rfl
                have c0_3 := hB.2.cell 0 3 rfl rfl
                exact wpo_val (v := .agg #[.int .i64 X, .int .i64 Y, .int .i64 Z, .int .i64 T]) (run_load e12 (by simp [go_sem, c0_0, c0_1, c0_2, c0_3])) (k _ _ rfl hB)
              | 43, ho =>
                obtain rfl := Option.some.inj ho
                intro Az Lz vz wy Kz Ez hB k
                have e8 : Az.eval (.tmp 8) = .pointer (some ⟨q5, 0, none⟩) := Ez.out 8 (by kernel_rfl)
                have c2_0 := hB.2.cell 2 0 rfl rfl
                have c2_1 := hB.2.cell 2 1 rfl rfl
                have c2_2 := hB.2.cell 2 2 rfl rfl
                have c2_3 := hB.2.cell 2 3 rfl rfl
                exact wpo_val (v := .agg #[.int .i64 e, .int .i64 f, .int .i64 g, .int .i64 h]) (run_load e8 (by simp [go_sem, c2_0, c2_1, c2_2, c2_3])) (k _ _ rfl hB)
              | 44, ho =>
                obtain rfl := Option.some.inj ho
                intro Az Lz vz wy Kz Ez hB k
                have e7 : Az.eval (.tmp 7) = .pointer (some ⟨q4, 0, none⟩) := Ez.out 7 (by kernel_rfl)
                have c3_0 := hB.2.cell 3 0 rfl rfl
                have c3_1 := hB.2.cell 3 1 rfl rfl
                have c3_2 := hB.2.cell 3 2 rfl rfl
                have c3_3 := hB.2.cell 3 3 rfl rfl
                exact wpo_val (v := .agg #[.int .i64 a, .int .i64 b, .int .i64 c, .int .i64 d]) (run_load e7 (by simp [go_sem, c3_0, c3_1, c3_2, c3_3])) (k _ _ rfl hB)
              | 45, ho =>
                obtain rfl := Option.some.inj ho
                intro Az Lz vz wy Kz Ez hB k
                have e75 : Az.eval (.tmp 75) = .agg #[.int .i64 e, .int .i64 f, .int .i64 g, .int .i64 h] := Ez.dep 43 75 (by kernel_rfl) rfl
                have e76 : Az.eval (.tmp 76) = .agg #[.int .i64 a, .int .i64 b, .int .i64 c, .int .i64 d] := Ez.dep 44 76 (by kernel_rfl) rfl
                refine wpo_call (run_callW (fun _ _ => by kernel_rfl)) (R := fun ez w' => ez = .returned (.agg #[.int .i64 X, .int .i64 Y, .int .i64 Z, .int .i64 T]) ∧ Below wy.heap.size wy w') ?_ ?_
                · simp only [List.map_toArray, List.map_cons, List.map_nil, eval_const, e75, e76]
                  exact NH2.out wy
                · rintro ez w' ⟨rfl, hb⟩
                  exact ⟨_, rfl, k _ _ rfl ⟨bel_tr0 hB.1 hb, hB.2.later hb⟩⟩
              | 46, ho =>
                obtain rfl := Option.some.inj ho
                intro Az Lz vz wy Kz Ez hB k
                have e74 : Az.eval (.tmp 74) = .agg #[.int .i64 X, .int .i64 Y, .int .i64 Z, .int .i64 T] := Ez.dep 42 74 (by kernel_rfl) rfl
                have e77 : Az.eval (.tmp 77) = .agg #[.int .i64 X, .int .i64 Y, .int .i64 Z, .int .i64 T] := Ez.dep 45 77 (by kernel_rfl) rfl
                exact wpo_val (v := .bool false) (run_bin e74 e77 (by simp [go_sem]) (by exact QH.out wy)) (k _ _ rfl hB)
              | 47, ho =>
                obtain rfl := Option.some.inj ho
                intro Az Lz vz wy Kz Ez hB k
                have e73 : Az.eval (.tmp 73) = .bool false := Ez.dep 41 73 (by kernel_rfl) rfl
                have e78 : Az.eval (.tmp 78) = .bool false := Ez.dep 46 78 (by kernel_rfl) rfl
                exact wpo_val (v := .bool false) (run_pickF e73 e78) (k _ _ rfl hB)
              | n + 48, ho => simp at ho
            · obtain ⟨hk, hT⟩ := hB
              have KB := Lib.hid hk
              have KT := Lib.hid hT
              clear hk hT hL
              simp only [puts2, mix, Act.put, List.setIfInBounds_toArray, List.set_cons_zero, List.set_cons_succ, Nat.zero_add, Nat.reduceAdd, List.getElem?_cons_zero, List.getElem?_cons_succ]
              go_wp2_with fail
              go_meet
              exact ⟨rfl, Lib.hid ⟨KB.out, KT.out⟩⟩
          · have cn := CN.out
            have cb := CB.out
            obtain rfl : hn = true := cn
            obtain rfl : hh = true := cb (by simp)
            clear cb KTT
            refine wp_region_vals [some (.agg #[.int .i64 P, .int .i64 Q, .int .i64 R, .int .i64 S]), some (.int .i64 x), some (.int .i64 y), some (.bool true), some (.agg #[.int .i64 a, .int .i64 b, .int .i64 c, .int .i64 d]), some (.int .i64 x), some (.int .i64 y), some (.bool true), some (.bool true), some (.agg #[.int .i64 e, .int .i64 f, .int .i64 g, .int .i64 h]), some (.int .i64 x), some (.int .i64 y), some (.bool true), some (.bool true), some (.bool false), some (.bool false), some (.agg #[.int .i64 a, .int .i64 b, .int .i64 c, .int .i64 d]), some (.int .i64 x), some (.int .i64 y), some (.bool true), some (.bool true), some (undef), some (undef), some (undef), some (undef), some (.bool true), some (.bool true), some (.agg #[.int .i64 X, .int .i64 Y, .int .i64 Z, .int .i64 T]), some (.int .i64 x), some (.int .i64 y), some (.bool true), some (.bool false), some (.bool false), some (.bool false), some (.bool false), some (.agg #[.int .i64 P, .int .i64 Q, .int .i64 R, .int .i64 S]), some (.agg #[.int .i64 e, .int .i64 f, .int .i64 g, .int .i64 h]), some (.agg #[.int .i64 a, .int .i64 b, .int .i64 c, .int .i64 d]), some (.agg #[.int .i64 P, .int .i64 Q, .int .i64 R, .int .i64 S]), some (.bool false), some (.bool false), some (.bool false), some (.agg #[.int .i64 X, .int .i64 Y, .int .i64 Z, .int .i64 T]), some (.agg #[.int .i64 e, .int .i64 f, .int .i64 g, .int .i64 h]), some (.agg #[.int .i64 a, .int .i64 b, .int .i64 c, .int .i64 d]), some (.agg #[.int .i64 X, .int .i64 Y, .int .i64 Z, .int .i64 T]), some (.bool false), some (.bool false)] (fun Lz _ wy => Below w.heap.size w wy ∧ Tab wy [(q7, [.int .i64 X, .int .i64 Y, .int .i64 Z, .int .i64 T]), (q6, [.int .i64 P, .int .i64 Q, .int .i64 R, .int .i64 S]), (q5, [.int .i64 e, .int .i64 f, .int .i64 g, .int .i64 h]), (q4, [.int .i64 a, .int .i64 b, .int .i64 c, .int .i64 d]), (w.heap.size + 1 + 1, [.int .i64 x, .int .i64 y]), (w.heap.size + 1, [.int .i64 e, .int .i64 f, .int .i64 g, .int .i64 h]), (w.heap.size, [.int .i64 a, .int .i64 b, .int .i64 c, .int .i64 d])])
              [some 32, some 33, some 34, some 35, some 36, some 37, some 38, some 39, some 40, some 41, some 42, some 43, some 44, some 45, some 46, some 47, some 48, some 49, some 50, some 51, some 52, some 53, some 54, some 55, some 56, some 57, some 58, some 59, some 60, some 61, some 62, some 63, some 64, some 65, some 66, some 67, some 68, some 69, some 70, some 71, some 72, some 73, some 74, some 75, some 76, some 77, some 78, some 79] (by kernel_rfl) (by kernel_rfl) (by kernel_rfl) (by kernel_rfl) (by kernel_rfl) (by kernel_rfl) ⟨KB.out.drew, KT.out.later ((Below.refl _ _).drew)⟩ (fun i o ho => ?_) (fun Lz vz wz hL hB => ?_)
            · match i, ho with
              | 0, ho =>
                obtain rfl := Option.some.inj ho
                intro Az Lz vz wy Kz Ez hB k
                have e11 : Az.eval (.tmp 11) = .pointer (some ⟨q6, 0, none⟩) := Ez.out 11 (by kernel_rfl)
                have c1_0 := hB.2.cell 1 0 rfl rfl
                have c1_1 := hB.2.cell 1 1 rfl rfl
                have c1_2 := hB.2.cell 1 2 rfl rfl
                have c1_3 := hB.2.cell 1 3 rfl rfl
                exact wpo_val (v := .agg #[.int .i64 P, .int .i64 Q, .int .i64 R, .int .i64 S]) (run_load e11 (by simp [go_sem, c1_0, c1_1, c1_2, c1_3])) (k _ _ rfl hB)
              | 1, ho =>
                obtain rfl := Option.some.inj ho
                intro Az Lz vz wy Kz Ez hB k
                have e9 : Az.eval (.tmp 9) = .int .i64 x := Ez.out 9 (by kernel_rfl)
                exact wpo_val (v := .int .i64 x) (run_move e9) (k _ _ rfl hB)
              | 2, ho =>
                obtain rfl := Option.some.inj ho
                intro Az Lz vz wy Kz Ez hB k
                have e10 : Az.eval (.tmp 10) = .int .i64 y := Ez.out 10 (by kernel_rfl)
                exact wpo_val (v := .int .i64 y) (run_move e10) (k _ _ rfl hB)
              | 3, ho =>
                obtain rfl := Option.some.inj ho
                intro Az Lz vz wy Kz Ez hB k
                have e32 : Az.eval (.tmp 32) = .agg #[.int .i64 P, .int .i64 Q, .int .i64 R, .int .i64 S] := Ez.dep 0 32 (by kernel_rfl) rfl
                have e33 : Az.eval (.tmp 33) = .int .i64 x := Ez.dep 1 33 (by kernel_rfl) rfl
                have e34 : Az.eval (.tmp 34) = .int .i64 y := Ez.dep 2 34 (by kernel_rfl) rfl
                refine wpo_call (run_callW (fun _ _ => by kernel_rfl)) (R := fun ez w' => ez = .returned (.bool true) ∧ Below wy.heap.size wy w') ?_ ?_
                · simp only [List.map_toArray, List.map_cons, List.map_nil, eval_const, e32, e33, e34]
                  exact Hn.out wy
                · rintro ez w' ⟨rfl, hb⟩
                  exact ⟨_, rfl, k _ _ rfl ⟨bel_tr0 hB.1 hb, hB.2.later hb⟩⟩
              | 4, ho =>
                obtain rfl := Option.some.inj ho
                intro Az Lz vz wy Kz Ez hB k
                have e7 : Az.eval (.tmp 7) = .pointer (some ⟨q4, 0, none⟩) := Ez.out 7 (by kernel_rfl)
                have c3_0 := hB.2.cell 3 0 rfl rfl
                have c3_1 := hB.2.cell 3 1 rfl rfl
                have c3_2 := hB.2.cell 3 2 rfl rfl
                have c3_3 := hB.2.cell 3 3 rfl rfl
                exact wpo_val (v := .agg #[.int .i64 a, .int .i64 b, .int .i64 c, .int .i64 d]) (run_load e7 (by simp [go_sem, c3_0, c3_1, c3_2, c3_3])) (k _ _ rfl hB)
              | 5, ho =>
                obtain rfl := Option.some.inj ho
                intro Az Lz vz wy Kz Ez hB k
                have e9 : Az.eval (.tmp 9) = .int .i64 x := Ez.out 9 (by kernel_rfl)
                exact wpo_val (v := .int .i64 x) (run_move e9) (k _ _ rfl hB)
              | 6, ho =>
                obtain rfl := Option.some.inj ho
                intro Az Lz vz wy Kz Ez hB k
                have e10 : Az.eval (.tmp 10) = .int .i64 y := Ez.out 10 (by kernel_rfl)
                exact wpo_val (v := .int .i64 y) (run_move e10) (k _ _ rfl hB)
              | 7, ho =>
                obtain rfl := Option.some.inj ho
                intro Az Lz vz wy Kz Ez hB k
                have e36 : Az.eval (.tmp 36) = .agg #[.int .i64 a, .int .i64 b, .int .i64 c, .int .i64 d] := Ez.dep 4 36 (by kernel_rfl) rfl
                have e37 : Az.eval (.tmp 37) = .int .i64 x := Ez.dep 5 37 (by kernel_rfl) rfl
                have e38 : Az.eval (.tmp 38) = .int .i64 y := Ez.dep 6 38 (by kernel_rfl) rfl
                refine wpo_call (run_callW (fun _ _ => by kernel_rfl)) (R := fun ez w' => ez = .returned (.bool true) ∧ Below wy.heap.size wy w') ?_ ?_
                · simp only [List.map_toArray, List.map_cons, List.map_nil, eval_const, e36, e37, e38]
                  exact Ha.out wy
                · rintro ez w' ⟨rfl, hb⟩
                  exact ⟨_, rfl, k _ _ rfl ⟨bel_tr0 hB.1 hb, hB.2.later hb⟩⟩
              | 8, ho =>
                obtain rfl := Option.some.inj ho
                intro Az Lz vz wy Kz Ez hB k
                have e39 : Az.eval (.tmp 39) = .bool true := Ez.dep 7 39 (by kernel_rfl) rfl
                exact wpo_val (v := .bool true) (run_move e39) (k _ _ rfl hB)
              | 9, ho =>
                obtain rfl := Option.some.inj ho
                intro Az Lz vz wy Kz Ez hB k
                have e8 : Az.eval (.tmp 8) = .pointer (some ⟨q5, 0, none⟩) := Ez.out 8 (by kernel_rfl)
                have c2_0 := hB.2.cell 2 0 rfl rfl
                have c2_1 := hB.2.cell 2 1 rfl rfl
                have c2_2 := hB.2.cell 2 2 rfl rfl
                have c2_3 := hB.2.cell 2 3 rfl rfl
                exact wpo_val (v := .agg #[.int .i64 e, .int .i64 f, .int .i64 g, .int .i64 h]) (run_load e8 (by simp [go_sem, c2_0, c2_1, c2_2, c2_3])) (k _ _ rfl hB)
              | 10, ho =>
                obtain rfl := Option.some.inj ho
                intro Az Lz vz wy Kz Ez hB k
                have e9 : Az.eval (.tmp 9) = .int .i64 x := Ez.out 9 (by kernel_rfl)
                exact wpo_val (v := .int .i64 x) (run_move e9) (k _ _ rfl hB)
              | 11, ho =>
                obtain rfl := Option.some.inj ho
                intro Az Lz vz wy Kz Ez hB k
                have e10 : Az.eval (.tmp 10) = .int .i64 y := Ez.out 10 (by kernel_rfl)
                exact wpo_val (v := .int .i64 y) (run_move e10) (k _ _ rfl hB)
              | 12, ho =>
                obtain rfl := Option.some.inj ho
                intro Az Lz vz wy Kz Ez hB k
                have e41 : Az.eval (.tmp 41) = .agg #[.int .i64 e, .int .i64 f, .int .i64 g, .int .i64 h] := Ez.dep 9 41 (by kernel_rfl) rfl
                have e42 : Az.eval (.tmp 42) = .int .i64 x := Ez.dep 10 42 (by kernel_rfl) rfl
                have e43 : Az.eval (.tmp 43) = .int .i64 y := Ez.dep 11 43 (by kernel_rfl) rfl
                refine wpo_call (run_callW (fun _ _ => by kernel_rfl)) (R := fun ez w' => ez = .returned (.bool true) ∧ Below wy.heap.size wy w') ?_ ?_
                · simp only [List.map_toArray, List.map_cons, List.map_nil, eval_const, e41, e42, e43]
                  exact Hb.out wy
                · rintro ez w' ⟨rfl, hb⟩
                  exact ⟨_, rfl, k _ _ rfl ⟨bel_tr0 hB.1 hb, hB.2.later hb⟩⟩
              | 13, ho =>
                obtain rfl := Option.some.inj ho
                intro Az Lz vz wy Kz Ez hB k
                have e40 : Az.eval (.tmp 40) = .bool true := Ez.dep 8 40 (by kernel_rfl) rfl
                have e44 : Az.eval (.tmp 44) = .bool true := Ez.dep 12 44 (by kernel_rfl) rfl
                exact wpo_val (v := .bool true) (run_pickT e40 e44) (k _ _ rfl hB)
              | 14, ho =>
                obtain rfl := Option.some.inj ho
                intro Az Lz vz wy Kz Ez hB k
                have e35 : Az.eval (.tmp 35) = .bool true := Ez.dep 3 35 (by kernel_rfl) rfl
                have e45 : Az.eval (.tmp 45) = .bool true := Ez.dep 13 45 (by kernel_rfl) rfl
                exact wpo_val (v := .bool false) (run_bin e35 e45 (by simp [go_sem]) (by simp [go_sem])) (k _ _ rfl hB)
              | 15, ho =>
                obtain rfl := Option.some.inj ho
                intro Az Lz vz wy Kz Ez hB k
                have e46 : Az.eval (.tmp 46) = .bool false := Ez.dep 14 46 (by kernel_rfl) rfl
                exact wpo_val (v := .bool false) (run_move e46) (k _ _ rfl hB)
              | 16, ho =>
                obtain rfl := Option.some.inj ho
                intro Az Lz vz wy Kz Ez hB k
                have e7 : Az.eval (.tmp 7) = .pointer (some ⟨q4, 0, none⟩) := Ez.out 7 (by kernel_rfl)
                have c3_0 := hB.2.cell 3 0 rfl rfl
                have c3_1 := hB.2.cell 3 1 rfl rfl
                have c3_2 := hB.2.cell 3 2 rfl rfl
                have c3_3 := hB.2.cell 3 3 rfl rfl
                exact wpo_val (v := .agg #[.int .i64 a, .int .i64 b, .int .i64 c, .int .i64 d]) (run_load e7 (by simp [go_sem, c3_0, c3_1, c3_2, c3_3])) (k _ _ rfl hB)
              | 17, ho =>
                obtain rfl := Option.some.inj ho
                intro Az Lz vz wy Kz Ez hB k
                have e9 : Az.eval (.tmp 9) = .int .i64 x := Ez.out 9 (by kernel_rfl)
                exact wpo_val (v := .int .i64 x) (run_move e9) (k _ _ rfl hB)
              | 18, ho =>
                obtain rfl := Option.some.inj ho
                intro Az Lz vz wy Kz Ez hB k
                have e10 : Az.eval (.tmp 10) = .int .i64 y := Ez.out 10 (by kernel_rfl)
                exact wpo_val (v := .int .i64 y) (run_move e10) (k _ _ rfl hB)
              | 19, ho =>
                obtain rfl := Option.some.inj ho
                intro Az Lz vz wy Kz Ez hB k
                have e48 : Az.eval (.tmp 48) = .agg #[.int .i64 a, .int .i64 b, .int .i64 c, .int .i64 d] := Ez.dep 16 48 (by kernel_rfl) rfl
                have e49 : Az.eval (.tmp 49) = .int .i64 x := Ez.dep 17 49 (by kernel_rfl) rfl
                have e50 : Az.eval (.tmp 50) = .int .i64 y := Ez.dep 18 50 (by kernel_rfl) rfl
                refine wpo_call (run_callW (fun _ _ => by kernel_rfl)) (R := fun ez w' => ez = .returned (.bool true) ∧ Below wy.heap.size wy w') ?_ ?_
                · simp only [List.map_toArray, List.map_cons, List.map_nil, eval_const, e48, e49, e50]
                  exact Ha.out wy
                · rintro ez w' ⟨rfl, hb⟩
                  exact ⟨_, rfl, k _ _ rfl ⟨bel_tr0 hB.1 hb, hB.2.later hb⟩⟩
              | 20, ho =>
                obtain rfl := Option.some.inj ho
                intro Az Lz vz wy Kz Ez hB k
                have e51 : Az.eval (.tmp 51) = .bool true := Ez.dep 19 51 (by kernel_rfl) rfl
                exact wpo_val (v := .bool true) (run_move e51) (k _ _ rfl hB)
              | 21, ho =>
                obtain rfl := Option.some.inj ho
                exact ⟨rfl, fun Lz vz wy h => h⟩
              | 22, ho =>
                obtain rfl := Option.some.inj ho
                exact ⟨rfl, fun Lz vz wy h => h⟩
              | 23, ho =>
                obtain rfl := Option.some.inj ho
                exact ⟨rfl, fun Lz vz wy h => h⟩
              | 24, ho =>
                obtain rfl := Option.some.inj ho
                exact ⟨rfl, fun Lz vz wy h => h⟩
              | 25, ho =>
                obtain rfl := Option.some.inj ho
                intro Az Lz vz wy Kz Ez hB k
                have e52 : Az.eval (.tmp 52) = .bool true := Ez.dep 20 52 (by kernel_rfl) rfl
                have e56 : Az.eval (.tmp 56) = undef := Ez.dep 24 56 (by kernel_rfl) rfl
                exact wpo_val (v := .bool true) (run_pickT e52 rfl) (k _ _ rfl hB)
              | 26, ho =>
                obtain rfl := Option.some.inj ho
                intro Az Lz vz wy Kz Ez hB k
                have e57 : Az.eval (.tmp 57) = .bool true := Ez.dep 25 57 (by kernel_rfl) rfl
                exact wpo_val (v := .bool true) (run_move e57) (k _ _ rfl hB)
              | 27, ho =>
                obtain rfl := Option.some.inj ho
                intro Az Lz vz wy Kz Ez hB k
                have e12 : Az.eval (.tmp 12) = .pointer (some ⟨q7, 0, none⟩) := Ez.out 12 (by kernel_rfl)
                have c0_0 := hB.2.cell 0 0 rfl rfl
                have c0_1 := hB.2.cell 0 1 rfl rfl
                have c0_2 := hB.2.cell 0 2 rfl rfl
                have c0_3 := hB.2.cell 0 3 rfl rfl
                exact wpo_val (v := .agg #[.int .i64 X, .int .i64 Y, .int .i64 Z, .int .i64 T]) (run_load e12 (by simp [go_sem, c0_0, c0_1, c0_2, c0_3])) (k _ _ rfl hB)
              | 28, ho =>
                obtain rfl := Option.some.inj ho
                intro Az Lz vz wy Kz Ez hB k
                have e9 : Az.eval (.tmp 9) = .int .i64 x := Ez.out 9 (by kernel_rfl)
                exact wpo_val (v := .int .i64 x) (run_move e9) (k _ _ rfl hB)
              | 29, ho =>
                obtain rfl := Option.some.inj ho
                intro Az Lz vz wy Kz Ez hB k
                have e10 : Az.eval (.tmp 10) = .int .i64 y := Ez.out 10 (by kernel_rfl)
                exact wpo_val (v := .int .i64 y) (run_move e10) (k _ _ rfl hB)
              | 30, ho =>
                obtain rfl := Option.some.inj ho
                intro Az Lz vz wy Kz Ez hB k
                have e59 : Az.eval (.tmp 59) = .agg #[.int .i64 X, .int .i64 Y, .int .i64 Z, .int .i64 T] := Ez.dep 27 59 (by kernel_rfl) rfl
                have e60 : Az.eval (.tmp 60) = .int .i64 x := Ez.dep 28 60 (by kernel_rfl) rfl
                have e61 : Az.eval (.tmp 61) = .int .i64 y := Ez.dep 29 61 (by kernel_rfl) rfl
                refine wpo_call (run_callW (fun _ _ => by kernel_rfl)) (R := fun ez w' => ez = .returned (.bool true) ∧ Below wy.heap.size wy w') ?_ ?_
                · simp only [List.map_toArray, List.map_cons, List.map_nil, eval_const, e59, e60, e61]
                  exact Hh.out wy
                · rintro ez w' ⟨rfl, hb⟩
                  exact ⟨_, rfl, k _ _ rfl ⟨bel_tr0 hB.1 hb, hB.2.later hb⟩⟩
              | 31, ho =>
                obtain rfl := Option.some.inj ho
                intro Az Lz vz wy Kz Ez hB k
                have e62 : Az.eval (.tmp 62) = .bool true := Ez.dep 30 62 (by kernel_rfl) rfl
                exact wpo_val (v := .bool false) (run_un e62 (by simp [go_sem])) (k _ _ rfl hB)
              | 32, ho =>
                obtain rfl := Option.some.inj ho
                intro Az Lz vz wy Kz Ez hB k
                have e58 : Az.eval (.tmp 58) = .bool true := Ez.dep 26 58 (by kernel_rfl) rfl
                have e63 : Az.eval (.tmp 63) = .bool false := Ez.dep 31 63 (by kernel_rfl) rfl
                exact wpo_val (v := .bool false) (run_pickT e58 e63) (k _ _ rfl hB)
              | 33, ho =>
                obtain rfl := Option.some.inj ho
                intro Az Lz vz wy Kz Ez hB k
                have e47 : Az.eval (.tmp 47) = .bool false := Ez.dep 15 47 (by kernel_rfl) rfl
                have e64 : Az.eval (.tmp 64) = .bool false := Ez.dep 32 64 (by kernel_rfl) rfl
                exact wpo_val (v := .bool false) (run_pickF e47 e64) (k _ _ rfl hB)
              | 34, ho =>
                obtain rfl := Option.some.inj ho
                intro Az Lz vz wy Kz Ez hB k
                have e65 : Az.eval (.tmp 65) = .bool false := Ez.dep 33 65 (by kernel_rfl) rfl
                exact wpo_val (v := .bool false) (run_move e65) (k _ _ rfl hB)
              | 35, ho =>
                obtain rfl := Option.some.inj ho
                intro Az Lz vz wy Kz Ez hB k
                have e11 : Az.eval (.tmp 11) = .pointer (some ⟨q6, 0, none⟩) := Ez.out 11 (by kernel_rfl)
                have c1_0 := hB.2.cell 1 0 rfl rfl
                have c1_1 := hB.2.cell 1 1 rfl rfl
                have c1_2 := hB.2.cell 1 2 rfl rfl
                have c1_3 := hB.2.cell 1 3 rfl rfl
                exact wpo_val (v := .agg #[.int .i64 P, .int .i64 Q, .int .i64 R, .int .i64 S]) (run_load e11 (by simp [go_sem, c1_0, c1_1, c1_2, c1_3])) (k _ _ rfl hB)
              | 36, ho =>
                obtain rfl := Option.some.inj ho
                intro Az Lz vz wy Kz Ez hB k
                have e8 : Az.eval (.tmp 8) = .pointer (some ⟨q5, 0, none⟩) := Ez.out 8 (by kernel_rfl)
                have c2_0 := hB.2.cell 2 0 rfl rfl
                have c2_1 := hB.2.cell 2 1 rfl rfl
                have c2_2 := hB.2.cell 2 2 rfl rfl
                have c2_3 := hB.2.cell 2 3 rfl rfl
                exact wpo_val (v := .agg #[.int .i64 e, .int .i64 f, .int .i64 g, .int .i64 h]) (run_load e8 (by simp [go_sem, c2_0, c2_1, c2_2, c2_3])) (k _ _ rfl hB)
              | 37, ho =>
                obtain rfl := Option.some.inj ho
                intro Az Lz vz wy Kz Ez hB k
                have e7 : Az.eval (.tmp 7) = .pointer (some ⟨q4, 0, none⟩) := Ez.out 7 (by kernel_rfl)
                have c3_0 := hB.2.cell 3 0 rfl rfl
                have c3_1 := hB.2.cell 3 1 rfl rfl
                have c3_2 := hB.2.cell 3 2 rfl rfl
                have c3_3 := hB.2.cell 3 3 rfl rfl
                exact wpo_val (v := .agg #[.int .i64 a, .int .i64 b, .int .i64 c, .int .i64 d]) (run_load e7 (by simp [go_sem, c3_0, c3_1, c3_2, c3_3])) (k _ _ rfl hB)
              | 38, ho =>
                obtain rfl := Option.some.inj ho
                intro Az Lz vz wy Kz Ez hB k
                have e68 : Az.eval (.tmp 68) = .agg #[.int .i64 e, .int .i64 f, .int .i64 g, .int .i64 h] := Ez.dep 36 68 (by kernel_rfl) rfl
                have e69 : Az.eval (.tmp 69) = .agg #[.int .i64 a, .int .i64 b, .int .i64 c, .int .i64 d] := Ez.dep 37 69 (by kernel_rfl) rfl
                refine wpo_call (run_callW (fun _ _ => by kernel_rfl)) (R := fun ez w' => ez = .returned (.agg #[.int .i64 P, .int .i64 Q, .int .i64 R, .int .i64 S]) ∧ Below wy.heap.size wy w') ?_ ?_
                · simp only [List.map_toArray, List.map_cons, List.map_nil, eval_const, e68, e69]
                  exact NA2.out wy
                · rintro ez w' ⟨rfl, hb⟩
                  exact ⟨_, rfl, k _ _ rfl ⟨bel_tr0 hB.1 hb, hB.2.later hb⟩⟩
              | 39, ho =>
                obtain rfl := Option.some.inj ho
                intro Az Lz vz wy Kz Ez hB k
                have e67 : Az.eval (.tmp 67) = .agg #[.int .i64 P, .int .i64 Q, .int .i64 R, .int .i64 S] := Ez.dep 35 67 (by kernel_rfl) rfl
                have e70 : Az.eval (.tmp 70) = .agg #[.int .i64 P, .int .i64 Q, .int .i64 R, .int .i64 S] := Ez.dep 38 70 (by kernel_rfl) rfl
                exact wpo_val (v := .bool false) (run_bin e67 e70 (by simp [go_sem]) (by exact QA.out wy)) (k _ _ rfl hB)
              | 40, ho =>
                obtain rfl := Option.some.inj ho
                intro Az Lz vz wy Kz Ez hB k
                have e66 : Az.eval (.tmp 66) = .bool false := Ez.dep 34 66 (by kernel_rfl) rfl
                have e71 : Az.eval (.tmp 71) = .bool false := Ez.dep 39 71 (by kernel_rfl) rfl
                exact wpo_val (v := .bool false) (run_pickF e66 e71) (k _ _ rfl hB)
              | 41, ho =>
                obtain rfl := Option.some.inj ho
                intro Az Lz vz wy Kz Ez hB k
                have e72 : Az.eval (.tmp 72) = .bool false := Ez.dep 40 72 (by kernel_rfl) rfl
                exact wpo_val (v := .bool false) (run_move e72) (k _ _ rfl hB)
              | 42, ho =>
                obtain rfl := Option.some.inj ho
                intro Az Lz vz wy Kz Ez hB k
                have e12 : Az.eval (.tmp 12) = .pointer (some ⟨q7, 0, none⟩) := Ez.out 12 (by kernel_rfl)
                have c0_0 := hB.2.cell 0 0 rfl rfl
                have c0_1 := hB.2.cell 0 1 rfl rfl
                have c0_2 := hB.2.cell 0 2 rfl rfl
                have c0_3 := hB.2.cell 0 3 rfl rfl
                exact wpo_val (v := .agg #[.int .i64 X, .int .i64 Y, .int .i64 Z, .int .i64 T]) (run_load e12 (by simp [go_sem, c0_0, c0_1, c0_2, c0_3])) (k _ _ rfl hB)
              | 43, ho =>
                obtain rfl := Option.some.inj ho
                intro Az Lz vz wy Kz Ez hB k
                have e8 : Az.eval (.tmp 8) = .pointer (some ⟨q5, 0, none⟩) := Ez.out 8 (by kernel_rfl)
                have c2_0 := hB.2.cell 2 0 rfl rfl
                have c2_1 := hB.2.cell 2 1 rfl rfl
                have c2_2 := hB.2.cell 2 2 rfl rfl
                have c2_3 := hB.2.cell 2 3 rfl rfl
                exact wpo_val (v := .agg #[.int .i64 e, .int .i64 f, .int .i64 g, .int .i64 h]) (run_load e8 (by simp [go_sem, c2_0, c2_1, c2_2, c2_3])) (k _ _ rfl hB)
              | 44, ho =>
                obtain rfl := Option.some.inj ho
                intro Az Lz vz wy Kz Ez hB k
                have e7 : Az.eval (.tmp 7) = .pointer (some ⟨q4, 0, none⟩) := Ez.out 7 (by kernel_rfl)
                have c3_0 := hB.2.cell 3 0 rfl rfl
                have c3_1 := hB.2.cell 3 1 rfl rfl
                have c3_2 := hB.2.cell 3 2 rfl rfl
                have c3_3 := hB.2.cell 3 3 rfl rfl
                exact wpo_val (v := .agg #[.int .i64 a, .int .i64 b, .int .i64 c, .int .i64 d]) (run_load e7 (by simp [go_sem, c3_0, c3_1, c3_2, c3_3])) (k _ _ rfl hB)
              | 45, ho =>
                obtain rfl := Option.some.inj ho
                intro Az Lz vz wy Kz Ez hB k
                have e75 : Az.eval (.tmp 75) = .agg #[.int .i64 e, .int .i64 f, .int .i64 g, .int .i64 h] := Ez.dep 43 75 (by kernel_rfl) rfl
                have e76 : Az.eval (.tmp 76) = .agg #[.int .i64 a, .int .i64 b, .int .i64 c, .int .i64 d] := Ez.dep 44 76 (by kernel_rfl) rfl
                refine wpo_call (run_callW (fun _ _ => by kernel_rfl)) (R := fun ez w' => ez = .returned (.agg #[.int .i64 X, .int .i64 Y, .int .i64 Z, .int .i64 T]) ∧ Below wy.heap.size wy w') ?_ ?_
                · simp only [List.map_toArray, List.map_cons, List.map_nil, eval_const, e75, e76]
                  exact NH2.out wy
                · rintro ez w' ⟨rfl, hb⟩
                  exact ⟨_, rfl, k _ _ rfl ⟨bel_tr0 hB.1 hb, hB.2.later hb⟩⟩
              | 46, ho =>
                obtain rfl := Option.some.inj ho
                intro Az Lz vz wy Kz Ez hB k
                have e74 : Az.eval (.tmp 74) = .agg #[.int .i64 X, .int .i64 Y, .int .i64 Z, .int .i64 T] := Ez.dep 42 74 (by kernel_rfl) rfl
                have e77 : Az.eval (.tmp 77) = .agg #[.int .i64 X, .int .i64 Y, .int .i64 Z, .int .i64 T] := Ez.dep 45 77 (by kernel_rfl) rfl
                exact wpo_val (v := .bool false) (run_bin e74 e77 (by simp [go_sem]) (by exact QH.out wy)) (k _ _ rfl hB)
              | 47, ho =>
                obtain rfl := Option.some.inj ho
                intro Az Lz vz wy Kz Ez hB k
                have e73 : Az.eval (.tmp 73) = .bool false := Ez.dep 41 73 (by kernel_rfl) rfl
                have e78 : Az.eval (.tmp 78) = .bool false := Ez.dep 46 78 (by kernel_rfl) rfl
                exact wpo_val (v := .bool false) (run_pickF e73 e78) (k _ _ rfl hB)
              | n + 48, ho => simp at ho
            · obtain ⟨hk, hT⟩ := hB
              have KB := Lib.hid hk
              have KT := Lib.hid hT
              clear hk hT hL
              simp only [puts2, mix, Act.put, List.setIfInBounds_toArray, List.set_cons_zero, List.set_cons_succ, Nat.zero_add, Nat.reduceAdd, List.getElem?_cons_zero, List.getElem?_cons_succ]
              go_wp2_with fail
              go_meet
              exact ⟨rfl, Lib.hid ⟨KB.out, KT.out⟩⟩
        case rest =>
          obtain ⟨rfl, hcut⟩ := hcut
          have KB := Lib.hid hcut.out.1
          have KT := Lib.hid hcut.out.2
          clear hcut KTT
          go_upto_region 8 with fail
          go_cut [125] (fun s wx => s = .bool false ∧ Hid (Below w.heap.size w wx ∧ Tab wx [(q7, [.int .i64 X, .int .i64 Y, .int .i64 Z, .int .i64 T]), (q6, [.int .i64 P, .int .i64 Q, .int .i64 R, .int .i64 S]), (q5, [.int .i64 e, .int .i64 f, .int .i64 g, .int .i64 h]), (q4, [.int .i64 a, .int .i64 b, .int .i64 c, .int .i64 d]), (w.heap.size + 1 + 1, [.int .i64 x, .int .i64 y]), (w.heap.size + 1, [.int .i64 e, .int .i64 f, .int .i64 g, .int .i64 h]), (w.heap.size, [.int .i64 a, .int .i64 b, .int .i64 c, .int .i64 d])]))
          case first =>
            cases ho
            · have ch := CH.out
              clear ch
              refine wp_region_vals_t [some (.agg #[.int .i64 a, .int .i64 b, .int .i64 c, .int .i64 d]), some (.agg #[.int .i64 e, .int .i64 f, .int .i64 g, .int .i64 h]), some (.bool false), some (.bool false), some (undef), some (undef), some (undef), some (undef), some (.bool false), some (.bool false), some (undef), some (undef), some (undef), some (undef), some (undef), some (.bool false), some (.bool false), some (.agg #[.int .i64 X, .int .i64 Y, .int .i64 Z, .int .i64 T]), some (.agg #[.int .i64 a, .int .i64 b, .int .i64 c, .int .i64 d]), some (.bool true), some (.bool false), some (.bool false), some (.bool false), some (.agg #[.int .i64 X, .int .i64 Y, .int .i64 Z, .int .i64 T]), some (.agg #[.int .i64 e, .int .i64 f, .int .i64 g, .int .i64 h]), some (.bool true), some (.bool false), some (.bool false), some (.bool false), some (.agg #[.int .i64 a, .int .i64 b, .int .i64 c, .int .i64 d]), some (.agg #[.int .i64 P, .int .i64 Q, .int .i64 R, .int .i64 S]), some (.bool true), some (.bool false), some (.bool false), some (.bool false), some (.agg #[.int .i64 e, .int .i64 f, .int .i64 g, .int .i64 h]), some (.agg #[.int .i64 P, .int .i64 Q, .int .i64 R, .int .i64 S]), some (.bool true), some (.bool false), some (.bool false), some (.bool false), some (.agg #[.int .i64 a, .int .i64 b, .int .i64 c, .int .i64 d]), some (.agg #[.int .i64 0, .int .i64 0, .int .i64 0, .int .i64 0]), some (.bool true), some (.bool false), some (.bool false)] (fun Lz _ wy => Below w.heap.size w wy ∧ Tab wy [(q7, [.int .i64 X, .int .i64 Y, .int .i64 Z, .int .i64 T]), (q6, [.int .i64 P, .int .i64 Q, .int .i64 R, .int .i64 S]), (q5, [.int .i64 e, .int .i64 f, .int .i64 g, .int .i64 h]), (q4, [.int .i64 a, .int .i64 b, .int .i64 c, .int .i64 d]), (w.heap.size + 1 + 1, [.int .i64 x, .int .i64 y]), (w.heap.size + 1, [.int .i64 e, .int .i64 f, .int .i64 g, .int .i64 h]), (w.heap.size, [.int .i64 a, .int .i64 b, .int .i64 c, .int .i64 d])])
                [some 80, some 81, some 82, some 83, some 84, some 85, some 86, some 87, some 88, some 89, some 90, some 91, some 92, some 93, some 94, some 95, some 96, some 97, some 98, some 99, some 100, some 101, some 102, some 103, some 104, some 105, some 106, some 107, some 108, some 109, some 110, some 111, some 112, some 113, some 114, some 115, some 116, some 117, some 118, some 119, some 120, some 121, some 122, some 123, some 124, some 125] (by kernel_rfl) (by kernel_rfl) (by kernel_rfl) (by kernel_rfl) (by kernel_rfl) ⟨KB.out, KT.out⟩ (fun i o ho => ?_) (fun Lz vz wz hL hB => ?_)
              · match i, ho with
                | 0, ho =>
                  obtain rfl := Option.some.inj ho
                  intro Az Lz vz wy Kz Ez hB k
                  have e7 : Az.eval (.tmp 7) = .pointer (some ⟨q4, 0, none⟩) := Ez.out 7 (by kernel_rfl)
                  have c3_0 := hB.2.cell 3 0 rfl rfl
                  have c3_1 := hB.2.cell 3 1 rfl rfl
                  have c3_2 := hB.2.cell 3 2 rfl rfl
                  have c3_3 := hB.2.cell 3 3 rfl rfl
                  exact wpo_val (v := .agg #[.int .i64 a, .int .i64 b, .int .i64 c, .int .i64 d]) (run_load e7 (by simp [go_sem, c3_0, c3_1, c3_2, c3_3])) (k _ _ rfl hB)
                | 1, ho =>
                  obtain rfl := Option.some.inj ho
                  intro Az Lz vz wy Kz Ez hB k
                  have e8 : Az.eval (.tmp 8) = .pointer (some ⟨q5, 0, none⟩) := Ez.out 8 (by kernel_rfl)
                  have c2_0 := hB.2.cell 2 0 rfl rfl
                  have c2_1 := hB.2.cell 2 1 rfl rfl
                  have c2_2 := hB.2.cell 2 2 rfl rfl
                  have c2_3 := hB.2.cell 2 3 rfl rfl
                  exact wpo_val (v := .agg #[.int .i64 e, .int .i64 f, .int .i64 g, .int .i64 h]) (run_load e8 (by simp [go_sem, c2_0, c2_1, c2_2, c2_3])) (k _ _ rfl hB)
                | 2, ho =>
                  obtain rfl := Option.some.inj ho
                  intro Az Lz vz wy Kz Ez hB k
                  have e80 : Az.eval (.tmp 80) = .agg #[.int .i64 a, .int .i64 b, .int .i64 c, .int .i64 d] := Ez.dep 0 80 (by kernel_rfl) rfl
                  have e81 : Az.eval (.tmp 81) = .agg #[.int .i64 e, .int .i64 f, .int .i64 g, .int .i64 h] := Ez.dep 1 81 (by kernel_rfl) rfl
                  refine wpo_call (run_callW (fun _ _ => by kernel_rfl)) (R := fun ez w' => ez = .returned (.bool false) ∧ Below wy.heap.size wy w') ?_ ?_
                  · simp only [List.map_toArray, List.map_cons, List.map_nil, eval_const, e80, e81]
                    exact O1.out wy
                  · rintro ez w' ⟨rfl, hb⟩
                    exact ⟨_, rfl, k _ _ rfl ⟨bel_tr0 hB.1 hb, hB.2.later hb⟩⟩
                | 3, ho =>
                  obtain rfl := Option.some.inj ho
                  intro Az Lz vz wy Kz Ez hB k
                  have e82 : Az.eval (.tmp 82) = .bool false := Ez.dep 2 82 (by kernel_rfl) rfl
                  exact wpo_val (v := .bool false) (run_move e82) (k _ _ rfl hB)
                | 4, ho =>
                  obtain rfl := Option.some.inj ho
                  exact ⟨rfl, fun Lz vz wy h => h⟩
                | 5, ho =>
                  obtain rfl := Option.some.inj ho
                  exact ⟨rfl, fun Lz vz wy h => h⟩
                | 6, ho =>
                  obtain rfl := Option.some.inj ho
                  exact ⟨rfl, fun Lz vz wy h => h⟩
                | 7, ho =>
                  obtain rfl := Option.some.inj ho
                  exact ⟨rfl, fun Lz vz wy h => h⟩
                | 8, ho =>
                  obtain rfl := Option.some.inj ho
                  intro Az Lz vz wy Kz Ez hB k
                  have e83 : Az.eval (.tmp 83) = .bool false := Ez.dep 3 83 (by kernel_rfl) rfl
                  have e87 : Az.eval (.tmp 87) = undef := Ez.dep 7 87 (by kernel_rfl) rfl
                  exact wpo_val (v := .bool false) (run_pickF e83 rfl) (k _ _ rfl hB)
                | 9, ho =>
                  obtain rfl := Option.some.inj ho
                  intro Az Lz vz wy Kz Ez hB k
                  have e88 : Az.eval (.tmp 88) = .bool false := Ez.dep 8 88 (by kernel_rfl) rfl
                  exact wpo_val (v := .bool false) (run_move e88) (k _ _ rfl hB)
                | 10, ho =>
                  obtain rfl := Option.some.inj ho
                  exact ⟨rfl, fun Lz vz wy h => h⟩
                | 11, ho =>
                  obtain rfl := Option.some.inj ho
                  exact ⟨rfl, fun Lz vz wy h => h⟩
                | 12, ho =>
                  obtain rfl := Option.some.inj ho
                  exact ⟨rfl, fun Lz vz wy h => h⟩
                | 13, ho =>
                  obtain rfl := Option.some.inj ho
                  exact ⟨rfl, fun Lz vz wy h => h⟩
                | 14, ho =>
                  obtain rfl := Option.some.inj ho
                  exact ⟨rfl, fun Lz vz wy h => h⟩
                | 15, ho =>
                  obtain rfl := Option.some.inj ho
                  intro Az Lz vz wy Kz Ez hB k
                  have e89 : Az.eval (.tmp 89) = .bool false := Ez.dep 9 89 (by kernel_rfl) rfl
                  have e94 : Az.eval (.tmp 94) = undef := Ez.dep 14 94 (by kernel_rfl) rfl
                  exact wpo_val (v := .bool false) (run_pickF e89 rfl) (k _ _ rfl hB)
                | 16, ho =>
                  obtain rfl := Option.some.inj ho
                  intro Az Lz vz wy Kz Ez hB k
                  have e95 : Az.eval (.tmp 95) = .bool false := Ez.dep 15 95 (by kernel_rfl) rfl
                  exact wpo_val (v := .bool false) (run_move e95) (k _ _ rfl hB)
                | 17, ho =>
                  obtain rfl := Option.some.inj ho
                  intro Az Lz vz wy Kz Ez hB k
                  have e12 : Az.eval (.tmp 12) = .pointer (some ⟨q7, 0, none⟩) := Ez.out 12 (by kernel_rfl)
                  have c0_0 := hB.2.cell 0 0 rfl rfl
                  have c0_1 := hB.2.cell 0 1 rfl rfl
                  have c0_2 := hB.2.cell 0 2 rfl rfl
                  have c0_3 := hB.2.cell 0 3 rfl rfl
                  exact wpo_val (v := .agg #[.int .i64 X, .int .i64 Y, .int .i64 Z, .int .i64 T]) (run_load e12 (by simp [go_sem, c0_0, c0_1, c0_2, c0_3])) (k _ _ rfl hB)
                | 18, ho =>
                  obtain rfl := Option.some.inj ho
                  intro Az Lz vz wy Kz Ez hB k
                  have e7 : Az.eval (.tmp 7) = .pointer (some ⟨q4, 0, none⟩) := Ez.out 7 (by kernel_rfl)
                  have c3_0 := hB.2.cell 3 0 rfl rfl
                  have c3_1 := hB.2.cell 3 1 rfl rfl
                  have c3_2 := hB.2.cell 3 2 rfl rfl
                  have c3_3 := hB.2.cell 3 3 rfl rfl
                  exact wpo_val (v := .agg #[.int .i64 a, .int .i64 b, .int .i64 c, .int .i64 d]) (run_load e7 (by simp [go_sem, c3_0, c3_1, c3_2, c3_3])) (k _ _ rfl hB)
                | 19, ho =>
                  obtain rfl := Option.some.inj ho
                  intro Az Lz vz wy Kz Ez hB k
                  have e97 : Az.eval (.tmp 97) = .agg #[.int .i64 X, .int .i64 Y, .int .i64 Z, .int .i64 T] := Ez.dep 17 97 (by kernel_rfl) rfl
                  have e98 : Az.eval (.tmp 98) = .agg #[.int .i64 a, .int .i64 b, .int .i64 c, .int .i64 d] := Ez.dep 18 98 (by kernel_rfl) rfl
                  refine wpo_call (run_callW (fun _ _ => by kernel_rfl)) (R := fun ez w' => ez = .returned (.bool true) ∧ Below wy.heap.size wy w') ?_ ?_
                  · simp only [List.map_toArray, List.map_cons, List.map_nil, eval_const, e97, e98]
                    exact O2.out wy
                  · rintro ez w' ⟨rfl, hb⟩
                    exact ⟨_, rfl, k _ _ rfl ⟨bel_tr0 hB.1 hb, hB.2.later hb⟩⟩
                | 20, ho =>
                  obtain rfl := Option.some.inj ho
                  intro Az Lz vz wy Kz Ez hB k
                  have e99 : Az.eval (.tmp 99) = .bool true := Ez.dep 19 99 (by kernel_rfl) rfl
                  exact wpo_val (v := .bool false) (run_un e99 (by simp [go_sem])) (k _ _ rfl hB)
                | 21, ho =>
                  obtain rfl := Option.some.inj ho
                  intro Az Lz vz wy Kz Ez hB k
                  have e96 : Az.eval (.tmp 96) = .bool false := Ez.dep 16 96 (by kernel_rfl) rfl
                  have e100 : Az.eval (.tmp 100) = .bool false := Ez.dep 20 100 (by kernel_rfl) rfl
                  exact wpo_val (v := .bool false) (run_pickF e96 e100) (k _ _ rfl hB)
                | 22, ho =>
                  obtain rfl := Option.some.inj ho
                  intro Az Lz vz wy Kz Ez hB k
                  have e101 : Az.eval (.tmp 101) = .bool false := Ez.dep 21 101 (by kernel_rfl) rfl
                  exact wpo_val (v := .bool false) (run_move e101) (k _ _ rfl hB)
                | 23, ho =>
                  obtain rfl := Option.some.inj ho
                  intro Az Lz vz wy Kz Ez hB k
                  have e12 : Az.eval (.tmp 12) = .pointer (some ⟨q7, 0, none⟩) := Ez.out 12 (by kernel_rfl)
                  have c0_0 := hB.2.cell 0 0 rfl rfl
                  have c0_1 := hB.2.cell 0 1 rfl rfl
                  have c0_2 := hB.2.cell 0 2 rfl rfl
                  have c0_3 := hB.2.cell 0 3 rfl rfl
                  exact wpo_val (v := .agg #[.int .i64 X, .int .i64 Y, .int .i64 Z, .int .i64 T]) (run_load e12 (by simp [go_sem, c0_0, c0_1, c0_2, c0_3])) (k _ _ rfl hB)
                | 24, ho =>
                  obtain rfl := Option.some.inj ho
                  intro Az Lz vz wy Kz Ez hB k
                  have e8 : Az.eval (.tmp 8) = .pointer (some ⟨q5, 0, none⟩) := Ez.out 8 (by kernel_rfl)
                  have c2_0 := hB.2.cell 2 0 rfl rfl
                  have c2_1 := hB.2.cell 2 1 rfl rfl
                  have c2_2 := hB.2.cell 2 2 rfl rfl
                  have c2_3 := hB.2.cell 2 3 rfl rfl
                  exact wpo_val (v := .agg #[.int .i64 e, .int .i64 f, .int .i64 g, .int .i64 h]) (run_load e8 (by simp [go_sem, c2_0, c2_1, c2_2, c2_3])) (k _ _ rfl hB)
                | 25, ho =>
                  obtain rfl := Option.some.inj ho
                  intro Az Lz vz wy Kz Ez hB k
                  have e103 : Az.eval (.tmp 103) = .agg #[.int .i64 X, .int .i64 Y, .int .i64 Z, .int .i64 T] := Ez.dep 23 103 (by kernel_rfl) rfl
                  have e104 : Az.eval (.tmp 104) = .agg #[.int .i64 e, .int .i64 f, .int .i64 g, .int .i64 h] := Ez.dep 24 104 (by kernel_rfl) rfl
                  refine wpo_call (run_callW (fun _ _ => by kernel_rfl)) (R := fun ez w' => ez = .returned (.bool true) ∧ Below wy.heap.size wy w') ?_ ?_
                  · simp only [List.map_toArray, List.map_cons, List.map_nil, eval_const, e103, e104]
                    exact O3.out wy
                  · rintro ez w' ⟨rfl, hb⟩
                    exact ⟨_, rfl, k _ _ rfl ⟨bel_tr0 hB.1 hb, hB.2.later hb⟩⟩
                | 26, ho =>
                  obtain rfl := Option.some.inj ho
                  intro Az Lz vz wy Kz Ez hB k
                  have e105 : Az.eval (.tmp 105) = .bool true := Ez.dep 25 105 (by kernel_rfl) rfl
                  exact wpo_val (v := .bool false) (run_un e105 (by simp [go_sem])) (k _ _ rfl hB)
                | 27, ho =>
                  obtain rfl := Option.some.inj ho
                  intro Az Lz vz wy Kz Ez hB k
                  have e102 : Az.eval (.tmp 102) = .bool false := Ez.dep 22 102 (by kernel_rfl) rfl
                  have e106 : Az.eval (.tmp 106) = .bool false := Ez.dep 26 106 (by kernel_rfl) rfl
                  exact wpo_val (v := .bool false) (run_pickF e102 e106) (k _ _ rfl hB)
                | 28, ho =>
                  obtain rfl := Option.some.inj ho
                  intro Az Lz vz wy Kz Ez hB k
                  have e107 : Az.eval (.tmp 107) = .bool false := Ez.dep 27 107 (by kernel_rfl) rfl
                  exact wpo_val (v := .bool false) (run_move e107) (k _ _ rfl hB)
                | 29, ho =>
                  obtain rfl := Option.some.inj ho
                  intro Az Lz vz wy Kz Ez hB k
                  have e7 : Az.eval (.tmp 7) = .pointer (some ⟨q4, 0, none⟩) := Ez.out 7 (by kernel_rfl)
                  have c3_0 := hB.2.cell 3 0 rfl rfl
                  have c3_1 := hB.2.cell 3 1 rfl rfl
                  have c3_2 := hB.2.cell 3 2 rfl rfl
                  have c3_3 := hB.2.cell 3 3 rfl rfl
                  exact wpo_val (v := .agg #[.int .i64 a, .int .i64 b, .int .i64 c, .int .i64 d]) (run_load e7 (by simp [go_sem, c3_0, c3_1, c3_2, c3_3])) (k _ _ rfl hB)
                | 30, ho =>
                  obtain rfl := Option.some.inj ho
                  intro Az Lz vz wy Kz Ez hB k
                  have e11 : Az.eval (.tmp 11) = .pointer (some ⟨q6, 0, none⟩) := Ez.out 11 (by kernel_rfl)
                  have c1_0 := hB.2.cell 1 0 rfl rfl
                  have c1_1 := hB.2.cell 1 1 rfl rfl
                  have c1_2 := hB.2.cell 1 2 rfl rfl
                  have c1_3 := hB.2.cell 1 3 rfl rfl
                  exact wpo_val (v := .agg #[.int .i64 P, .int .i64 Q, .int .i64 R, .int .i64 S]) (run_load e11 (by simp [go_sem, c1_0, c1_1, c1_2, c1_3])) (k _ _ rfl hB)
                | 31, ho =>
                  obtain rfl := Option.some.inj ho
                  intro Az Lz vz wy Kz Ez hB k
                  have e109 : Az.eval (.tmp 109) = .agg #[.int .i64 a, .int .i64 b, .int .i64 c, .int .i64 d] := Ez.dep 29 109 (by kernel_rfl) rfl
                  have e110 : Az.eval (.tmp 110) = .agg #[.int .i64 P, .int .i64 Q, .int .i64 R, .int .i64 S] := Ez.dep 30 110 (by kernel_rfl) rfl
                  refine wpo_call (run_callW (fun _ _ => by kernel_rfl)) (R := fun ez w' => ez = .returned (.bool true) ∧ Below wy.heap.size wy w') ?_ ?_
                  · simp only [List.map_toArray, List.map_cons, List.map_nil, eval_const, e109, e110]
                    exact O4.out wy
                  · rintro ez w' ⟨rfl, hb⟩
                    exact ⟨_, rfl, k _ _ rfl ⟨bel_tr0 hB.1 hb, hB.2.later hb⟩⟩
                | 32, ho =>
                  obtain rfl := Option.some.inj ho
                  intro Az Lz vz wy Kz Ez hB k
                  have e111 : Az.eval (.tmp 111) = .bool true := Ez.dep 31 111 (by kernel_rfl) rfl
                  exact wpo_val (v := .bool false) (run_un e111 (by simp [go_sem])) (k _ _ rfl hB)
                | 33, ho =>
                  obtain rfl := Option.some.inj ho
                  intro Az Lz vz wy Kz Ez hB k
                  have e108 : Az.eval (.tmp 108) = .bool false := Ez.dep 28 108 (by kernel_rfl) rfl
                  have e112 : Az.eval (.tmp 112) = .bool false := Ez.dep 32 112 (by kernel_rfl) rfl
                  exact wpo_val (v := .bool false) (run_pickF e108 e112) (k _ _ rfl hB)
                | 34, ho =>
                  obtain rfl := Option.some.inj ho
                  intro Az Lz vz wy Kz Ez hB k
                  have e113 : Az.eval (.tmp 113) = .bool false := Ez.dep 33 113 (by kernel_rfl) rfl
                  exact wpo_val (v := .bool false) (run_move e113) (k _ _ rfl hB)
                | 35, ho =>
                  obtain rfl := Option.some.inj ho
                  intro Az Lz vz wy Kz Ez hB k
                  have e8 : Az.eval (.tmp 8) = .pointer (some ⟨q5, 0, none⟩) := Ez.out 8 (by kernel_rfl)
                  have c2_0 := hB.2.cell 2 0 rfl rfl
                  have c2_1 := hB.2.cell 2 1 rfl rfl
                  have c2_2 := hB.2.cell 2 2 rfl rfl
                  have c2_3 := hB.2.cell 2 3 rfl rfl
                  exact wpo_val (v := .agg #[.int .i64 e, .int .i64 f, .int .i64 g, .int .i64 h]) (run_load e8 (by simp [go_sem, c2_0, c2_1, c2_2, c2_3])) (k _ _ rfl hB)
                | 36, ho =>
                  obtain rfl := Option.some.inj ho
                  intro Az Lz vz wy Kz Ez hB k
                  have e11 : Az.eval (.tmp 11) = .pointer (some ⟨q6, 0, none⟩) := Ez.out 11 (by kernel_rfl)
                  have c1_0 := hB.2.cell 1 0 rfl rfl
                  have c1_1 := hB.2.cell 1 1 rfl rfl
                  have c1_2 := hB.2.cell 1 2 rfl rfl
                  have c1_3 := hB.2.cell 1 3 rfl rfl
                  exact wpo_val (v := .agg #[.int .i64 P, .int .i64 Q, .int .i64 R, .int .i64 S]) (run_load e11 (by simp [go_sem, c1_0, c1_1, c1_2, c1_3])) (k _ _ rfl hB)
                | 37, ho =>
                  obtain rfl := Option.some.inj ho
                  intro Az Lz vz wy Kz Ez hB k
                  have e115 : Az.eval (.tmp 115) = .agg #[.int .i64 e, .int .i64 f, .int .i64 g, .int .i64 h] := Ez.dep 35 115 (by kernel_rfl) rfl
                  have e116 : Az.eval (.tmp 116) = .agg #[.int .i64 P, .int .i64 Q, .int .i64 R, .int .i64 S] := Ez.dep 36 116 (by kernel_rfl) rfl
                  refine wpo_call (run_callW (fun _ _ => by kernel_rfl)) (R := fun ez w' => ez = .returned (.bool true) ∧ Below wy.heap.size wy w') ?_ ?_
                  · simp only [List.map_toArray, List.map_cons, List.map_nil, eval_const, e115, e116]
                    exact O5.out wy
                  · rintro ez w' ⟨rfl, hb⟩
                    exact ⟨_, rfl, k _ _ rfl ⟨bel_tr0 hB.1 hb, hB.2.later hb⟩⟩
                | 38, ho =>
                  obtain rfl := Option.some.inj ho
                  intro Az Lz vz wy Kz Ez hB k
                  have e117 : Az.eval (.tmp 117) = .bool true := Ez.dep 37 117 (by kernel_rfl) rfl
                  exact wpo_val (v := .bool false) (run_un e117 (by simp [go_sem])) (k _ _ rfl hB)
                | 39, ho =>
                  obtain rfl := Option.some.inj ho
                  intro Az Lz vz wy Kz Ez hB k
                  have e114 : Az.eval (.tmp 114) = .bool false := Ez.dep 34 114 (by kernel_rfl) rfl
                  have e118 : Az.eval (.tmp 118) = .bool false := Ez.dep 38 118 (by kernel_rfl) rfl
                  exact wpo_val (v := .bool false) (run_pickF e114 e118) (k _ _ rfl hB)
                | 40, ho =>
                  obtain rfl := Option.some.inj ho
                  intro Az Lz vz wy Kz Ez hB k
                  have e119 : Az.eval (.tmp 119) = .bool false := Ez.dep 39 119 (by kernel_rfl) rfl
                  exact wpo_val (v := .bool false) (run_move e119) (k _ _ rfl hB)
                | 41, ho =>
                  obtain rfl := Option.some.inj ho
                  intro Az Lz vz wy Kz Ez hB k
                  have e7 : Az.eval (.tmp 7) = .pointer (some ⟨q4, 0, none⟩) := Ez.out 7 (by kernel_rfl)
                  have c3_0 := hB.2.cell 3 0 rfl rfl
                  have c3_1 := hB.2.cell 3 1 rfl rfl
                  have c3_2 := hB.2.cell 3 2 rfl rfl
                  have c3_3 := hB.2.cell 3 3 rfl rfl
                  exact wpo_val (v := .agg #[.int .i64 a, .int .i64 b, .int .i64 c, .int .i64 d]) (run_load e7 (by simp [go_sem, c3_0, c3_1, c3_2, c3_3])) (k _ _ rfl hB)
                | 42, ho =>
                  obtain rfl := Option.some.inj ho
                  intro Az Lz vz wy Kz Ez hB k
                  exact wpo_val (v := .agg #[.int .i64 0, .int .i64 0, .int .i64 0, .int .i64 0]) (run_build (l' := #[]) (by simp only [List.map_toArray, List.map_cons, List.map_nil, eval_const]) (by simp [go_sem])) (k _ _ rfl hB)
                | 43, ho =>
                  obtain rfl := Option.some.inj ho
                  intro Az Lz vz wy Kz Ez hB k
                  have e121 : Az.eval (.tmp 121) = .agg #[.int .i64 a, .int .i64 b, .int .i64 c, .int .i64 d] := Ez.dep 41 121 (by kernel_rfl) rfl
                  have e122 : Az.eval (.tmp 122) = .agg #[.int .i64 0, .int .i64 0, .int .i64 0, .int .i64 0] := Ez.dep 42 122 (by kernel_rfl) rfl
                  refine wpo_call (run_callW (fun _ _ => by kernel_rfl)) (R := fun ez w' => ez = .returned (.bool true) ∧ Below wy.heap.size wy w') ?_ ?_
                  · simp only [List.map_toArray, List.map_cons, List.map_nil, eval_const, e121, e122]
                    exact O6.out wy
                  · rintro ez w' ⟨rfl, hb⟩
                    exact ⟨_, rfl, k _ _ rfl ⟨bel_tr0 hB.1 hb, hB.2.later hb⟩⟩
                | 44, ho =>
                  obtain rfl := Option.some.inj ho
                  intro Az Lz vz wy Kz Ez hB k
                  have e123 : Az.eval (.tmp 123) = .bool true := Ez.dep 43 123 (by kernel_rfl) rfl
                  exact wpo_val (v := .bool false) (run_un e123 (by simp [go_sem])) (k _ _ rfl hB)
                | 45, ho =>
                  obtain rfl := Option.some.inj ho
                  intro Az Lz vz wy Kz Ez hB k
                  have e120 : Az.eval (.tmp 120) = .bool false := Ez.dep 40 120 (by kernel_rfl) rfl
                  have e124 : Az.eval (.tmp 124) = .bool false := Ez.dep 44 124 (by kernel_rfl) rfl
                  exact wpo_val (v := .bool false) (run_pickF e120 e124) (k _ _ rfl hB)
                | n + 46, ho => simp at ho
              · obtain ⟨hk, hT⟩ := hB
                have KB := Lib.hid hk
                have KT := Lib.hid hT
                clear hk hT hL
                simp only [puts2, mix, Act.put, List.setIfInBounds_toArray, List.set_cons_zero, List.set_cons_succ, Nat.zero_add, Nat.reduceAdd, List.getElem?_cons_zero, List.getElem?_cons_succ]
                go_wp2_with fail
                go_meet
                exact ⟨rfl, Lib.hid ⟨KB.out, KT.out⟩⟩
            · cases hb
              · have ch := CH.out
                clear ch
                refine wp_region_vals_t [some (.agg #[.int .i64 a, .int .i64 b, .int .i64 c, .int .i64 d]), some (.agg #[.int .i64 e, .int .i64 f, .int .i64 g, .int .i64 h]), some (.bool true), some (.bool true), some (.agg #[.int .i64 e, .int .i64 f, .int .i64 g, .int .i64 h]), some (.int .i64 x), some (.int .i64 y), some (.bool false), some (.bool false), some (.bool false), some (undef), some (undef), some (undef), some (undef), some (undef), some (.bool false), some (.bool false), some (.agg #[.int .i64 X, .int .i64 Y, .int .i64 Z, .int .i64 T]), some (.agg #[.int .i64 a, .int .i64 b, .int .i64 c, .int .i64 d]), some (.bool true), some (.bool false), some (.bool false), some (.bool false), some (.agg #[.int .i64 X, .int .i64 Y, .int .i64 Z, .int .i64 T]), some (.agg #[.int .i64 e, .int .i64 f, .int .i64 g, .int .i64 h]), some (.bool true), some (.bool false), some (.bool false), some (.bool false), some (.agg #[.int .i64 a, .int .i64 b, .int .i64 c, .int .i64 d]), some (.agg #[.int .i64 P, .int .i64 Q, .int .i64 R, .int .i64 S]), some (.bool true), some (.bool false), some (.bool false), some (.bool false), some (.agg #[.int .i64 e, .int .i64 f, .int .i64 g, .int .i64 h]), some (.agg #[.int .i64 P, .int .i64 Q, .int .i64 R, .int .i64 S]), some (.bool true), some (.bool false), some (.bool false), some (.bool false), some (.agg #[.int .i64 a, .int .i64 b, .int .i64 c, .int .i64 d]), some (.agg #[.int .i64 0, .int .i64 0, .int .i64 0, .int .i64 0]), some (.bool true), some (.bool false), some (.bool false)] (fun Lz _ wy => Below w.heap.size w wy ∧ Tab wy [(q7, [.int .i64 X, .int .i64 Y, .int .i64 Z, .int .i64 T]), (q6, [.int .i64 P, .int .i64 Q, .int .i64 R, .int .i64 S]), (q5, [.int .i64 e, .int .i64 f, .int .i64 g, .int .i64 h]), (q4, [.int .i64 a, .int .i64 b, .int .i64 c, .int .i64 d]), (w.heap.size + 1 + 1, [.int .i64 x, .int .i64 y]), (w.heap.size + 1, [.int .i64 e, .int .i64 f, .int .i64 g, .int .i64 h]), (w.heap.size, [.int .i64 a, .int .i64 b, .int .i64 c, .int .i64 d])])
                  [some 80, some 81, some 82, some 83, some 84, some 85, some 86, some 87, some 88, some 89, some 90, some 91, some 92, some 93, some 94, some 95, some 96, some 97, some 98, some 99, some 100, some 101, some 102, some 103, some 104, some 105, some 106, some 107, some 108, some 109, some 110, some 111, some 112, some 113, some 114, some 115, some 116, some 117, some 118, some 119, some 120, some 121, some 122, some 123, some 124, some 125] (by kernel_rfl) (by kernel_rfl) (by kernel_rfl) (by kernel_rfl) (by kernel_rfl) ⟨KB.out, KT.out⟩ (fun i o ho => ?_) (fun Lz vz wz hL hB => ?_)
                · match i, ho with
                  | 0, ho =>
                    obtain rfl := Option.some.inj ho
                    intro Az Lz vz wy Kz Ez hB k
                    have e7 : Az.eval (.tmp 7) = .pointer (some ⟨q4, 0, none⟩) := Ez.out 7 (by kernel_rfl)
                    have c3_0 := hB.2.cell 3 0 rfl rfl
                    have c3_1 := hB.2.cell 3 1 rfl rfl
                    have c3_2 := hB.2.cell 3 2 rfl rfl
                    have c3_3 := hB.2.cell 3 3 rfl rfl
                    exact wpo_val (v := .agg #[.int .i64 a, .int .i64 b, .int .i64 c, .int .i64 d]) (run_load e7 (by simp [go_sem, c3_0, c3_1, c3_2, c3_3])) (k _ _ rfl hB)
                  | 1, ho =>
                    obtain rfl := Option.some.inj ho
                    intro Az Lz vz wy Kz Ez hB k
                    have e8 : Az.eval (.tmp 8) = .pointer (some ⟨q5, 0, none⟩) := Ez.out 8 (by kernel_rfl)
                    have c2_0 := hB.2.cell 2 0 rfl rfl
                    have c2_1 := hB.2.cell 2 1 rfl rfl
                    have c2_2 := hB.2.cell 2 2 rfl rfl
                    have c2_3 := hB.2.cell 2 3 rfl rfl
                    exact wpo_val (v := .agg #[.int .i64 e, .int .i64 f, .int .i64 g, .int .i64 h]) (run_load e8 (by simp [go_sem, c2_0, c2_1, c2_2, c2_3])) (k _ _ rfl hB)
                  | 2, ho =>
                    obtain rfl := Option.some.inj ho
                    intro Az Lz vz wy Kz Ez hB k
                    have e80 : Az.eval (.tmp 80) = .agg #[.int .i64 a, .int .i64 b, .int .i64 c, .int .i64 d] := Ez.dep 0 80 (by kernel_rfl) rfl
                    have e81 : Az.eval (.tmp 81) = .agg #[.int .i64 e, .int .i64 f, .int .i64 g, .int .i64 h] := Ez.dep 1 81 (by kernel_rfl) rfl
                    refine wpo_call (run_callW (fun _ _ => by kernel_rfl)) (R := fun ez w' => ez = .returned (.bool true) ∧ Below wy.heap.size wy w') ?_ ?_
                    · simp only [List.map_toArray, List.map_cons, List.map_nil, eval_const, e80, e81]
                      exact O1.out wy
                    · rintro ez w' ⟨rfl, hb⟩
                      exact ⟨_, rfl, k _ _ rfl ⟨bel_tr0 hB.1 hb, hB.2.later hb⟩⟩
                  | 3, ho =>
                    obtain rfl := Option.some.inj ho
                    intro Az Lz vz wy Kz Ez hB k
                    have e82 : Az.eval (.tmp 82) = .bool true := Ez.dep 2 82 (by kernel_rfl) rfl
                    exact wpo_val (v := .bool true) (run_move e82) (k _ _ rfl hB)
                  | 4, ho =>
                    obtain rfl := Option.some.inj ho
                    intro Az Lz vz wy Kz Ez hB k
                    have e8 : Az.eval (.tmp 8) = .pointer (some ⟨q5, 0, none⟩) := Ez.out 8 (by kernel_rfl)
                    have c2_0 := hB.2.cell 2 0 rfl rfl
                    have c2_1 := hB.2.cell 2 1 rfl rfl
                    have c2_2 := hB.2.cell 2 2 rfl rfl
                    have c2_3 := hB.2.cell 2 3 rfl rfl
                    exact wpo_val (v := .agg #[.int .i64 e, .int .i64 f, .int .i64 g, .int .i64 h]) (run_load e8 (by simp [go_sem, c2_0, c2_1, c2_2, c2_3])) (k _ _ rfl hB)
                  | 5, ho =>
                    obtain rfl := Option.some.inj ho
                    intro Az Lz vz wy Kz Ez hB k
                    have e9 : Az.eval (.tmp 9) = .int .i64 x := Ez.out 9 (by kernel_rfl)
                    exact wpo_val (v := .int .i64 x) (run_move e9) (k _ _ rfl hB)
                  | 6, ho =>
                    obtain rfl := Option.some.inj ho
                    intro Az Lz vz wy Kz Ez hB k
                    have e10 : Az.eval (.tmp 10) = .int .i64 y := Ez.out 10 (by kernel_rfl)
                    exact wpo_val (v := .int .i64 y) (run_move e10) (k _ _ rfl hB)
                  | 7, ho =>
                    obtain rfl := Option.some.inj ho
                    intro Az Lz vz wy Kz Ez hB k
                    have e84 : Az.eval (.tmp 84) = .agg #[.int .i64 e, .int .i64 f, .int .i64 g, .int .i64 h] := Ez.dep 4 84 (by kernel_rfl) rfl
                    have e85 : Az.eval (.tmp 85) = .int .i64 x := Ez.dep 5 85 (by kernel_rfl) rfl
                    have e86 : Az.eval (.tmp 86) = .int .i64 y := Ez.dep 6 86 (by kernel_rfl) rfl
                    refine wpo_call (run_callW (fun _ _ => by kernel_rfl)) (R := fun ez w' => ez = .returned (.bool false) ∧ Below wy.heap.size wy w') ?_ ?_
                    · simp only [List.map_toArray, List.map_cons, List.map_nil, eval_const, e84, e85, e86]
                      exact Hb.out wy
                    · rintro ez w' ⟨rfl, hb⟩
                      exact ⟨_, rfl, k _ _ rfl ⟨bel_tr0 hB.1 hb, hB.2.later hb⟩⟩
                  | 8, ho =>
                    obtain rfl := Option.some.inj ho
                    intro Az Lz vz wy Kz Ez hB k
                    have e83 : Az.eval (.tmp 83) = .bool true := Ez.dep 3 83 (by kernel_rfl) rfl
                    have e87 : Az.eval (.tmp 87) = .bool false := Ez.dep 7 87 (by kernel_rfl) rfl
                    exact wpo_val (v := .bool false) (run_pickT e83 e87) (k _ _ rfl hB)
                  | 9, ho =>
                    obtain rfl := Option.some.inj ho
                    intro Az Lz vz wy Kz Ez hB k
                    have e88 : Az.eval (.tmp 88) = .bool false := Ez.dep 8 88 (by kernel_rfl) rfl
                    exact wpo_val (v := .bool false) (run_move e88) (k _ _ rfl hB)
                  | 10, ho =>
                    obtain rfl := Option.some.inj ho
                    exact ⟨rfl, fun Lz vz wy h => h⟩
                  | 11, ho =>
                    obtain rfl := Option.some.inj ho
                    exact ⟨rfl, fun Lz vz wy h => h⟩
                  | 12, ho =>
                    obtain rfl := Option.some.inj ho
                    exact ⟨rfl, fun Lz vz wy h => h⟩
                  | 13, ho =>
                    obtain rfl := Option.some.inj ho
                    exact ⟨rfl, fun Lz vz wy h => h⟩
                  | 14, ho =>
                    obtain rfl := Option.some.inj ho
                    exact ⟨rfl, fun Lz vz wy h => h⟩
                  | 15, ho =>
                    obtain rfl := Option.some.inj ho
                    intro Az Lz vz wy Kz Ez hB k
                    have e89 : Az.eval (.tmp 89) = .bool false := Ez.dep 9 89 (by kernel_rfl) rfl
                    have e94 : Az.eval (.tmp 94) = undef := Ez.dep 14 94 (by kernel_rfl) rfl
                    exact wpo_val (v := .bool false) (run_pickF e89 rfl) (k _ _ rfl hB)
                  | 16, ho =>
                    obtain rfl := Option.some.inj ho
                    intro Az Lz vz wy Kz Ez hB k
                    have e95 : Az.eval (.tmp 95) = .bool false := Ez.dep 15 95 (by kernel_rfl) rfl
                    exact wpo_val (v := .bool false) (run_move e95) (k _ _ rfl hB)
                  | 17, ho =>
                    obtain rfl := Option.some.inj ho
                    intro Az Lz vz wy Kz Ez hB k
                    have e12 : Az.eval (.tmp 12) = .pointer (some ⟨q7, 0, none⟩) := Ez.out 12 (by kernel_rfl)
                    have c0_0 := hB.2.cell 0 0 rfl rfl
                    have c0_1 := hB.2.cell 0 1 rfl rfl
                    have c0_2 := hB.2.cell 0 2 rfl rfl
                    have c0_3 := hB.2.cell 0 3 rfl rfl
                    exact wpo_val (v := .agg #[.int .i64 X, .int .i64 Y, .int .i64 Z, .int .i64 T]) (run_load e12 (by simp [go_sem, c0_0, c0_1, c0_2, c0_3])) (k _ _ rfl hB)
                  | 18, ho =>
                    obtain rfl := Option.some.inj ho
                    intro Az Lz vz wy Kz Ez hB k
                    have e7 : Az.eval (.tmp 7) = .pointer (some ⟨q4, 0, none⟩) := Ez.out 7 (by kernel_rfl)
                    have c3_0 := hB.2.cell 3 0 rfl rfl
                    have c3_1 := hB.2.cell 3 1 rfl rfl
                    have c3_2 := hB.2.cell 3 2 rfl rfl
                    have c3_3 := hB.2.cell 3 3 rfl rfl
                    exact wpo_val (v := .agg #[.int .i64 a, .int .i64 b, .int .i64 c, .int .i64 d]) (run_load e7 (by simp [go_sem, c3_0, c3_1, c3_2, c3_3])) (k _ _ rfl hB)
                  | 19, ho =>
                    obtain rfl := Option.some.inj ho
                    intro Az Lz vz wy Kz Ez hB k
                    have e97 : Az.eval (.tmp 97) = .agg #[.int .i64 X, .int .i64 Y, .int .i64 Z, .int .i64 T] := Ez.dep 17 97 (by kernel_rfl) rfl
                    have e98 : Az.eval (.tmp 98) = .agg #[.int .i64 a, .int .i64 b, .int .i64 c, .int .i64 d] := Ez.dep 18 98 (by kernel_rfl) rfl
                    refine wpo_call (run_callW (fun _ _ => by kernel_rfl)) (R := fun ez w' => ez = .returned (.bool true) ∧ Below wy.heap.size wy w') ?_ ?_
                    · simp only [List.map_toArray, List.map_cons, List.map_nil, eval_const, e97, e98]
                      exact O2.out wy
                    · rintro ez w' ⟨rfl, hb⟩
                      exact ⟨_, rfl, k _ _ rfl ⟨bel_tr0 hB.1 hb, hB.2.later hb⟩⟩
                  | 20, ho =>
                    obtain rfl := Option.some.inj ho
                    intro Az Lz vz wy Kz Ez hB k
                    have e99 : Az.eval (.tmp 99) = .bool true := Ez.dep 19 99 (by kernel_rfl) rfl
                    exact wpo_val (v := .bool false) (run_un e99 (by simp [go_sem])) (k _ _ rfl hB)
                  | 21, ho =>
                    obtain rfl := Option.some.inj ho
                    intro Az Lz vz wy Kz Ez hB k
                    have e96 : Az.eval (.tmp 96) = .bool false := Ez.dep 16 96 (by kernel_rfl) rfl
                    have e100 : Az.eval (.tmp 100) = .bool false := Ez.dep 20 100 (by kernel_rfl) rfl
                    exact wpo_val (v := .bool false) (run_pickF e96 e100) (k _ _ rfl hB)
                  | 22, ho =>
                    obtain rfl := Option.some.inj ho
                    intro Az Lz vz wy Kz Ez hB k
                    have e101 : Az.eval (.tmp 101) = .bool false := Ez.dep 21 101 (by kernel_rfl) rfl
                    exact wpo_val (v := .bool false) (run_move e101) (k _ _ rfl hB)
                  | 23, ho =>
                    obtain rfl := Option.some.inj ho
                    intro Az Lz vz wy Kz Ez hB k
                    have e12 : Az.eval (.tmp 12) = .pointer (some ⟨q7, 0, none⟩) := Ez.out 12 (by kernel_rfl)
                    have c0_0 := hB.2.cell 0 0 rfl rfl
                    have c0_1 := hB.2.cell 0 1 rfl rfl
                    have c0_2 := hB.2.cell 0 2 rfl rfl
                    have c0_3 := hB.2.cell 0 3 rfl rfl
                    exact wpo_val (v := .agg #[.int .i64 X, .int .i64 Y, .int .i64 Z, .int .i64 T]) (run_load e12 (by simp [go_sem, c0_0, c0_1, c0_2, c0_3])) (k _ _ rfl hB)
                  | 24, ho =>
                    obtain rfl := Option.some.inj ho
                    intro Az Lz vz wy Kz Ez hB k
                    have e8 : Az.eval (.tmp 8) = .pointer (some ⟨q5, 0, none⟩) := Ez.out 8 (by kernel_rfl)
                    have c2_0 := hB.2.cell 2 0 rfl rfl
                    have c2_1 := hB.2.cell 2 1 rfl rfl
                    have c2_2 := hB.2.cell 2 2 rfl rfl
                    have c2_3 := hB.2.cell 2 3 rfl rfl
                    exact wpo_val (v := .agg #[.int .i64 e, .int .i64 f, .int .i64 g, .int .i64 h]) (run_load e8 (by simp [go_sem, c2_0, c2_1, c2_2, c2_3])) (k _ _ rfl hB)
                  | 25, ho =>
                    obtain rfl := Option.some.inj ho
                    intro Az Lz vz wy Kz Ez hB k
                    have e103 : Az.eval (.tmp 103) = .agg #[.int .i64 X, .int .i64 Y, .int .i64 Z, .int .i64 T] := Ez.dep 23 103 (by kernel_rfl) rfl
                    have e104 : Az.eval (.tmp 104) = .agg #[.int .i64 e, .int .i64 f, .int .i64 g, .int .i64 h] := Ez.dep 24 104 (by kernel_rfl) rfl
                    refine wpo_call (run_callW (fun _ _ => by kernel_rfl)) (R := fun ez w' => ez = .returned (.bool true) ∧ Below wy.heap.size wy w') ?_ ?_
                    · simp only [List.map_toArray, List.map_cons, List.map_nil, eval_const, e103, e104]
                      exact O3.out wy
                    · rintro ez w' ⟨rfl, hb⟩
                      exact ⟨_, rfl, k _ _ rfl ⟨bel_tr0 hB.1 hb, hB.2.later hb⟩⟩
                  | 26, ho =>
                    obtain rfl := Option.some.inj ho
                    intro Az Lz vz wy Kz Ez hB k
                    have e105 : Az.eval (.tmp 105) = .bool true := Ez.dep 25 105 (by kernel_rfl) rfl
                    exact wpo_val (v := .bool false) (run_un e105 (by simp [go_sem])) (k _ _ rfl hB)
                  | 27, ho =>
                    obtain rfl := Option.some.inj ho
                    intro Az Lz vz wy Kz Ez hB k
                    have e102 : Az.eval (.tmp 102) = .bool false := Ez.dep 22 102 (by kernel_rfl) rfl
                    have e106 : Az.eval (.tmp 106) = .bool false := Ez.dep 26 106 (by kernel_rfl) rfl
                    exact wpo_val (v := .bool false) (run_pickF e102 e106) (k _ _ rfl hB)
                  | 28, ho =>
                    obtain rfl := Option.some.inj ho
                    intro Az Lz vz wy Kz Ez hB k
                    have e107 : Az.eval (.tmp 107) = .bool false := Ez.dep 27 107 (by kernel_rfl) rfl
                    exact wpo_val (v := .bool false) (run_move e107) (k _ _ rfl hB)
                  | 29, ho =>
                    obtain rfl := Option.some.inj ho
                    intro Az Lz vz wy Kz Ez hB k
                    have e7 : Az.eval (.tmp 7) = .pointer (some ⟨q4, 0, none⟩) := Ez.out 7 (by kernel_rfl)
                    have c3_0 := hB.2.cell 3 0 rfl rfl
                    have c3_1 := hB.2.cell 3 1 rfl rfl
                    have c3_2 := hB.2.cell 3 2 rfl rfl
                    have c3_3 := hB.2.cell 3 3 rfl rfl
                    exact wpo_val (v := .agg #[.int .i64 a, .int .i64 b, .int .i64 c, .int .i64 d]) (run_load e7 (by simp [go_sem, c3_0, c3_1, c3_2, c3_3])) (k _ _ rfl hB)
                  | 30, ho =>
                    obtain rfl := Option.some.inj ho
                    intro Az Lz vz wy Kz Ez hB k
                    have e11 : Az.eval (.tmp 11) = .pointer (some ⟨q6, 0, none⟩) := Ez.out 11 (by kernel_rfl)
                    have c1_0 := hB.2.cell 1 0 rfl rfl
                    have c1_1 := hB.2.cell 1 1 rfl rfl
                    have c1_2 := hB.2.cell 1 2 rfl rfl
                    have c1_3 := hB.2.cell 1 3 rfl rfl
                    exact wpo_val (v := .agg #[.int .i64 P, .int .i64 Q, .int .i64 R, .int .i64 S]) (run_load e11 (by simp [go_sem, c1_0, c1_1, c1_2, c1_3])) (k _ _ rfl hB)
                  | 31, ho =>
                    obtain rfl := Option.some.inj ho
                    intro Az Lz vz wy Kz Ez hB k
                    have e109 : Az.eval (.tmp 109) = .agg #[.int .i64 a, .int .i64 b, .int .i64 c, .int .i64 d] := Ez.dep 29 109 (by kernel_rfl) rfl
                    have e110 : Az.eval (.tmp 110) = .agg #[.int .i64 P, .int .i64 Q, .int .i64 R, .int .i64 S] := Ez.dep 30 110 (by kernel_rfl) rfl
                    refine wpo_call (run_callW (fun _ _ => by kernel_rfl)) (R := fun ez w' => ez = .returned (.bool true) ∧ Below wy.heap.size wy w') ?_ ?_
                    · simp only [List.map_toArray, List.map_cons, List.map_nil, eval_const, e109, e110]
                      exact O4.out wy
                    · rintro ez w' ⟨rfl, hb⟩
                      exact ⟨_, rfl, k _ _ rfl ⟨bel_tr0 hB.1 hb, hB.2.later hb⟩⟩
                  | 32, ho =>
                    obtain rfl := Option.some.inj ho
                    intro Az Lz vz wy Kz Ez hB k
                    have e111 : Az.eval (.tmp 111) = .bool true := Ez.dep 31 111 (by kernel_rfl) rfl
                    exact wpo_val (v := .bool false) (run_un e111 (by simp [go_sem])) (k _ _ rfl hB)
                  | 33, ho =>
                    obtain rfl := Option.some.inj ho
                    intro Az Lz vz wy Kz Ez hB k
                    have e108 : Az.eval (.tmp 108) = .bool false := Ez.dep 28 108 (by kernel_rfl) rfl
                    have e112 : Az.eval (.tmp 112) = .bool false := Ez.dep 32 112 (by kernel_rfl) rfl
                    exact wpo_val (v := .bool false) (run_pickF e108 e112) (k _ _ rfl hB)
                  | 34, ho =>
                    obtain rfl := Option.some.inj ho
                    intro Az Lz vz wy Kz Ez hB k
                    have e113 : Az.eval (.tmp 113) = .bool false := Ez.dep 33 113 (by kernel_rfl) rfl
                    exact wpo_val (v := .bool false) (run_move e113) (k _ _ rfl hB)
                  | 35, ho =>
                    obtain rfl := Option.some.inj ho
                    intro Az Lz vz wy Kz Ez hB k
                    have e8 : Az.eval (.tmp 8) = .pointer (some ⟨q5, 0, none⟩) := Ez.out 8 (by kernel_rfl)
                    have c2_0 := hB.2.cell 2 0 rfl rfl
                    have c2_1 := hB.2.cell 2 1 rfl rfl
                    have c2_2 := hB.2.cell 2 2 rfl rfl
                    have c2_3 := hB.2.cell 2 3 rfl rfl
                    exact wpo_val (v := .agg #[.int .i64 e, .int .i64 f, .int .i64 g, .int .i64 h]) (run_load e8 (by simp [go_sem, c2_0, c2_1, c2_2, c2_3])) (k _ _ rfl hB)
                  | 36, ho =>
                    obtain rfl := Option.some.inj ho
                    intro Az Lz vz wy Kz Ez hB k
                    have e11 : Az.eval (.tmp 11) = .pointer (some ⟨q6, 0, none⟩) := Ez.out 11 (by kernel_rfl)
                    have c1_0 := hB.2.cell 1 0 rfl rfl
                    have c1_1 := hB.2.cell 1 1 rfl rfl
                    have c1_2 := hB.2.cell 1 2 rfl rfl
                    have c1_3 := hB.2.cell 1 3 rfl rfl
                    exact wpo_val (v := .agg #[.int .i64 P, .int .i64 Q, .int .i64 R, .int .i64 S]) (run_load e11 (by simp [go_sem, c1_0, c1_1, c1_2, c1_3])) (k _ _ rfl hB)
                  | 37, ho =>
                    obtain rfl := Option.some.inj ho
                    intro Az Lz vz wy Kz Ez hB k
                    have e115 : Az.eval (.tmp 115) = .agg #[.int .i64 e, .int .i64 f, .int .i64 g, .int .i64 h] := Ez.dep 35 115 (by kernel_rfl) rfl
                    have e116 : Az.eval (.tmp 116) = .agg #[.int .i64 P, .int .i64 Q, .int .i64 R, .int .i64 S] := Ez.dep 36 116 (by kernel_rfl) rfl
                    refine wpo_call (run_callW (fun _ _ => by kernel_rfl)) (R := fun ez w' => ez = .returned (.bool true) ∧ Below wy.heap.size wy w') ?_ ?_
                    · simp only [List.map_toArray, List.map_cons, List.map_nil, eval_const, e115, e116]
                      exact O5.out wy
                    · rintro ez w' ⟨rfl, hb⟩
                      exact ⟨_, rfl, k _ _ rfl ⟨bel_tr0 hB.1 hb, hB.2.later hb⟩⟩
                  | 38, ho =>
                    obtain rfl := Option.some.inj ho
                    intro Az Lz vz wy Kz Ez hB k
                    have e117 : Az.eval (.tmp 117) = .bool true := Ez.dep 37 117 (by kernel_rfl) rfl
                    exact wpo_val (v := .bool false) (run_un e117 (by simp [go_sem])) (k _ _ rfl hB)
                  | 39, ho =>
                    obtain rfl := Option.some.inj ho
                    intro Az Lz vz wy Kz Ez hB k
                    have e114 : Az.eval (.tmp 114) = .bool false := Ez.dep 34 114 (by kernel_rfl) rfl
                    have e118 : Az.eval (.tmp 118) = .bool false := Ez.dep 38 118 (by kernel_rfl) rfl
                    exact wpo_val (v := .bool false) (run_pickF e114 e118) (k _ _ rfl hB)
                  | 40, ho =>
                    obtain rfl := Option.some.inj ho
                    intro Az Lz vz wy Kz Ez hB k
                    have e119 : Az.eval (.tmp 119) = .bool false := Ez.dep 39 119 (by kernel_rfl) rfl
                    exact wpo_val (v := .bool false) (run_move e119) (k _ _ rfl hB)
                  | 41, ho =>
                    obtain rfl := Option.some.inj ho
                    intro Az Lz vz wy Kz Ez hB k
                    have e7 : Az.eval (.tmp 7) = .pointer (some ⟨q4, 0, none⟩) := Ez.out 7 (by kernel_rfl)
                    have c3_0 := hB.2.cell 3 0 rfl rfl
                    have c3_1 := hB.2.cell 3 1 rfl rfl
                    have c3_2 := hB.2.cell 3 2 rfl rfl
                    have c3_3 := hB.2.cell 3 3 rfl rfl
                    exact wpo_val (v := .agg #[.int .i64 a, .int .i64 b, .int .i64 c, .int .i64 d]) (run_load e7 (by simp [go_sem, c3_0, c3_1, c3_2, c3_3])) (k _ _ rfl hB)
                  | 42, ho =>
                    obtain rfl := Option.some.inj ho
                    intro Az Lz vz wy Kz Ez hB k
                    exact wpo_val (v := .agg #[.int .i64 0, .int .i64 0, .int .i64 0, .int .i64 0]) (run_build (l' := #[]) (by simp only [List.map_toArray, List.map_cons, List.map_nil, eval_const]) (by simp [go_sem])) (k _ _ rfl hB)
                  | 43, ho =>
                    obtain rfl := Option.some.inj ho
                    intro Az Lz vz wy Kz Ez hB k
                    have e121 : Az.eval (.tmp 121) = .agg #[.int .i64 a, .int .i64 b, .int .i64 c, .int .i64 d] := Ez.dep 41 121 (by kernel_rfl) rfl
                    have e122 : Az.eval (.tmp 122) = .agg #[.int .i64 0, .int .i64 0, .int .i64 0, .int .i64 0] := Ez.dep 42 122 (by kernel_rfl) rfl
                    refine wpo_call (run_callW (fun _ _ => by kernel_rfl)) (R := fun ez w' => ez = .returned (.bool true) ∧ Below wy.heap.size wy w') ?_ ?_
                    · simp only [List.map_toArray, List.map_cons, List.map_nil, eval_const, e121, e122]
                      exact O6.out wy
                    · rintro ez w' ⟨rfl, hb⟩
                      exact ⟨_, rfl, k _ _ rfl ⟨bel_tr0 hB.1 hb, hB.2.later hb⟩⟩
                  | 44, ho =>
                    obtain rfl := Option.some.inj ho
                    intro Az Lz vz wy Kz Ez hB k
                    have e123 : Az.eval (.tmp 123) = .bool true := Ez.dep 43 123 (by kernel_rfl) rfl
                    exact wpo_val (v := .bool false) (run_un e123 (by simp [go_sem])) (k _ _ rfl hB)
                  | 45, ho =>
                    obtain rfl := Option.some.inj ho
                    intro Az Lz vz wy Kz Ez hB k
                    have e120 : Az.eval (.tmp 120) = .bool false := Ez.dep 40 120 (by kernel_rfl) rfl
                    have e124 : Az.eval (.tmp 124) = .bool false := Ez.dep 44 124 (by kernel_rfl) rfl
                    exact wpo_val (v := .bool false) (run_pickF e120 e124) (k _ _ rfl hB)
                  | n + 46, ho => simp at ho
                · obtain ⟨hk, hT⟩ := hB
                  have KB := Lib.hid hk
                  have KT := Lib.hid hT
                  clear hk hT hL
                  simp only [puts2, mix, Act.put, List.setIfInBounds_toArray, List.set_cons_zero, List.set_cons_succ, Nat.zero_add, Nat.reduceAdd, List.getElem?_cons_zero, List.getElem?_cons_succ]
                  go_wp2_with fail
                  go_meet
                  exact ⟨rfl, Lib.hid ⟨KB.out, KT.out⟩⟩
              · have ch := CH.out
                obtain rfl : ha = true := ch rfl rfl
                clear ch
                refine wp_region_vals_t [some (.agg #[.int .i64 a, .int .i64 b, .int .i64 c, .int .i64 d]), some (.agg #[.int .i64 e, .int .i64 f, .int .i64 g, .int .i64 h]), some (.bool true), some (.bool true), some (.agg #[.int .i64 e, .int .i64 f, .int .i64 g, .int .i64 h]), some (.int .i64 x), some (.int .i64 y), some (.bool true), some (.bool true), some (.bool true), some (.agg #[.int .i64 a, .int .i64 b, .int .i64 c, .int .i64 d]), some (.int .i64 x), some (.int .i64 y), some (.bool true), some (.bool false), some (.bool false), some (.bool false), some (.agg #[.int .i64 X, .int .i64 Y, .int .i64 Z, .int .i64 T]), some (.agg #[.int .i64 a, .int .i64 b, .int .i64 c, .int .i64 d]), some (.bool true), some (.bool false), some (.bool false), some (.bool false), some (.agg #[.int .i64 X, .int .i64 Y, .int .i64 Z, .int .i64 T]), some (.agg #[.int .i64 e, .int .i64 f, .int .i64 g, .int .i64 h]), some (.bool true), some (.bool false), some (.bool false), some (.bool false), some (.agg #[.int .i64 a, .int .i64 b, .int .i64 c, .int .i64 d]), some (.agg #[.int .i64 P, .int .i64 Q, .int .i64 R, .int .i64 S]), some (.bool true), some (.bool false), some (.bool false), some (.bool false), some (.agg #[.int .i64 e, .int .i64 f, .int .i64 g, .int .i64 h]), some (.agg #[.int .i64 P, .int .i64 Q, .int .i64 R, .int .i64 S]), some (.bool true), some (.bool false), some (.bool false), some (.bool false), some (.agg #[.int .i64 a, .int .i64 b, .int .i64 c, .int .i64 d]), some (.agg #[.int .i64 0, .int .i64 0, .int .i64 0, .int .i64 0]), some (.bool true), some (.bool false), some (.bool false)] (fun Lz _ wy => Below w.heap.size w wy ∧ Tab wy [(q7, [.int .i64 X, .int .i64 Y, .int .i64 Z, .int .i64 T]), (q6, [.int .i64 P, .int .i64 Q, .int .i64 R, .int .i64 S]), (q5, [.int .i64 e, .int .i64 f, .int .i64 g, .int .i64 h]), (q4, [.int .i64 a, .int .i64 b, .int .i64 c, .int .i64 d]), (w.heap.size + 1 + 1, [.int .i64 x, .int .i64 y]), (w.heap.size + 1, [.int .i64 e, .int .i64 f, .int .i64 g, .int .i64 h]), (w.heap.size, [.int .i64 a, .int .i64 b, .int .i64 c, .int .i64 d])])
                  [some 80, some 81, some 82, some 83, some 84, some 85, some 86, some 87, some 88, some 89, some 90, some 91, some 92, some 93, some 94, some 95, some 96, some 97, some 98, some 99, some 100, some 101, some 102, some 103, some 104, some 105, some 106, some 107, some 108, some 109, some 110, some 111, some 112, some 113, some 114, some 115, some 116, some 117, some 118, some 119, some 120, some 121, some 122, some 123, some 124, some 125] (by kernel_rfl) (by kernel_rfl) (by kernel_rfl) (by kernel_rfl) (by kernel_rfl) ⟨KB.out, KT.out⟩ (fun i o ho => ?_) (fun Lz vz wz hL hB => ?_)
                · match i, ho with
                  | 0, ho =>
                    obtain rfl := Option.some.inj ho
                    intro Az Lz vz wy Kz Ez hB k
                    have e7 : Az.eval (.tmp 7) = .pointer (some ⟨q4, 0, none⟩) := Ez.out 7 (by kernel_rfl)
                    have c3_0 := hB.2.cell 3 0 rfl rfl
                    have c3_1 := hB.2.cell 3 1 rfl rfl
                    have c3_2 := hB.2.cell 3 2 rfl rfl
                    have c3_3 := hB.2.cell 3 3 rfl rfl
                    exact wpo_val (v := .agg #[.int .i64 a, .int .i64 b, .int .i64 c, .int .i64 d]) (run_load e7 (by simp [go_sem, c3_0, c3_1, c3_2, c3_3])) (k _ _ rfl hB)
                  | 1, ho =>
                    obtain rfl := Option.some.inj ho
                    intro Az Lz vz wy Kz Ez hB k
                    have e8 : Az.eval (.tmp 8) = .pointer (some ⟨q5, 0, none⟩) := Ez.out 8 (by kernel_rfl)
                    have c2_0 := hB.2.cell 2 0 rfl rfl
                    have c2_1 := hB.2.cell 2 1 rfl rfl
                    have c2_2 := hB.2.cell 2 2 rfl rfl
                    have c2_3 := hB.2.cell 2 3 rfl rfl
                    exact wpo_val (v := .agg #[.int .i64 e, .int .i64 f, .int .i64 g, .int .i64 h]) (run_load e8 (by simp [go_sem, c2_0, c2_1, c2_2, c2_3])) (k _ _ rfl hB)
                  | 2, ho =>
                    obtain rfl := Option.some.inj ho
                    intro Az Lz vz wy Kz Ez hB k
                    have e80 : Az.eval (.tmp 80) = .agg #[.int .i64 a, .int .i64 b, .int .i64 c, .int .i64 d] := Ez.dep 0 80 (by kernel_rfl) rfl
                    have e81 : Az.eval (.tmp 81) = .agg #[.int .i64 e, .int .i64 f, .int .i64 g, .int .i64 h] := Ez.dep 1 81 (by kernel_rfl) rfl
                    refine wpo_call (run_callW (fun _ _ => by kernel_rfl)) (R := fun ez w' => ez = .returned (.bool true) ∧ Below wy.heap.size wy w') ?_ ?_
                    · simp only [List.map_toArray, List.map_cons, List.map_nil, eval_const, e80, e81]
                      exact O1.out wy
                    · rintro ez w' ⟨rfl, hb⟩
                      exact ⟨_, rfl, k _ _ rfl ⟨bel_tr0 hB.1 hb, hB.2.later hb⟩⟩
                  | 3, ho =>
                    obtain rfl := Option.some.inj ho
                    intro Az Lz vz wy Kz Ez hB k
                    have e82 : Az.eval (.tmp 82) = .bool true := Ez.dep 2 82 (by kernel_rfl) rfl
                    exact wpo_val (v := .bool true) (run_move e82) (k _ _ rfl hB)
                  | 4, ho =>
                    obtain rfl := Option.some.inj ho
                    intro Az Lz vz wy Kz Ez hB k
                    have e8 : Az.eval (.tmp 8) = .pointer (some ⟨q5, 0, none⟩) := Ez.out 8 (by kernel_rfl)
                    have c2_0 := hB.2.cell 2 0 rfl rfl
                    have c2_1 := hB.2.cell 2 1 rfl rfl
                    have c2_2 := hB.2.cell 2 2 rfl rfl
                    have c2_3 := hB.2.cell 2 3 rfl rfl
                    exact wpo_val (v := .agg #[.int .i64 e, .int .i64 f, .int .i64 g, .int .i64 h]) (run_load e8 (by simp [go_sem, c2_0, c2_1, c2_2, c2_3])) (k _ _ rfl hB)
                  | 5, ho =>
                    obtain rfl := Option.some.inj ho
                    intro Az Lz vz wy Kz Ez hB k
                    have e9 : Az.eval (.tmp 9) = .int .i64 x := Ez.out 9 (by kernel_rfl)
                    exact wpo_val (v := .int .i64 x) (run_move e9) (k _ _ rfl hB)
                  | 6, ho =>
                    obtain rfl := Option.some.inj ho
                    intro Az Lz vz wy Kz Ez hB k
                    have e10 : Az.eval (.tmp 10) = .int .i64 y := Ez.out 10 (by kernel_rfl)
                    exact wpo_val (v := .int .i64 y) (run_move e10) (k _ _ rfl hB)
                  | 7, ho =>
                    obtain rfl := Option.some.inj ho
                    intro Az Lz vz wy Kz Ez hB k
                    have e84 : Az.eval (.tmp 84) = .agg #[.int .i64 e, .int .i64 f, .int .i64 g, .int .i64 h] := Ez.dep 4 84 (by kernel_rfl) rfl
                    have e85 : Az.eval (.tmp 85) = .int .i64 x := Ez.dep 5 85 (by kernel_rfl) rfl
                    have e86 : Az.eval (.tmp 86) = .int .i64 y := Ez.dep 6 86 (by kernel_rfl) rfl
                    refine wpo_call (run_callW (fun _ _ => by kernel_rfl)) (R := fun ez w' => ez = .returned (.bool true) ∧ Below wy.heap.size wy w') ?_ ?_
                    · simp only [List.map_toArray, List.map_cons, List.map_nil, eval_const, e84, e85, e86]
                      exact Hb.out wy
                    · rintro ez w' ⟨rfl, hb⟩
                      exact ⟨_, rfl, k _ _ rfl ⟨bel_tr0 hB.1 hb, hB.2.later hb⟩⟩
                  | 8, ho =>
                    obtain rfl := Option.some.inj ho
                    intro Az Lz vz wy Kz Ez hB k
                    have e83 : Az.eval (.tmp 83) = .bool true := Ez.dep 3 83 (by kernel_rfl) rfl
                    have e87 : Az.eval (.tmp 87) = .bool true := Ez.dep 7 87 (by kernel_rfl) rfl
                    exact wpo_val (v := .bool true) (run_pickT e83 e87) (k _ _ rfl hB)
                  | 9, ho =>
                    obtain rfl := Option.some.inj ho
                    intro Az Lz vz wy Kz Ez hB k
                    have e88 : Az.eval (.tmp 88) = .bool true := Ez.dep 8 88 (by kernel_rfl) rfl
                    exact wpo_val (v := .bool true) (run_move e88) (k _ _ rfl hB)
                  | 10, ho =>
                    obtain rfl := Option.some.inj ho
                    intro Az Lz vz wy Kz Ez hB k
                    have e7 : Az.eval (.tmp 7) = .pointer (some ⟨q4, 0, none⟩) := Ez.out 7 (by kernel_rfl)
                    have c3_0 := hB.2.cell 3 0 rfl rfl
                    have c3_1 := hB.2.cell 3 1 rfl rfl
                    have c3_2 := hB.2.cell 3 2 rfl rfl
                    have c3_3 := hB.2.cell 3 3 rfl rfl
                    exact wpo_val (v := .agg #[.int .i64 a, .int .i64 b, .int .i64 c, .int .i64 d]) (run_load e7 (by simp [go_sem, c3_0, c3_1, c3_2, c3_3])) (k _ _ rfl hB)
                  | 11, ho =>
                    obtain rfl := Option.some.inj ho
                    intro Az Lz vz wy Kz Ez hB k
                    have e9 : Az.eval (.tmp 9) = .int .i64 x := Ez.out 9 (by kernel_rfl)
                    exact wpo_val (v := .int .i64 x) (run_move e9) (k _ _ rfl hB)
                  | 12, ho =>
                    obtain rfl := Option.some.inj ho
                    intro Az Lz vz wy Kz Ez hB k
                    have e10 : Az.eval (.tmp 10) = .int .i64 y := Ez.out 10 (by kernel_rfl)
                    exact wpo_val (v := .int .i64 y) (run_move e10) (k _ _ rfl hB)
                  | 13, ho =>
                    obtain rfl := Option.some.inj ho
                    intro Az Lz vz wy Kz Ez hB k
                    have e90 : Az.eval (.tmp 90) = .agg #[.int .i64 a, .int .i64 b, .int .i64 c, .int .i64 d] := Ez.dep 10 90 (by kernel_rfl) rfl
                    have e91 : Az.eval (.tmp 91) = .int .i64 x := Ez.dep 11 91 (by kernel_rfl) rfl
                    have e92 : Az.eval (.tmp 92) = .int .i64 y := Ez.dep 12 92 (by kernel_rfl) rfl
                    refine wpo_call (run_callW (fun _ _ => by kernel_rfl)) (R := fun ez w' => ez = .returned (.bool true) ∧ Below wy.heap.size wy w') ?_ ?_
                    · simp only [List.map_toArray, List.map_cons, List.map_nil, eval_const, e90, e91, e92]
                      exact Ha.out wy
                    · rintro ez w' ⟨rfl, hb⟩
                      exact ⟨_, rfl, k _ _ rfl ⟨bel_tr0 hB.1 hb, hB.2.later hb⟩⟩
                  | 14, ho =>
                    obtain rfl := Option.some.inj ho
                    intro Az Lz vz wy Kz Ez hB k
                    have e93 : Az.eval (.tmp 93) = .bool true := Ez.dep 13 93 (by kernel_rfl) rfl
                    exact wpo_val (v := .bool false) (run_un e93 (by simp [go_sem])) (k _ _ rfl hB)
                  | 15, ho =>
                    obtain rfl := Option.some.inj ho
                    intro Az Lz vz wy Kz Ez hB k
                    have e89 : Az.eval (.tmp 89) = .bool true := Ez.dep 9 89 (by kernel_rfl) rfl
                    have e94 : Az.eval (.tmp 94) = .bool false := Ez.dep 14 94 (by kernel_rfl) rfl
                    exact wpo_val (v := .bool false) (run_pickT e89 e94) (k _ _ rfl hB)
                  | 16, ho =>
                    obtain rfl := Option.some.inj ho
                    intro Az Lz vz wy Kz Ez hB k
                    have e95 : Az.eval (.tmp 95) = .bool false := Ez.dep 15 95 (by kernel_rfl) rfl
                    exact wpo_val (v := .bool false) (run_move e95) (k _ _ rfl hB)
                  | 17, ho =>
                    obtain rfl := Option.some.inj ho
                    intro Az Lz vz wy Kz Ez hB k
                    have e12 : Az.eval (.tmp 12) = .pointer (some ⟨q7, 0, none⟩) := Ez.out 12 (by kernel_rfl)
                    have c0_0 := hB.2.cell 0 0 rfl rfl
                    have c0_1 := hB.2.cell 0 1 rfl rfl
                    have c0_2 := hB.2.cell 0 2 rfl rfl
                    have c0_3 := hB.2.cell 0 3 rfl rfl
                    exact wpo_val (v := .agg #[.int .i64 X, .int .i64 Y, .int .i64 Z, .int .i64 T]) (run_load e12 (by simp [go_sem, c0_0, c0_1, c0_2, c0_3])) (k _ _ rfl hB)
                  | 18, ho =>
                    obtain rfl := Option.some.inj ho
                    intro Az Lz vz wy Kz Ez hB k
                    have e7 : Az.eval (.tmp 7) = .pointer (some ⟨q4, 0, none⟩) := Ez.out 7 (by kernel_rfl)
                    have c3_0 := hB.2.cell 3 0 rfl rfl
                    have c3_1 := hB.2.cell 3 1 rfl rfl
                    have c3_2 := hB.2.cell 3 2 rfl rfl
                    have c3_3 := hB.2.cell 3 3 rfl rfl
                    exact wpo_val (v := .agg #[.int .i64 a, .int .i64 b, .int .i64 c, .int .i64 d]) (run_load e7 (by simp [go_sem, c3_0, c3_1, c3_2, c3_3])) (k _ _ rfl hB)
                  | 19, ho =>
                    obtain rfl := Option.some.inj ho
                    intro Az Lz vz wy Kz Ez hB k
                    have e97 : Az.eval (.tmp 97) = .agg #[.int .i64 X, .int .i64 Y, .int .i64 Z, .int .i64 T] := Ez.dep 17 97 (by kernel_rfl) rfl
                    have e98 : Az.eval (.tmp 98) = .agg #[.int .i64 a, .int .i64 b, .int .i64 c, .int .i64 d] := Ez.dep 18 98 (by kernel_rfl) rfl
                    refine wpo_call (run_callW (fun _ _ => by kernel_rfl)) (R := fun ez w' => ez = .returned (.bool true) ∧ Below wy.heap.size wy w') ?_ ?_
                    · simp only [List.map_toArray, List.map_cons, List.map_nil, eval_const, e97, e98]
                      exact O2.out wy
                    · rintro ez w' ⟨rfl, hb⟩
                      exact ⟨_, rfl, k _ _ rfl ⟨bel_tr0 hB.1 hb, hB.2.later hb⟩⟩
                  | 20, ho =>
                    obtain rfl := Option.some.inj ho
                    intro Az Lz vz wy Kz Ez hB k
                    have e99 : Az.eval (.tmp 99) = .bool true := Ez.dep 19 99 (by kernel_rfl) rfl
                    exact wpo_val (v := .bool false) (run_un e99 (by simp [go_sem])) (k _ _ rfl hB)
                  | 21, ho =>
                    obtain rfl := Option.some.inj ho
                    intro Az Lz vz wy Kz Ez hB k
                    have e96 : Az.eval (.tmp 96) = .bool false := Ez.dep 16 96 (by kernel_rfl) rfl
                    have e100 : Az.eval (.tmp 100) = .bool false := Ez.dep 20 100 (by kernel_rfl) rfl
                    exact wpo_val (v := .bool false) (run_pickF e96 e100) (k _ _ rfl hB)
                  | 22, ho =>
                    obtain rfl := Option.some.inj ho
                    intro Az Lz vz wy Kz Ez hB k
                    have e101 : Az.eval (.tmp 101) = .bool false := Ez.dep 21 101 (by kernel_rfl) rfl
                    exact wpo_val (v := .bool false) (run_move e101) (k _ _ rfl hB)
                  | 23, ho =>
                    obtain rfl := Option.some.inj ho
                    intro Az Lz vz wy Kz Ez hB k
                    have e12 : Az.eval (.tmp 12) = .pointer (some ⟨q7, 0, none⟩) := Ez.out 12 (by kernel_rfl)
                    have c0_0 := hB.2.cell 0 0 rfl rfl
                    have c0_1 := hB.2.cell 0 1 rfl rfl
                    have c0_2 := hB.2.cell 0 2 rfl rfl
                    have c0_3 := hB.2.cell 0 3 rfl rfl
                    exact wpo_val (v := .agg #[.int .i64 X, .int .i64 Y, .int .i64 Z, .int .i64 T]) (run_load e12 (by simp [go_sem, c0_0, c0_1, c0_2, c0_3])) (k _ _ rfl hB)
                  | 24, ho =>
                    obtain rfl := Option.some.inj ho
                    intro Az Lz vz wy Kz Ez hB k
                    have e8 : Az.eval (.tmp 8) = .pointer (some ⟨q5, 0, none⟩) := Ez.out 8 (by kernel_rfl)
                    have c2_0 := hB.2.cell 2 0 rfl rfl
                    have c2_1 := hB.2.cell 2 1 rfl rfl
                    have c2_2 := hB.2.cell 2 2 rfl rfl
                    have c2_3 := hB.2.cell 2 3 rfl rfl
                    exact wpo_val (v := .agg #[.int .i64 e, .int .i64 f, .int .i64 g, .int .i64 h]) (run_load e8 (by simp [go_sem, c2_0, c2_1, c2_2, c2_3])) (k _ _ rfl hB)
                  | 25, ho =>
                    obtain rfl := Option.some.inj ho
                    intro Az Lz vz wy Kz Ez hB k
                    have e103 : Az.eval (.tmp 103) = .agg #[.int .i64 X, .int .i64 Y, .int .i64 Z, .int .i64 T] := Ez.dep 23 103 (by kernel_rfl) rfl
                    have e104 : Az.eval (.tmp 104) = .agg #[.int .i64 e, .int .i64 f, .int .i64 g, .int .i64 h] := Ez.dep 24 104 (by kernel_rfl) rfl
                    refine wpo_call (run_callW (fun _ _ => by kernel_rfl)) (R := fun ez w' => ez = .returned (.bool true) ∧ Below wy.heap.size wy w') ?_ ?_
                    · simp only [List.map_toArray, List.map_cons, List.map_nil, eval_const, e103, e104]
                      exact O3.out wy
                    · rintro ez w' ⟨rfl, hb⟩
                      exact ⟨_, rfl, k _ _ rfl ⟨bel_tr0 hB.1 hb, hB.2.later hb⟩⟩
                  | 26, ho =>
                    obtain rfl := Option.some.inj ho
                    intro Az Lz vz wy Kz Ez hB k
                    have e105 : Az.eval (.tmp 105) = .bool true := Ez.dep 25 105 (by kernel_rfl) rfl
                    exact wpo_val (v := .bool false) (run_un e105 (by simp [go_sem])) (k _ _ rfl hB)
                  | 27, ho =>
                    obtain rfl := Option.some.inj ho
                    intro Az Lz vz wy Kz Ez hB k
                    have e102 : Az.eval (.tmp 102) = .bool false := Ez.dep 22 102 (by kernel_rfl) rfl
                    have e106 : Az.eval (.tmp 106) = .bool false := Ez.dep 26 106 (by kernel_rfl) rfl
                    exact wpo_val (v := .bool false) (run_pickF e102 e106) (k _ _ rfl hB)
                  | 28, ho =>
                    obtain rfl := Option.some.inj ho
                    intro Az Lz vz wy Kz Ez hB k
                    have e107 : Az.eval (.tmp 107) = .bool false := Ez.dep 27 107 (by kernel_rfl) rfl
                    exact wpo_val (v := .bool false) (run_move e107) (k _ _ rfl hB)
                  | 29, ho =>
                    obtain rfl := Option.some.inj ho
                    intro Az Lz vz wy Kz Ez hB k
                    have e7 : Az.eval (.tmp 7) = .pointer (some ⟨q4, 0, none⟩) := Ez.out 7 (by kernel_rfl)
                    have c3_0 := hB.2.cell 3 0 rfl rfl
                    have c3_1 := hB.2.cell 3 1 rfl rfl
                    have c3_2 := hB.2.cell 3 2 rfl rfl
                    have c3_3 := hB.2.cell 3 3 rfl rfl
                    exact wpo_val (v := .agg #[.int .i64 a, .int .i64 b, .int .i64 c, .int .i64 d]) (run_load e7 (by simp [go_sem, c3_0, c3_1, c3_2, c3_3])) (k _ _ rfl hB)
                  | 30, ho =>
                    obtain rfl := Option.some.inj ho
                    intro Az Lz vz wy Kz Ez hB k
                    have e11 : Az.eval (.tmp 11) = .pointer (some ⟨q6, 0, none⟩) := Ez.out 11 (by kernel_rfl)
                    have c1_0 := hB.2.cell 1 0 rfl rfl
                    have c1_1 := hB.2.cell 1 1 rfl rfl
                    have c1_2 := hB.2.cell 1 2 rfl rfl
                    have c1_3 := hB.2.cell 1 3 rfl rfl
                    exact wpo_val (v := .agg #[.int .i64 P, .int .i64 Q, .int .i64 R, .int .i64 S]) (run_load e11 (by simp [go_sem, c1_0, c1_1, c1_2, c1_3])) (k _ _ rfl hB)
                  | 31, ho =>
                    obtain rfl := Option.some.inj ho
                    intro Az Lz vz wy Kz Ez hB k
                    have e109 : Az.eval (.tmp 109) = .agg #[.int .i64 a, .int .i64 b, .int .i64 c, .int .i64 d] := Ez.dep 29 109 (by kernel_rfl) rfl
                    have e110 : Az.eval (.tmp 110) = .agg #[.int .i64 P, .int .i64 Q, .int .i64 R, .int .i64 S] := Ez.dep 30 110 (by kernel_rfl) rfl
                    refine wpo_call (run_callW (fun _ _ => by kernel_rfl)) (R := fun ez w' => ez = .returned (.bool true) ∧ Below wy.heap.size wy w') ?_ ?_
                    · simp only [List.map_toArray, List.map_cons, List.map_nil, eval_const, e109, e110]
                      exact O4.out wy
                    · rintro ez w' ⟨rfl, hb⟩
                      exact ⟨_, rfl, k _ _ rfl ⟨bel_tr0 hB.1 hb, hB.2.later hb⟩⟩
                  | 32, ho =>
                    obtain rfl := Option.some.inj ho
                    intro Az Lz vz wy Kz Ez hB k
                    have e111 : Az.eval (.tmp 111) = .bool true := Ez.dep 31 111 (by kernel_rfl) rfl
                    exact wpo_val (v := .bool false) (run_un e111 (by simp [go_sem])) (k _ _ rfl hB)
                  | 33, ho =>
                    obtain rfl := Option.some.inj ho
                    intro Az Lz vz wy Kz Ez hB k
                    have e108 : Az.eval (.tmp 108) = .bool false := Ez.dep 28 108 (by kernel_rfl) rfl
                    have e112 : Az.eval (.tmp 112) = .bool false := Ez.dep 32 112 (by kernel_rfl) rfl
                    exact wpo_val (v := .bool false) (run_pickF e108 e112) (k _ _ rfl hB)
                  | 34, ho =>
                    obtain rfl := Option.some.inj ho
                    intro Az Lz vz wy Kz Ez hB k
                    have e113 : Az.eval (.tmp 113) = .bool false := Ez.dep 33 113 (by kernel_rfl) rfl
                    exact wpo_val (v := .bool false) (run_move e113) (k _ _ rfl hB)
                  | 35, ho =>
                    obtain rfl := Option.some.inj ho
                    intro Az Lz vz wy Kz Ez hB k
                    have e8 : Az.eval (.tmp 8) = .pointer (some ⟨q5, 0, none⟩) := Ez.out 8 (by kernel_rfl)
                    have c2_0 := hB.2.cell 2 0 rfl rfl
                    have c2_1 := hB.2.cell 2 1 rfl rfl
                    have c2_2 := hB.2.cell 2 2 rfl rfl
                    have c2_3 := hB.2.cell 2 3 rfl rfl
                    exact wpo_val (v := .agg #[.int .i64 e, .int .i64 f, .int .i64 g, .int .i64 h]) (run_load e8 (by simp [go_sem, c2_0, c2_1, c2_2, c2_3])) (k _ _ rfl hB)
                  | 36, ho =>
                    obtain rfl := Option.some.inj ho
                    intro Az Lz vz wy Kz Ez hB k
                    have e11 : Az.eval (.tmp 11) = .pointer (some ⟨q6, 0, none⟩) := Ez.out 11 (by kernel_rfl)
                    have c1_0 := hB.2.cell 1 0 rfl rfl
                    have c1_1 := hB.2.cell 1 1 rfl rfl
                    have c1_2 := hB.2.cell 1 2 rfl rfl
                    have c1_3 := hB.2.cell 1 3 rfl rfl
                    exact wpo_val (v := .agg #[.int .i64 P, .int .i64 Q, .int .i64 R, .int .i64 S]) (run_load e11 (by simp [go_sem, c1_0, c1_1, c1_2, c1_3])) (k _ _ rfl hB)
                  | 37, ho =>
                    obtain rfl := Option.some.inj ho
                    intro Az Lz vz wy Kz Ez hB k
                    have e115 : Az.eval (.tmp 115) = .agg #[.int .i64 e, .int .i64 f, .int .i64 g, .int .i64 h] := Ez.dep 35 115 (by kernel_rfl) rfl
                    have e116 : Az.eval (.tmp 116) = .agg #[.int .i64 P, .int .i64 Q, .int .i64 R, .int .i64 S] := Ez.dep 36 116 (by kernel_rfl) rfl
                    refine wpo_call (run_callW (fun _ _ => by kernel_rfl)) (R := fun ez w' => ez = .returned (.bool true) ∧ Below wy.heap.size wy w') ?_ ?_
                    · simp only [List.map_toArray, List.map_cons, List.map_nil, eval_const, e115, e116]
                      exact O5.out wy
                    · rintro ez w' ⟨rfl, hb⟩
                      exact ⟨_, rfl, k _ _ rfl ⟨bel_tr0 hB.1 hb, hB.2.later hb⟩⟩
                  | 38, ho =>
                    obtain rfl := Option.some.inj ho
                    intro Az Lz vz wy Kz Ez hB k
                    have e117 : Az.eval (.tmp 117) = .bool true := Ez.dep 37 117 (by kernel_rfl) rfl
                    exact wpo_val (v := .bool false) (run_un e117 (by simp [go_sem])) (k _ _ rfl hB)
                  | 39, ho =>
                    obtain rfl := Option.some.inj ho
                    intro Az Lz vz wy Kz Ez hB k
                    have e114 : Az.eval (.tmp 114) = .bool false := Ez.dep 34 114 (by kernel_rfl) rfl
                    have e118 : Az.eval (.tmp 118) = .bool false := Ez.dep 38 118 (by kernel_rfl) rfl
                    exact wpo_val (v := .bool false) (run_pickF e114 e118) (k _ _ rfl hB)
                  | 40, ho =>
                    obtain rfl := Option.some.inj ho
                    intro Az Lz vz wy Kz Ez hB k
                    have e119 : Az.eval (.tmp 119) = .bool false := Ez.dep 39 119 (by kernel_rfl) rfl
                    exact wpo_val (v := .bool false) (run_move e119) (k _ _ rfl hB)
                  | 41, ho =>
                    obtain rfl := Option.some.inj ho
                    intro Az Lz vz wy Kz Ez hB k
                    have e7 : Az.eval (.tmp 7) = .pointer (some ⟨q4, 0, none⟩) := Ez.out 7 (by kernel_rfl)
                    have c3_0 := hB.2.cell 3 0 rfl rfl
                    have c3_1 := hB.2.cell 3 1 rfl rfl
                    have c3_2 := hB.2.cell 3 2 rfl rfl
                    have c3_3 := hB.2.cell 3 3 rfl rfl
                    exact wpo_val (v := .agg #[.int .i64 a, .int .i64 b, .int .i64 c, .int .i64 d]) (run_load e7 (by simp [go_sem, c3_0, c3_1, c3_2, c3_3])) (k _ _ rfl hB)
                  | 42, ho =>
                    obtain rfl := Option.some.inj ho
                    intro Az Lz vz wy Kz Ez hB k
                    exact wpo_val (v := .agg #[.int .i64 0, .int .i64 0, .int .i64 0, .int .i64 0]) (run_build (l' := #[]) (by simp only [List.map_toArray, List.map_cons, List.map_nil, eval_const]) (by simp [go_sem])) (k _ _ rfl hB)
                  | 43, ho =>
                    obtain rfl := Option.some.inj ho
                    intro Az Lz vz wy Kz Ez hB k
                    have e121 : Az.eval (.tmp 121) = .agg #[.int .i64 a, .int .i64 b, .int .i64 c, .int .i64 d] := Ez.dep 41 121 (by kernel_rfl) rfl
                    have e122 : Az.eval (.tmp 122) = .agg #[.int .i64 0, .int .i64 0, .int .i64 0, .int .i64 0] := Ez.dep 42 122 (by kernel_rfl) rfl
                    refine wpo_call (run_callW (fun _ _ => by kernel_rfl)) (R := fun ez w' => ez = .returned (.bool true) ∧ Below wy.heap.size wy w') ?_ ?_
                    · simp only [List.map_toArray, List.map_cons, List.map_nil, eval_const, e121, e122]
                      exact O6.out wy
                    · rintro ez w' ⟨rfl, hb⟩
                      exact ⟨_, rfl, k _ _ rfl ⟨bel_tr0 hB.1 hb, hB.2.later hb⟩⟩
                  | 44, ho =>
                    obtain rfl := Option.some.inj ho
                    intro Az Lz vz wy Kz Ez hB k
                    have e123 : Az.eval (.tmp 123) = .bool true := Ez.dep 43 123 (by kernel_rfl) rfl
                    exact wpo_val (v := .bool false) (run_un e123 (by simp [go_sem])) (k _ _ rfl hB)
                  | 45, ho =>
                    obtain rfl := Option.some.inj ho
                    intro Az Lz vz wy Kz Ez hB k
                    have e120 : Az.eval (.tmp 120) = .bool false := Ez.dep 40 120 (by kernel_rfl) rfl
                    have e124 : Az.eval (.tmp 124) = .bool false := Ez.dep 44 124 (by kernel_rfl) rfl
                    exact wpo_val (v := .bool false) (run_pickF e120 e124) (k _ _ rfl hB)
                  | n + 46, ho => simp at ho
                · obtain ⟨hk, hT⟩ := hB
                  have KB := Lib.hid hk
                  have KT := Lib.hid hT
                  clear hk hT hL
                  simp only [puts2, mix, Act.put, List.setIfInBounds_toArray, List.set_cons_zero, List.set_cons_succ, Nat.zero_add, Nat.reduceAdd, List.getElem?_cons_zero, List.getElem?_cons_succ]
                  go_wp2_with fail
                  go_meet
                  exact ⟨rfl, Lib.hid ⟨KB.out, KT.out⟩⟩
          case rest =>
            obtain ⟨rfl, hcut⟩ := hcut
            have KB := Lib.hid hcut.out.1
            have KT := Lib.hid hcut.out.2
            clear hcut
            go_wp2_with fail
            have HN : Hid (w.heap.size ≤ wc.heap.size) := Lib.hid KB.out.size
            have HT : Hid (∀ (kz bz : Nat) (uz : List Value), [(q7, [.int .i64 X, .int .i64 Y, .int .i64 Z, .int .i64 T]), (q6, [.int .i64 P, .int .i64 Q, .int .i64 R, .int .i64 S]), (q5, [.int .i64 e, .int .i64 f, .int .i64 g, .int .i64 h]), (q4, [.int .i64 a, .int .i64 b, .int .i64 c, .int .i64 d]), (w.heap.size + 1 + 1, [.int .i64 x, .int .i64 y]), (w.heap.size + 1, [.int .i64 e, .int .i64 f, .int .i64 g, .int .i64 h]), (w.heap.size, [.int .i64 a, .int .i64 b, .int .i64 c, .int .i64 d])][kz]? = some (bz, uz) → bz < wc.heap.size) := Lib.hid (KT.out.lts rfl)
            have FD : ([6, 7, 8, 9, 10, 11].Nodup) := by decide
            refine wp_region_vals [some (.agg #[.int .i64 X, .int .i64 Y, .int .i64 Z, .int .i64 T]), some (.agg #[.int .i64 X, .int .i64 Y, .int .i64 Z, .int .i64 T]), some (.agg #[.int .i64 a, .int .i64 b, .int .i64 c, .int .i64 d]), some (.agg #[.int .i64 A, .int .i64 B, .int .i64 C, .int .i64 D]), some (.agg #[.int .i64 e, .int .i64 f, .int .i64 g, .int .i64 h]), some (.agg #[.int .i64 E, .int .i64 F, .int .i64 G, .int .i64 H]), none, none, none, none, none, none] (fun Lz vz wy => Below w.heap.size w wy ∧ Tab wy [(q7, [.int .i64 X, .int .i64 Y, .int .i64 Z, .int .i64 T]), (q6, [.int .i64 P, .int .i64 Q, .int .i64 R, .int .i64 S]), (q5, [.int .i64 e, .int .i64 f, .int .i64 g, .int .i64 h]), (q4, [.int .i64 a, .int .i64 b, .int .i64 c, .int .i64 d]), (w.heap.size + 1 + 1, [.int .i64 x, .int .i64 y]), (w.heap.size + 1, [.int .i64 e, .int .i64 f, .int .i64 g, .int .i64 h]), (w.heap.size, [.int .i64 a, .int .i64 b, .int .i64 c, .int .i64 d])] ∧ wc.heap.size ≤ wy.heap.size ∧ Fresh (wc.heap.size) [(6, 9, [.int .i64 0, .int .i64 0, .int .i64 0, .int .i64 0], [.int .i64 X, .int .i64 Y, .int .i64 Z, .int .i64 T]), (7, 10, [.int .i64 0, .int .i64 0, .int .i64 0, .int .i64 0], [.int .i64 A, .int .i64 B, .int .i64 C, .int .i64 D]), (8, 11, [.int .i64 0, .int .i64 0, .int .i64 0, .int .i64 0], [.int .i64 E, .int .i64 F, .int .i64 G, .int .i64 H])] Lz vz wy)
              [some 126, some 127, some 128, some 129, some 130, some 131, some 13, some 14, some 15, none, none, none] (by kernel_rfl) (by kernel_rfl) (by kernel_rfl) (by kernel_rfl) (by kernel_rfl) (by kernel_rfl) ⟨KB.out.drew, KT.out.later ((Below.refl _ _).drew), Nat.le_refl _, Fresh.start _ _ _ _⟩ (fun i o ho => ?_) (fun Lz vz wz hL hB => ?_)
            · match i, ho with
              | 0, ho =>
                obtain rfl := Option.some.inj ho
                intro Az Lz vz wy Kz Ez hB k
                have e12 : Az.eval (.tmp 12) = .pointer (some ⟨q7, 0, none⟩) := Ez.out 12 (by kernel_rfl)
                have c0_0 := hB.2.1.cell 0 0 rfl rfl
                have c0_1 := hB.2.1.cell 0 1 rfl rfl
                have c0_2 := hB.2.1.cell 0 2 rfl rfl
                have c0_3 := hB.2.1.cell 0 3 rfl rfl
                exact wpo_val (v := .agg #[.int .i64 X, .int .i64 Y, .int .i64 Z, .int .i64 T]) (run_load e12 (by simp [go_sem, c0_0, c0_1, c0_2, c0_3])) (k _ _ rfl ⟨hB.1, hB.2.1, hB.2.2.1, hB.2.2.2.other 0 _ (fresh_ne rfl)⟩)
              | 1, ho =>
                obtain rfl := Option.some.inj ho
                intro Az Lz vz wy Kz Ez hB k
                have e126 : Az.eval (.tmp 126) = .agg #[.int .i64 X, .int .i64 Y, .int .i64 Z, .int .i64 T] := Ez.dep 0 126 (by kernel_rfl) rfl
                refine wpo_call (run_callW (fun _ _ => by kernel_rfl)) (R := fun ez w' => ez = .returned (.agg #[.int .i64 X, .int .i64 Y, .int .i64 Z, .int .i64 T]) ∧ Below wy.heap.size wy w') ?_ ?_
                · simp only [List.map_toArray, List.map_cons, List.map_nil, eval_const, e126]
                  exact R1.out wy
                · rintro ez w' ⟨rfl, hb⟩
                  exact ⟨_, rfl, k _ _ rfl ⟨bel_tr0 hB.1 hb, hB.2.1.later hb, Nat.le_trans hB.2.2.1 hb.size, (hB.2.2.2.later hb).other 1 _ (fresh_ne rfl)⟩⟩
              | 2, ho =>
                obtain rfl := Option.some.inj ho
                intro Az Lz vz wy Kz Ez hB k
                have e7 : Az.eval (.tmp 7) = .pointer (some ⟨q4, 0, none⟩) := Ez.out 7 (by kernel_rfl)
                have c3_0 := hB.2.1.cell 3 0 rfl rfl
                have c3_1 := hB.2.1.cell 3 1 rfl rfl
                have c3_2 := hB.2.1.cell 3 2 rfl rfl
                have c3_3 := hB.2.1.cell 3 3 rfl rfl
                exact wpo_val (v := .agg #[.int .i64 a, .int .i64 b, .int .i64 c, .int .i64 d]) (run_load e7 (by simp [go_sem, c3_0, c3_1, c3_2, c3_3])) (k _ _ rfl ⟨hB.1, hB.2.1, hB.2.2.1, hB.2.2.2.other 2 _ (fresh_ne rfl)⟩)
              | 3, ho =>
                obtain rfl := Option.some.inj ho
                intro Az Lz vz wy Kz Ez hB k
                have e128 : Az.eval (.tmp 128) = .agg #[.int .i64 a, .int .i64 b, .int .i64 c, .int .i64 d] := Ez.dep 2 128 (by kernel_rfl) rfl
                refine wpo_call (run_callW (fun _ _ => by kernel_rfl)) (R := fun ez w' => ez = .returned (.agg #[.int .i64 A, .int .i64 B, .int .i64 C, .int .i64 D]) ∧ Below wy.heap.size wy w') ?_ ?_
                · simp only [List.map_toArray, List.map_cons, List.map_nil, eval_const, e128]
                  exact R2.out wy
                · rintro ez w' ⟨rfl, hb⟩
                  exact ⟨_, rfl, k _ _ rfl ⟨bel_tr0 hB.1 hb, hB.2.1.later hb, Nat.le_trans hB.2.2.1 hb.size, (hB.2.2.2.later hb).other 3 _ (fresh_ne rfl)⟩⟩
              | 4, ho =>
                obtain rfl := Option.some.inj ho
                intro Az Lz vz wy Kz Ez hB k
                have e8 : Az.eval (.tmp 8) = .pointer (some ⟨q5, 0, none⟩) := Ez.out 8 (by kernel_rfl)
                have c2_0 := hB.2.1.cell 2 0 rfl rfl
                have c2_1 := hB.2.1.cell 2 1 rfl rfl
                have c2_2 := hB.2.1.cell 2 2 rfl rfl
                have c2_3 := hB.2.1.cell 2 3 rfl rfl
                exact wpo_val (v := .agg #[.int .i64 e, .int .i64 f, .int .i64 g, .int .i64 h]) (run_load e8 (by simp [go_sem, c2_0, c2_1, c2_2, c2_3])) (k _ _ rfl ⟨hB.1, hB.2.1, hB.2.2.1, hB.2.2.2.other 4 _ (fresh_ne rfl)⟩)
              | 5, ho =>
                obtain rfl := Option.some.inj ho
                intro Az Lz vz wy Kz Ez hB k
                have e130 : Az.eval (.tmp 130) = .agg #[.int .i64 e, .int .i64 f, .int .i64 g, .int .i64 h] := Ez.dep 4 130 (by kernel_rfl) rfl
                refine wpo_call (run_callW (fun _ _ => by kernel_rfl)) (R := fun ez w' => ez = .returned (.agg #[.int .i64 E, .int .i64 F, .int .i64 G, .int .i64 H]) ∧ Below wy.heap.size wy w') ?_ ?_
                · simp only [List.map_toArray, List.map_cons, List.map_nil, eval_const, e130]
                  exact R3.out wy
                · rintro ez w' ⟨rfl, hb⟩
                  exact ⟨_, rfl, k _ _ rfl ⟨bel_tr0 hB.1 hb, hB.2.1.later hb, Nat.le_trans hB.2.2.1 hb.size, (hB.2.2.2.later hb).other 5 _ (fresh_ne rfl)⟩⟩
              | 6, ho =>
                obtain rfl := Option.some.inj ho
                intro Az Lz vz wy Kz Ez hB k
                have zs : Lz 9 = false := Ez.late 9 _ rfl (by kernel_rfl)
                exact wpo_val (run_alloc (by simp [go_sem])) (k _ _ trivial ⟨bel_al hB.1 _, hB.2.1.alloc _, by rw [World.size_alloc]; exact Nat.le_succ_of_le hB.2.2.1, hB.2.2.2.make FD 0 rfl zs hB.2.2.1 40⟩)
              | 7, ho =>
                obtain rfl := Option.some.inj ho
                intro Az Lz vz wy Kz Ez hB k
                have zs : Lz 10 = false := Ez.late 10 _ rfl (by kernel_rfl)
                exact wpo_val (run_alloc (by simp [go_sem])) (k _ _ trivial ⟨bel_al hB.1 _, hB.2.1.alloc _, by rw [World.size_alloc]; exact Nat.le_succ_of_le hB.2.2.1, hB.2.2.2.make FD 1 rfl zs hB.2.2.1 40⟩)
              | 8, ho =>
                obtain rfl := Option.some.inj ho
                intro Az Lz vz wy Kz Ez hB k
                have zs : Lz 11 = false := Ez.late 11 _ rfl (by kernel_rfl)
                exact wpo_val (run_alloc (by simp [go_sem])) (k _ _ trivial ⟨bel_al hB.1 _, hB.2.1.alloc _, by rw [World.size_alloc]; exact Nat.le_succ_of_le hB.2.2.1, hB.2.2.2.make FD 2 rfl zs hB.2.2.1 40⟩)
              | 9, ho =>
                obtain rfl := Option.some.inj ho
                intro Az Lz vz wy Kz Ez hB k
                have e127 : Az.eval (.tmp 127) = .agg #[.int .i64 X, .int .i64 Y, .int .i64 Z, .int .i64 T] := Ez.dep 1 127 (by kernel_rfl) rfl
                obtain ⟨q, hq, hn, hql, hc⟩ := hB.2.2.2.box 0 _ _ _ _ rfl (Ez.had 6 (by kernel_rfl))
                have zs : Lz 9 = false := Ez.not
                rw [zs] at hc
                have e13 : Az.eval (.tmp 13) = .pointer (some ⟨q, 0, none⟩) := (Ez.dep 6 13 (by kernel_rfl) rfl).trans hq
                obtain ⟨c0, f0⟩ := hc 0 _ rfl
                obtain ⟨c1, f1⟩ := hc 1 _ rfl
                obtain ⟨c2, f2⟩ := hc 2 _ rfl
                obtain ⟨c3, f3⟩ := hc 3 _ rfl
                exact wpo_skip (w' := sets wy q 0 [.int .i64 X, .int .i64 Y, .int .i64 Z, .int .i64 T]) (run_store e13 e127 (by simp [go_sem, sets, c0, f0, c1, f1, c2, f2, c3, f3])) (k _ _ trivial ⟨sets_below (Nat.le_trans HN.out hn) _ _ _ hB.1, hB.2.1.far HT.out hn _, by rw [sets_size]; exact hB.2.2.1, hB.2.2.2.fill FD 0 _ rfl zs (Ez.had 6 (by kernel_rfl)) hq rfl⟩)
              | 10, ho =>
                obtain rfl := Option.some.inj ho
                intro Az Lz vz wy Kz Ez hB k
                have e129 : Az.eval (.tmp 129) = .agg #[.int .i64 A, .int .i64 B, .int .i64 C, .int .i64 D] := Ez.dep 3 129 (by kernel_rfl) rfl
                obtain ⟨q, hq, hn, hql, hc⟩ := hB.2.2.2.box 1 _ _ _ _ rfl (Ez.had 7 (by kernel_rfl))
                have zs : Lz 10 = false := Ez.not
                rw [zs] at hc
                have e14 : Az.eval (.tmp 14) = .pointer (some ⟨q, 0, none⟩) := (Ez.dep 7 14 (by kernel_rfl) rfl).trans hq
                obtain ⟨c0, f0⟩ := hc 0 _ rfl
                obtain ⟨c1, f1⟩ := hc 1 _ rfl
                obtain ⟨c2, f2⟩ := hc 2 _ rfl
                obtain ⟨c3, f3⟩ := hc 3 _ rfl
                exact wpo_skip (w' := sets wy q 0 [.int .i64 A, .int .i64 B, .int .i64 C, .int .i64 D]) (run_store e14 e129 (by simp [go_sem, sets, c0, f0, c1, f1, c2, f2, c3, f3])) (k _ _ trivial ⟨sets_below (Nat.le_trans HN.out hn) _ _ _ hB.1, hB.2.1.far HT.out hn _, by rw [sets_size]; exact hB.2.2.1, hB.2.2.2.fill FD 1 _ rfl zs (Ez.had 7 (by kernel_rfl)) hq rfl⟩)
              | 11, ho =>
                obtain rfl := Option.some.inj ho
                intro Az Lz vz wy Kz Ez hB k
                have e131 : Az.eval (.tmp 131) = .agg #[.int .i64 E, .int .i64 F, .int .i64 G, .int .i64 H] := Ez.dep 5 131 (by kernel_rfl) rfl
                obtain ⟨q, hq, hn, hql, hc⟩ := hB.2.2.2.box 2 _ _ _ _ rfl (Ez.had 8 (by kernel_rfl))
                have zs : Lz 11 = false := Ez.not
                rw [zs] at hc
                have e15 : Az.eval (.tmp 15) = .pointer (some ⟨q, 0, none⟩) := (Ez.dep 8 15 (by kernel_rfl) rfl).trans hq
                obtain ⟨c0, f0⟩ := hc 0 _ rfl
                obtain ⟨c1, f1⟩ := hc 1 _ rfl
                obtain ⟨c2, f2⟩ := hc 2 _ rfl
                obtain ⟨c3, f3⟩ := hc 3 _ rfl
                exact wpo_skip (w' := sets wy q 0 [.int .i64 E, .int .i64 F, .int .i64 G, .int .i64 H]) (run_store e15 e131 (by simp [go_sem, sets, c0, f0, c1, f1, c2, f2, c3, f3])) (k _ _ trivial ⟨sets_below (Nat.le_trans HN.out hn) _ _ _ hB.1, hB.2.1.far HT.out hn _, by rw [sets_size]; exact hB.2.2.1, hB.2.2.2.fill FD 2 _ rfl zs (Ez.had 8 (by kernel_rfl)) hq rfl⟩)
              | n + 12, ho => simp at ho
            · obtain ⟨hk, hT, hNz, hF⟩ := hB
              have KB := Lib.hid hk
              have KT := Lib.hid hT
              obtain ⟨p6, hp6, hn6, _, hc6⟩ := hF.box 0 _ _ _ _ rfl (hL 6 (by decide))
              rw [hL 9 (by decide)] at hc6
              obtain ⟨p7, hp7, hn7, _, hc7⟩ := hF.box 1 _ _ _ _ rfl (hL 7 (by decide))
              rw [hL 10 (by decide)] at hc7
              obtain ⟨p8, hp8, hn8, _, hc8⟩ := hF.box 2 _ _ _ _ rfl (hL 8 (by decide))
              rw [hL 11 (by decide)] at hc8
              have hne7_6 : p7 ≠ p6 := fun e => hF.ne 1 0 _ _ _ _ _ _ _ _ rfl rfl (by decide) (hL 7 (by decide)) (hL 6 (by decide)) (by rw [hp7, hp6, e])
              have hne8_6 : p8 ≠ p6 := fun e => hF.ne 2 0 _ _ _ _ _ _ _ _ rfl rfl (by decide) (hL 8 (by decide)) (hL 6 (by decide)) (by rw [hp8, hp6, e])
              have hne8_7 : p8 ≠ p7 := fun e => hF.ne 2 1 _ _ _ _ _ _ _ _ rfl rfl (by decide) (hL 8 (by decide)) (hL 7 (by decide)) (by rw [hp8, hp7, e])
              have KT := Lib.hid ((((KT.out.cons hc6).cons hc7).cons hc8))
              clear hF hc6 hc7 hc8
              clear hk hT hL
              simp only [puts2, mix, Act.put, List.setIfInBounds_toArray, List.set_cons_zero, List.set_cons_succ, Nat.zero_add, Nat.reduceAdd, List.getElem?_cons_zero, List.getElem?_cons_succ, hp6, hp7, hp8]
              clear hp6 hp7 hp8
              have hx := HX.out
              unfold HulR at hx
              rcases hx with ⟨z1, s1, s2, s3, s4⟩ | ⟨z1, z2, s1, s2, s3, s4⟩ | ⟨z1, z2, s1, s2, s3, s4⟩
              · rw [z1] at EA
                have QX1 : Hid (∀ w : World, (binOp BinOp.eql 40 (.agg #[.int .i64 X, .int .i64 Y, .int .i64 Z, .int .i64 T]) (.agg #[.int .i64 E, .int .i64 F, .int .i64 G, .int .i64 H])).run Try.prog w = .ok (.bool true) w) := Lib.hid (fun w => by
                  have := rect_eql X Y Z T E F G H w
                  rw [show ((X == E) && (Y == F) && (Z == G) && (T == H)) = true by simp [s1, s2, s3, s4]] at this
                  exact this)
                clear HX s1 s2 s3 s4
                have c0_0 := KT.out.cell 0 0 rfl rfl
                have c0_1 := KT.out.cell 0 1 rfl rfl
                have c0_2 := KT.out.cell 0 2 rfl rfl
                have c0_3 := KT.out.cell 0 3 rfl rfl
                have c1_0 := KT.out.cell 1 0 rfl rfl
                have c1_1 := KT.out.cell 1 1 rfl rfl
                have c1_2 := KT.out.cell 1 2 rfl rfl
                have c1_3 := KT.out.cell 1 3 rfl rfl
                have c2_0 := KT.out.cell 2 0 rfl rfl
                have c2_1 := KT.out.cell 2 1 rfl rfl
                have c2_2 := KT.out.cell 2 2 rfl rfl
                have c2_3 := KT.out.cell 2 3 rfl rfl
                have c5_0 := KT.out.cell 5 0 rfl rfl
                have c5_1 := KT.out.cell 5 1 rfl rfl
                have c5_2 := KT.out.cell 5 2 rfl rfl
                have c5_3 := KT.out.cell 5 3 rfl rfl
                have c6_0 := KT.out.cell 6 0 rfl rfl
                have c6_1 := KT.out.cell 6 1 rfl rfl
                have c6_2 := KT.out.cell 6 2 rfl rfl
                have c6_3 := KT.out.cell 6 3 rfl rfl
                go_wp2_with fail
                refine (EA.out _).mono ?_
                rintro e w1 ⟨rfl, hb⟩
                have KB := Lib.hid (bel_tr0 KB.out hb)
                have KT := Lib.hid (KT.out.later hb)
                clear hb
                have c0_0 := KT.out.cell 0 0 rfl rfl
                have c0_1 := KT.out.cell 0 1 rfl rfl
                have c0_2 := KT.out.cell 0 2 rfl rfl
                have c0_3 := KT.out.cell 0 3 rfl rfl
                have c1_0 := KT.out.cell 1 0 rfl rfl
                have c1_1 := KT.out.cell 1 1 rfl rfl
                have c1_2 := KT.out.cell 1 2 rfl rfl
                have c1_3 := KT.out.cell 1 3 rfl rfl
                have c2_0 := KT.out.cell 2 0 rfl rfl
                have c2_1 := KT.out.cell 2 1 rfl rfl
                have c2_2 := KT.out.cell 2 2 rfl rfl
                have c2_3 := KT.out.cell 2 3 rfl rfl
                have c5_0 := KT.out.cell 5 0 rfl rfl
                have c5_1 := KT.out.cell 5 1 rfl rfl
                have c5_2 := KT.out.cell 5 2 rfl rfl
                have c5_3 := KT.out.cell 5 3 rfl rfl
                have c6_0 := KT.out.cell 6 0 rfl rfl
                have c6_1 := KT.out.cell 6 1 rfl rfl
                have c6_2 := KT.out.cell 6 2 rfl rfl
                have c6_3 := KT.out.cell 6 3 rfl rfl
                go_wp2_with fail
                refine (EA.out _).mono ?_
                rintro e w1 ⟨rfl, hb⟩
                have KB := Lib.hid (bel_tr0 KB.out hb)
                have KT := Lib.hid (KT.out.later hb)
                clear hb
                have c0_0 := KT.out.cell 0 0 rfl rfl
                have c0_1 := KT.out.cell 0 1 rfl rfl
                have c0_2 := KT.out.cell 0 2 rfl rfl
                have c0_3 := KT.out.cell 0 3 rfl rfl
                have c1_0 := KT.out.cell 1 0 rfl rfl
                have c1_1 := KT.out.cell 1 1 rfl rfl
                have c1_2 := KT.out.cell 1 2 rfl rfl
                have c1_3 := KT.out.cell 1 3 rfl rfl
                have c2_0 := KT.out.cell 2 0 rfl rfl
                have c2_1 := KT.out.cell 2 1 rfl rfl
                have c2_2 := KT.out.cell 2 2 rfl rfl
                have c2_3 := KT.out.cell 2 3 rfl rfl
                have c5_0 := KT.out.cell 5 0 rfl rfl
                have c5_1 := KT.out.cell 5 1 rfl rfl
                have c5_2 := KT.out.cell 5 2 rfl rfl
                have c5_3 := KT.out.cell 5 3 rfl rfl
                have c6_0 := KT.out.cell 6 0 rfl rfl
                have c6_1 := KT.out.cell 6 1 rfl rfl
                have c6_2 := KT.out.cell 6 2 rfl rfl
                have c6_3 := KT.out.cell 6 3 rfl rfl
                have QX2 := QX1.out
                clear QX1
                go_wp2_with fail
                go_returns
                exact ⟨rfl, KB.out⟩
              · rw [z1] at EA
                rw [z2] at EE
                have QX1 : Hid (∀ w : World, (binOp BinOp.eql 40 (.agg #[.int .i64 X, .int .i64 Y, .int .i64 Z, .int .i64 T]) (.agg #[.int .i64 A, .int .i64 B, .int .i64 C, .int .i64 D])).run Try.prog w = .ok (.bool true) w) := Lib.hid (fun w => by
                  have := rect_eql X Y Z T A B C D w
                  rw [show ((X == A) && (Y == B) && (Z == C) && (T == D)) = true by simp [s1, s2, s3, s4]] at this
                  exact this)
                clear HX s1 s2 s3 s4
                have c0_0 := KT.out.cell 0 0 rfl rfl
                have c0_1 := KT.out.cell 0 1 rfl rfl
                have c0_2 := KT.out.cell 0 2 rfl rfl
                have c0_3 := KT.out.cell 0 3 rfl rfl
                have c1_0 := KT.out.cell 1 0 rfl rfl
                have c1_1 := KT.out.cell 1 1 rfl rfl
                have c1_2 := KT.out.cell 1 2 rfl rfl
                have c1_3 := KT.out.cell 1 3 rfl rfl
                have c2_0 := KT.out.cell 2 0 rfl rfl
                have c2_1 := KT.out.cell 2 1 rfl rfl
                have c2_2 := KT.out.cell 2 2 rfl rfl
                have c2_3 := KT.out.cell 2 3 rfl rfl
                have c5_0 := KT.out.cell 5 0 rfl rfl
                have c5_1 := KT.out.cell 5 1 rfl rfl
                have c5_2 := KT.out.cell 5 2 rfl rfl
                have c5_3 := KT.out.cell 5 3 rfl rfl
                have c6_0 := KT.out.cell 6 0 rfl rfl
                have c6_1 := KT.out.cell 6 1 rfl rfl
                have c6_2 := KT.out.cell 6 2 rfl rfl
                have c6_3 := KT.out.cell 6 3 rfl rfl
                go_wp2_with fail
                refine (EA.out _).mono ?_
                rintro e w1 ⟨rfl, hb⟩
                have KB := Lib.hid (bel_tr0 KB.out hb)
                have KT := Lib.hid (KT.out.later hb)
                clear hb
                have c0_0 := KT.out.cell 0 0 rfl rfl
                have c0_1 := KT.out.cell 0 1 rfl rfl
                have c0_2 := KT.out.cell 0 2 rfl rfl
                have c0_3 := KT.out.cell 0 3 rfl rfl
                have c1_0 := KT.out.cell 1 0 rfl rfl
                have c1_1 := KT.out.cell 1 1 rfl rfl
                have c1_2 := KT.out.cell 1 2 rfl rfl
                have c1_3 := KT.out.cell 1 3 rfl rfl
                have c2_0 := KT.out.cell 2 0 rfl rfl
                have c2_1 := KT.out.cell 2 1 rfl rfl
                have c2_2 := KT.out.cell 2 2 rfl rfl
                have c2_3 := KT.out.cell 2 3 rfl rfl
                have c5_0 := KT.out.cell 5 0 rfl rfl
                have c5_1 := KT.out.cell 5 1 rfl rfl
                have c5_2 := KT.out.cell 5 2 rfl rfl
                have c5_3 := KT.out.cell 5 3 rfl rfl
                have c6_0 := KT.out.cell 6 0 rfl rfl
                have c6_1 := KT.out.cell 6 1 rfl rfl
                have c6_2 := KT.out.cell 6 2 rfl rfl
                have c6_3 := KT.out.cell 6 3 rfl rfl
                go_wp2_with fail
                refine (EE.out _).mono ?_
                rintro e w1 ⟨rfl, hb⟩
                have KB := Lib.hid (bel_tr0 KB.out hb)
                have KT := Lib.hid (KT.out.later hb)
                clear hb
                have c0_0 := KT.out.cell 0 0 rfl rfl
                have c0_1 := KT.out.cell 0 1 rfl rfl
                have c0_2 := KT.out.cell 0 2 rfl rfl
                have c0_3 := KT.out.cell 0 3 rfl rfl
                have c1_0 := KT.out.cell 1 0 rfl rfl
                have c1_1 := KT.out.cell 1 1 rfl rfl
                have c1_2 := KT.out.cell 1 2 rfl rfl
                have c1_3 := KT.out.cell 1 3 rfl rfl
                have c2_0 := KT.out.cell 2 0 rfl rfl
                have c2_1 := KT.out.cell 2 1 rfl rfl
                have c2_2 := KT.out.cell 2 2 rfl rfl
                have c2_3 := KT.out.cell 2 3 rfl rfl
                have c5_0 := KT.out.cell 5 0 rfl rfl
                have c5_1 := KT.out.cell 5 1 rfl rfl
                have c5_2 := KT.out.cell 5 2 rfl rfl
                have c5_3 := KT.out.cell 5 3 rfl rfl
                have c6_0 := KT.out.cell 6 0 rfl rfl
                have c6_1 := KT.out.cell 6 1 rfl rfl
                have c6_2 := KT.out.cell 6 2 rfl rfl
                have c6_3 := KT.out.cell 6 3 rfl rfl
                go_wp2_with fail
                refine (EA.out _).mono ?_
                rintro e w1 ⟨rfl, hb⟩
                have KB := Lib.hid (bel_tr0 KB.out hb)
                have KT := Lib.hid (KT.out.later hb)
                clear hb
                have c0_0 := KT.out.cell 0 0 rfl rfl
                have c0_1 := KT.out.cell 0 1 rfl rfl
                have c0_2 := KT.out.cell 0 2 rfl rfl
                have c0_3 := KT.out.cell 0 3 rfl rfl
                have c1_0 := KT.out.cell 1 0 rfl rfl
                have c1_1 := KT.out.cell 1 1 rfl rfl
                have c1_2 := KT.out.cell 1 2 rfl rfl
                have c1_3 := KT.out.cell 1 3 rfl rfl
                have c2_0 := KT.out.cell 2 0 rfl rfl
                have c2_1 := KT.out.cell 2 1 rfl rfl
                have c2_2 := KT.out.cell 2 2 rfl rfl
                have c2_3 := KT.out.cell 2 3 rfl rfl
                have c5_0 := KT.out.cell 5 0 rfl rfl
                have c5_1 := KT.out.cell 5 1 rfl rfl
                have c5_2 := KT.out.cell 5 2 rfl rfl
                have c5_3 := KT.out.cell 5 3 rfl rfl
                have c6_0 := KT.out.cell 6 0 rfl rfl
                have c6_1 := KT.out.cell 6 1 rfl rfl
                have c6_2 := KT.out.cell 6 2 rfl rfl
                have c6_3 := KT.out.cell 6 3 rfl rfl
                go_wp2_with fail
                refine (EE.out _).mono ?_
                rintro e w1 ⟨rfl, hb⟩
                have KB := Lib.hid (bel_tr0 KB.out hb)
                have KT := Lib.hid (KT.out.later hb)
                clear hb
                have c0_0 := KT.out.cell 0 0 rfl rfl
                have c0_1 := KT.out.cell 0 1 rfl rfl
                have c0_2 := KT.out.cell 0 2 rfl rfl
                have c0_3 := KT.out.cell 0 3 rfl rfl
                have c1_0 := KT.out.cell 1 0 rfl rfl
                have c1_1 := KT.out.cell 1 1 rfl rfl
                have c1_2 := KT.out.cell 1 2 rfl rfl
                have c1_3 := KT.out.cell 1 3 rfl rfl
                have c2_0 := KT.out.cell 2 0 rfl rfl
                have c2_1 := KT.out.cell 2 1 rfl rfl
                have c2_2 := KT.out.cell 2 2 rfl rfl
                have c2_3 := KT.out.cell 2 3 rfl rfl
                have c5_0 := KT.out.cell 5 0 rfl rfl
                have c5_1 := KT.out.cell 5 1 rfl rfl
                have c5_2 := KT.out.cell 5 2 rfl rfl
                have c5_3 := KT.out.cell 5 3 rfl rfl
                have c6_0 := KT.out.cell 6 0 rfl rfl
                have c6_1 := KT.out.cell 6 1 rfl rfl
                have c6_2 := KT.out.cell 6 2 rfl rfl
                have c6_3 := KT.out.cell 6 3 rfl rfl
                have QX2 := QX1.out
                clear QX1
                go_wp2_with fail
                go_returns
                exact ⟨rfl, KB.out⟩
              · rw [z1] at EA
                rw [z2] at EE
                rw [s1, s2, s3, s4] at KT
                clear HX s1 s2 s3 s4
                have c0_0 := KT.out.cell 0 0 rfl rfl
                have c0_1 := KT.out.cell 0 1 rfl rfl
                have c0_2 := KT.out.cell 0 2 rfl rfl
                have c0_3 := KT.out.cell 0 3 rfl rfl
                have c1_0 := KT.out.cell 1 0 rfl rfl
                have c1_1 := KT.out.cell 1 1 rfl rfl
                have c1_2 := KT.out.cell 1 2 rfl rfl
                have c1_3 := KT.out.cell 1 3 rfl rfl
                have c2_0 := KT.out.cell 2 0 rfl rfl
                have c2_1 := KT.out.cell 2 1 rfl rfl
                have c2_2 := KT.out.cell 2 2 rfl rfl
                have c2_3 := KT.out.cell 2 3 rfl rfl
                have c5_0 := KT.out.cell 5 0 rfl rfl
                have c5_1 := KT.out.cell 5 1 rfl rfl
                have c5_2 := KT.out.cell 5 2 rfl rfl
                have c5_3 := KT.out.cell 5 3 rfl rfl
                have c6_0 := KT.out.cell 6 0 rfl rfl
                have c6_1 := KT.out.cell 6 1 rfl rfl
                have c6_2 := KT.out.cell 6 2 rfl rfl
                have c6_3 := KT.out.cell 6 3 rfl rfl
                go_wp2_with fail
                refine (EA.out _).mono ?_
                rintro e w1 ⟨rfl, hb⟩
                have KB := Lib.hid (bel_tr0 KB.out hb)
                have KT := Lib.hid (KT.out.later hb)
                clear hb
                have c0_0 := KT.out.cell 0 0 rfl rfl
                have c0_1 := KT.out.cell 0 1 rfl rfl
                have c0_2 := KT.out.cell 0 2 rfl rfl
                have c0_3 := KT.out.cell 0 3 rfl rfl
                have c1_0 := KT.out.cell 1 0 rfl rfl
                have c1_1 := KT.out.cell 1 1 rfl rfl
                have c1_2 := KT.out.cell 1 2 rfl rfl
                have c1_3 := KT.out.cell 1 3 rfl rfl
                have c2_0 := KT.out.cell 2 0 rfl rfl
                have c2_1 := KT.out.cell 2 1 rfl rfl
                have c2_2 := KT.out.cell 2 2 rfl rfl
                have c2_3 := KT.out.cell 2 3 rfl rfl
                have c5_0 := KT.out.cell 5 0 rfl rfl
                have c5_1 := KT.out.cell 5 1 rfl rfl
                have c5_2 := KT.out.cell 5 2 rfl rfl
                have c5_3 := KT.out.cell 5 3 rfl rfl
                have c6_0 := KT.out.cell 6 0 rfl rfl
                have c6_1 := KT.out.cell 6 1 rfl rfl
                have c6_2 := KT.out.cell 6 2 rfl rfl
                have c6_3 := KT.out.cell 6 3 rfl rfl
                go_wp2_with fail
                refine (EE.out _).mono ?_
                rintro e w1 ⟨rfl, hb⟩
                have KB := Lib.hid (bel_tr0 KB.out hb)
                have KT := Lib.hid (KT.out.later hb)
                clear hb
                have c0_0 := KT.out.cell 0 0 rfl rfl
                have c0_1 := KT.out.cell 0 1 rfl rfl
                have c0_2 := KT.out.cell 0 2 rfl rfl
                have c0_3 := KT.out.cell 0 3 rfl rfl
                have c1_0 := KT.out.cell 1 0 rfl rfl
                have c1_1 := KT.out.cell 1 1 rfl rfl
                have c1_2 := KT.out.cell 1 2 rfl rfl
                have c1_3 := KT.out.cell 1 3 rfl rfl
                have c2_0 := KT.out.cell 2 0 rfl rfl
                have c2_1 := KT.out.cell 2 1 rfl rfl
                have c2_2 := KT.out.cell 2 2 rfl rfl
                have c2_3 := KT.out.cell 2 3 rfl rfl
                go_wp2_with fail
                go_returns
                exact ⟨rfl, KB.out⟩




end Go.Proofs.Ytlkpegfbnmecpaa
