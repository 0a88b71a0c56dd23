/- Law 16: MarginOrder. Made by gen/marb.py. -/
import Derived.Test.YtmelbgabiklojaaMarB
import Derived.WalkKit
import Derived.WalkSpells
import Derived.WalkLawsBesides
import Derived.Handy
import Derived.Lib.Hide
import Derived.Deep.QuietTactic
import Derived.BigQuiet
import Derived.LoopTactic
import Derived.RegionTactic
import Derived.BigRegion
import Derived.Outline
import Derived.Deep.DeepCutAuto
import Derived.Deep.CutBlock
namespace Go.Proofs.Ytmelbgabiklojaa
open Go.RowKit Go.Proofs.Reg Go.Proofs.Big Mar
set_option linter.unusedVariables false
set_option linter.unusedSimpArgs false
set_option maxRecDepth 100000
theorem and7 (i : Nat) (hi : i < 30) : bits .and .i64 (i : Int) 7 = ((i % 8 : Nat) : Int) := by
  have h : ∀ m : Fin 30, bits .and .i64 ((m.val : Nat) : Int) 7 = ((m.val % 8 : Nat) : Int) := by decide +kernel
  exact h ⟨i, hi⟩
/-- the four margins on the way -/
structure MoI (l : List Int) (k i : Nat) (U D u1 d1 u2 d2 : Int) : Prop where
  U : U = upF (l.take i)
  D : D = dnF (l.take i)
  u1 : u1 = upF (l.take (min i k))
  d1 : d1 = dnF (l.take (min i k))
  u2 : u2 = upF ((l.take i).drop k)
  d2 : d2 = dnF ((l.take i).drop k)
theorem MoI.next1 {l : List Int} {k i : Nat} {U D u1 d1 u2 d2 x : Int} (h : MoI l k i U D u1 d1 u2 d2) (hx : l[i]? = some x) (hk : i < k) : MoI l k (i + 1) (max U (max x 0)) (min D (min x 0)) (max u1 (max x 0)) (min d1 (min x 0)) u2 d2 := by
  have e : ((l.take (i + 1)).drop k) = (l.take i).drop k := by rw [List.drop_of_length_le (by rw [List.length_take]; omega), List.drop_of_length_le (by rw [List.length_take]; omega)]
  refine ⟨by rw [h.U, upF_take hx], by rw [h.D, dnF_take hx], ?_, ?_, by rw [e]; exact h.u2, by rw [e]; exact h.d2⟩
  · rw [show min (i + 1) k = i + 1 by omega, upF_take hx, h.u1, show min i k = i by omega]
  · rw [show min (i + 1) k = i + 1 by omega, dnF_take hx, h.d1, show min i k = i by omega]
theorem MoI.next2 {l : List Int} {k i : Nat} {U D u1 d1 u2 d2 x : Int} (h : MoI l k i U D u1 d1 u2 d2) (hx : l[i]? = some x) (hk : ¬ i < k) : MoI l k (i + 1) (max U (max x 0)) (min D (min x 0)) u1 d1 (max u2 (max x 0)) (min d2 (min x 0)) := by
  have e := take_drop_snoc hx (show k ≤ i by omega)
  refine ⟨by rw [h.U, upF_take hx], by rw [h.D, dnF_take hx], ?_, ?_, by rw [e, upF_snoc, h.u2], by rw [e, dnF_snoc, h.d2]⟩
  · rw [show min (i + 1) k = min i k by omega]; exact h.u1
  · rw [show min (i + 1) k = min i k by omega]; exact h.d1
theorem MoI.done {l : List Int} {k i : Nat} {U D u1 d1 u2 d2 : Int} (h : MoI l k i U D u1 d1 u2 d2) (hi : l.length ≤ i) : max u1 u2 = U ∧ min d1 d2 = D ∧ 0 ≤ U ∧ D ≤ 0 := by
  have e : l.take i = l := List.take_of_length_le hi
  have t : l.take (min i k) = l.take k := by
    by_cases c : k ≤ i
    · rw [show min i k = k by omega]
    · rw [show min i k = i by omega, e, List.take_of_length_le (by omega)]
  have a := h.U; have b := h.D; have c := h.u1; have d := h.d1; have f := h.u2; have g := h.d2
  rw [e] at a b f g
  rw [t] at c d
  have p := up_split l k
  have q := dn_split l k
  have r := upF_nn l
  have s := dnF_np l
  refine ⟨?_, ?_, ?_, ?_⟩ <;> omega
theorem nd4 (b : Nat) : (([b + 3, b + 2, b + 1, b] : List Nat)).Nodup := by simp
set_option maxHeartbeats 16000000 in
theorem law_morder (a : Option Addr) (n c : Nat) (l : List Int) (ct tn : Int) (hc : 0 ≤ ct ∧ ct ≤ 255) (w : World) (h : Ri w a n c l) :
    Calls Try.prog 9 #[.slice a n c, .int .u8 ct, .int .u8 tn] w fun e w' => e = .returned (.bool true) ∧ Below w.heap.size w w' := by
  have SP := Lib.hid speaks16_any
  have H := Lib.hid h
  have hl := shF_le l
  have HS := Lib.hid (shF_rng l)
  have MO := Lib.hid mof_any
  have MW := Lib.hid mwith_any
  obtain ⟨ct0, ct1⟩ := hc
  clear h
  go_enter Try.func9, Try.ntmps9
  go_wp2_with fail
  refine (SP.out _).mono ?_
  rintro e w1 ⟨rfl, hb⟩
  have KB := Lib.hid hb
  have H1 := Lib.hid (ri_later H.out hb)
  clear hb H
  go_wp2_with fail
  refine (short16_any a n c l w1 H1.out).mono ?_
  rintro e w2 ⟨⟨a2, c2, rfl, R2⟩, hb⟩
  have KB := Lib.hid (bel_tr0 KB.out hb)
  have R2 := Lib.hid R2
  clear hb H1
  obtain ⟨s, hs⟩ : ∃ s, shF l = s := ⟨_, rfl⟩
  rw [hs] at R2 hl ⊢
  clear hs HS
  obtain ⟨m, hm⟩ : ∃ m, s.length = m := ⟨_, rfl⟩
  rw [hm] at R2 hl ⊢
  have HM := Lib.hid hm
  clear hm
  have LW : Hid (w.heap.size ≤ w2.heap.size) := Lib.hid KB.out.size
  have R2 : Hid (∀ wy, Below w2.heap.size w2 wy → Ri wy a2 m c2 s) := Lib.hid (fun wy hb => ri_later R2.out hb)
  have ex : ∃ k : Nat, (m = 0 ∧ k = 0) ∨ (0 < m ∧ k < m ∧ ct.tmod m = (k : Int)) := by
    by_cases z : m = 0
    · exact ⟨0, .inl ⟨z, rfl⟩⟩
    · have q0 := Int.tmod_nonneg (m : Int) ct0
      have q1 := Int.tmod_lt_of_pos ct (show (0 : Int) < m by omega)
      exact ⟨(ct.tmod m).toNat, .inr ⟨by omega, by omega, by omega⟩⟩
  obtain ⟨k, hk⟩ := ex
  go_upto_region 5 with fail
  obtain ⟨b, hb0⟩ : ∃ b, w2.heap.size = b := ⟨_, rfl⟩
  obtain ⟨w3, hw3⟩ : ∃ x, (((w2.alloc (.cells #[.int .i64 0, .int .i64 0] 56)).alloc (.cells #[.int .i64 0, .int .i64 0] 56)).alloc (.cells #[.int .i64 0, .int .i64 0] 56)).alloc (.cells #[.int .i64 0, .int .i64 0] 56) = x := ⟨_, rfl⟩
  have KT3 : Hid (Tab w3 [(b + 3, [.int .i64 0, .int .i64 0]), (b + 2, [.int .i64 0, .int .i64 0]), (b + 1, [.int .i64 0, .int .i64 0]), (b, [.int .i64 0, .int .i64 0])]) := Lib.hid (by
    rw [← hw3]
    exact ((((Tab.nil w2).new' _ _ hb0.symm).new' _ _ (by simp [hb0])).new' _ _ (by simp [hb0])).new' _ _ (by simp [hb0]))
  have KB3 : Hid (Below w2.heap.size w2 w3) := Lib.hid (by
    rw [← hw3]
    exact bel_tr0 (bel_tr0 (bel_tr0 (bel_newR _ _) (bel_newR _ _)) (bel_newR _ _)) (bel_newR _ _))
  rw [hw3]
  simp only [World.size_alloc, hb0, Nat.add_assoc, Nat.reduceAdd]
  clear hw3
  go_upto_region 6 with fail
  go_cut [21] (fun s21 wx => s21 = .bool (decide (0 < m)) ∧ wx = w3)
  case first =>
    by_cases z : 0 < m
    · have z' : (0 : Int) < (m : Int) := by omega
      have z2 : decide (0 < m) = true := decide_eq_true z
      go_wp2_with fail
      go_meet
      exact ⟨by rw [z2], rfl⟩
    · obtain rfl : m = 0 := by omega
      go_wp2_with fail
      go_meet
      exact ⟨rfl, rfl⟩
  case rest =>
    obtain ⟨rfl, hwx⟩ := hcut
    obtain rfl := hwx.symm
    go_upto_if 21 with fail
    go_cut [12] (fun s12 wx => s12 = .int .i64 (k : Int) ∧ wx = w3)
    case first =>
      rcases hk with ⟨rfl, rfl⟩ | ⟨k0, k1, k2⟩
      · go_wp2_with fail
        go_meet
        exact ⟨rfl, rfl⟩
      · have z2 : decide (0 < m) = true := decide_eq_true k0
        have mz : ¬ (m : Int) = 0 := by omega
        have cv : ∀ wy : World, (convert 5 3 (.int .u8 ct)).run Try.prog wy = .ok (.int .i64 ct) wy := fun wy => by
          simp [go_sem, IntKind.wrap_i64]
          try omega
        have rm : ∀ wy : World, (binOp BinOp.rem 3 (.int .i64 ct) (.int .i64 (m : Int))).run Try.prog wy = .ok (.int .i64 (k : Int)) wy := fun wy => by
          simp [go_sem, mz, k2, IntKind.wrap_i64]
          try omega
        rw [z2]
        go_wp2_with fail
        go_meet
        exact ⟨rfl, rfl⟩
    case rest =>
      obtain ⟨rfl, hwx⟩ := hcut
      obtain rfl := hwx.symm
      have hkm : k ≤ m := by omega
      clear hk
      go_upto_region 8 with fail
      go_wp2_with fail
      go_loopw [13] (fun s13 wr => ∃ (i : Nat) (U D u1 d1 u2 d2 : Int), s13 = .int .i64 i ∧ i ≤ m ∧ Hid (MoI s k i U D u1 d1 u2 d2) ∧ Hid (Below w2.heap.size w2 wr) ∧ Hid (Tab wr [(b + 3, [.int .i64 U, .int .i64 D]), (b + 2, [.int .i64 u2, .int .i64 d2]), (b + 1, [.int .i64 u1, .int .i64 d1]), (b, [.int .i64 U, .int .i64 D])])) (fun s13 _ => m - (intOf s13).toNat)
      case atStart => exact ⟨0, 0, 0, 0, 0, 0, 0, rfl, by omega, Lib.hid ⟨rfl, rfl, by rw [Nat.zero_min]; rfl, by rw [Nat.zero_min]; rfl, by rw [List.take_zero, List.drop_nil]; rfl, by rw [List.take_zero, List.drop_nil]; rfl⟩, KB3, KT3⟩
      case round =>
        obtain ⟨i, U, D, u1, d1, u2, d2, rfl, im, MI, KB4, KT4⟩ := hrel
        have LB : Hid (w2.heap.size ≤ b) := Lib.hid (by omega)
        by_cases lt : i < m
        · have lt' : (i : Int) < (m : Int) := by omega
          obtain ⟨p, rfl, hc⟩ := (R2.out wr KB4.out).addr (by omega)
          obtain ⟨x, hx⟩ : ∃ x, s.getD i 0 = x := ⟨_, rfl⟩
          have y0 := hc i lt
          rw [hx] at y0
          have HX : Hid (s[i]? = some x) := Lib.hid (by rw [← hx, List.getD_eq_getElem?_getD, List.getElem?_eq_getElem (by have := HM.out; omega)]; rfl)
          have ix : ∀ wy : World, (Instr.indexAt 37 (.slice (some p) m c2) (.int .i64 i)).run Try.prog wy = .ok (.pointer (some (p.add i))) wy := fun wy => by
            have k0 : (0 : Int) ≤ (i : Int) := by omega
            simp [go_sem, k0, lt']
            try omega
          obtain ⟨q, hq⟩ : ∃ q, i % 8 = q := ⟨_, rfl⟩
          have A7 := and7 i (by omega)
          rw [hq] at A7
          obtain ⟨cb, AN⟩ : ∃ cb : Bool, (bits BinOp.and IntKind.u8 (tn / 2 ^ min q 8) 1 == 1) = cb := ⟨_, rfl⟩
          clear hc hx hq
          go_wp2_with fail
          refine (MO.out x _).mono ?_
          rintro e w5 ⟨rfl, hb⟩
          have KB4 := Lib.hid (bel_tr0 KB4.out hb)
          have KT4 := Lib.hid (KT4.out.later hb)
          clear hb y0
          obtain ⟨X, hX⟩ : ∃ X, max x 0 = X := ⟨_, rfl⟩
          obtain ⟨Y, hY⟩ : ∃ Y, min x 0 = Y := ⟨_, rfl⟩
          rw [hX, hY]
          obtain ⟨V, hV⟩ : ∃ V, max U X = V := ⟨_, rfl⟩
          obtain ⟨Z, hZ⟩ : ∃ Z, min D Y = Z := ⟨_, rfl⟩
          obtain ⟨p1, hp1⟩ : ∃ V, max u1 X = V := ⟨_, rfl⟩
          obtain ⟨q1, hq1⟩ : ∃ Z, min d1 Y = Z := ⟨_, rfl⟩
          obtain ⟨p2, hp2⟩ : ∃ V, max u2 X = V := ⟨_, rfl⟩
          obtain ⟨q2, hq2⟩ : ∃ Z, min d2 Y = Z := ⟨_, rfl⟩
          have MI1 : Hid (i < k → MoI s k (i + 1) V Z p1 q1 u2 d2) := Lib.hid (fun h => by rw [← hV, ← hZ, ← hp1, ← hq1, ← hX, ← hY]; exact MI.out.next1 HX.out h)
          have MI2 : Hid (¬ i < k → MoI s k (i + 1) V Z u1 d1 p2 q2) := Lib.hid (fun h => by rw [← hV, ← hZ, ← hp2, ← hq2, ← hX, ← hY]; exact MI.out.next2 HX.out h)
          have MA : Hid (∀ wy, Calls Try.prog 31 #[.agg #[.int .i64 U, .int .i64 D], .agg #[.int .i64 X, .int .i64 Y]] wy fun e w' => e = .returned (.agg #[.int .i64 V, .int .i64 Z]) ∧ Below wy.heap.size wy w') := Lib.hid (fun wy => by have := MW.out U D X Y wy; rw [hV, hZ] at this; exact this)
          have MB1 : Hid (∀ wy, Calls Try.prog 31 #[.agg #[.int .i64 u1, .int .i64 d1], .agg #[.int .i64 X, .int .i64 Y]] wy fun e w' => e = .returned (.agg #[.int .i64 p1, .int .i64 q1]) ∧ Below wy.heap.size wy w') := Lib.hid (fun wy => by have := MW.out u1 d1 X Y wy; rw [hp1, hq1] at this; exact this)
          have MB2 : Hid (∀ wy, Calls Try.prog 31 #[.agg #[.int .i64 u2, .int .i64 d2], .agg #[.int .i64 X, .int .i64 Y]] wy fun e w' => e = .returned (.agg #[.int .i64 p2, .int .i64 q2]) ∧ Below wy.heap.size wy w') := Lib.hid (fun wy => by have := MW.out u2 d2 X Y wy; rw [hp2, hq2] at this; exact this)
          have MC : Hid (∀ wy, Calls Try.prog 31 #[.agg #[.int .i64 X, .int .i64 Y], .agg #[.int .i64 U, .int .i64 D]] wy fun e w' => e = .returned (.agg #[.int .i64 V, .int .i64 Z]) ∧ Below wy.heap.size wy w') := Lib.hid (fun wy => by have := MW.out X Y U D wy; rw [show max X U = V by omega, show min Y D = Z by omega] at this; exact this)
          have MD : Hid (∀ wy, Calls Try.prog 31 #[.agg #[.int .i64 V, .int .i64 Z], .agg #[.int .i64 V, .int .i64 Z]] wy fun e w' => e = .returned (.agg #[.int .i64 V, .int .i64 Z]) ∧ Below wy.heap.size wy w') := Lib.hid (fun wy => by have := MW.out V Z V Z wy; rw [show max V V = V by omega, show min Z Z = Z by omega] at this; exact this)
          clear hV hZ hp1 hq1 hp2 hq2
          clear hX hY MI HX
          have g0 := KT4.out.cell 3 0 rfl rfl
          have g1 := KT4.out.cell 3 1 rfl rfl
          go_upto_region 12 with fail
          obtain ⟨b5, hb5⟩ : ∃ x, w5.heap.size = x := ⟨_, rfl⟩
          obtain ⟨w6, hw6⟩ : ∃ x', w5.alloc (.cells #[.int .i64 X, .int .i64 Y] 56) = x' := ⟨_, rfl⟩
          have KT5 : Hid (Tab w6 [(b5, [.int .i64 X, .int .i64 Y]), (b + 3, [.int .i64 U, .int .i64 D]), (b + 2, [.int .i64 u2, .int .i64 d2]), (b + 1, [.int .i64 u1, .int .i64 d1]), (b, [.int .i64 U, .int .i64 D])]) := Lib.hid (by rw [← hw6]; exact KT4.out.new' _ _ hb5.symm)
          have KB5 : Hid (Below w2.heap.size w2 w6) := Lib.hid (by rw [← hw6]; exact bel_tr0 KB4.out (bel_newR _ _))
          have lb5 : b + 3 < b5 := by rw [← hb5]; exact KT4.out.lt 0 rfl
          have ND : Hid ((([b5, b + 3, b + 2, b + 1, b] : List Nat)).Nodup) := Lib.hid (by simp; omega)
          rw [hw6]
          simp only [hb5]
          clear hw6 hb5 lb5 KT4 KB4 g0 g1
          have c0_0_0 := KT5.out.cell 0 0 rfl rfl
          have c0_0_1 := KT5.out.cell 0 1 rfl rfl
          have c0_4_0 := KT5.out.cell 4 0 rfl rfl
          have c0_4_1 := KT5.out.cell 4 1 rfl rfl
          go_wp2_with fail
          refine (MA.out _).mono ?_
          rintro e v0 ⟨rfl, hb⟩
          have KB5 := Lib.hid (bel_tr0 KB5.out hb)
          have KT5 := Lib.hid (KT5.out.later hb)
          clear hb c0_0_0 c0_0_1 c0_4_0 c0_4_1
          have s0_0 := KT5.out.cell 4 0 rfl rfl
          have z0_0 := KT5.out.froz 4 0 rfl rfl
          have s0_1 := KT5.out.cell 4 1 rfl rfl
          have z0_1 := KT5.out.froz 4 1 rfl rfl
          obtain ⟨x0, hw0⟩ : ∃ x, (v0.setCell ⟨b, 0, none⟩ (.int .i64 (V))).setCell ⟨b, 1, none⟩ (.int .i64 (Z)) = x := ⟨_, rfl⟩
          have KT5 : Hid (Tab x0 [(b5, [.int .i64 (X), .int .i64 (Y)]), (b + 3, [.int .i64 (U), .int .i64 (D)]), (b + 2, [.int .i64 (u2), .int .i64 (d2)]), (b + 1, [.int .i64 (u1), .int .i64 (d1)]), (b, [.int .i64 (V), .int .i64 (Z)])]) := Lib.hid (by rw [← hw0]; exact (KT5.out.set1 4 0 (.int .i64 (V)) rfl ND.out).set1 4 1 (.int .i64 (Z)) rfl ND.out)
          have KB5 : Hid (Below w2.heap.size w2 x0) := Lib.hid (by rw [← hw0]; exact (KB5.out.setCell (by show w2.heap.size ≤ b; have := LB.out; omega) _).setCell (by show w2.heap.size ≤ b; have := LB.out; omega) _)
          by_cases ik : i < k
          · have ik2 : (i : Int) < (k : Int) := by omega
            have c1_0_0 := KT5.out.cell 0 0 rfl rfl
            have c1_0_1 := KT5.out.cell 0 1 rfl rfl
            have c1_3_0 := KT5.out.cell 3 0 rfl rfl
            have c1_3_1 := KT5.out.cell 3 1 rfl rfl
            go_wp2_with fail
            refine (MB1.out _).mono ?_
            rintro e v1 ⟨rfl, hb⟩
            have KB5 := Lib.hid (bel_tr0 KB5.out hb)
            have KT5 := Lib.hid (KT5.out.later hb)
            clear hb c1_0_0 c1_0_1 c1_3_0 c1_3_1 hw0 s0_0 s0_1 z0_0 z0_1
            have s1_0 := KT5.out.cell 3 0 rfl rfl
            have z1_0 := KT5.out.froz 3 0 rfl rfl
            have s1_1 := KT5.out.cell 3 1 rfl rfl
            have z1_1 := KT5.out.froz 3 1 rfl rfl
            obtain ⟨x1, hw1⟩ : ∃ x, (v1.setCell ⟨b + 1, 0, none⟩ (.int .i64 (p1))).setCell ⟨b + 1, 1, none⟩ (.int .i64 (q1)) = x := ⟨_, rfl⟩
            have KT5 : Hid (Tab x1 [(b5, [.int .i64 (X), .int .i64 (Y)]), (b + 3, [.int .i64 (U), .int .i64 (D)]), (b + 2, [.int .i64 (u2), .int .i64 (d2)]), (b + 1, [.int .i64 (p1), .int .i64 (q1)]), (b, [.int .i64 (V), .int .i64 (Z)])]) := Lib.hid (by rw [← hw1]; exact (KT5.out.set1 3 0 (.int .i64 (p1)) rfl ND.out).set1 3 1 (.int .i64 (q1)) rfl ND.out)
            have KB5 : Hid (Below w2.heap.size w2 x1) := Lib.hid (by rw [← hw1]; exact (KB5.out.setCell (by show w2.heap.size ≤ b + 1; have := LB.out; omega) _).setCell (by show w2.heap.size ≤ b + 1; have := LB.out; omega) _)
            have c2_0_0 := KT5.out.cell 0 0 rfl rfl
            have c2_0_1 := KT5.out.cell 0 1 rfl rfl
            have c2_1_0 := KT5.out.cell 1 0 rfl rfl
            have c2_1_1 := KT5.out.cell 1 1 rfl rfl
            go_wp2_with fail
            refine (MC.out _).mono ?_
            rintro e v2 ⟨rfl, hb⟩
            have KB5 := Lib.hid (bel_tr0 KB5.out hb)
            have KT5 := Lib.hid (KT5.out.later hb)
            clear hb c2_0_0 c2_0_1 c2_1_0 c2_1_1 hw1 s1_0 s1_1 z1_0 z1_1
            have s2_0 := KT5.out.cell 1 0 rfl rfl
            have z2_0 := KT5.out.froz 1 0 rfl rfl
            have s2_1 := KT5.out.cell 1 1 rfl rfl
            have z2_1 := KT5.out.froz 1 1 rfl rfl
            obtain ⟨x2, hw2⟩ : ∃ x, (v2.setCell ⟨b + 3, 0, none⟩ (.int .i64 (V))).setCell ⟨b + 3, 1, none⟩ (.int .i64 (Z)) = x := ⟨_, rfl⟩
            have KT5 : Hid (Tab x2 [(b5, [.int .i64 (X), .int .i64 (Y)]), (b + 3, [.int .i64 (V), .int .i64 (Z)]), (b + 2, [.int .i64 (u2), .int .i64 (d2)]), (b + 1, [.int .i64 (p1), .int .i64 (q1)]), (b, [.int .i64 (V), .int .i64 (Z)])]) := Lib.hid (by rw [← hw2]; exact (KT5.out.set1 1 0 (.int .i64 (V)) rfl ND.out).set1 1 1 (.int .i64 (Z)) rfl ND.out)
            have KB5 : Hid (Below w2.heap.size w2 x2) := Lib.hid (by rw [← hw2]; exact (KB5.out.setCell (by show w2.heap.size ≤ b + 3; have := LB.out; omega) _).setCell (by show w2.heap.size ≤ b + 3; have := LB.out; omega) _)
            rcases Bool.eq_false_or_eq_true cb with rfl | rfl
            · have ok := trivial
              have c3_1_0 := KT5.out.cell 1 0 rfl rfl
              have c3_1_1 := KT5.out.cell 1 1 rfl rfl
              have c3_4_0 := KT5.out.cell 4 0 rfl rfl
              have c3_4_1 := KT5.out.cell 4 1 rfl rfl
              go_wp2_with fail
              refine (MD.out _).mono ?_
              rintro e v3 ⟨rfl, hb⟩
              have KB5 := Lib.hid (bel_tr0 KB5.out hb)
              have KT5 := Lib.hid (KT5.out.later hb)
              clear hb c3_1_0 c3_1_1 c3_4_0 c3_4_1 hw2 s2_0 s2_1 z2_0 z2_1
              have s3_0 := KT5.out.cell 1 0 rfl rfl
              have z3_0 := KT5.out.froz 1 0 rfl rfl
              have s3_1 := KT5.out.cell 1 1 rfl rfl
              have z3_1 := KT5.out.froz 1 1 rfl rfl
              obtain ⟨x3, hw3⟩ : ∃ x, (v3.setCell ⟨b + 3, 0, none⟩ (.int .i64 (V))).setCell ⟨b + 3, 1, none⟩ (.int .i64 (Z)) = x := ⟨_, rfl⟩
              have KT5 : Hid (Tab x3 [(b5, [.int .i64 (X), .int .i64 (Y)]), (b + 3, [.int .i64 (V), .int .i64 (Z)]), (b + 2, [.int .i64 (u2), .int .i64 (d2)]), (b + 1, [.int .i64 (p1), .int .i64 (q1)]), (b, [.int .i64 (V), .int .i64 (Z)])]) := Lib.hid (by rw [← hw3]; exact (KT5.out.set1 1 0 (.int .i64 (V)) rfl ND.out).set1 1 1 (.int .i64 (Z)) rfl ND.out)
              have KB5 : Hid (Below w2.heap.size w2 x3) := Lib.hid (by rw [← hw3]; exact (KB5.out.setCell (by show w2.heap.size ≤ b + 3; have := LB.out; omega) _).setCell (by show w2.heap.size ≤ b + 3; have := LB.out; omega) _)
              go_wp2_with fail
              go_roundw
              case rel => exact ⟨i + 1, V, Z, p1, q1, u2, d2, by simp, by omega, Lib.hid (MI1.out ik), KB5, Lib.hid (by have t := KT5.out; exact ((((Tab.nil _).cons (t 4 _ _ rfl)).cons (t 3 _ _ rfl)).cons (t 2 _ _ rfl)).cons (t 1 _ _ rfl))⟩
              case measure => simp [intOf]; omega
            · have ok := trivial
              go_wp2_with fail
              go_roundw
              case rel => exact ⟨i + 1, V, Z, p1, q1, u2, d2, by simp, by omega, Lib.hid (MI1.out ik), KB5, Lib.hid (by have t := KT5.out; exact ((((Tab.nil _).cons (t 4 _ _ rfl)).cons (t 3 _ _ rfl)).cons (t 2 _ _ rfl)).cons (t 1 _ _ rfl))⟩
              case measure => simp [intOf]; omega
          · have ik2 : ¬ (i : Int) < (k : Int) := by omega
            have c1_0_0 := KT5.out.cell 0 0 rfl rfl
            have c1_0_1 := KT5.out.cell 0 1 rfl rfl
            have c1_2_0 := KT5.out.cell 2 0 rfl rfl
            have c1_2_1 := KT5.out.cell 2 1 rfl rfl
            go_wp2_with fail
            refine (MB2.out _).mono ?_
            rintro e v1 ⟨rfl, hb⟩
            have KB5 := Lib.hid (bel_tr0 KB5.out hb)
            have KT5 := Lib.hid (KT5.out.later hb)
            clear hb c1_0_0 c1_0_1 c1_2_0 c1_2_1 hw0 s0_0 s0_1 z0_0 z0_1
            have s1_0 := KT5.out.cell 2 0 rfl rfl
            have z1_0 := KT5.out.froz 2 0 rfl rfl
            have s1_1 := KT5.out.cell 2 1 rfl rfl
            have z1_1 := KT5.out.froz 2 1 rfl rfl
            obtain ⟨x1, hw1⟩ : ∃ x, (v1.setCell ⟨b + 2, 0, none⟩ (.int .i64 (p2))).setCell ⟨b + 2, 1, none⟩ (.int .i64 (q2)) = x := ⟨_, rfl⟩
            have KT5 : Hid (Tab x1 [(b5, [.int .i64 (X), .int .i64 (Y)]), (b + 3, [.int .i64 (U), .int .i64 (D)]), (b + 2, [.int .i64 (p2), .int .i64 (q2)]), (b + 1, [.int .i64 (u1), .int .i64 (d1)]), (b, [.int .i64 (V), .int .i64 (Z)])]) := Lib.hid (by rw [← hw1]; exact (KT5.out.set1 2 0 (.int .i64 (p2)) rfl ND.out).set1 2 1 (.int .i64 (q2)) rfl ND.out)
            have KB5 : Hid (Below w2.heap.size w2 x1) := Lib.hid (by rw [← hw1]; exact (KB5.out.setCell (by show w2.heap.size ≤ b + 2; have := LB.out; omega) _).setCell (by show w2.heap.size ≤ b + 2; have := LB.out; omega) _)
            have c2_0_0 := KT5.out.cell 0 0 rfl rfl
            have c2_0_1 := KT5.out.cell 0 1 rfl rfl
            have c2_1_0 := KT5.out.cell 1 0 rfl rfl
            have c2_1_1 := KT5.out.cell 1 1 rfl rfl
            go_wp2_with fail
            refine (MC.out _).mono ?_
            rintro e v2 ⟨rfl, hb⟩
            have KB5 := Lib.hid (bel_tr0 KB5.out hb)
            have KT5 := Lib.hid (KT5.out.later hb)
            clear hb c2_0_0 c2_0_1 c2_1_0 c2_1_1 hw1 s1_0 s1_1 z1_0 z1_1
            have s2_0 := KT5.out.cell 1 0 rfl rfl
            have z2_0 := KT5.out.froz 1 0 rfl rfl
            have s2_1 := KT5.out.cell 1 1 rfl rfl
            have z2_1 := KT5.out.froz 1 1 rfl rfl
            obtain ⟨x2, hw2⟩ : ∃ x, (v2.setCell ⟨b + 3, 0, none⟩ (.int .i64 (V))).setCell ⟨b + 3, 1, none⟩ (.int .i64 (Z)) = x := ⟨_, rfl⟩
            have KT5 : Hid (Tab x2 [(b5, [.int .i64 (X), .int .i64 (Y)]), (b + 3, [.int .i64 (V), .int .i64 (Z)]), (b + 2, [.int .i64 (p2), .int .i64 (q2)]), (b + 1, [.int .i64 (u1), .int .i64 (d1)]), (b, [.int .i64 (V), .int .i64 (Z)])]) := Lib.hid (by rw [← hw2]; exact (KT5.out.set1 1 0 (.int .i64 (V)) rfl ND.out).set1 1 1 (.int .i64 (Z)) rfl ND.out)
            have KB5 : Hid (Below w2.heap.size w2 x2) := Lib.hid (by rw [← hw2]; exact (KB5.out.setCell (by show w2.heap.size ≤ b + 3; have := LB.out; omega) _).setCell (by show w2.heap.size ≤ b + 3; have := LB.out; omega) _)
            rcases Bool.eq_false_or_eq_true cb with rfl | rfl
            · have ok := trivial
              have c3_1_0 := KT5.out.cell 1 0 rfl rfl
              have c3_1_1 := KT5.out.cell 1 1 rfl rfl
              have c3_4_0 := KT5.out.cell 4 0 rfl rfl
              have c3_4_1 := KT5.out.cell 4 1 rfl rfl
              go_wp2_with fail
              refine (MD.out _).mono ?_
              rintro e v3 ⟨rfl, hb⟩
              have KB5 := Lib.hid (bel_tr0 KB5.out hb)
              have KT5 := Lib.hid (KT5.out.later hb)
              clear hb c3_1_0 c3_1_1 c3_4_0 c3_4_1 hw2 s2_0 s2_1 z2_0 z2_1
              have s3_0 := KT5.out.cell 1 0 rfl rfl
              have z3_0 := KT5.out.froz 1 0 rfl rfl
              have s3_1 := KT5.out.cell 1 1 rfl rfl
              have z3_1 := KT5.out.froz 1 1 rfl rfl
              obtain ⟨x3, hw3⟩ : ∃ x, (v3.setCell ⟨b + 3, 0, none⟩ (.int .i64 (V))).setCell ⟨b + 3, 1, none⟩ (.int .i64 (Z)) = x := ⟨_, rfl⟩
              have KT5 : Hid (Tab x3 [(b5, [.int .i64 (X), .int .i64 (Y)]), (b + 3, [.int .i64 (V), .int .i64 (Z)]), (b + 2, [.int .i64 (p2), .int .i64 (q2)]), (b + 1, [.int .i64 (u1), .int .i64 (d1)]), (b, [.int .i64 (V), .int .i64 (Z)])]) := Lib.hid (by rw [← hw3]; exact (KT5.out.set1 1 0 (.int .i64 (V)) rfl ND.out).set1 1 1 (.int .i64 (Z)) rfl ND.out)
              have KB5 : Hid (Below w2.heap.size w2 x3) := Lib.hid (by rw [← hw3]; exact (KB5.out.setCell (by show w2.heap.size ≤ b + 3; have := LB.out; omega) _).setCell (by show w2.heap.size ≤ b + 3; have := LB.out; omega) _)
              go_wp2_with fail
              go_roundw
              case rel => exact ⟨i + 1, V, Z, u1, d1, p2, q2, by simp, by omega, Lib.hid (MI2.out ik), KB5, Lib.hid (by have t := KT5.out; exact ((((Tab.nil _).cons (t 4 _ _ rfl)).cons (t 3 _ _ rfl)).cons (t 2 _ _ rfl)).cons (t 1 _ _ rfl))⟩
              case measure => simp [intOf]; omega
            · have ok := trivial
              go_wp2_with fail
              go_roundw
              case rel => exact ⟨i + 1, V, Z, u1, d1, p2, q2, by simp, by omega, Lib.hid (MI2.out ik), KB5, Lib.hid (by have t := KT5.out; exact ((((Tab.nil _).cons (t 4 _ _ rfl)).cons (t 3 _ _ rfl)).cons (t 2 _ _ rfl)).cons (t 1 _ _ rfl))⟩
              case measure => simp [intOf]; omega
        · have DN := MI.out.done (by have := HM.out; omega)
          obtain ⟨e1, e2, U0, D0⟩ := DN
          have e3 : max u2 u1 = U := by omega
          have e4 : min d2 d1 = D := by omega
          have e5 : max U U = U := by omega
          have e6 : min D D = D := by omega
          have e7 : max U 0 = U := by omega
          have e8 : min D 0 = D := by omega
          have M12 : Hid (∀ wy, Calls Try.prog 31 #[.agg #[.int .i64 u1, .int .i64 d1], .agg #[.int .i64 u2, .int .i64 d2]] wy fun e w' => e = .returned (.agg #[.int .i64 U, .int .i64 D]) ∧ Below wy.heap.size wy w') := Lib.hid (fun wy => by have := MW.out u1 d1 u2 d2 wy; rw [e1, e2] at this; exact this)
          have M21 : Hid (∀ wy, Calls Try.prog 31 #[.agg #[.int .i64 u2, .int .i64 d2], .agg #[.int .i64 u1, .int .i64 d1]] wy fun e w' => e = .returned (.agg #[.int .i64 U, .int .i64 D]) ∧ Below wy.heap.size wy w') := Lib.hid (fun wy => by have := MW.out u2 d2 u1 d1 wy; rw [e3, e4] at this; exact this)
          have MUU : Hid (∀ wy, Calls Try.prog 31 #[.agg #[.int .i64 U, .int .i64 D], .agg #[.int .i64 U, .int .i64 D]] wy fun e w' => e = .returned (.agg #[.int .i64 U, .int .i64 D]) ∧ Below wy.heap.size wy w') := Lib.hid (fun wy => by have := MW.out U D U D wy; rw [e5, e6] at this; exact this)
          have MU0 : Hid (∀ wy, Calls Try.prog 31 #[.agg #[.int .i64 U, .int .i64 D], .agg #[.int .i64 0, .int .i64 0]] wy fun e w' => e = .returned (.agg #[.int .i64 U, .int .i64 D]) ∧ Below wy.heap.size wy w') := Lib.hid (fun wy => by have := MW.out U D 0 0 wy; rw [e7, e8] at this; exact this)
          have EQ := Lib.hid (eq_mar U D)
          have KB : Hid (Below w.heap.size w wr) := Lib.hid (bel_tr0 KB.out KB4.out)
          have KT := KT4
          have lt' : ¬ (i : Int) < (m : Int) := by omega
          clear e1 e2 e3 e4 e5 e6 e7 e8 U0 D0 MI KB4 KT4
          go_wp2_with fail
          refine wp_region_vals [some (.agg #[.int .i64 u1, .int .i64 d1]), some (.agg #[.int .i64 u2, .int .i64 d2]), some (.agg #[.int .i64 U, .int .i64 D]), some (.agg #[.int .i64 U, .int .i64 D]), some (.bool true), some (.bool true), some (.agg #[.int .i64 u2, .int .i64 d2]), some (.agg #[.int .i64 u1, .int .i64 d1]), some (.agg #[.int .i64 U, .int .i64 D]), some (.agg #[.int .i64 U, .int .i64 D]), some (.bool true), some (.bool true), some (.bool true), some (.agg #[.int .i64 U, .int .i64 D]), some (.agg #[.int .i64 U, .int .i64 D]), some (.agg #[.int .i64 U, .int .i64 D]), some (.agg #[.int .i64 U, .int .i64 D]), some (.bool true), some (.bool true), some (.bool true), some (.agg #[.int .i64 U, .int .i64 D]), some (.agg #[.int .i64 U, .int .i64 D]), some (.agg #[.int .i64 U, .int .i64 D]), some (.agg #[.int .i64 U, .int .i64 D]), some (.bool true), some (.bool true), some (.bool true), some (.agg #[.int .i64 U, .int .i64 D]), some (.agg #[.int .i64 0, .int .i64 0]), some (.agg #[.int .i64 U, .int .i64 D]), some (.agg #[.int .i64 U, .int .i64 D]), some (.bool true), some (.bool true), some (.bool true), some (.agg #[.int .i64 U, .int .i64 D]), some (.agg #[.int .i64 U, .int .i64 D]), some (.bool true), some (.bool true), some (.bool true)] (fun Lz _ wy => Below w.heap.size w wy ∧ Tab wy [(b + 3, [.int .i64 U, .int .i64 D]), (b + 2, [.int .i64 u2, .int .i64 d2]), (b + 1, [.int .i64 u1, .int .i64 d1]), (b, [.int .i64 U, .int .i64 D])])
            [some 62, some 63, some 64, some 65, some 66, some 67, some 68, some 69, some 70, some 71, some 72, some 73, some 74, some 75, some 76, some 77, some 78, some 79, some 80, some 81, some 82, some 83, some 84, some 85, some 86, some 87, some 88, some 89, some 90, some 91, some 92, some 93, some 94, some 95, some 96, some 97, some 98, some 99, some 6] (by kernel_rfl) (by kernel_rfl) (by kernel_rfl) (by kernel_rfl) (by kernel_rfl) (by kernel_rfl) ⟨KB.out.drew, KT.out.later ((Below.refl _ _).drew)⟩ (fun i o ho => ?_) (fun Lz vz wz hL hB => ?_)
          · match i, ho with
            | 0, ho =>
              obtain rfl := Option.some.inj ho
              intro Az Lz vz wy Kz Ez hB k
              have e9 : Az.eval (.tmp 9) = .pointer (some ⟨b + 1, 0, none⟩) := Ez.out 9 (by kernel_rfl)
              have c2_0 := hB.2.cell 2 0 rfl rfl
              have c2_1 := hB.2.cell 2 1 rfl rfl
              exact wpo_val (v := .agg #[.int .i64 u1, .int .i64 d1]) (run_load e9 (by simp [go_sem, c2_0, c2_1])) (k _ _ rfl hB)
            | 1, ho =>
              obtain rfl := Option.some.inj ho
              intro Az Lz vz wy Kz Ez hB k
              have e10 : Az.eval (.tmp 10) = .pointer (some ⟨b + 2, 0, none⟩) := Ez.out 10 (by kernel_rfl)
              have c1_0 := hB.2.cell 1 0 rfl rfl
              have c1_1 := hB.2.cell 1 1 rfl rfl
              exact wpo_val (v := .agg #[.int .i64 u2, .int .i64 d2]) (run_load e10 (by simp [go_sem, c1_0, c1_1])) (k _ _ rfl hB)
            | 2, ho =>
              obtain rfl := Option.some.inj ho
              intro Az Lz vz wy Kz Ez hB k
              have e62 : Az.eval (.tmp 62) = .agg #[.int .i64 u1, .int .i64 d1] := Ez.dep 0 62 (by kernel_rfl) rfl
              have e63 : Az.eval (.tmp 63) = .agg #[.int .i64 u2, .int .i64 d2] := Ez.dep 1 63 (by kernel_rfl) rfl
              refine wpo_call (run_callW (fun _ _ => by kernel_rfl)) (R := fun ez w' => ez = .returned (.agg #[.int .i64 U, .int .i64 D]) ∧ Below wy.heap.size wy w') ?_ ?_
              · simp only [List.map_toArray, List.map_cons, List.map_nil, eval_const, e62, e63]
                exact M12.out _
              · rintro ez w' ⟨rfl, hb⟩
                exact ⟨_, rfl, k _ _ rfl ⟨bel_tr0 hB.1 hb, hB.2.later hb⟩⟩
            | 3, ho =>
              obtain rfl := Option.some.inj ho
              intro Az Lz vz wy Kz Ez hB k
              have e8 : Az.eval (.tmp 8) = .pointer (some ⟨b, 0, none⟩) := Ez.out 8 (by kernel_rfl)
              have c3_0 := hB.2.cell 3 0 rfl rfl
              have c3_1 := hB.2.cell 3 1 rfl rfl
              exact wpo_val (v := .agg #[.int .i64 U, .int .i64 D]) (run_load e8 (by simp [go_sem, c3_0, c3_1])) (k _ _ rfl hB)
            | 4, ho =>
              obtain rfl := Option.some.inj ho
              intro Az Lz vz wy Kz Ez hB k
              have e64 : Az.eval (.tmp 64) = .agg #[.int .i64 U, .int .i64 D] := Ez.dep 2 64 (by kernel_rfl) rfl
              have e65 : Az.eval (.tmp 65) = .agg #[.int .i64 U, .int .i64 D] := Ez.dep 3 65 (by kernel_rfl) rfl
              exact wpo_val (v := .bool true) (run_bin e64 e65 (by simp [go_sem]) (by exact EQ.out wy)) (k _ _ rfl hB)
            | 5, ho =>
              obtain rfl := Option.some.inj ho
              intro Az Lz vz wy Kz Ez hB k
              have e66 : Az.eval (.tmp 66) = .bool true := Ez.dep 4 66 (by kernel_rfl) rfl
              exact wpo_val (v := .bool true) (run_move e66) (k _ _ rfl hB)
            | 6, ho =>
              obtain rfl := Option.some.inj ho
              intro Az Lz vz wy Kz Ez hB k
              have e10 : Az.eval (.tmp 10) = .pointer (some ⟨b + 2, 0, none⟩) := Ez.out 10 (by kernel_rfl)
              have c1_0 := hB.2.cell 1 0 rfl rfl
              have c1_1 := hB.2.cell 1 1 rfl rfl
              exact wpo_val (v := .agg #[.int .i64 u2, .int .i64 d2]) (run_load e10 (by simp [go_sem, c1_0, c1_1])) (k _ _ rfl hB)
            | 7, ho =>
              obtain rfl := Option.some.inj ho
              intro Az Lz vz wy Kz Ez hB k
              have e9 : Az.eval (.tmp 9) = .pointer (some ⟨b + 1, 0, none⟩) := Ez.out 9 (by kernel_rfl)
              have c2_0 := hB.2.cell 2 0 rfl rfl
              have c2_1 := hB.2.cell 2 1 rfl rfl
              exact wpo_val (v := .agg #[.int .i64 u1, .int .i64 d1]) (run_load e9 (by simp [go_sem, c2_0, c2_1])) (k _ _ rfl hB)
            | 8, ho =>
              obtain rfl := Option.some.inj ho
              intro Az Lz vz wy Kz Ez hB k
              have e68 : Az.eval (.tmp 68) = .agg #[.int .i64 u2, .int .i64 d2] := Ez.dep 6 68 (by kernel_rfl) rfl
              have e69 : Az.eval (.tmp 69) = .agg #[.int .i64 u1, .int .i64 d1] := Ez.dep 7 69 (by kernel_rfl) rfl
              refine wpo_call (run_callW (fun _ _ => by kernel_rfl)) (R := fun ez w' => ez = .returned (.agg #[.int .i64 U, .int .i64 D]) ∧ Below wy.heap.size wy w') ?_ ?_
              · simp only [List.map_toArray, List.map_cons, List.map_nil, eval_const, e68, e69]
                exact M21.out _
              · rintro ez w' ⟨rfl, hb⟩
                exact ⟨_, rfl, k _ _ rfl ⟨bel_tr0 hB.1 hb, hB.2.later hb⟩⟩
            | 9, ho =>
              obtain rfl := Option.some.inj ho
              intro Az Lz vz wy Kz Ez hB k
              have e8 : Az.eval (.tmp 8) = .pointer (some ⟨b, 0, none⟩) := Ez.out 8 (by kernel_rfl)
              have c3_0 := hB.2.cell 3 0 rfl rfl
              have c3_1 := hB.2.cell 3 1 rfl rfl
              exact wpo_val (v := .agg #[.int .i64 U, .int .i64 D]) (run_load e8 (by simp [go_sem, c3_0, c3_1])) (k _ _ rfl hB)
            | 10, ho =>
              obtain rfl := Option.some.inj ho
              intro Az Lz vz wy Kz Ez hB k
              have e70 : Az.eval (.tmp 70) = .agg #[.int .i64 U, .int .i64 D] := Ez.dep 8 70 (by kernel_rfl) rfl
              have e71 : Az.eval (.tmp 71) = .agg #[.int .i64 U, .int .i64 D] := Ez.dep 9 71 (by kernel_rfl) rfl
              exact wpo_val (v := .bool true) (run_bin e70 e71 (by simp [go_sem]) (by exact EQ.out wy)) (k _ _ rfl hB)
            | 11, ho =>
              obtain rfl := Option.some.inj ho
              intro Az Lz vz wy Kz Ez hB k
              have e67 : Az.eval (.tmp 67) = .bool true := Ez.dep 5 67 (by kernel_rfl) rfl
              have e72 : Az.eval (.tmp 72) = .bool true := Ez.dep 10 72 (by kernel_rfl) rfl
              exact wpo_val (v := .bool true) (run_pickT e67 e72) (k _ _ rfl hB)
            | 12, ho =>
              obtain rfl := Option.some.inj ho
              intro Az Lz vz wy Kz Ez hB k
              have e73 : Az.eval (.tmp 73) = .bool true := Ez.dep 11 73 (by kernel_rfl) rfl
              exact wpo_val (v := .bool true) (run_move e73) (k _ _ rfl hB)
            | 13, ho =>
              obtain rfl := Option.some.inj ho
              intro Az Lz vz wy Kz Ez hB k
              have e11 : Az.eval (.tmp 11) = .pointer (some ⟨b + 3, 0, none⟩) := Ez.out 11 (by kernel_rfl)
              have c0_0 := hB.2.cell 0 0 rfl rfl
              have c0_1 := hB.2.cell 0 1 rfl rfl
              exact wpo_val (v := .agg #[.int .i64 U, .int .i64 D]) (run_load e11 (by simp [go_sem, c0_0, c0_1])) (k _ _ rfl hB)
            | 14, ho =>
              obtain rfl := Option.some.inj ho
              intro Az Lz vz wy Kz Ez hB k
              have e8 : Az.eval (.tmp 8) = .pointer (some ⟨b, 0, none⟩) := Ez.out 8 (by kernel_rfl)
              have c3_0 := hB.2.cell 3 0 rfl rfl
              have c3_1 := hB.2.cell 3 1 rfl rfl
              exact wpo_val (v := .agg #[.int .i64 U, .int .i64 D]) (run_load e8 (by simp [go_sem, c3_0, c3_1])) (k _ _ rfl hB)
            | 15, ho =>
              obtain rfl := Option.some.inj ho
              intro Az Lz vz wy Kz Ez hB k
              have e75 : Az.eval (.tmp 75) = .agg #[.int .i64 U, .int .i64 D] := Ez.dep 13 75 (by kernel_rfl) rfl
              have e76 : Az.eval (.tmp 76) = .agg #[.int .i64 U, .int .i64 D] := Ez.dep 14 76 (by kernel_rfl) rfl
              refine wpo_call (run_callW (fun _ _ => by kernel_rfl)) (R := fun ez w' => ez = .returned (.agg #[.int .i64 U, .int .i64 D]) ∧ Below wy.heap.size wy w') ?_ ?_
              · simp only [List.map_toArray, List.map_cons, List.map_nil, eval_const, e75, e76]
                exact MUU.out _
              · rintro ez w' ⟨rfl, hb⟩
                exact ⟨_, rfl, k _ _ rfl ⟨bel_tr0 hB.1 hb, hB.2.later hb⟩⟩
            | 16, ho =>
              obtain rfl := Option.some.inj ho
              intro Az Lz vz wy Kz Ez hB k
              have e8 : Az.eval (.tmp 8) = .pointer (some ⟨b, 0, none⟩) := Ez.out 8 (by kernel_rfl)
              have c3_0 := hB.2.cell 3 0 rfl rfl
              have c3_1 := hB.2.cell 3 1 rfl rfl
              exact wpo_val (v := .agg #[.int .i64 U, .int .i64 D]) (run_load e8 (by simp [go_sem, c3_0, c3_1])) (k _ _ rfl hB)
            | 17, ho =>
              obtain rfl := Option.some.inj ho
              intro Az Lz vz wy Kz Ez hB k
              have e77 : Az.eval (.tmp 77) = .agg #[.int .i64 U, .int .i64 D] := Ez.dep 15 77 (by kernel_rfl) rfl
              have e78 : Az.eval (.tmp 78) = .agg #[.int .i64 U, .int .i64 D] := Ez.dep 16 78 (by kernel_rfl) rfl
              exact wpo_val (v := .bool true) (run_bin e77 e78 (by simp [go_sem]) (by exact EQ.out wy)) (k _ _ rfl hB)
            | 18, ho =>
              obtain rfl := Option.some.inj ho
              intro Az Lz vz wy Kz Ez hB k
              have e74 : Az.eval (.tmp 74) = .bool true := Ez.dep 12 74 (by kernel_rfl) rfl
              have e79 : Az.eval (.tmp 79) = .bool true := Ez.dep 17 79 (by kernel_rfl) rfl
              exact wpo_val (v := .bool true) (run_pickT e74 e79) (k _ _ rfl hB)
            | 19, ho =>
              obtain rfl := Option.some.inj ho
              intro Az Lz vz wy Kz Ez hB k
              have e80 : Az.eval (.tmp 80) = .bool true := Ez.dep 18 80 (by kernel_rfl) rfl
              exact wpo_val (v := .bool true) (run_move e80) (k _ _ rfl hB)
            | 20, ho =>
              obtain rfl := Option.some.inj ho
              intro Az Lz vz wy Kz Ez hB k
              have e8 : Az.eval (.tmp 8) = .pointer (some ⟨b, 0, none⟩) := Ez.out 8 (by kernel_rfl)
              have c3_0 := hB.2.cell 3 0 rfl rfl
              have c3_1 := hB.2.cell 3 1 rfl rfl
              exact wpo_val (v := .agg #[.int .i64 U, .int .i64 D]) (run_load e8 (by simp [go_sem, c3_0, c3_1])) (k _ _ rfl hB)
            | 21, ho =>
              obtain rfl := Option.some.inj ho
              intro Az Lz vz wy Kz Ez hB k
              have e8 : Az.eval (.tmp 8) = .pointer (some ⟨b, 0, none⟩) := Ez.out 8 (by kernel_rfl)
              have c3_0 := hB.2.cell 3 0 rfl rfl
              have c3_1 := hB.2.cell 3 1 rfl rfl
              exact wpo_val (v := .agg #[.int .i64 U, .int .i64 D]) (run_load e8 (by simp [go_sem, c3_0, c3_1])) (k _ _ rfl hB)
            | 22, ho =>
              obtain rfl := Option.some.inj ho
              intro Az Lz vz wy Kz Ez hB k
              have e82 : Az.eval (.tmp 82) = .agg #[.int .i64 U, .int .i64 D] := Ez.dep 20 82 (by kernel_rfl) rfl
              have e83 : Az.eval (.tmp 83) = .agg #[.int .i64 U, .int .i64 D] := Ez.dep 21 83 (by kernel_rfl) rfl
              refine wpo_call (run_callW (fun _ _ => by kernel_rfl)) (R := fun ez w' => ez = .returned (.agg #[.int .i64 U, .int .i64 D]) ∧ Below wy.heap.size wy w') ?_ ?_
              · simp only [List.map_toArray, List.map_cons, List.map_nil, eval_const, e82, e83]
                exact MUU.out _
              · rintro ez w' ⟨rfl, hb⟩
                exact ⟨_, rfl, k _ _ rfl ⟨bel_tr0 hB.1 hb, hB.2.later hb⟩⟩
            | 23, ho =>
              obtain rfl := Option.some.inj ho
              intro Az Lz vz wy Kz Ez hB k
              have e8 : Az.eval (.tmp 8) = .pointer (some ⟨b, 0, none⟩) := Ez.out 8 (by kernel_rfl)
              have c3_0 := hB.2.cell 3 0 rfl rfl
              have c3_1 := hB.2.cell 3 1 rfl rfl
              exact wpo_val (v := .agg #[.int .i64 U, .int .i64 D]) (run_load e8 (by simp [go_sem, c3_0, c3_1])) (k _ _ rfl hB)
            | 24, ho =>
              obtain rfl := Option.some.inj ho
              intro Az Lz vz wy Kz Ez hB k
              have e84 : Az.eval (.tmp 84) = .agg #[.int .i64 U, .int .i64 D] := Ez.dep 22 84 (by kernel_rfl) rfl
              have e85 : Az.eval (.tmp 85) = .agg #[.int .i64 U, .int .i64 D] := Ez.dep 23 85 (by kernel_rfl) rfl
              exact wpo_val (v := .bool true) (run_bin e84 e85 (by simp [go_sem]) (by exact EQ.out wy)) (k _ _ rfl hB)
            | 25, ho =>
              obtain rfl := Option.some.inj ho
              intro Az Lz vz wy Kz Ez hB k
              have e81 : Az.eval (.tmp 81) = .bool true := Ez.dep 19 81 (by kernel_rfl) rfl
              have e86 : Az.eval (.tmp 86) = .bool true := Ez.dep 24 86 (by kernel_rfl) rfl
              exact wpo_val (v := .bool true) (run_pickT e81 e86) (k _ _ rfl hB)
            | 26, ho =>
              obtain rfl := Option.some.inj ho
              intro Az Lz vz wy Kz Ez hB k
              have e87 : Az.eval (.tmp 87) = .bool true := Ez.dep 25 87 (by kernel_rfl) rfl
              exact wpo_val (v := .bool true) (run_move e87) (k _ _ rfl hB)
            | 27, ho =>
              obtain rfl := Option.some.inj ho
              intro Az Lz vz wy Kz Ez hB k
              have e8 : Az.eval (.tmp 8) = .pointer (some ⟨b, 0, none⟩) := Ez.out 8 (by kernel_rfl)
              have c3_0 := hB.2.cell 3 0 rfl rfl
              have c3_1 := hB.2.cell 3 1 rfl rfl
              exact wpo_val (v := .agg #[.int .i64 U, .int .i64 D]) (run_load e8 (by simp [go_sem, c3_0, c3_1])) (k _ _ rfl hB)
            | 28, ho =>
              obtain rfl := Option.some.inj ho
              intro Az Lz vz wy Kz Ez hB k
              exact wpo_val (v := .agg #[.int .i64 0, .int .i64 0]) (run_build (l' := #[]) (by simp only [List.map_toArray, List.map_cons, List.map_nil, eval_const]) (by simp [go_sem])) (k _ _ rfl hB)
            | 29, ho =>
              obtain rfl := Option.some.inj ho
              intro Az Lz vz wy Kz Ez hB k
              have e89 : Az.eval (.tmp 89) = .agg #[.int .i64 U, .int .i64 D] := Ez.dep 27 89 (by kernel_rfl) rfl
              have e90 : Az.eval (.tmp 90) = .agg #[.int .i64 0, .int .i64 0] := Ez.dep 28 90 (by kernel_rfl) rfl
              refine wpo_call (run_callW (fun _ _ => by kernel_rfl)) (R := fun ez w' => ez = .returned (.agg #[.int .i64 U, .int .i64 D]) ∧ Below wy.heap.size wy w') ?_ ?_
              · simp only [List.map_toArray, List.map_cons, List.map_nil, eval_const, e89, e90]
                exact MU0.out _
              · rintro ez w' ⟨rfl, hb⟩
                exact ⟨_, rfl, k _ _ rfl ⟨bel_tr0 hB.1 hb, hB.2.later hb⟩⟩
            | 30, ho =>
              obtain rfl := Option.some.inj ho
              intro Az Lz vz wy Kz Ez hB k
              have e8 : Az.eval (.tmp 8) = .pointer (some ⟨b, 0, none⟩) := Ez.out 8 (by kernel_rfl)
              have c3_0 := hB.2.cell 3 0 rfl rfl
              have c3_1 := hB.2.cell 3 1 rfl rfl
              exact wpo_val (v := .agg #[.int .i64 U, .int .i64 D]) (run_load e8 (by simp [go_sem, c3_0, c3_1])) (k _ _ rfl hB)
            | 31, ho =>
              obtain rfl := Option.some.inj ho
              intro Az Lz vz wy Kz Ez hB k
              have e91 : Az.eval (.tmp 91) = .agg #[.int .i64 U, .int .i64 D] := Ez.dep 29 91 (by kernel_rfl) rfl
              have e92 : Az.eval (.tmp 92) = .agg #[.int .i64 U, .int .i64 D] := Ez.dep 30 92 (by kernel_rfl) rfl
              exact wpo_val (v := .bool true) (run_bin e91 e92 (by simp [go_sem]) (by exact EQ.out wy)) (k _ _ rfl hB)
            | 32, ho =>
              obtain rfl := Option.some.inj ho
              intro Az Lz vz wy Kz Ez hB k
              have e88 : Az.eval (.tmp 88) = .bool true := Ez.dep 26 88 (by kernel_rfl) rfl
              have e93 : Az.eval (.tmp 93) = .bool true := Ez.dep 31 93 (by kernel_rfl) rfl
              exact wpo_val (v := .bool true) (run_pickT e88 e93) (k _ _ rfl hB)
            | 33, ho =>
              obtain rfl := Option.some.inj ho
              intro Az Lz vz wy Kz Ez hB k
              have e94 : Az.eval (.tmp 94) = .bool true := Ez.dep 32 94 (by kernel_rfl) rfl
              exact wpo_val (v := .bool true) (run_move e94) (k _ _ rfl hB)
            | 34, ho =>
              obtain rfl := Option.some.inj ho
              intro Az Lz vz wy Kz Ez hB k
              have e11 : Az.eval (.tmp 11) = .pointer (some ⟨b + 3, 0, none⟩) := Ez.out 11 (by kernel_rfl)
              have c0_0 := hB.2.cell 0 0 rfl rfl
              have c0_1 := hB.2.cell 0 1 rfl rfl
              exact wpo_val (v := .agg #[.int .i64 U, .int .i64 D]) (run_load e11 (by simp [go_sem, c0_0, c0_1])) (k _ _ rfl hB)
            | 35, ho =>
              obtain rfl := Option.some.inj ho
              intro Az Lz vz wy Kz Ez hB k
              have e8 : Az.eval (.tmp 8) = .pointer (some ⟨b, 0, none⟩) := Ez.out 8 (by kernel_rfl)
              have c3_0 := hB.2.cell 3 0 rfl rfl
              have c3_1 := hB.2.cell 3 1 rfl rfl
              exact wpo_val (v := .agg #[.int .i64 U, .int .i64 D]) (run_load e8 (by simp [go_sem, c3_0, c3_1])) (k _ _ rfl hB)
            | 36, ho =>
              obtain rfl := Option.some.inj ho
              intro Az Lz vz wy Kz Ez hB k
              have e96 : Az.eval (.tmp 96) = .agg #[.int .i64 U, .int .i64 D] := Ez.dep 34 96 (by kernel_rfl) rfl
              have e97 : Az.eval (.tmp 97) = .agg #[.int .i64 U, .int .i64 D] := Ez.dep 35 97 (by kernel_rfl) rfl
              exact wpo_val (v := .bool true) (run_bin e96 e97 (by simp [go_sem]) (by exact EQ.out wy)) (k _ _ rfl hB)
            | 37, ho =>
              obtain rfl := Option.some.inj ho
              intro Az Lz vz wy Kz Ez hB k
              have e95 : Az.eval (.tmp 95) = .bool true := Ez.dep 33 95 (by kernel_rfl) rfl
              have e98 : Az.eval (.tmp 98) = .bool true := Ez.dep 36 98 (by kernel_rfl) rfl
              exact wpo_val (v := .bool true) (run_pickT e95 e98) (k _ _ rfl hB)
            | 38, ho =>
              obtain rfl := Option.some.inj ho
              intro Az Lz vz wy Kz Ez hB k
              have e99 : Az.eval (.tmp 99) = .bool true := Ez.dep 37 99 (by kernel_rfl) rfl
              exact wpo_val (v := .bool true) (run_assign e99) (k _ _ rfl hB)
            | n + 39, ho => simp at ho
          · obtain ⟨hk, hT⟩ := hB
            have KB := Lib.hid hk
            have KT := Lib.hid hT
            clear hk hT hL
            simp only [puts2, mix, Act.put, List.setIfInBounds_toArray, List.set_cons_zero, List.set_cons_succ, Nat.zero_add, Nat.reduceAdd, List.getElem?_cons_zero, List.getElem?_cons_succ]

            go_wp2_with fail
            go_returns
            exact ⟨rfl, KB.out⟩
end Go.Proofs.Ytmelbgabiklojaa
