/- Law 14: SizingOf, SizingFits. -/
import Derived.Test.YtbolifjkhoiphaaSizC
import Derived.WalkKit
import Derived.WalkSpells
import Derived.WalkLawsBesides
import Derived.Handy
import Derived.Lib.Hide
import Derived.Deep.QuietTactic
import Derived.BigQuiet
import Derived.RegionTactic
import Derived.BigRegion
import Derived.Outline
namespace Go.Proofs.Ytbolifjkhoiphaa
open Go.RowKit Go.Proofs.Reg Go.Proofs.Big
set_option linter.unusedVariables false
set_option linter.unusedSimpArgs false
set_option maxRecDepth 100000
/-- the boxes of a value and of what sizes are told by -/
def BX (w : World) (b1 b2 : Nat) (k n base p q sz ed : Int) (kn : Bool) : Prop := Tab w [(b1, [.int .i64 k, .int .i64 n]), (b2, [.int .i64 base, .bool kn, .int .i64 p, .int .i64 q, .int .i64 sz, .int .i64 ed])]
theorem tab_but {bs : List Nat} {w w' : World} {l : List (Nat × List Value)} (h : Tab w l) (hb : But bs w w') (hn : ∀ (k b : Nat) (vs : List Value), l[k]? = some (b, vs) → b ∉ bs) : Tab w' l := fun k b vs hk i v hi => by
  obtain ⟨c, f⟩ := h k b vs hk i v hi
  exact ⟨hb.cell (hn k b vs hk) c, (hb.frozen (p := ⟨b, i, none⟩) (hn k b vs hk) (World.block_lt_of_cell? w _ c)).trans f⟩
set_option maxHeartbeats 1000000 in
theorem zs1_ret (b1 b2 g1 g2 : Nat) (k n base p q sz ed v : Int) (kn ok : Bool) (w : World) (hB : BX w b1 b2 k n base p q sz ed kn) (v1 : Var w ⟨g1, 0, none⟩ (.int .i64 0)) (v2 : Var w ⟨g2, 0, none⟩ (.bool false)) (ne : g1 ≠ g2)
    (hF : ∀ w, Calls Try.prog 33 #[.agg #[.int .i64 k, .int .i64 n], .agg #[.int .i64 base, .bool kn, .int .i64 p, .int .i64 q, .int .i64 sz, .int .i64 ed]] w fun e w' => e = .returned (.tuple #[.int .i64 v, .bool ok]) ∧ Below w.heap.size w w') :
    Calls Try.prog 32 #[.pointer (some ⟨b1, 0, none⟩), .pointer (some ⟨b2, 0, none⟩), .pointer (some ⟨g1, 0, none⟩), .pointer (some ⟨g2, 0, none⟩)] w fun e w' => e = .returned (.tuple #[]) ∧ But [g1, g2] w w' ∧ Vars w' (two14 g1 g2 v ok) := by
  have HF := Lib.hid hF
  have V1 := Lib.hid v1
  have V2 := Lib.hid v2
  have a0 := hB.cell 0 0 rfl rfl
  have a1 := hB.cell 0 1 rfl rfl
  have c0 := hB.cell 1 0 rfl rfl
  have c1 := hB.cell 1 1 rfl rfl
  have c2 := hB.cell 1 2 rfl rfl
  have c3 := hB.cell 1 3 rfl rfl
  have c4 := hB.cell 1 4 rfl rfl
  have c5 := hB.cell 1 5 rfl rfl
  clear hF v1 v2 hB
  go_enter Try.func32, Try.ntmps32
  go_wp2_with fail
  refine (HF.out _).mono ?_
  rintro e w1 ⟨rfl, hb⟩
  have W1 := Lib.hid (V1.out.later hb)
  have W2 := Lib.hid (V2.out.later hb)
  have B1 := Lib.hid (But.of (bs := [g1, g2]) hb)
  obtain ⟨e0, z0⟩ := W1.out
  obtain ⟨e1, z1⟩ := W2.out
  clear hb a0 a1 c0 c1 c2 c3 c4 c5 V1 V2
  have ne' : ¬ g2 = g1 := fun h => ne h.symm
  go_wp2_with fail
  go_end0
  refine ⟨rfl, (B1.out.setCell (.inl (by simp)) _).setCell (.inl (by simp)) _, two14_of ?_ ?_⟩
  · exact (W1.out.set _).other (fun e => ne' (by injection e)) _
  · exact (W2.out.other (fun e => ne (by injection e)) _).set _
set_option maxHeartbeats 1000000 in
theorem zs1_gave (b1 b2 g1 g2 : Nat) (k n base p q sz ed er : Int) (kn : Bool) (w : World) (hB : BX w b1 b2 k n base p q sz ed kn) (v1 : Var w ⟨g1, 0, none⟩ (.int .i64 0)) (v2 : Var w ⟨g2, 0, none⟩ (.bool false))
    (hF : ∀ w, Calls Try.prog 33 #[.agg #[.int .i64 k, .int .i64 n], .agg #[.int .i64 base, .bool kn, .int .i64 p, .int .i64 q, .int .i64 sz, .int .i64 ed]] w fun e w' => e = .panicked (gave er) ∧ Below w.heap.size w w') :
    Calls Try.prog 32 #[.pointer (some ⟨b1, 0, none⟩), .pointer (some ⟨b2, 0, none⟩), .pointer (some ⟨g1, 0, none⟩), .pointer (some ⟨g2, 0, none⟩)] w fun e w' => e = .panicked (gave er) ∧ But [g1, g2] w w' ∧ Vars w' (two14 g1 g2 0 false) := by
  have HF := Lib.hid hF
  have V1 := Lib.hid v1
  have V2 := Lib.hid v2
  have a0 := hB.cell 0 0 rfl rfl
  have a1 := hB.cell 0 1 rfl rfl
  have c0 := hB.cell 1 0 rfl rfl
  have c1 := hB.cell 1 1 rfl rfl
  have c2 := hB.cell 1 2 rfl rfl
  have c3 := hB.cell 1 3 rfl rfl
  have c4 := hB.cell 1 4 rfl rfl
  have c5 := hB.cell 1 5 rfl rfl
  clear hF v1 v2 hB
  go_enter Try.func32, Try.ntmps32
  go_wp2_with fail
  refine (HF.out _).mono ?_
  rintro e w1 ⟨rfl, hb⟩
  exact ⟨rfl, rfl, But.of (bs := [g1, g2]) hb, two14_of (V1.out.later hb) (V2.out.later hb)⟩
theorem zs1_any (b1 b2 g1 g2 : Nat) (k n base p q ed v : Int) (kn wh ok : Bool) (er : Int) (w : World) (hB : BX w b1 b2 k n base p q (if wh then 2 else 1) ed kn) (v1 : Var w ⟨g1, 0, none⟩ (.int .i64 0)) (v2 : Var w ⟨g2, 0, none⟩ (.bool false)) (ne : g1 ≠ g2) (h : OfSame k n base p q ed kn wh v ok er) :
    Calls Try.prog 12 #[.func (.func 32) #[] #[.pointer (some ⟨b1, 0, none⟩), .pointer (some ⟨b2, 0, none⟩), .pointer (some ⟨g1, 0, none⟩), .pointer (some ⟨g2, 0, none⟩)]] w fun e w' => e = .returned (.int .i64 er) ∧ But [g1, g2] w w' ∧ Vars w' (two14 g1 g2 v ok) := by
  have ba : Below w.heap.size w (w.alloc (.cells #[.int .i64 0] 29)) := (Below.refl _ _).alloc (Nat.le_refl _) _
  have l1 := v1.lt
  have l2 := v2.lt
  by_cases z : er = 0
  · subst z
    refine tryB_ret 32 _ [g1, g2] (two14 g1 g2 v ok) w (two_lt l1 l2) (two14_lt l1 l2 v ok) (fun _ => by kernel_rfl) ?_
    refine zs1_ret b1 b2 g1 g2 k n base p q _ ed v kn ok _ (Tab.later hB ba) (v1.later ba) (v2.later ba) ne fun w => (h.prog w).mono ?_
    rintro e w' ⟨he, hb⟩
    rcases he with ⟨_, he⟩ | ⟨hn, _⟩
    · exact ⟨he, hb⟩
    · exact absurd rfl hn
  · obtain ⟨hv, hok⟩ := h.zero z
    subst hv hok
    refine tryB_gave 32 _ er [g1, g2] (two14 g1 g2 0 false) w (two_lt l1 l2) (two14_lt l1 l2 0 false) (fun _ => by kernel_rfl) ?_
    refine zs1_gave b1 b2 g1 g2 k n base p q _ ed er kn _ (Tab.later hB ba) (v1.later ba) (v2.later ba) fun w => (h.prog w).mono ?_
    rintro e w' ⟨he, hb⟩
    rcases he with ⟨hz, _⟩ | ⟨_, _, _, he⟩
    · exact absurd hz z
    · exact ⟨he, hb⟩
set_option maxHeartbeats 4000000 in
theorem law_sizing (k n base p q ed : Int) (kn wh : Bool) (hk : -9223372036854775808 ≤ k ∧ k ≤ 9223372036854775807) (hn : -9223372036854775808 ≤ n ∧ n ≤ 9223372036854775807) (kb : -9223372036854775808 ≤ base ∧ base ≤ 9223372036854775807) (kp : -9223372036854775808 ≤ p ∧ p ≤ 9223372036854775807) (kq : -9223372036854775808 ≤ q ∧ q ≤ 9223372036854775807) (ke : -9223372036854775808 ≤ ed ∧ ed ≤ 9223372036854775807) (w : World) :
    Calls Try.prog 7 #[.agg #[.int .i64 k, .int .i64 n], .agg #[.int .i64 base, .int .i64 p, .int .i64 q, .int .i64 ed, .bool kn, .bool wh]] w fun e w' => e = .returned (.bool true) ∧ Below w.heap.size w w' := by
  have hmf : ∀ (fn : Fn) (first cap : Array Value) (w : World), (Instr.makeFunc fn first cap).run Try.prog w = .ok (.func fn first cap) w := fun _ _ _ _ => rfl
  obtain ⟨v, ok, er, hI⟩ := ofsame_ex k n base p q ed kn wh hn kb kp kq ke
  have HR := Lib.hid hI.ref
  have HI := Lib.hid hI
  have TD := Lib.hid (told14_any base p q ed kn wh)
  have SP := Lib.hid speaks14_any
  obtain ⟨sz, hsz⟩ : ∃ sz : Int, (if wh = true then 2 else 1) = sz := ⟨_, rfl⟩
  rw [hsz] at TD
  have HZ := Lib.hid hsz
  clear hI hk hn kb kp kq ke hsz
  go_enter Try.func7, Try.ntmps7
  go_wp2_with fail
  refine (SP.out _).mono ?_
  rintro e w1 ⟨rfl, hb⟩
  have KB := Lib.hid (show Below w.heap.size w w1 from bel_tr0 (by go_grown) hb)
  have T1 := Lib.hid ((((Tab.nil w).new [.int .i64 k, .int .i64 n] 59).new [.int .i64 base, .int .i64 p, .int .i64 q, .int .i64 ed, .bool kn, .bool wh] 61).later hb)
  clear hb
  have c0 := T1.out.cell 0 0 rfl rfl
  have c1 := T1.out.cell 0 1 rfl rfl
  have c2 := T1.out.cell 0 2 rfl rfl
  have c3 := T1.out.cell 0 3 rfl rfl
  have c4 := T1.out.cell 0 4 rfl rfl
  have c5 := T1.out.cell 0 5 rfl rfl
  simp only [World.size_alloc] at c0 c1 c2 c3 c4 c5
  go_wp2_with fail
  refine (TD.out _).mono ?_
  rintro e w2 ⟨rfl, hb⟩
  have K2 := Lib.hid (bel_tr0 KB.out hb)
  have T2 := Lib.hid (T1.out.later hb)
  have lt1 : w.heap.size < w2.heap.size := T2.out.lt 1 rfl
  clear hb c0 c1 c2 c3 c4 c5 T1 KB
  go_wp2_with fail
  obtain ⟨b2, hb2⟩ : ∃ b2, w2.heap.size = b2 := ⟨_, rfl⟩
  obtain ⟨w3, hw3⟩ : ∃ x, (((w2.alloc (.cells #[.int .i64 base, .bool kn, .int .i64 p, .int .i64 q, .int .i64 sz, .int .i64 ed] 65)).alloc (.cells #[.int .i64 base, .bool kn, .int .i64 p, .int .i64 q, .bool wh, .int .i64 ed] 67)).alloc (.cells #[.int .i64 0] 2)).alloc (.cells #[.bool false] 4) = x := ⟨_, rfl⟩
  have T3 : Hid (Tab w3 [(b2 + 3, [.bool false]), (b2 + 2, [.int .i64 0]), (b2 + 1, [.int .i64 base, .bool kn, .int .i64 p, .int .i64 q, .bool wh, .int .i64 ed]), (b2, [.int .i64 base, .bool kn, .int .i64 p, .int .i64 q, .int .i64 sz, .int .i64 ed]), (w.heap.size + 1, [.int .i64 base, .int .i64 p, .int .i64 q, .int .i64 ed, .bool kn, .bool wh]), (w.heap.size, [.int .i64 k, .int .i64 n])]) := Lib.hid (by
    rw [← hw3, ← hb2]
    have T := T2.out
    simp only [World.size_alloc] at T
    exact (((T.new' _ _ rfl).new' _ _ (by simp)).new' _ _ (by simp)).new' _ _ (by simp))
  have K3 : Hid (Below w.heap.size w w3) := Lib.hid (by
    rw [← hw3]
    exact bel_tr0 (bel_tr0 (bel_tr0 (bel_tr0 K2.out (bel_newR _ _)) (bel_newR _ _)) (bel_newR _ _)) (bel_newR _ _))
  rw [hw3]
  simp only [World.size_alloc, hb2]
  clear hw3 T2 K2
  rw [hb2] at lt1
  clear hb2
  have hB : BX w3 w.heap.size b2 k n base p q (if wh then 2 else 1) ed kn := by
    rw [HZ.out]
    exact ((Tab.nil w3).cons (T3.out 3 _ _ rfl)).cons (T3.out 5 _ _ rfl)
  have vv1 : Var w3 ⟨b2 + 2, 0, none⟩ (.int .i64 0) := ⟨T3.out.cell 1 0 rfl rfl, T3.out.froz 1 0 rfl rfl⟩
  have vv2 : Var w3 ⟨b2 + 3, 0, none⟩ (.bool false) := ⟨T3.out.cell 0 0 rfl rfl, T3.out.froz 0 0 rfl rfl⟩
  refine (zs1_any w.heap.size b2 (b2 + 2) (b2 + 3) k n base p q ed v kn wh ok er _ hB vv1 vv2 (by omega) HI.out).mono ?_
  rintro e w4 ⟨rfl, hbut, hv⟩
  have K4 : Hid (Below w.heap.size w w4) := Lib.hid (But.below K3.out hbut (by have := K3.out.size; omega) (fun i hi => by simp at hi; omega))
  have T4 : Hid (Tab w4 [(w.heap.size, [.int .i64 k, .int .i64 n]), (b2 + 1, [.int .i64 base, .bool kn, .int .i64 p, .int .i64 q, .bool wh, .int .i64 ed])]) := Lib.hid (tab_but (((Tab.nil w3).cons (T3.out 2 _ _ rfl)).cons (T3.out 5 _ _ rfl)) hbut (fun k b vs hk => by
    match k, hk with
    | 0, hk => simp at hk; obtain ⟨rfl, _⟩ := hk; simp; omega
    | 1, hk => simp at hk; obtain ⟨rfl, _⟩ := hk; simp
    | k + 2, hk => simp at hk))
  have V1 := Lib.hid (hv (⟨b2 + 2, 0, none⟩, .int .i64 v) (by simp [two14]))
  have V2 := Lib.hid (hv (⟨b2 + 3, 0, none⟩, .bool ok) (by simp [two14]))
  clear hbut hv vv1 vv2 hB T3 K3
  have a0 := T4.out.cell 0 0 rfl rfl
  have a1 := T4.out.cell 0 1 rfl rfl
  have c0 := T4.out.cell 1 0 rfl rfl
  have c1 := T4.out.cell 1 1 rfl rfl
  have c2 := T4.out.cell 1 2 rfl rfl
  have c3 := T4.out.cell 1 3 rfl rfl
  have c4 := T4.out.cell 1 4 rfl rfl
  have c5 := T4.out.cell 1 5 rfl rfl
  go_wp2_with fail
  refine (HR.out _).mono ?_
  rintro e w5 ⟨rfl, hb⟩
  have K5 := Lib.hid (bel_tr0 K4.out hb)
  obtain ⟨e0, _⟩ := V1.out.later hb
  obtain ⟨e1, _⟩ := V2.out.later hb
  clear hb a0 a1 c0 c1 c2 c3 c4 c5 T4
  go_wp2_with fail
  go_returns
  exact ⟨rfl, K5.out⟩
end Go.Proofs.Ytbolifjkhoiphaa
