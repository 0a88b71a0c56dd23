/- The walk of ValueIns. -/
import Derived.Test.YtfhepaiefdmlcaaDoorValS
import Derived.WalkKit
import Derived.WalkSpells
import Derived.WalkLawsBesides
import Derived.Handy
import Derived.Lib.Hide
import Derived.Outline
namespace Go.Proofs.YtfhepaiefdmlcaaDoor
open Go.RowKit Go.Proofs.Flo Go.Proofs.Reg
set_option linter.unusedVariables false
set_option linter.unusedSimpArgs false
set_option maxRecDepth 100000
/-- a length, no length, or giving up -/
def InS (v : Int) (ok : Bool) (er : Int) (e : Ending) : Prop := (er = 0 ∧ e = .returned (.tuple #[.int .i64 v, .bool ok])) ∨ (er ≠ 0 ∧ v = 0 ∧ ok = false ∧ e = .panicked (gave er))
theorem InR.ins {v er : Int} {e : Ending} (h : InR v er e) : InS v (er == 0) er e := by
  rcases h with ⟨rfl, h⟩ | ⟨hz, hv, h⟩
  · exact .inl ⟨rfl, h⟩
  · exact .inr ⟨hz, hv, by simpa using hz, h⟩
structure InSame (k n base p q v : Int) (ok : Bool) (er : Int) : Prop where
  prog : ∀ w, Calls Tryd.prog 12 #[.agg #[.int .i64 k, .int .i64 n], .int .i64 base, .agg #[.int .i64 p, .int .i64 q]] w fun e w' => InS v ok er e ∧ Below w.heap.size w w'
  ref : ∀ w, Calls Tryd.prog 13 #[.agg #[.int .i64 k, .int .i64 n], .int .i64 base, .int .i64 p, .int .i64 q] w fun e w' => e = .returned (.tuple #[.int .i64 v, .bool ok, .int .i64 er]) ∧ Below w.heap.size w w'
  zero : er ≠ 0 → v = 0 ∧ ok = false
theorem insame_ex (k n base p q : Int) (kn : -9223372036854775808 ≤ n ∧ n ≤ 9223372036854775807) (kb : -9223372036854775808 ≤ base ∧ base ≤ 9223372036854775807) (kp : -9223372036854775808 ≤ p ∧ p ≤ 9223372036854775807) (kq : -9223372036854775808 ≤ q ∧ q ≤ 9223372036854775807) :
    ∃ v ok er, InSame k n base p q v ok er := by
  by_cases h3 : k = 3
  · subst h3
    have G : ∀ w, Calls Tryd.prog 27 #[.int .i64 p, .int .i64 q] w fun e w' => e = .returned (.bool (goodB p q)) ∧ Below w.heap.size w w' := fun w => good2_any p q kp.1 kp.2 kq.1 kq.2 w
    cases hg : goodB p q
    · refine ⟨0, false, 1, fun w => ?_, fun w => ?_, fun _ => ⟨rfl, rfl⟩⟩
      · refine (vin_fixed n base p q 0 1 (scale_bad n p q kp.1 kp.2 kq.1 kq.2 hg) w).mono ?_
        rintro e w' ⟨h, hb⟩
        exact ⟨h.ins, hb⟩
      · exact r9in_fixed n base p q 0 1 false (fun w => by have := G w; rwa [hg] at this) (fun h => by cases h) (fun _ => ⟨rfl, rfl⟩) w
    · obtain ⟨v, er, s1, s2, s3⟩ := scale_same n p q kn.1 kn.2 kp.1 kp.2 (goodB_pos hg) kq.2 hg
      refine ⟨v, er == 0, er, fun w => ?_, fun w => ?_, fun z => ⟨s3 z, by simpa using z⟩⟩
      · refine (vin_fixed n base p q v er s1 w).mono ?_
        rintro e w' ⟨h, hb⟩
        exact ⟨h.ins, hb⟩
      · exact r9in_fixed n base p q v er true (fun w => by have := G w; rwa [hg] at this) (fun _ => s2) (fun h => by cases h) w
  · by_cases h4 : k = 4
    · subst h4
      obtain ⟨v, er, s1, s2, s3⟩ := same3_ex base n 6400 kb.1 kb.2 kn.1 kn.2 (by decide) (by decide)
      refine ⟨v, er == 0, er, fun w => ?_, fun w => ?_, fun z => ⟨s3 z, by simpa using z⟩⟩
      · refine (vin_pct n base p q v er s1 w).mono ?_
        rintro e w' ⟨h, hb⟩
        exact ⟨h.ins, hb⟩
      · exact r9in_pct n base p q v er s2 w
    · refine ⟨0, false, 0, fun w => ?_, fun w => ?_, fun _ => ⟨rfl, rfl⟩⟩
      · refine (vin_none k n base p q (by simpa using h3) (by simpa using h4) w).mono ?_
        rintro e w' ⟨h, hb⟩
        exact ⟨.inl ⟨rfl, h⟩, hb⟩
      · exact r9in_none k n base p q (by simpa using h3) (by simpa using h4) w
def two9 (g1 g2 : Nat) (v : Int) (ok : Bool) : List (Addr × Value) := [(⟨g1, 0, none⟩, .int .i64 v), (⟨g2, 0, none⟩, .bool ok)]
theorem two9_of {w : World} {g1 g2 : Nat} {v : Int} {ok : Bool} (h : Var w ⟨g1, 0, none⟩ (.int .i64 v)) (k : Var w ⟨g2, 0, none⟩ (.bool ok)) : Vars w (two9 g1 g2 v ok) := fun x hx => by
  rcases List.mem_cons.1 hx with rfl | hx
  · exact h
  · obtain rfl : x = _ := List.mem_singleton.1 hx
    exact k
set_option maxHeartbeats 1000000 in
theorem ins1_ret (b g1 g2 : Nat) (k n base p q v : Int) (ok : Bool) (w : World) (hB : PB w b k n base p q) (v1 : Var w ⟨g1, 0, none⟩ (.int .i64 0)) (v2 : Var w ⟨g2, 0, none⟩ (.bool false)) (ne : g1 ≠ g2)
    (hF : ∀ w, Calls Tryd.prog 12 #[.agg #[.int .i64 k, .int .i64 n], .int .i64 base, .agg #[.int .i64 p, .int .i64 q]] w fun e w' => e = .returned (.tuple #[.int .i64 v, .bool ok]) ∧ Below w.heap.size w w') :
    Calls Tryd.prog 11 #[.pointer (some ⟨b, 0, none⟩), .pointer (some ⟨g1, 0, none⟩), .pointer (some ⟨g2, 0, none⟩)] w fun e w' => e = .returned (.tuple #[]) ∧ But [g1, g2] w w' ∧ Vars w' (two9 g1 g2 v ok) := by
  have HF := Lib.hid hF
  have V1 := Lib.hid v1
  have V2 := Lib.hid v2
  obtain ⟨c0, c1, c2, c3, c4⟩ := hB
  clear hF v1 v2
  go_enter Tryd.func11, Tryd.ntmps11
  go_wp2_with fail
  refine (HF.out _).mono ?_
  rintro e w1 ⟨rfl, hb⟩
  have W1 := Lib.hid (V1.out.later hb)
  have W2 := Lib.hid (V2.out.later hb)
  have B1 := Lib.hid (But.of (bs := [g1, g2]) hb)
  obtain ⟨e0, z0⟩ := W1.out
  obtain ⟨e1, z1⟩ := W2.out
  clear hb c0 c1 c2 c3 c4 V1 V2
  have ne' : ¬ g2 = g1 := fun h => ne h.symm
  go_wp2_with fail
  go_end0
  refine ⟨rfl, (B1.out.setCell (.inl (by simp)) _).setCell (.inl (by simp)) _, two9_of ?_ ?_⟩
  · exact (W1.out.set _).other (fun e => ne' (by injection e)) _
  · exact (W2.out.other (fun e => ne (by injection e)) _).set _
set_option maxHeartbeats 1000000 in
theorem ins1_gave (b g1 g2 : Nat) (k n base p q er : Int) (w : World) (hB : PB w b k n base p q) (v1 : Var w ⟨g1, 0, none⟩ (.int .i64 0)) (v2 : Var w ⟨g2, 0, none⟩ (.bool false)) (ne : g1 ≠ g2)
    (hF : ∀ w, Calls Tryd.prog 12 #[.agg #[.int .i64 k, .int .i64 n], .int .i64 base, .agg #[.int .i64 p, .int .i64 q]] w fun e w' => e = .panicked (gave er) ∧ Below w.heap.size w w') :
    Calls Tryd.prog 11 #[.pointer (some ⟨b, 0, none⟩), .pointer (some ⟨g1, 0, none⟩), .pointer (some ⟨g2, 0, none⟩)] w fun e w' => e = .panicked (gave er) ∧ But [g1, g2] w w' ∧ Vars w' (two9 g1 g2 0 false) := by
  have HF := Lib.hid hF
  have V1 := Lib.hid v1
  have V2 := Lib.hid v2
  obtain ⟨c0, c1, c2, c3, c4⟩ := hB
  clear hF v1 v2
  go_enter Tryd.func11, Tryd.ntmps11
  go_wp2_with fail
  refine (HF.out _).mono ?_
  rintro e w1 ⟨rfl, hb⟩
  exact ⟨rfl, rfl, But.of (bs := [g1, g2]) hb, two9_of (V1.out.later hb) (V2.out.later hb)⟩
theorem ins1_any (b g1 g2 : Nat) (k n base p q v : Int) (ok : Bool) (er : Int) (w : World) (hB : PB w b k n base p q) (v1 : Var w ⟨g1, 0, none⟩ (.int .i64 0)) (v2 : Var w ⟨g2, 0, none⟩ (.bool false)) (ne : g1 ≠ g2) (h : InSame k n base p q v ok er) :
    Calls Tryd.prog 10 #[.func (.func 11) #[] #[.pointer (some ⟨b, 0, none⟩), .pointer (some ⟨g1, 0, none⟩), .pointer (some ⟨g2, 0, none⟩)]] w fun e w' => e = .returned (.int .i64 er) ∧ But [g1, g2] w w' ∧ Vars w' (two9 g1 g2 v ok) := by
  have ba : Below w.heap.size w (w.alloc (.cells #[.int .i64 0] 26)) := (Below.refl _ _).alloc (Nat.le_refl _) _
  have l1 := v1.lt
  have l2 := v2.lt
  have hbs : ∀ i ∈ [g1, g2], i < w.heap.size := fun i hi => by
    rcases List.mem_cons.1 hi with rfl | hi
    · exact l1
    · obtain rfl := List.mem_singleton.1 hi; exact l2
  have hvs : ∀ (v : Int) (ok : Bool), ∀ x ∈ two9 g1 g2 v ok, x.1.block < w.heap.size := fun v ok x hx => by
    rcases List.mem_cons.1 hx with rfl | hx
    · exact l1
    · obtain rfl : x = _ := List.mem_singleton.1 hx
      exact l2
  by_cases z : er = 0
  · subst z
    refine tryB_ret 11 _ [g1, g2] (two9 g1 g2 v ok) w hbs (hvs v ok) (fun _ => by kernel_rfl) ?_
    refine ins1_ret b g1 g2 k n base p q v ok _ (hB.later ba) (v1.later ba) (v2.later ba) ne fun w => (h.prog w).mono ?_
    rintro e w' ⟨he, hb⟩
    rcases he with ⟨_, he⟩ | ⟨hn, _⟩
    · exact ⟨he, hb⟩
    · exact absurd rfl hn
  · obtain ⟨hv, hok⟩ := h.zero z
    subst hv hok
    refine tryB_gave 11 _ er [g1, g2] (two9 g1 g2 0 false) w hbs (hvs 0 false) (fun _ => by kernel_rfl) ?_
    refine ins1_gave b g1 g2 k n base p q er _ (hB.later ba) (v1.later ba) (v2.later ba) ne fun w => (h.prog w).mono ?_
    rintro e w' ⟨he, hb⟩
    rcases he with ⟨hz, _⟩ | ⟨_, _, _, he⟩
    · exact absurd hz z
    · exact ⟨he, hb⟩
set_option maxHeartbeats 2000000 in
theorem law_ins (k n base p q : Int) (kk : -9223372036854775808 ≤ k ∧ k ≤ 9223372036854775807) (kn : -9223372036854775808 ≤ n ∧ n ≤ 9223372036854775807) (kb : -9223372036854775808 ≤ base ∧ base ≤ 9223372036854775807) (kp : -9223372036854775808 ≤ p ∧ p ≤ 9223372036854775807) (kq : -9223372036854775808 ≤ q ∧ q ≤ 9223372036854775807) (w : World) (hD : Deb w) :
    Calls Tryd.prog 4 #[.agg #[.int .i64 k, .int .i64 n, .int .i64 base, .int .i64 p, .int .i64 q]] w fun e w' => e = .returned (.bool true) ∧ Below w.heap.size w w' := by
  have hmf : ∀ (fn : Fn) (first cap : Array Value) (w : World), (Instr.makeFunc fn first cap).run Tryd.prog w = .ok (.func fn first cap) w := fun _ _ _ _ => rfl
  have HS := Lib.hid (fun w h => speaks9_any w h)
  obtain ⟨v, ok, er, hI⟩ := insame_ex k n base p q kn kb kp kq
  have HR := Lib.hid hI.ref
  have HI := Lib.hid hI
  have HD := Lib.hid hD
  clear hD hI kk kn kb kp kq
  go_enter Tryd.func4, Tryd.ntmps4
  go_wp2_with fail
  refine (HS.out _ (HD.out.later (by go_grown))).mono ?_
  rintro e w1 ⟨rfl, hb⟩
  have KB := Lib.hid (show Below w.heap.size w w1 from bel_tr0 (by go_grown) hb)
  have T1 := Lib.hid (((Tab.nil w).new [.int .i64 k, .int .i64 n, .int .i64 base, .int .i64 p, .int .i64 q] 38).later hb)
  have hs := KB.out.size
  have lt : w.heap.size < w1.heap.size := T1.out.lt 0 rfl
  clear hb
  go_wp2_with fail
  have ba : Below w1.heap.size w1 ((w1.alloc (.cells #[.int .i64 0] 2)).alloc (.cells #[.bool false] 4)) := by go_grown
  have pb : PB w1 w.heap.size k n base p q := ⟨T1.out.cell 0 0 rfl rfl, T1.out.cell 0 1 rfl rfl, T1.out.cell 0 2 rfl rfl, T1.out.cell 0 3 rfl rfl, T1.out.cell 0 4 rfl rfl⟩
  have vv1 : Var ((w1.alloc (.cells #[.int .i64 0] 2)).alloc (.cells #[.bool false] 4)) ⟨w1.heap.size, 0, none⟩ (.int .i64 0) := (Var.new w1 _ _).alloc _
  have vv2 : Var ((w1.alloc (.cells #[.int .i64 0] 2)).alloc (.cells #[.bool false] 4)) ⟨w1.heap.size + 1, 0, none⟩ (.bool false) := by
    have := Var.new (w1.alloc (.cells #[.int .i64 0] 2)) (.bool false) 4
    simpa using this
  refine (ins1_any w.heap.size w1.heap.size (w1.heap.size + 1) k n base p q v ok er _ (pb.later ba) vv1 vv2 (by omega) HI.out).mono ?_
  rintro e w2 ⟨rfl, hbut, hv⟩
  have P2 := Lib.hid ((pb.later ba).but hbut (by simp; omega))
  have K2 : Hid (Below w.heap.size w w2) := Lib.hid (But.below (bel_tr0 KB.out ba) hbut (by simp; omega) (fun i hi => by simp at hi; omega))
  have V1 := Lib.hid (hv (⟨w1.heap.size, 0, none⟩, .int .i64 v) (by simp [two9]))
  have V2 := Lib.hid (hv (⟨w1.heap.size + 1, 0, none⟩, .bool ok) (by simp [two9]))
  clear hbut hv vv1 vv2 pb ba
  obtain ⟨c0, c1, c2, c3, c4⟩ := P2.out
  go_wp2_with fail
  refine (HR.out _).mono ?_
  rintro e w3 ⟨rfl, hb⟩
  have K3 := Lib.hid (bel_tr0 K2.out hb)
  obtain ⟨e0, _⟩ := V1.out.later hb
  obtain ⟨e1, _⟩ := V2.out.later hb
  clear hb c0 c1 c2 c3 c4
  go_wp2_with fail
  go_returns
  exact ⟨rfl, K3.out⟩
end Go.Proofs.YtfhepaiefdmlcaaDoor
