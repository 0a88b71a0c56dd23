/- Law 14: SizingLimits, the law. Made by gen/sizg.py. -/
import Derived.Test.YtbolifjkhoiphaaSizF
import Derived.WalkKit
import Derived.WalkSpells
import Derived.WalkLawsBesides
import Derived.Handy
import Derived.Lib.Hide
import Derived.Deep.QuietTactic
import Derived.BigQuiet
import Derived.Outline
namespace Go.Proofs.Ytbolifjkhoiphaa
open Go.RowKit Go.Proofs.Reg Go.Proofs.Big
set_option linter.unusedVariables false
set_option linter.unusedSimpArgs false
set_option maxRecDepth 100000
set_option maxHeartbeats 4000000 in
theorem law_limits (k1 n1 k2 n2 base p q ed n : Int) (kn wh : Bool) (hk1 : -9223372036854775808 ≤ k1 ∧ k1 ≤ 9223372036854775807) (hn1 : -9223372036854775808 ≤ n1 ∧ n1 ≤ 9223372036854775807) (hk2 : -9223372036854775808 ≤ k2 ∧ k2 ≤ 9223372036854775807) (hn2 : -9223372036854775808 ≤ n2 ∧ n2 ≤ 9223372036854775807) (hbase : -9223372036854775808 ≤ base ∧ base ≤ 9223372036854775807) (hp : -9223372036854775808 ≤ p ∧ p ≤ 9223372036854775807) (hq : -9223372036854775808 ≤ q ∧ q ≤ 9223372036854775807) (hed : -9223372036854775808 ≤ ed ∧ ed ≤ 9223372036854775807) (hn : -9223372036854775808 ≤ n ∧ n ≤ 9223372036854775807) (w : World) :
    Calls Try.prog 8 #[.agg #[.int .i64 k1, .int .i64 n1, .int .i64 k2, .int .i64 n2], .agg #[.int .i64 base, .int .i64 p, .int .i64 q, .int .i64 ed, .bool kn, .bool wh], .int .i64 n] w fun e w' => e = .returned (.bool true) ∧ Below w.heap.size w w' := by
  have hmf : ∀ (fn : Fn) (first cap : Array Value) (w : World), (Instr.makeFunc fn first cap).run Try.prog w = .ok (.func fn first cap) w := fun _ _ _ _ => rfl
  obtain ⟨v1, ok1, e1, I1⟩ := ofsame_ex k1 n1 base p q ed kn wh hn1 hbase hp hq hed
  obtain ⟨v2, ok2, e2, I2⟩ := ofsame_ex k2 n2 base p q ed kn wh hn2 hbase hp hq hed
  have R1 := Lib.hid I1.ref
  have R2 := Lib.hid I2.ref
  obtain ⟨sz, hsz⟩ : ∃ sz : Int, (if wh = true then 2 else 1) = sz := ⟨_, rfl⟩
  have BT := Lib.hid (zbetween_any k1 n1 k2 n2 base p q (if wh = true then 2 else 1) ed v1 v2 e1 e2 kn ok1 ok2 I1.prog I2.prog)
  have TD := Lib.hid (told14_any base p q ed kn wh)
  have SP := Lib.hid speaks14_any
  rw [hsz] at TD BT
  obtain ⟨er, her⟩ : ∃ er : Int, er = if e1 = 0 then e2 else e1 := ⟨_, rfl⟩
  have HE := Lib.hid her
  clear I1 I2 hk1 hn1 hk2 hn2 hbase hp hq hed hn hsz her
  go_enter Try.func8, Try.ntmps8
  go_wp2_with fail
  refine (SP.out _).mono ?_
  rintro e w1 ⟨rfl, hb⟩
  have KB := Lib.hid (show Below w.heap.size w w1 from bel_tr0 (by go_grown) hb)
  have T1 : Hid (Tab w1 [(w.heap.size + 2, [.int .i64 n]), (w.heap.size + 1, [.int .i64 base, .int .i64 p, .int .i64 q, .int .i64 ed, .bool kn, .bool wh]), (w.heap.size, [.int .i64 k1, .int .i64 n1, .int .i64 k2, .int .i64 n2])]) := Lib.hid (((((Tab.nil w).new' _ _ rfl).new' _ _ (by simp)).new' _ _ (by simp)).later hb)
  clear hb
  have c0 := T1.out.cell 1 0 rfl rfl
  have c1 := T1.out.cell 1 1 rfl rfl
  have c2 := T1.out.cell 1 2 rfl rfl
  have c3 := T1.out.cell 1 3 rfl rfl
  have c4 := T1.out.cell 1 4 rfl rfl
  have c5 := T1.out.cell 1 5 rfl rfl
  go_wp2_with fail
  refine (TD.out _).mono ?_
  rintro e w2 ⟨rfl, hb⟩
  have K2 := Lib.hid (bel_tr0 KB.out hb)
  have T2 := Lib.hid (T1.out.later hb)
  have lt1 : w.heap.size + 2 < w2.heap.size := T2.out.lt 0 rfl
  clear hb c0 c1 c2 c3 c4 c5 T1 KB
  go_wp2_with fail
  obtain ⟨b2, hb2⟩ : ∃ b2, w2.heap.size = b2 := ⟨_, rfl⟩
  obtain ⟨w3, hw3⟩ : ∃ x, (((w2.alloc (.cells #[.int .i64 base, .bool kn, .int .i64 p, .int .i64 q, .int .i64 sz, .int .i64 ed] 65)).alloc (.cells #[.int .i64 base, .bool kn, .int .i64 p, .int .i64 q, .bool wh, .int .i64 ed] 67)).alloc (.cells #[.int .i64 0, .int .i64 0, .bool false] 79)).alloc (.cells #[.int .i64 0] 2) = x := ⟨_, rfl⟩
  have T3 : Hid (Tab w3 [(b2 + 3, [.int .i64 0]), (b2 + 2, [.int .i64 0, .int .i64 0, .bool false]), (b2 + 1, [.int .i64 base, .bool kn, .int .i64 p, .int .i64 q, .bool wh, .int .i64 ed]), (b2, [.int .i64 base, .bool kn, .int .i64 p, .int .i64 q, .int .i64 sz, .int .i64 ed]), (w.heap.size + 2, [.int .i64 n]), (w.heap.size + 1, [.int .i64 base, .int .i64 p, .int .i64 q, .int .i64 ed, .bool kn, .bool wh]), (w.heap.size, [.int .i64 k1, .int .i64 n1, .int .i64 k2, .int .i64 n2])]) := Lib.hid (by
    rw [← hw3, ← hb2]
    exact ((((T2.out.new' _ _ rfl).new' _ _ (by simp)).new' _ _ (by simp)).new' _ _ (by simp)))
  have K3 : Hid (Below w.heap.size w w3) := Lib.hid (by
    rw [← hw3]
    exact bel_tr0 (bel_tr0 (bel_tr0 (bel_tr0 K2.out (bel_newR _ _)) (bel_newR _ _)) (bel_newR _ _)) (bel_newR _ _))
  rw [hw3]
  simp only [World.size_alloc, hb2]
  clear hw3 T2 K2
  rw [hb2] at lt1
  clear hb2
  have hB : Tab w3 (BL (b2 + 2) (b2 + 3) (w.heap.size + 2) w.heap.size b2 0 0 false 0 n k1 n1 k2 n2 base p q sz ed kn) :=
    (((((Tab.nil w3).cons (T3.out 3 _ _ rfl)).cons (T3.out 6 _ _ rfl)).cons (T3.out 4 _ _ rfl)).cons (T3.out 0 _ _ rfl)).cons (T3.out 1 _ _ rfl)
  refine (zl_try (b2 + 2) (b2 + 3) (w.heap.size + 2) w.heap.size b2 ⟨by omega, by omega, by omega, by omega, by omega, by omega, by omega⟩ n k1 n1 k2 n2 base p q sz ed v1 v2 e1 e2 er kn ok2 _ hB HE.out BT.out).mono ?_
  rintro e w4 ⟨rfl, hbut, hv⟩
  have K4 : Hid (Below w.heap.size w w4) := Lib.hid (But.below K3.out hbut (by have := K3.out.size; omega) (fun i hi => by simp at hi; omega))
  have T4 : Hid (Tab w4 [(w.heap.size + 2, [.int .i64 n]), (w.heap.size, [.int .i64 k1, .int .i64 n1, .int .i64 k2, .int .i64 n2]), (b2 + 1, [.int .i64 base, .bool kn, .int .i64 p, .int .i64 q, .bool wh, .int .i64 ed])]) := Lib.hid (tab_but ((((Tab.nil w3).cons (T3.out 2 _ _ rfl)).cons (T3.out 6 _ _ rfl)).cons (T3.out 4 _ _ rfl)) hbut (fun k b vs hk => by
    match k, hk with
    | 0, hk => simp at hk; obtain ⟨rfl, _⟩ := hk; simp; omega
    | 1, hk => simp at hk; obtain ⟨rfl, _⟩ := hk; simp; omega
    | 2, hk => simp at hk; obtain ⟨rfl, _⟩ := hk; simp
    | k + 3, hk => simp at hk))
  have HV := Lib.hid hv
  clear hbut hv hB T3 K3 hmf
  have a0 := T4.out.cell 1 0 rfl rfl
  have a1 := T4.out.cell 1 1 rfl rfl
  have a2 := T4.out.cell 1 2 rfl rfl
  have a3 := T4.out.cell 1 3 rfl rfl
  have c0 := T4.out.cell 2 0 rfl rfl
  have c1 := T4.out.cell 2 1 rfl rfl
  have c2 := T4.out.cell 2 2 rfl rfl
  have c3 := T4.out.cell 2 3 rfl rfl
  have c4 := T4.out.cell 2 4 rfl rfl
  have c5 := T4.out.cell 2 5 rfl rfl
  go_wp2_with fail
  refine (R1.out _).mono ?_
  rintro e w5 ⟨rfl, hb⟩
  have K5 := Lib.hid (bel_tr0 K4.out hb)
  have T5 := Lib.hid (T4.out.later hb)
  have HV5 : Hid (er = 0 → Vars w5 (lim4 (b2 + 2) (b2 + 3) v1 v2 ok2 (within n v1 v2 ok2))) := Lib.hid (fun z => (HV.out z).later hb)
  clear hb a0 a1 a2 a3 c0 c1 c2 c3 c4 c5 T4 K4 HV
  have a0 := T5.out.cell 1 0 rfl rfl
  have a1 := T5.out.cell 1 1 rfl rfl
  have a2 := T5.out.cell 1 2 rfl rfl
  have a3 := T5.out.cell 1 3 rfl rfl
  have c0 := T5.out.cell 2 0 rfl rfl
  have c1 := T5.out.cell 2 1 rfl rfl
  have c2 := T5.out.cell 2 2 rfl rfl
  have c3 := T5.out.cell 2 3 rfl rfl
  have c4 := T5.out.cell 2 4 rfl rfl
  have c5 := T5.out.cell 2 5 rfl rfl
  go_wp2_with fail
  refine (R2.out _).mono ?_
  rintro e w6 ⟨rfl, hb⟩
  have K6 := Lib.hid (bel_tr0 K5.out hb)
  have HV6 : Hid (er = 0 → Vars w6 (lim4 (b2 + 2) (b2 + 3) v1 v2 ok2 (within n v1 v2 ok2))) := Lib.hid (fun z => (HV5.out z).later hb)
  have TN : Hid (Tab w6 [(w.heap.size + 2, [.int .i64 n])]) := Lib.hid (((Tab.nil w5).cons (T5.out 0 _ _ rfl)).later hb)
  clear hb a0 a1 a2 a3 c0 c1 c2 c3 c4 c5 T5 K5 HV5
  by_cases z1 : e1 = 0
  · by_cases z2 : e2 = 0
    · have z : er = 0 := by rw [HE.out, if_pos z1, z2]
      subst z1 z2 z
      have V := HV6.out rfl
      have T6 : Hid (Tab w6 [(b2 + 2, [.int .i64 v1, .int .i64 v2, .bool ok2]), (b2 + 3, [.int .i64 (within n v1 v2 ok2)]), (w.heap.size + 2, [.int .i64 n])]) := Lib.hid (by
        refine ((TN.out.cons (fun i v hi => ?_)).cons (fun i v hi => ?_))
        · match i, hi with
          | 0, hi => simp at hi; subst hi; obtain ⟨c, f⟩ := V (⟨b2 + 3, 0, none⟩, .int .i64 (within n v1 v2 ok2)) (by simp [lim4]); exact ⟨c, f⟩
          | i + 1, hi => simp at hi
        · match i, hi with
          | 0, hi => simp at hi; subst hi; obtain ⟨c, f⟩ := V (⟨b2 + 2, 0, none⟩, .int .i64 v1) (by simp [lim4]); exact ⟨c, f⟩
          | 1, hi => simp at hi; subst hi; obtain ⟨c, f⟩ := V (⟨b2 + 2, 1, none⟩, .int .i64 v2) (by simp [lim4]); exact ⟨c, f⟩
          | 2, hi => simp at hi; subst hi; obtain ⟨c, f⟩ := V (⟨b2 + 2, 2, none⟩, .bool ok2) (by simp [lim4]); exact ⟨c, f⟩
          | i + 3, hi => simp at hi)
      clear V HV6 TN
      go_wp2_with fail
      refine wp_region_vals [some (.int .i64 0), some (.bool true), some (.bool true), some (.agg #[.int .i64 v1, .int .i64 v2, .bool ok2]), some (.int .i64 v1), some (.int .i64 v2), some (.bool ok2), some (.agg #[.int .i64 v1, .int .i64 v2, .bool ok2]), some (.bool true), some (.bool true), some (.bool true), some (.int .i64 (within n v1 v2 ok2)), some (.int .i64 n), some (.int .i64 v1), some (.int .i64 v2), some (.bool ok2), some (.int .i64 (within n v1 v2 ok2)), some (.bool true), some (.bool true), some (.bool true)] (fun _ _ wy => Below w6.heap.size w6 wy ∧ Tab wy [(b2 + 2, [.int .i64 v1, .int .i64 v2, .bool ok2]), (b2 + 3, [.int .i64 (within n v1 v2 ok2)]), (w.heap.size + 2, [.int .i64 n])])
        [some 61, some 62, some 63, some 64, some 65, some 66, some 67, some 68, some 69, some 70, some 71, some 72, some 73, some 74, some 75, some 76, some 77, some 78, some 79, some 6] (by kernel_rfl) (by kernel_rfl) (by kernel_rfl) (by kernel_rfl) (by kernel_rfl) (by kernel_rfl) ⟨(Below.refl _ _).drew, T6.out.later ((Below.refl _ _).drew)⟩ (fun i o ho => ?_) (fun Lz vz wz hL hB => ?_)
      · match i, ho with
        | 0, ho =>
          obtain rfl := Option.some.inj ho
          intro Az Lz vz wy Kz Ez hB k
          have e11 : Az.eval (.tmp 11) = .int .i64 0 := Ez.out 11 (by kernel_rfl)
          exact wpo_val (v := .int .i64 0) (run_move e11) (k _ _ rfl (⟨bel_tr0 hB.1 (Below.refl _ _), hB.2.later (Below.refl _ _)⟩))
        | 1, ho =>
          obtain rfl := Option.some.inj ho
          intro Az Lz vz wy Kz Ez hB k
          have e61 : Az.eval (.tmp 61) = .int .i64 0 := Ez.dep 0 61 (by kernel_rfl) rfl
          exact wpo_val (v := .bool true) (run_bin e61 rfl (by simp [go_sem]) (by simp [go_sem])) (k _ _ rfl (⟨bel_tr0 hB.1 (Below.refl _ _), hB.2.later (Below.refl _ _)⟩))
        | 2, ho =>
          obtain rfl := Option.some.inj ho
          intro Az Lz vz wy Kz Ez hB k
          have e62 : Az.eval (.tmp 62) = .bool true := Ez.dep 1 62 (by kernel_rfl) rfl
          exact wpo_val (v := .bool true) (run_move e62) (k _ _ rfl (⟨bel_tr0 hB.1 (Below.refl _ _), hB.2.later (Below.refl _ _)⟩))
        | 3, ho =>
          obtain rfl := Option.some.inj ho
          intro Az Lz vz wy Kz Ez hB k
          have e9 : Az.eval (.tmp 9) = .pointer (some ⟨b2 + 2, 0, none⟩) := Ez.out 9 (by kernel_rfl)
          have q0 := hB.2.cell 0 0 rfl rfl
          have q1 := hB.2.cell 0 1 rfl rfl
          have q2 := hB.2.cell 0 2 rfl rfl
          exact wpo_val (v := .agg #[.int .i64 v1, .int .i64 v2, .bool ok2]) (run_load e9 (by simp [go_sem, q0, q1, q2])) (k _ _ rfl (⟨bel_tr0 hB.1 (Below.refl _ _), hB.2.later (Below.refl _ _)⟩))
        | 4, ho =>
          obtain rfl := Option.some.inj ho
          intro Az Lz vz wy Kz Ez hB k
          have e12 : Az.eval (.tmp 12) = .int .i64 v1 := Ez.out 12 (by kernel_rfl)
          exact wpo_val (v := .int .i64 v1) (run_move e12) (k _ _ rfl (⟨bel_tr0 hB.1 (Below.refl _ _), hB.2.later (Below.refl _ _)⟩))
        | 5, ho =>
          obtain rfl := Option.some.inj ho
          intro Az Lz vz wy Kz Ez hB k
          have e15 : Az.eval (.tmp 15) = .int .i64 v2 := Ez.out 15 (by kernel_rfl)
          exact wpo_val (v := .int .i64 v2) (run_move e15) (k _ _ rfl (⟨bel_tr0 hB.1 (Below.refl _ _), hB.2.later (Below.refl _ _)⟩))
        | 6, ho =>
          obtain rfl := Option.some.inj ho
          intro Az Lz vz wy Kz Ez hB k
          have e16 : Az.eval (.tmp 16) = .bool ok2 := Ez.out 16 (by kernel_rfl)
          exact wpo_val (v := .bool ok2) (run_move e16) (k _ _ rfl (⟨bel_tr0 hB.1 (Below.refl _ _), hB.2.later (Below.refl _ _)⟩))
        | 7, ho =>
          obtain rfl := Option.some.inj ho
          intro Az Lz vz wy Kz Ez hB k
          have e65 : Az.eval (.tmp 65) = .int .i64 v1 := Ez.dep 4 65 (by kernel_rfl) rfl
          have e66 : Az.eval (.tmp 66) = .int .i64 v2 := Ez.dep 5 66 (by kernel_rfl) rfl
          have e67 : Az.eval (.tmp 67) = .bool ok2 := Ez.dep 6 67 (by kernel_rfl) rfl
          exact wpo_val (v := .agg #[.int .i64 v1, .int .i64 v2, .bool ok2]) (run_build (l' := #[(0, .int .i64 v1), (1, .int .i64 v2), (2, .bool ok2)]) (by simp only [List.map_toArray, List.map_cons, List.map_nil, e65, e66, e67]) (by kernel_rfl)) (k _ _ rfl (⟨bel_tr0 hB.1 (Below.refl _ _), hB.2.later (Below.refl _ _)⟩))
        | 8, ho =>
          obtain rfl := Option.some.inj ho
          intro Az Lz vz wy Kz Ez hB k
          have e64 : Az.eval (.tmp 64) = .agg #[.int .i64 v1, .int .i64 v2, .bool ok2] := Ez.dep 3 64 (by kernel_rfl) rfl
          have e68 : Az.eval (.tmp 68) = .agg #[.int .i64 v1, .int .i64 v2, .bool ok2] := Ez.dep 7 68 (by kernel_rfl) rfl
          exact wpo_val (v := .bool true) (run_bin e64 e68 (by simp [go_sem]) (by simp [go_sem])) (k _ _ rfl (⟨bel_tr0 hB.1 (Below.refl _ _), hB.2.later (Below.refl _ _)⟩))
        | 9, ho =>
          obtain rfl := Option.some.inj ho
          intro Az Lz vz wy Kz Ez hB k
          have e63 : Az.eval (.tmp 63) = .bool true := Ez.dep 2 63 (by kernel_rfl) rfl
          have e69 : Az.eval (.tmp 69) = .bool true := Ez.dep 8 69 (by kernel_rfl) rfl
          exact wpo_val (v := .bool true) (run_pickT e63 e69) (k _ _ rfl (⟨bel_tr0 hB.1 (Below.refl _ _), hB.2.later (Below.refl _ _)⟩))
        | 10, ho =>
          obtain rfl := Option.some.inj ho
          intro Az Lz vz wy Kz Ez hB k
          have e70 : Az.eval (.tmp 70) = .bool true := Ez.dep 9 70 (by kernel_rfl) rfl
          exact wpo_val (v := .bool true) (run_move e70) (k _ _ rfl (⟨bel_tr0 hB.1 (Below.refl _ _), hB.2.later (Below.refl _ _)⟩))
        | 11, ho =>
          obtain rfl := Option.some.inj ho
          intro Az Lz vz wy Kz Ez hB k
          have e10 : Az.eval (.tmp 10) = .pointer (some ⟨b2 + 3, 0, none⟩) := Ez.out 10 (by kernel_rfl)
          have q0 := hB.2.cell 1 0 rfl rfl
          exact wpo_val (v := .int .i64 (within n v1 v2 ok2)) (run_load e10 (by simp [go_sem, q0])) (k _ _ rfl (⟨bel_tr0 hB.1 (Below.refl _ _), hB.2.later (Below.refl _ _)⟩))
        | 12, ho =>
          obtain rfl := Option.some.inj ho
          intro Az Lz vz wy Kz Ez hB k
          have e5 : Az.eval (.tmp 5) = .pointer (some ⟨w.heap.size + 2, 0, none⟩) := Ez.out 5 (by kernel_rfl)
          have q0 := hB.2.cell 2 0 rfl rfl
          exact wpo_val (v := .int .i64 n) (run_load e5 (by simp [go_sem, q0])) (k _ _ rfl (⟨bel_tr0 hB.1 (Below.refl _ _), hB.2.later (Below.refl _ _)⟩))
        | 13, ho =>
          obtain rfl := Option.some.inj ho
          intro Az Lz vz wy Kz Ez hB k
          have e12 : Az.eval (.tmp 12) = .int .i64 v1 := Ez.out 12 (by kernel_rfl)
          exact wpo_val (v := .int .i64 v1) (run_move e12) (k _ _ rfl (⟨bel_tr0 hB.1 (Below.refl _ _), hB.2.later (Below.refl _ _)⟩))
        | 14, ho =>
          obtain rfl := Option.some.inj ho
          intro Az Lz vz wy Kz Ez hB k
          have e15 : Az.eval (.tmp 15) = .int .i64 v2 := Ez.out 15 (by kernel_rfl)
          exact wpo_val (v := .int .i64 v2) (run_move e15) (k _ _ rfl (⟨bel_tr0 hB.1 (Below.refl _ _), hB.2.later (Below.refl _ _)⟩))
        | 15, ho =>
          obtain rfl := Option.some.inj ho
          intro Az Lz vz wy Kz Ez hB k
          have e16 : Az.eval (.tmp 16) = .bool ok2 := Ez.out 16 (by kernel_rfl)
          exact wpo_val (v := .bool ok2) (run_move e16) (k _ _ rfl (⟨bel_tr0 hB.1 (Below.refl _ _), hB.2.later (Below.refl _ _)⟩))
        | 16, ho =>
          obtain rfl := Option.some.inj ho
          intro Az Lz vz wy Kz Ez hB k
          have e73 : Az.eval (.tmp 73) = .int .i64 n := Ez.dep 12 73 (by kernel_rfl) rfl
          have e74 : Az.eval (.tmp 74) = .int .i64 v1 := Ez.dep 13 74 (by kernel_rfl) rfl
          have e75 : Az.eval (.tmp 75) = .int .i64 v2 := Ez.dep 14 75 (by kernel_rfl) rfl
          have e76 : Az.eval (.tmp 76) = .bool ok2 := Ez.dep 15 76 (by kernel_rfl) rfl
          refine wpo_call (run_callW (fun _ _ => by kernel_rfl)) (R := fun ez w' => ez = .returned (.int .i64 (within n v1 v2 ok2)) ∧ w' = wy) ?_ ?_
          · simp only [List.map_toArray, List.map_cons, List.map_nil, eval_const, e73, e74, e75, e76]
            exact r14within_any n v1 v2 ok2 wy
          · rintro ez w' ⟨rfl, rfl⟩
            exact ⟨_, rfl, k _ _ rfl (⟨bel_tr0 hB.1 (Below.refl _ _), hB.2.later (Below.refl _ _)⟩)⟩
        | 17, ho =>
          obtain rfl := Option.some.inj ho
          intro Az Lz vz wy Kz Ez hB k
          have e72 : Az.eval (.tmp 72) = .int .i64 (within n v1 v2 ok2) := Ez.dep 11 72 (by kernel_rfl) rfl
          have e77 : Az.eval (.tmp 77) = .int .i64 (within n v1 v2 ok2) := Ez.dep 16 77 (by kernel_rfl) rfl
          exact wpo_val (v := .bool true) (run_bin e72 e77 (by simp [go_sem]) (by simp [go_sem])) (k _ _ rfl (⟨bel_tr0 hB.1 (Below.refl _ _), hB.2.later (Below.refl _ _)⟩))
        | 18, ho =>
          obtain rfl := Option.some.inj ho
          intro Az Lz vz wy Kz Ez hB k
          have e71 : Az.eval (.tmp 71) = .bool true := Ez.dep 10 71 (by kernel_rfl) rfl
          have e78 : Az.eval (.tmp 78) = .bool true := Ez.dep 17 78 (by kernel_rfl) rfl
          exact wpo_val (v := .bool true) (run_pickT e71 e78) (k _ _ rfl (⟨bel_tr0 hB.1 (Below.refl _ _), hB.2.later (Below.refl _ _)⟩))
        | 19, ho =>
          obtain rfl := Option.some.inj ho
          intro Az Lz vz wy Kz Ez hB k
          have e79 : Az.eval (.tmp 79) = .bool true := Ez.dep 18 79 (by kernel_rfl) rfl
          exact wpo_val (v := .bool true) (run_assign e79) (k _ _ rfl (⟨bel_tr0 hB.1 (Below.refl _ _), hB.2.later (Below.refl _ _)⟩))
        | n + 20, ho => simp at ho
      have K7 := Lib.hid (bel_tr0 K6.out hB.1)
      simp only [puts2, mix, Act.put, List.setIfInBounds_toArray, List.set_cons_zero, List.set_cons_succ, Nat.zero_add, Nat.reduceAdd, List.getElem?_cons_zero, List.getElem?_cons_succ]
      clear hL hB T6
      go_wp2_with fail
      go_returns
      exact ⟨rfl, K7.out⟩
    · have z : er = e2 := by rw [HE.out, if_pos z1]
      subst z1 z
      have q1 : (er != 0) = true := by simpa using z2
      have q2 : (er == 0) = false := by simpa using z2
      clear z2 HV6 TN HE
      go_wp2_with fail
      go_returns
      exact ⟨rfl, K6.out⟩
  · have z : er = e1 := by rw [HE.out, if_neg z1]
    subst z
    have q1 : (er != 0) = true := by simpa using z1
    clear z1 HV6 TN HE
    go_wp2_with fail
    go_returns
    exact ⟨rfl, K6.out⟩
end Go.Proofs.Ytbolifjkhoiphaa
