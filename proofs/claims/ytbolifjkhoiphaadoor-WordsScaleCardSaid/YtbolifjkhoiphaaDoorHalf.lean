/- Package real: halves of wide numbers, limits. -/
import Derived.Test.YtbolifjkhoiphaaDoorSpk3
import Derived.Test.YtbolifjkhoiphaaDoorWideE
import Derived.Test.YtbolifjkhoiphaaDoorRegF
import Derived.Test.YtbolifjkhoiphaaDoorRegW
import Derived.WalkKit
import Derived.WalkSpells
import Derived.WalkLawsBesides
import Derived.Handy
import Derived.Lib.Hide
import Derived.Deep.QuietTactic
import Derived.BigQuiet
import Derived.LoopTactic
import Derived.Outline
namespace Go.Proofs.YtbolifjkhoiphaaDoor
open Go.RowKit Go.Proofs.Flo Go.Proofs.Reg
set_option linter.unusedVariables false
set_option linter.unusedSimpArgs false
set_option maxRecDepth 100000
theorem pow_ge (s : Nat) : (1 : Int) ≤ 2 ^ s := Int.pow_pos (by decide)
theorem pow_le62 (s : Nat) (h : s ≤ 62) : (2 : Int) ^ s ≤ 4611686018427387904 := by
  have h1 : (2 : Nat) ^ s ≤ 2 ^ 62 := Nat.pow_le_pow_right (by decide) h
  have h2 : ((2 : Int) ^ s) = ((2 ^ s : Nat) : Int) := by simp
  rw [h2]
  omega
theorem shl_one (s : Nat) (h : s ≤ 62) (w : World) : (binOp BinOp.shl 2 (.int .i64 1) (.int .i64 s)).run Tryd.prog w = .ok (.int .i64 (2 ^ s)) w := by
  have e : IntKind.i64.wrap (2 ^ s) = 2 ^ s := by
    have h1 := pow_le62 s h
    have h0 := pow_ge s
    rw [IntKind.wrap_i64]; omega
  simp [go_sem, e]
theorem halve_range (V d : Int) (d1 : 1 ≤ d) (v0 : -170141183460469231731687303715884105728 ≤ V) (v1 : V < 170141183460469231731687303715884105728) : -170141183460469231731687303715884105728 ≤ V / d ∧ V / d < 170141183460469231731687303715884105728 := by
  constructor
  · rw [Int.le_ediv_iff_mul_le (by omega)]
    have : -170141183460469231731687303715884105728 * d ≤ -170141183460469231731687303715884105728 * 1 := Int.mul_le_mul_of_nonpos_left (by decide) d1
    omega
  · rw [Int.ediv_lt_iff_lt_mul (by omega)]
    have : 170141183460469231731687303715884105728 * 1 ≤ 170141183460469231731687303715884105728 * d := Int.mul_le_mul_of_nonneg_left d1 (by decide)
    omega
/-- in the course of the halving -/
structure HalfW (w wr : World) (h l : Int) : Prop where
  T : Tab wr [(w.heap.size, [.int .i64 h, .int .u64 l]), (w.heap.size + 1, [.int .i64 0, .int .u64 0])]
  B : Below w.heap.size w wr
set_option maxHeartbeats 1000000 in
theorem halved_any (h0 l0 V : Int) (T : Nat) (a0 : -9223372036854775808 ≤ h0) (a1 : h0 ≤ 9223372036854775807) (b0 : 0 ≤ l0) (b1 : l0 < 18446744073709551616) (e : h0 * 18446744073709551616 + l0 = V) (hT : T ≤ 100000) (w : World) :
    Calls Tryd.prog 90 #[.agg #[.int .i64 h0, .int .u64 l0], .int .i64 T] w fun en w' => (∃ h l : Int, en = .returned (.agg #[.int .i64 h, .int .u64 l]) ∧ h * 18446744073709551616 + l = V / 2 ^ T ∧ -9223372036854775808 ≤ h ∧ h ≤ 9223372036854775807 ∧ 0 ≤ l ∧ l < 18446744073709551616) ∧ Below w.heap.size w w' := by
  have HV := Lib.hid e
  have HD : Hid ([w.heap.size, w.heap.size + 1].Nodup) := Lib.hid (by simp)
  clear e
  go_enter Tryd.func90, Tryd.ntmps90
  go_wp2_with fail
  have KB : Hid (Below w.heap.size w ((w.alloc (.cells #[.int .i64 h0, .int .u64 l0] 155)).alloc (.cells #[.int .i64 0, .int .u64 0] 155))) := Lib.hid (by go_grown)
  have KT : Hid (Tab ((w.alloc (.cells #[.int .i64 h0, .int .u64 l0] 155)).alloc (.cells #[.int .i64 0, .int .u64 0] 155)) [(w.heap.size, [.int .i64 h0, .int .u64 l0]), (w.heap.size + 1, [.int .i64 0, .int .u64 0])]) := by
    refine Lib.hid (Tab.cons (Tab.new' (Tab.nil _) [.int .i64 0, .int .u64 0] 155 (by simp)) fun i v hi => ?_)
    have := ((Tab.nil w).new [.int .i64 h0, .int .u64 l0] 155).alloc (.cells #[.int .i64 0, .int .u64 0] 155)
    exact ⟨this.cell 0 i rfl hi, this.froz 0 i rfl hi⟩
  go_loopw [1] (fun s1 wr => ∃ (t : Nat) (h l : Int), s1 = .int .i64 t ∧ t ≤ T ∧ -9223372036854775808 ≤ h ∧ h ≤ 9223372036854775807 ∧ 0 ≤ l ∧ l < 18446744073709551616 ∧ Hid (h * 18446744073709551616 + l = V / 2 ^ (T - t)) ∧ Hid (HalfW w wr h l)) (fun s1 _ => (intOf s1).toNat)
  case atStart => exact ⟨T, h0, l0, rfl, Nat.le_refl _, a0, a1, b0, b1, Lib.hid (by rw [Nat.sub_self, HV.out]; simp), Lib.hid ⟨KT.out, KB.out⟩⟩
  case round =>
    clear KB KT
    obtain ⟨t, h, l, rfl, ht, p0, p1, p2, p3, HE, HW⟩ := hrel
    by_cases z : t = 0
    · subst z
      have KT := Lib.hid HW.out.T
      have KB := Lib.hid HW.out.B
      have HE' : Hid (h * 18446744073709551616 + l = V / 2 ^ T) := Lib.hid (by have := HE.out; rwa [Nat.sub_zero] at this)
      have x0 := KT.out.cell 0 0 rfl rfl
      have x1 := KT.out.cell 0 1 rfl rfl
      have z0 := KT.out.cell 1 0 rfl rfl
      have zf0 := KT.out.froz 1 0 rfl rfl
      have z1 := KT.out.cell 1 1 rfl rfl
      have zf1 := KT.out.froz 1 1 rfl rfl
      have lz := KT.out.lt 1 rfl
      clear HE HW HV
      go_wp2_with fail
      refine bodyPost_ret (v := .agg #[.int .i64 h, .int .u64 l]) (by simp [results, Tryd.results90, go_sem, z0, z1]) rfl ?_
      exact ⟨⟨h, l, rfl, HE'.out, p0, p1, p2, p3⟩, (by have hk := KB.out; repeat' (first | exact hk | (with_reducible refine Below.drew ?_) | (with_reducible refine Below.alloc ?_ ?_ _) | (with_reducible refine Below.setCell ?_ ?_ _) | (with_reducible refine below_drewN ?_ _) | go_size))⟩
    · obtain ⟨s, hs⟩ : ∃ s : Nat, s = min t 62 := ⟨_, rfl⟩
      have s1 : 1 ≤ s := by omega
      have s2 : s ≤ 62 := by omega
      have s3 : s ≤ t := by omega
      have sm : min (t : Int) 62 = (s : Int) := by omega
      have tp : (0 : Int) < t := by omega
      have q0 := pow_ge s
      have q1 := pow_le62 s s2
      have RG := halve_range (h * 18446744073709551616 + l) (2 ^ s) q0 (by omega) (by omega)
      obtain ⟨h2, l2, c0, c1, c2, c3, ce⟩ := hl ((h * 18446744073709551616 + l) / 2 ^ s) RG.1 RG.2
      obtain ⟨r2, hr2⟩ : ∃ r, r = (h * 18446744073709551616 + l) % 2 ^ s := ⟨_, rfl⟩
      have DV := Lib.hid (div_ok h l (2 ^ s) h2 l2 r2 p0 p1 p2 p3 (by omega) (by omega) (by omega) c0 c1 c2 c3 (by
        rw [ce, hr2]
        have := Int.mul_ediv_add_emod (h * 18446744073709551616 + l) (2 ^ s)
        rw [Int.mul_comm] at this
        omega) (.inl ⟨by rw [hr2]; exact Int.emod_nonneg _ (by omega), by rw [hr2]; exact Int.emod_lt_of_pos _ (by omega)⟩))
      have SH := Lib.hid (shl_one s s2)
      have HE2 : Hid (h2 * 18446744073709551616 + l2 = V / 2 ^ (T - (t - s))) := Lib.hid (by
        rw [ce, HE.out, Int.ediv_ediv_of_nonneg (Int.le_of_lt (Int.pow_pos (by decide))), ← Int.pow_add]
        congr 2
        omega)
      have KT := Lib.hid HW.out.T
      have KB := Lib.hid HW.out.B
      clear HE HW HV hs RG ce hr2 z q0 q1
      go_wp2_with fail
      refine wp_region_vals [some (.agg #[.int .i64 h, .int .u64 l]), some (.int .i64 (s : Int)), some (.int .i64 (2 ^ s)), some (.tuple #[.agg #[.int .i64 h2, .int .u64 l2], .int .i64 r2, .bool true]), some (.tuple #[.agg #[.int .i64 h2, .int .u64 l2], .int .i64 r2, .bool true]), some (.agg #[.int .i64 h2, .int .u64 l2]), some (.int .i64 r2), some (.bool true), none] (fun Lz _ wy => Below w.heap.size w wy ∧ Tab wy [(w.heap.size, if Lz 8 = true then [.int .i64 h2, .int .u64 l2] else [.int .i64 h, .int .u64 l]), (w.heap.size + 1, [.int .i64 0, .int .u64 0])])
        [some 11, some 12, some 13, some 14, some 10, some 15, some 16, some 17, none] (by kernel_rfl) (by kernel_rfl) (by kernel_rfl) (by kernel_rfl) (by kernel_rfl) (by kernel_rfl) ⟨KB.out.drew, KT.out.later ((Below.refl _ _).drew)⟩ (fun i o ho => ?_) (fun Lz vz wz hL hB => ?_)
      · match i, ho with
        | 0, ho =>
          obtain rfl := Option.some.inj ho
          intro Az Lz vz wy Kz Ez hB k
          have e2 : Az.eval (.tmp 2) = .pointer (some ⟨w.heap.size, 0, none⟩) := Ez.out 2 (by kernel_rfl)
          have z8 : Lz 8 = false := Ez.late 8 _ rfl (by kernel_rfl)
          have hT := hB.2
          simp only [z8, Bool.false_eq_true, if_false] at hT
          have c0_0 := hT.cell 0 0 rfl rfl
          have c0_1 := hT.cell 0 1 rfl rfl
          exact wpo_val (v := .agg #[.int .i64 h, .int .u64 l]) (run_load e2 (by simp [go_sem, c0_0, c0_1])) (k _ _ rfl hB)
        | 1, ho =>
          obtain rfl := Option.some.inj ho
          intro Az Lz vz wy Kz Ez hB k
          have e5 : Az.eval (.tmp 5) = .int .i64 (s : Int) := Ez.out 5 (by kernel_rfl)
          exact wpo_val (v := .int .i64 (s : Int)) (run_move e5) (k _ _ rfl hB)
        | 2, ho =>
          obtain rfl := Option.some.inj ho
          intro Az Lz vz wy Kz Ez hB k
          have e12 : Az.eval (.tmp 12) = .int .i64 (s : Int) := Ez.dep 1 12 (by kernel_rfl) rfl
          exact wpo_val (v := .int .i64 (2 ^ s)) (run_bin rfl e12 (by simp [go_sem]) (by exact SH.out wy)) (k _ _ rfl hB)
        | 3, ho =>
          obtain rfl := Option.some.inj ho
          intro Az Lz vz wy Kz Ez hB k
          have e11 : Az.eval (.tmp 11) = .agg #[.int .i64 h, .int .u64 l] := Ez.dep 0 11 (by kernel_rfl) rfl
          have e13 : Az.eval (.tmp 13) = .int .i64 (2 ^ s) := Ez.dep 2 13 (by kernel_rfl) rfl
          refine wpo_call (run_callW (fun _ _ => by kernel_rfl)) (R := fun ez w' => ez = .returned (.tuple #[.agg #[.int .i64 h2, .int .u64 l2], .int .i64 r2, .bool true]) ∧ Below wy.heap.size wy w') ?_ ?_
          · simp only [List.map_toArray, List.map_cons, List.map_nil, eval_const, e11, e13]
            exact DV.out wy
          · rintro ez w' ⟨rfl, hb⟩
            exact ⟨_, rfl, k _ _ rfl ⟨bel_tr0 hB.1 hb, hB.2.later hb⟩⟩
        | 4, ho =>
          obtain rfl := Option.some.inj ho
          intro Az Lz vz wy Kz Ez hB k
          have e14 : Az.eval (.tmp 14) = .tuple #[.agg #[.int .i64 h2, .int .u64 l2], .int .i64 r2, .bool true] := Ez.dep 3 14 (by kernel_rfl) rfl
          exact wpo_val (v := .tuple #[.agg #[.int .i64 h2, .int .u64 l2], .int .i64 r2, .bool true]) (run_move e14) (k _ _ rfl hB)
        | 5, ho =>
          obtain rfl := Option.some.inj ho
          intro Az Lz vz wy Kz Ez hB k
          have e10 : Az.eval (.tmp 10) = .tuple #[.agg #[.int .i64 h2, .int .u64 l2], .int .i64 r2, .bool true] := Ez.dep 4 10 (by kernel_rfl) rfl
          exact wpo_val (v := .agg #[.int .i64 h2, .int .u64 l2]) (run_ext e10 (by simp [go_sem])) (k _ _ rfl hB)
        | 6, ho =>
          obtain rfl := Option.some.inj ho
          intro Az Lz vz wy Kz Ez hB k
          have e10 : Az.eval (.tmp 10) = .tuple #[.agg #[.int .i64 h2, .int .u64 l2], .int .i64 r2, .bool true] := Ez.dep 4 10 (by kernel_rfl) rfl
          exact wpo_val (v := .int .i64 r2) (run_ext e10 (by simp [go_sem])) (k _ _ rfl hB)
        | 7, ho =>
          obtain rfl := Option.some.inj ho
          intro Az Lz vz wy Kz Ez hB k
          have e10 : Az.eval (.tmp 10) = .tuple #[.agg #[.int .i64 h2, .int .u64 l2], .int .i64 r2, .bool true] := Ez.dep 4 10 (by kernel_rfl) rfl
          exact wpo_val (v := .bool true) (run_ext e10 (by simp [go_sem])) (k _ _ rfl hB)
        | 8, ho =>
          obtain rfl := Option.some.inj ho
          intro Az Lz vz wy Kz Ez hB k
          have e2 : Az.eval (.tmp 2) = .pointer (some ⟨w.heap.size, 0, none⟩) := Ez.out 2 (by kernel_rfl)
          have e15 : Az.eval (.tmp 15) = .agg #[.int .i64 h2, .int .u64 l2] := Ez.dep 5 15 (by kernel_rfl) rfl
          have z8 : Lz 8 = false := Ez.not
          have hT := hB.2
          simp only [z8, Bool.false_eq_true, if_false] at hT
          have c0_0 := hT.cell 0 0 rfl rfl
          have f0_0 := hT.froz 0 0 rfl rfl
          have c0_1 := hT.cell 0 1 rfl rfl
          have f0_1 := hT.froz 0 1 rfl rfl
          refine wpo_skip (w' := ((wy.setCell ⟨w.heap.size, 0, none⟩ (.int .i64 h2)).setCell ⟨w.heap.size, 1, none⟩ (.int .u64 l2))) (run_store e2 e15 (by simp [go_sem, c0_0, f0_0, c0_1, f0_1])) (k _ _ trivial ⟨?_, ?_⟩)
          · have hk := hB.1
            repeat' (first | exact hk | (with_reducible refine Below.setCell ?_ ?_ _) | (simp; done) | (simp; omega) | omega | go_size)
          · have hU := hB.2
            simp only [z8, Bool.false_eq_true, if_false] at hU
            exact ((hU.set1 0 0 (.int .i64 h2) rfl HD.out).set1 0 1 (.int .u64 l2) rfl HD.out)
        | n + 9, ho => simp at ho
      · have l8 : Lz 8 = true := hL 8 (by decide)
        obtain ⟨hk, hT⟩ := hB
        simp only [l8, if_true] at hT
        have KB := Lib.hid hk
        have KT := Lib.hid hT
        clear hk hT hL
        simp only [puts2, mix, Act.put, List.setIfInBounds_toArray, List.set_cons_zero, List.set_cons_succ, Nat.zero_add, Nat.reduceAdd, List.getElem?_cons_zero, List.getElem?_cons_succ]
        go_wp2_with fail
        go_round
        case rel => exact ⟨t - s, h2, l2, by congr 1; omega, by omega, c0, c1, c2, c3, HE2, Lib.hid ⟨KT.out, KB.out⟩⟩
        case measure => simp [intOf]; omega
/-- brought between two limits -/
def lmt (V lo hi : Int) : Int := if V < lo then lo else if hi < V then hi else V
theorem of_below (n h l : Int) (h0 : -9223372036854775808 ≤ n) (h1 : n ≤ 9223372036854775807) (l0 : 0 ≤ l) (l1 : l < 18446744073709551616) (e : h * 18446744073709551616 + l = n) (w : World) :
    Calls Tryd.prog 86 #[.int .i64 n] w fun e w' => e = .returned (.agg #[.int .i64 h, .int .u64 l]) ∧ Below w.heap.size w w' :=
  (of_any n h l h0 h1 l0 l1 e w).mono fun e w' k => ⟨k.1, by rw [k.2]; go_grown⟩
theorem limited_any (h l V lo hi : Int) (p0 : -9223372036854775808 ≤ h) (p1 : h ≤ 9223372036854775807) (p2 : 0 ≤ l) (p3 : l < 18446744073709551616) (e : h * 18446744073709551616 + l = V) (a0 : -9223372036854775808 ≤ lo) (a1 : lo ≤ 9223372036854775807) (b0 : -9223372036854775808 ≤ hi) (b1 : hi ≤ 9223372036854775807) (w : World) :
    Calls Tryd.prog 68 #[.agg #[.int .i64 h, .int .u64 l], .int .i64 lo, .int .i64 hi] w fun en w' => en = .returned (.int .i64 (lmt V lo hi)) ∧ Below w.heap.size w w' := by
  obtain ⟨h1, l1, c0, c1, c2, c3, ce⟩ := hl lo (by omega) (by omega)
  obtain ⟨h2, l2, d0, d1, d2, d3, de⟩ := hl hi (by omega) (by omega)
  have OL := Lib.hid (of_below lo h1 l1 a0 a1 c2 c3 ce)
  have OH := Lib.hid (of_below hi h2 l2 b0 b1 d2 d3 de)
  have C1 := Lib.hid (cmp_below h l h1 l1 (cmpI V lo) p2 p3 c2 c3 (by rw [e, ce]))
  have C2 := Lib.hid (cmp_below h l h2 l2 (cmpI V hi) p2 p3 d2 d3 (by rw [e, de]))
  have LM : Hid (lmt V lo hi = if V < lo then lo else if hi < V then hi else V) := Lib.hid rfl
  obtain ⟨m1, hm1⟩ : ∃ m, cmpI V lo = m := ⟨_, rfl⟩
  obtain ⟨m2, hm2⟩ : ∃ m, cmpI V hi = m := ⟨_, rfl⟩
  rw [hm1] at C1
  rw [hm2] at C2
  have s1 : decide (m1 < 0) = decide (V < lo) := by rw [← hm1]; unfold cmpI; by_cases x : V < lo <;> by_cases y : lo < V <;> simp [x, y] <;> omega
  have s2 : decide (0 < m2) = decide (hi < V) := by rw [← hm2]; unfold cmpI; by_cases x : V < hi <;> by_cases y : hi < V <;> simp [x, y] <;> omega
  have HE := Lib.hid e
  clear d0 d1 d2 d3 c0 c1 c2 c3 ce de hm1 hm2 e
  by_cases k1 : V < lo
  · rw [decide_eq_true k1] at s1
    have d1 : m1 < 0 := of_decide_eq_true s1
    rw [LM.out, if_pos k1]
    clear LM HE s1 s2 k1
    go_enter Tryd.func68, Tryd.ntmps68
    go_wp2_with fail
    have KB := Lib.hid (bel_new w (.cells #[.int .i64 h, .int .u64 l] 155))
    have KT := Lib.hid ((Tab.nil w).new [.int .i64 h, .int .u64 l] 155)
    refine wp_region_vals [some (.agg #[.int .i64 h, .int .u64 l]), some (.int .i64 lo), some (.agg #[.int .i64 h1, .int .u64 l1]), some (.int .i64 m1), some (.bool true)] (fun Lz _ wy => Below w.heap.size w wy ∧ Tab wy [(w.heap.size, [.int .i64 h, .int .u64 l])])
      [some 9, some 10, some 11, some 12, some 13] (by kernel_rfl) (by kernel_rfl) (by kernel_rfl) (by kernel_rfl) (by kernel_rfl) (by kernel_rfl) ⟨KB.out.drew, KT.out.later ((Below.refl _ _).drew)⟩ (fun i o ho => ?_) (fun Lz vz wz hL hB => ?_)
    · match i, ho with
      | 0, ho =>
        obtain rfl := Option.some.inj ho
        intro Az Lz vz wy Kz Ez hB k
        have e3 : Az.eval (.tmp 3) = .pointer (some ⟨w.heap.size, 0, none⟩) := Ez.out 3 (by kernel_rfl)
        have c0_0 := hB.2.cell 0 0 rfl rfl
        have c0_1 := hB.2.cell 0 1 rfl rfl
        exact wpo_val (v := .agg #[.int .i64 h, .int .u64 l]) (run_load e3 (by simp [go_sem, c0_0, c0_1])) (k _ _ rfl hB)
      | 1, ho =>
        obtain rfl := Option.some.inj ho
        intro Az Lz vz wy Kz Ez hB k
        have e1 : Az.eval (.tmp 1) = .int .i64 lo := Ez.out 1 (by kernel_rfl)
        exact wpo_val (v := .int .i64 lo) (run_move e1) (k _ _ rfl hB)
      | 2, ho =>
        obtain rfl := Option.some.inj ho
        intro Az Lz vz wy Kz Ez hB k
        have e10 : Az.eval (.tmp 10) = .int .i64 lo := Ez.dep 1 10 (by kernel_rfl) rfl
        refine wpo_call (run_callW (fun _ _ => by kernel_rfl)) (R := fun ez w' => ez = .returned (.agg #[.int .i64 h1, .int .u64 l1]) ∧ Below wy.heap.size wy w') ?_ ?_
        · simp only [List.map_toArray, List.map_cons, List.map_nil, eval_const, e10]
          exact OL.out wy
        · rintro ez w' ⟨rfl, hb⟩
          exact ⟨_, rfl, k _ _ rfl ⟨bel_tr0 hB.1 hb, hB.2.later hb⟩⟩
      | 3, ho =>
        obtain rfl := Option.some.inj ho
        intro Az Lz vz wy Kz Ez hB k
        have e9 : Az.eval (.tmp 9) = .agg #[.int .i64 h, .int .u64 l] := Ez.dep 0 9 (by kernel_rfl) rfl
        have e11 : Az.eval (.tmp 11) = .agg #[.int .i64 h1, .int .u64 l1] := Ez.dep 2 11 (by kernel_rfl) rfl
        refine wpo_call (run_callW (fun _ _ => by kernel_rfl)) (R := fun ez w' => ez = .returned (.int .i64 m1) ∧ Below wy.heap.size wy w') ?_ ?_
        · simp only [List.map_toArray, List.map_cons, List.map_nil, eval_const, e9, e11]
          exact C1.out wy
        · rintro ez w' ⟨rfl, hb⟩
          exact ⟨_, rfl, k _ _ rfl ⟨bel_tr0 hB.1 hb, hB.2.later hb⟩⟩
      | 4, ho =>
        obtain rfl := Option.some.inj ho
        intro Az Lz vz wy Kz Ez hB k
        have e12 : Az.eval (.tmp 12) = .int .i64 m1 := Ez.dep 3 12 (by kernel_rfl) rfl
        exact wpo_val (v := .bool true) (run_bin e12 rfl (by simp [go_sem]) (by simp [go_sem, d1])) (k _ _ rfl hB)
      | n + 5, ho => simp at ho
    · obtain ⟨hk, hT⟩ := hB
      have KB := Lib.hid hk
      have KT := Lib.hid hT
      clear hk hT hL
      simp only [puts2, mix, Act.put, List.setIfInBounds_toArray, List.set_cons_zero, List.set_cons_succ, Nat.zero_add, Nat.reduceAdd, List.getElem?_cons_zero, List.getElem?_cons_succ]
      go_wp2_with fail
      go_returns
      exact ⟨rfl, KB.out⟩
  · rw [decide_eq_false k1] at s1
    have d1 : ¬ m1 < 0 := of_decide_eq_false s1
    by_cases k2 : hi < V
    · rw [decide_eq_true k2] at s2
      have d2 : 0 < m2 := of_decide_eq_true s2
      rw [LM.out, if_neg k1, if_pos k2]
      clear LM HE s1 s2 k1 k2
      go_enter Tryd.func68, Tryd.ntmps68
      go_wp2_with fail
      have KB := Lib.hid (bel_new w (.cells #[.int .i64 h, .int .u64 l] 155))
      have KT := Lib.hid ((Tab.nil w).new [.int .i64 h, .int .u64 l] 155)
      refine wp_region_vals [some (.agg #[.int .i64 h, .int .u64 l]), some (.int .i64 lo), some (.agg #[.int .i64 h1, .int .u64 l1]), some (.int .i64 m1), some (.bool false)] (fun Lz _ wy => Below w.heap.size w wy ∧ Tab wy [(w.heap.size, [.int .i64 h, .int .u64 l])])
        [some 9, some 10, some 11, some 12, some 13] (by kernel_rfl) (by kernel_rfl) (by kernel_rfl) (by kernel_rfl) (by kernel_rfl) (by kernel_rfl) ⟨KB.out.drew, KT.out.later ((Below.refl _ _).drew)⟩ (fun i o ho => ?_) (fun Lz vz wz hL hB => ?_)
      · match i, ho with
        | 0, ho =>
          obtain rfl := Option.some.inj ho
          intro Az Lz vz wy Kz Ez hB k
          have e3 : Az.eval (.tmp 3) = .pointer (some ⟨w.heap.size, 0, none⟩) := Ez.out 3 (by kernel_rfl)
          have c0_0 := hB.2.cell 0 0 rfl rfl
          have c0_1 := hB.2.cell 0 1 rfl rfl
          exact wpo_val (v := .agg #[.int .i64 h, .int .u64 l]) (run_load e3 (by simp [go_sem, c0_0, c0_1])) (k _ _ rfl hB)
        | 1, ho =>
          obtain rfl := Option.some.inj ho
          intro Az Lz vz wy Kz Ez hB k
          have e1 : Az.eval (.tmp 1) = .int .i64 lo := Ez.out 1 (by kernel_rfl)
          exact wpo_val (v := .int .i64 lo) (run_move e1) (k _ _ rfl hB)
        | 2, ho =>
          obtain rfl := Option.some.inj ho
          intro Az Lz vz wy Kz Ez hB k
          have e10 : Az.eval (.tmp 10) = .int .i64 lo := Ez.dep 1 10 (by kernel_rfl) rfl
          refine wpo_call (run_callW (fun _ _ => by kernel_rfl)) (R := fun ez w' => ez = .returned (.agg #[.int .i64 h1, .int .u64 l1]) ∧ Below wy.heap.size wy w') ?_ ?_
          · simp only [List.map_toArray, List.map_cons, List.map_nil, eval_const, e10]
            exact OL.out wy
          · rintro ez w' ⟨rfl, hb⟩
            exact ⟨_, rfl, k _ _ rfl ⟨bel_tr0 hB.1 hb, hB.2.later hb⟩⟩
        | 3, ho =>
          obtain rfl := Option.some.inj ho
          intro Az Lz vz wy Kz Ez hB k
          have e9 : Az.eval (.tmp 9) = .agg #[.int .i64 h, .int .u64 l] := Ez.dep 0 9 (by kernel_rfl) rfl
          have e11 : Az.eval (.tmp 11) = .agg #[.int .i64 h1, .int .u64 l1] := Ez.dep 2 11 (by kernel_rfl) rfl
          refine wpo_call (run_callW (fun _ _ => by kernel_rfl)) (R := fun ez w' => ez = .returned (.int .i64 m1) ∧ Below wy.heap.size wy w') ?_ ?_
          · simp only [List.map_toArray, List.map_cons, List.map_nil, eval_const, e9, e11]
            exact C1.out wy
          · rintro ez w' ⟨rfl, hb⟩
            exact ⟨_, rfl, k _ _ rfl ⟨bel_tr0 hB.1 hb, hB.2.later hb⟩⟩
        | 4, ho =>
          obtain rfl := Option.some.inj ho
          intro Az Lz vz wy Kz Ez hB k
          have e12 : Az.eval (.tmp 12) = .int .i64 m1 := Ez.dep 3 12 (by kernel_rfl) rfl
          exact wpo_val (v := .bool false) (run_bin e12 rfl (by simp [go_sem]) (by simp [go_sem, d1])) (k _ _ rfl hB)
        | n + 5, ho => simp at ho
      · obtain ⟨hk, hT⟩ := hB
        have KB := Lib.hid hk
        have KT := Lib.hid hT
        clear hk hT hL
        simp only [puts2, mix, Act.put, List.setIfInBounds_toArray, List.set_cons_zero, List.set_cons_succ, Nat.zero_add, Nat.reduceAdd, List.getElem?_cons_zero, List.getElem?_cons_succ]
        go_wp2_with fail
        refine wp_region_vals [some (.agg #[.int .i64 h, .int .u64 l]), some (.int .i64 hi), some (.agg #[.int .i64 h2, .int .u64 l2]), some (.int .i64 m2), some (.bool true)] (fun Lz _ wy => Below w.heap.size w wy ∧ Tab wy [(w.heap.size, [.int .i64 h, .int .u64 l])])
          [some 15, some 16, some 17, some 18, some 19] (by kernel_rfl) (by kernel_rfl) (by kernel_rfl) (by kernel_rfl) (by kernel_rfl) (by kernel_rfl) ⟨KB.out.drew, KT.out.later ((Below.refl _ _).drew)⟩ (fun i o ho => ?_) (fun Lz vz wz hL hB => ?_)
        · match i, ho with
          | 0, ho =>
            obtain rfl := Option.some.inj ho
            intro Az Lz vz wy Kz Ez hB k
            have e3 : Az.eval (.tmp 3) = .pointer (some ⟨w.heap.size, 0, none⟩) := Ez.out 3 (by kernel_rfl)
            have c0_0 := hB.2.cell 0 0 rfl rfl
            have c0_1 := hB.2.cell 0 1 rfl rfl
            exact wpo_val (v := .agg #[.int .i64 h, .int .u64 l]) (run_load e3 (by simp [go_sem, c0_0, c0_1])) (k _ _ rfl hB)
          | 1, ho =>
            obtain rfl := Option.some.inj ho
            intro Az Lz vz wy Kz Ez hB k
            have e2 : Az.eval (.tmp 2) = .int .i64 hi := Ez.out 2 (by kernel_rfl)
            exact wpo_val (v := .int .i64 hi) (run_move e2) (k _ _ rfl hB)
          | 2, ho =>
            obtain rfl := Option.some.inj ho
            intro Az Lz vz wy Kz Ez hB k
            have e16 : Az.eval (.tmp 16) = .int .i64 hi := Ez.dep 1 16 (by kernel_rfl) rfl
            refine wpo_call (run_callW (fun _ _ => by kernel_rfl)) (R := fun ez w' => ez = .returned (.agg #[.int .i64 h2, .int .u64 l2]) ∧ Below wy.heap.size wy w') ?_ ?_
            · simp only [List.map_toArray, List.map_cons, List.map_nil, eval_const, e16]
              exact OH.out wy
            · rintro ez w' ⟨rfl, hb⟩
              exact ⟨_, rfl, k _ _ rfl ⟨bel_tr0 hB.1 hb, hB.2.later hb⟩⟩
          | 3, ho =>
            obtain rfl := Option.some.inj ho
            intro Az Lz vz wy Kz Ez hB k
            have e15 : Az.eval (.tmp 15) = .agg #[.int .i64 h, .int .u64 l] := Ez.dep 0 15 (by kernel_rfl) rfl
            have e17 : Az.eval (.tmp 17) = .agg #[.int .i64 h2, .int .u64 l2] := Ez.dep 2 17 (by kernel_rfl) rfl
            refine wpo_call (run_callW (fun _ _ => by kernel_rfl)) (R := fun ez w' => ez = .returned (.int .i64 m2) ∧ Below wy.heap.size wy w') ?_ ?_
            · simp only [List.map_toArray, List.map_cons, List.map_nil, eval_const, e15, e17]
              exact C2.out wy
            · rintro ez w' ⟨rfl, hb⟩
              exact ⟨_, rfl, k _ _ rfl ⟨bel_tr0 hB.1 hb, hB.2.later hb⟩⟩
          | 4, ho =>
            obtain rfl := Option.some.inj ho
            intro Az Lz vz wy Kz Ez hB k
            have e18 : Az.eval (.tmp 18) = .int .i64 m2 := Ez.dep 3 18 (by kernel_rfl) rfl
            exact wpo_val (v := .bool true) (run_bin e18 rfl (by simp [go_sem]) (by simp [go_sem, d2])) (k _ _ rfl hB)
          | n + 5, ho => simp at ho
        · obtain ⟨hk, hT⟩ := hB
          have KB := Lib.hid hk
          have KT := Lib.hid hT
          clear hk hT hL
          simp only [puts2, mix, Act.put, List.setIfInBounds_toArray, List.set_cons_zero, List.set_cons_succ, Nat.zero_add, Nat.reduceAdd, List.getElem?_cons_zero, List.getElem?_cons_succ]
          go_wp2_with fail
          go_returns
          exact ⟨rfl, KB.out⟩

    · rw [decide_eq_false k2] at s2
      have d2 : ¬ 0 < m2 := of_decide_eq_false s2
      rw [LM.out, if_neg k1, if_neg k2]
      have IN := Lib.hid (int_ok h l V p0 p1 p2 p3 (by omega) (by omega) HE.out)
      clear LM HE s1 s2 k1 k2
      go_enter Tryd.func68, Tryd.ntmps68
      go_wp2_with fail
      have KB := Lib.hid (bel_new w (.cells #[.int .i64 h, .int .u64 l] 155))
      have KT := Lib.hid ((Tab.nil w).new [.int .i64 h, .int .u64 l] 155)
      refine wp_region_vals [some (.agg #[.int .i64 h, .int .u64 l]), some (.int .i64 lo), some (.agg #[.int .i64 h1, .int .u64 l1]), some (.int .i64 m1), some (.bool false)] (fun Lz _ wy => Below w.heap.size w wy ∧ Tab wy [(w.heap.size, [.int .i64 h, .int .u64 l])])
        [some 9, some 10, some 11, some 12, some 13] (by kernel_rfl) (by kernel_rfl) (by kernel_rfl) (by kernel_rfl) (by kernel_rfl) (by kernel_rfl) ⟨KB.out.drew, KT.out.later ((Below.refl _ _).drew)⟩ (fun i o ho => ?_) (fun Lz vz wz hL hB => ?_)
      · match i, ho with
        | 0, ho =>
          obtain rfl := Option.some.inj ho
          intro Az Lz vz wy Kz Ez hB k
          have e3 : Az.eval (.tmp 3) = .pointer (some ⟨w.heap.size, 0, none⟩) := Ez.out 3 (by kernel_rfl)
          have c0_0 := hB.2.cell 0 0 rfl rfl
          have c0_1 := hB.2.cell 0 1 rfl rfl
          exact wpo_val (v := .agg #[.int .i64 h, .int .u64 l]) (run_load e3 (by simp [go_sem, c0_0, c0_1])) (k _ _ rfl hB)
        | 1, ho =>
          obtain rfl := Option.some.inj ho
          intro Az Lz vz wy Kz Ez hB k
          have e1 : Az.eval (.tmp 1) = .int .i64 lo := Ez.out 1 (by kernel_rfl)
          exact wpo_val (v := .int .i64 lo) (run_move e1) (k _ _ rfl hB)
        | 2, ho =>
          obtain rfl := Option.some.inj ho
          intro Az Lz vz wy Kz Ez hB k
          have e10 : Az.eval (.tmp 10) = .int .i64 lo := Ez.dep 1 10 (by kernel_rfl) rfl
          refine wpo_call (run_callW (fun _ _ => by kernel_rfl)) (R := fun ez w' => ez = .returned (.agg #[.int .i64 h1, .int .u64 l1]) ∧ Below wy.heap.size wy w') ?_ ?_
          · simp only [List.map_toArray, List.map_cons, List.map_nil, eval_const, e10]
            exact OL.out wy
          · rintro ez w' ⟨rfl, hb⟩
            exact ⟨_, rfl, k _ _ rfl ⟨bel_tr0 hB.1 hb, hB.2.later hb⟩⟩
        | 3, ho =>
          obtain rfl := Option.some.inj ho
          intro Az Lz vz wy Kz Ez hB k
          have e9 : Az.eval (.tmp 9) = .agg #[.int .i64 h, .int .u64 l] := Ez.dep 0 9 (by kernel_rfl) rfl
          have e11 : Az.eval (.tmp 11) = .agg #[.int .i64 h1, .int .u64 l1] := Ez.dep 2 11 (by kernel_rfl) rfl
          refine wpo_call (run_callW (fun _ _ => by kernel_rfl)) (R := fun ez w' => ez = .returned (.int .i64 m1) ∧ Below wy.heap.size wy w') ?_ ?_
          · simp only [List.map_toArray, List.map_cons, List.map_nil, eval_const, e9, e11]
            exact C1.out wy
          · rintro ez w' ⟨rfl, hb⟩
            exact ⟨_, rfl, k _ _ rfl ⟨bel_tr0 hB.1 hb, hB.2.later hb⟩⟩
        | 4, ho =>
          obtain rfl := Option.some.inj ho
          intro Az Lz vz wy Kz Ez hB k
          have e12 : Az.eval (.tmp 12) = .int .i64 m1 := Ez.dep 3 12 (by kernel_rfl) rfl
          exact wpo_val (v := .bool false) (run_bin e12 rfl (by simp [go_sem]) (by simp [go_sem, d1])) (k _ _ rfl hB)
        | n + 5, ho => simp at ho
      · obtain ⟨hk, hT⟩ := hB
        have KB := Lib.hid hk
        have KT := Lib.hid hT
        clear hk hT hL
        simp only [puts2, mix, Act.put, List.setIfInBounds_toArray, List.set_cons_zero, List.set_cons_succ, Nat.zero_add, Nat.reduceAdd, List.getElem?_cons_zero, List.getElem?_cons_succ]
        go_wp2_with fail
        refine wp_region_vals [some (.agg #[.int .i64 h, .int .u64 l]), some (.int .i64 hi), some (.agg #[.int .i64 h2, .int .u64 l2]), some (.int .i64 m2), some (.bool false)] (fun Lz _ wy => Below w.heap.size w wy ∧ Tab wy [(w.heap.size, [.int .i64 h, .int .u64 l])])
          [some 15, some 16, some 17, some 18, some 19] (by kernel_rfl) (by kernel_rfl) (by kernel_rfl) (by kernel_rfl) (by kernel_rfl) (by kernel_rfl) ⟨KB.out.drew, KT.out.later ((Below.refl _ _).drew)⟩ (fun i o ho => ?_) (fun Lz vz wz hL hB => ?_)
        · match i, ho with
          | 0, ho =>
            obtain rfl := Option.some.inj ho
            intro Az Lz vz wy Kz Ez hB k
            have e3 : Az.eval (.tmp 3) = .pointer (some ⟨w.heap.size, 0, none⟩) := Ez.out 3 (by kernel_rfl)
            have c0_0 := hB.2.cell 0 0 rfl rfl
            have c0_1 := hB.2.cell 0 1 rfl rfl
            exact wpo_val (v := .agg #[.int .i64 h, .int .u64 l]) (run_load e3 (by simp [go_sem, c0_0, c0_1])) (k _ _ rfl hB)
          | 1, ho =>
            obtain rfl := Option.some.inj ho
            intro Az Lz vz wy Kz Ez hB k
            have e2 : Az.eval (.tmp 2) = .int .i64 hi := Ez.out 2 (by kernel_rfl)
            exact wpo_val (v := .int .i64 hi) (run_move e2) (k _ _ rfl hB)
          | 2, ho =>
            obtain rfl := Option.some.inj ho
            intro Az Lz vz wy Kz Ez hB k
            have e16 : Az.eval (.tmp 16) = .int .i64 hi := Ez.dep 1 16 (by kernel_rfl) rfl
            refine wpo_call (run_callW (fun _ _ => by kernel_rfl)) (R := fun ez w' => ez = .returned (.agg #[.int .i64 h2, .int .u64 l2]) ∧ Below wy.heap.size wy w') ?_ ?_
            · simp only [List.map_toArray, List.map_cons, List.map_nil, eval_const, e16]
              exact OH.out wy
            · rintro ez w' ⟨rfl, hb⟩
              exact ⟨_, rfl, k _ _ rfl ⟨bel_tr0 hB.1 hb, hB.2.later hb⟩⟩
          | 3, ho =>
            obtain rfl := Option.some.inj ho
            intro Az Lz vz wy Kz Ez hB k
            have e15 : Az.eval (.tmp 15) = .agg #[.int .i64 h, .int .u64 l] := Ez.dep 0 15 (by kernel_rfl) rfl
            have e17 : Az.eval (.tmp 17) = .agg #[.int .i64 h2, .int .u64 l2] := Ez.dep 2 17 (by kernel_rfl) rfl
            refine wpo_call (run_callW (fun _ _ => by kernel_rfl)) (R := fun ez w' => ez = .returned (.int .i64 m2) ∧ Below wy.heap.size wy w') ?_ ?_
            · simp only [List.map_toArray, List.map_cons, List.map_nil, eval_const, e15, e17]
              exact C2.out wy
            · rintro ez w' ⟨rfl, hb⟩
              exact ⟨_, rfl, k _ _ rfl ⟨bel_tr0 hB.1 hb, hB.2.later hb⟩⟩
          | 4, ho =>
            obtain rfl := Option.some.inj ho
            intro Az Lz vz wy Kz Ez hB k
            have e18 : Az.eval (.tmp 18) = .int .i64 m2 := Ez.dep 3 18 (by kernel_rfl) rfl
            exact wpo_val (v := .bool false) (run_bin e18 rfl (by simp [go_sem]) (by simp [go_sem, d2])) (k _ _ rfl hB)
          | n + 5, ho => simp at ho
        · obtain ⟨hk, hT⟩ := hB
          have KB := Lib.hid hk
          have KT := Lib.hid hT
          clear hk hT hL
          simp only [puts2, mix, Act.put, List.setIfInBounds_toArray, List.set_cons_zero, List.set_cons_succ, Nat.zero_add, Nat.reduceAdd, List.getElem?_cons_zero, List.getElem?_cons_succ]
          have x0 := KT.out.cell 0 0 rfl rfl
          have x1 := KT.out.cell 0 1 rfl rfl
          go_wp2_with fail
          refine (IN.out _).mono ?_
          rintro e w5 ⟨rfl, hb⟩
          have KB := Lib.hid (bel_tr0 KB.out hb)
          clear hb
          go_wp2_with fail
          go_returns
          exact ⟨rfl, KB.out⟩

end Go.Proofs.YtbolifjkhoiphaaDoor
