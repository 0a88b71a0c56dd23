/- The reference's lengths: Length, Told, Part. -/
import Derived.Test.YtbolifjkhoiphaaRefD
import Derived.Test.YtbolifjkhoiphaaRegC
import Derived.Test.YtbolifjkhoiphaaKit3
import Derived.Test.YtbolifjkhoiphaaWideE
import Derived.WalkKit
import Derived.WalkSpells
import Derived.WalkLawsBesides
import Derived.Handy
import Derived.Lib.Hide
import Derived.Deep.QuietTactic
import Derived.BigQuiet
import Derived.LoopTactic
import Derived.RegionTactic
import Derived.BigRegion
import Derived.Deep.RegionHeld3
import Derived.Deep.RegionWith
import Derived.Outline
import Derived.Deep.DeepCutAuto
namespace Go.Proofs.Ytbolifjkhoiphaa
open Go.RowKit Go.Proofs.Big Go.Proofs.Reg
set_option linter.unusedVariables false
set_option linter.unusedSimpArgs false
set_option maxRecDepth 100000
section
variable {ops : Array Oper} {a0 : Act} {w0 : World} {kind : Nat → Kind} {o : Oper}
theorem ok_bigG {N : Int} {f : FuncId} {xs : Array Operand} {ts : Array TypeId} {x : Option Tmp} {ty : TypeId} {ps : String} {af : Array Edge} {gd : Option (Nat × Bool)} (hcf : ∀ (args : Array Value) (w : World), (callFunc f args).run Try.prog w = .ok (.enter f args) w)
    (h : ∀ A L val w, Env ops a0 A L val → (∀ d, depB ⟨x, .call ⟨.value (.func f), xs, ts⟩, ty, ps, af, gd⟩ d = true → L d = true ∧ Fact kind w0 L val w d) → Below w0.heap.size w0 w → Calls Try.prog f (xs.map A.eval) w (RetBig w N)) :
    OpOk Try.prog ops a0 w0 kind ⟨x, .call ⟨.value (.func f), xs, ts⟩, ty, ps, af, gd⟩ (bigK N) := by
  refine ⟨fun v w w' h hb => bigC_later h hb, fun v w q n a l c n' a' l' c' h hq => bigC_put h hq, fun A L val w env facts hb => ⟨f, _, ?_, (h A L val w env facts hb).mono ?_⟩⟩
  · have e : A.eval (.func f) = .func (.func f) #[] #[] := rfl
    simp only [execOp, resolve, e]
    simp [go_sem, hcf]
  rintro e w' ⟨n, a, l, c, rfl, hv, hb'⟩
  exact ⟨_, rfl, ⟨n, a, l, c, rfl, hv⟩, hb'⟩
theorem ok_leqZ {j : Nat} {t : Tmp} {r : Int} {b : Bool} {x : Option Tmp} {ty : TypeId} {ps : String} {af : Array Edge} {gd : Option (Nat × Bool)} (hj : dstAt ops j = some t) (hd : depB ⟨x, .binOp .leq 3 (.tmp t) (.const (.int .i64 0)) 3, ty, ps, af, gd⟩ j = true) (hk : kind j = keptK (.int .i64 r)) (hb : decide (r ≤ 0) = b) :
    OpOk Try.prog ops a0 w0 kind ⟨x, .binOp .leq 3 (.tmp t) (.const (.int .i64 0)) 3, ty, ps, af, gd⟩ (constK (.bool b)) := by
  subst hb
  refine ok_const fun A L val w env facts hb => ?_
  have e1 := dep_kept env facts j t _ hd hj hk
  have e2 : A.eval (.const (.int .i64 0)) = .int .i64 0 := rfl
  simp only [execOp, e1, e2]
  simp [go_sem]
theorem ok_geqZ {j : Nat} {t : Tmp} {r : Int} {b : Bool} {x : Option Tmp} {ty : TypeId} {ps : String} {af : Array Edge} {gd : Option (Nat × Bool)} (hj : dstAt ops j = some t) (hd : depB ⟨x, .binOp .geq 3 (.tmp t) (.const (.int .i64 0)) 3, ty, ps, af, gd⟩ j = true) (hk : kind j = keptK (.int .i64 r)) (hb : decide (0 ≤ r) = b) :
    OpOk Try.prog ops a0 w0 kind ⟨x, .binOp .geq 3 (.tmp t) (.const (.int .i64 0)) 3, ty, ps, af, gd⟩ (constK (.bool b)) := by
  subst hb
  refine ok_const fun A L val w env facts hb => ?_
  have e1 := dep_kept env facts j t _ hd hj hk
  have e2 : A.eval (.const (.int .i64 0)) = .int .i64 0 := rfl
  simp only [execOp, e1, e2]
  simp [go_sem]
end
theorem power44 (w : World) : Calls Try.prog 74 #[.int .i64 44] w (RetBig w 17592186044416) := by
  have := power_any 44 (by decide) w
  rw [show (2 : Int) ^ 44 = 17592186044416 from by decide] at this
  exact this
theorem cmpI_leq (n m : Int) : decide (cmpI n m ≤ 0) = decide (n ≤ m) := by
  unfold cmpI
  by_cases h : n ≤ m
  · rw [decide_eq_true h]; apply decide_eq_true; split <;> (try split) <;> omega
  · rw [decide_eq_false h]; apply decide_eq_false; split <;> (try split) <;> omega
theorem cmpI_geq (n m : Int) : decide (0 ≤ cmpI n m) = decide (m ≤ n) := by
  unfold cmpI
  by_cases h : m ≤ n
  · rw [decide_eq_true h]; apply decide_eq_true; split <;> (try split) <;> omega
  · rw [decide_eq_false h]; apply decide_eq_false; split <;> (try split) <;> omega
def lenB (n : Int) : Bool := decide (n ≤ 17592186044416) && decide (-17592186044416 ≤ n)
set_option maxHeartbeats 2000000 in
theorem len4_any (ng : Bool) (a : Option Addr) (la ca : Nat) (n : Int) (w : World) (h : BigV w ng a la ca n) (sa : la ≤ 1000) :
    Calls Try.prog 62 #[.agg #[.bool ng, .slice a la ca]] w fun e w' => e = .returned (.bool (lenB n)) ∧ Below w.heap.size w w' := by
  have H := Lib.hid h
  have SM := Lib.hid (sm_of 17592186044416 (by omega) (by omega))
  have SN := Lib.hid (sm_of (-17592186044416) (by omega) (by omega))
  clear h
  go_enter Try.func62, Try.ntmps62
  go_wp2_with fail
  refine (power44 _).mono ?_
  rintro e w1 ⟨ng1, a1, l1, c1, rfl, hv1, hb1⟩
  have T0 := Lib.hid (show BN (w1.alloc (.cells #[.bool ng1, .slice a1 l1 c1] 112)) w.heap.size ng a la ca n from
    (⟨(BV.new w ng a la ca 112).later hb1, (H.out.alloc _).later hb1⟩ : BN w1 w.heap.size ng a la ca n).later ((Below.refl _ _).alloc (Nat.le_refl _) _))
  have T1 := Lib.hid (show BN (w1.alloc (.cells #[.bool ng1, .slice a1 l1 c1] 112)) w1.heap.size ng1 a1 l1 c1 17592186044416 from ⟨BV.new w1 ng1 a1 l1 c1 112, hv1.alloc _⟩)
  have K1 := Lib.hid (bel_alloc (bel_trans (bel_alloc (Below.refl _ _) _) hb1) (.cells #[.bool ng1, .slice a1 l1 c1] 112))
  clear hv1 hb1
  go_wp2_with fail
  by_cases c : n ≤ 17592186044416
  · have hl : lenB n = decide (-17592186044416 ≤ n) := by unfold lenB; rw [decide_eq_true c]; rfl
    have HL := Lib.hid hl
    clear hl
    refine wp_region_guarded [constK (.agg #[.bool ng, .slice a la ca]), constK (.agg #[.bool ng1, .slice a1 l1 c1]), keptK (.int .i64 (cmpI n 17592186044416)), constK (.bool true), constK (.bool true), constK (.agg #[.bool ng, .slice a la ca]), constK (.agg #[.bool ng1, .slice a1 l1 c1]), bigK (-17592186044416), keptK (.int .i64 (cmpI n (-17592186044416))), constK (.bool (decide (-17592186044416 ≤ n))), constK (.bool (decide (-17592186044416 ≤ n))), constK (.bool (decide (-17592186044416 ≤ n)))]
      [some 5, some 6, some 7, some 8, some 9, some 10, some 11, some 12, some 13, some 14, some 15, some 2] (by kernel_rfl) (by kernel_rfl) (by kernel_rfl) (by kernel_rfl) (by kernel_rfl) (by kernel_rfl) (fun i o ho => ?_) (fun val w13 hf hne hb => ?_)
    · match i, ho with
      | 0, ho =>
        obtain rfl := Option.some.inj ho
        exact st_plain (ok_loadB (by kernel_rfl) rfl T0.out.B) rfl
      | 1, ho =>
        obtain rfl := Option.some.inj ho
        exact st_plain (ok_loadB (by kernel_rfl) rfl T1.out.B) rfl
      | 2, ho =>
        obtain rfl := Option.some.inj ho
        refine st_plain (ok_keptG (fun _ _ => by kernel_rfl) fun A L val w env facts hb => ?_) rfl
        rw [map2, dep_const env facts 0 5 _ (by kernel_rfl) rfl rfl, dep_const env facts 1 6 _ (by kernel_rfl) rfl rfl]
        exact bcmp_any ng ng1 a a1 la ca l1 c1 n 17592186044416 _ w (T0.out.later hb).V (T1.out.later hb).V (by omega) (Nat.le_trans (Sm.le (T1.out.later hb).V SM.out) (by decide)) (Lib.hid rfl)
      | 3, ho =>
        obtain rfl := Option.some.inj ho
        exact st_plain (ok_leqZ (j := 2) rfl (by kernel_rfl) rfl ((cmpI_leq _ _).trans (decide_eq_true c))) rfl
      | 4, ho =>
        obtain rfl := Option.some.inj ho
        exact st_plain (ok_moveC (j := 3) rfl (by kernel_rfl) rfl) rfl
      | 5, ho =>
        obtain rfl := Option.some.inj ho
        exact st_run (ok_loadB (by kernel_rfl) rfl T0.out.B) rfl (by kernel_rfl) (t := 9) (g := 4) rfl rfl
      | 6, ho =>
        obtain rfl := Option.some.inj ho
        exact st_run (ok_loadB (by kernel_rfl) rfl T1.out.B) rfl (by kernel_rfl) (t := 9) (g := 4) rfl rfl
      | 7, ho =>
        obtain rfl := Option.some.inj ho
        refine st_run (ok_bigG (fun _ _ => by kernel_rfl) fun A L val w env facts hb => ?_) rfl (by kernel_rfl) (t := 9) (g := 4) rfl rfl
        rw [map1, dep_const env facts 6 11 _ (by kernel_rfl) rfl rfl]
        exact minus_any ng1 a1 l1 c1 17592186044416 w (T1.out.later hb).V (Nat.le_trans (Sm.le (T1.out.later hb).V SM.out) (by decide))
      | 8, ho =>
        obtain rfl := Option.some.inj ho
        refine st_run (ok_keptG (fun _ _ => by kernel_rfl) fun A L val w env facts hb => ?_) rfl (by kernel_rfl) (t := 9) (g := 4) rfl rfl
        obtain ⟨ng2, a2, l2, c2, e2, v2⟩ := dep_big env facts 7 12 _ (by kernel_rfl) rfl rfl
        rw [map2, dep_const env facts 5 10 _ (by kernel_rfl) rfl rfl, e2]
        exact bcmp_any ng ng2 a a2 la ca l2 c2 n (-17592186044416) _ w (T0.out.later hb).V v2 (by omega) (Nat.le_trans (Sm.le v2 SN.out) (by decide)) (Lib.hid rfl)
      | 9, ho =>
        obtain rfl := Option.some.inj ho
        exact st_run (ok_geqZ (j := 8) rfl (by kernel_rfl) rfl (cmpI_geq _ _)) rfl (by kernel_rfl) (t := 9) (g := 4) rfl rfl
      | 10, ho =>
        obtain rfl := Option.some.inj ho
        exact st_plain (ok_and (j := 4) (k := 9) rfl (by kernel_rfl) rfl rfl (by kernel_rfl) rfl rfl) rfl
      | 11, ho =>
        obtain rfl := Option.some.inj ho
        exact st_plain (ok_assignC (j := 10) rfl (by kernel_rfl) rfl) rfl
      | n + 12, ho => simp at ho
    have F : val 11 = .bool (decide (-17592186044416 ≤ n)) := hf 11 (by decide)
    have KF := Lib.hid (bel_trans K1.out hb)
    simp only [puts2, Act.put, List.setIfInBounds_toArray, List.set_cons_zero, List.set_cons_succ, Nat.zero_add, Nat.reduceAdd]
    rw [F]
    clear hf hne hb F
    go_wp2_with fail
    go_returns
    exact ⟨by rw [HL.out]; rfl, KF.out⟩
  · have hl : lenB n = false := by unfold lenB; rw [decide_eq_false c]; rfl
    have HL := Lib.hid hl
    clear hl
    refine wp_region_guarded [constK (.agg #[.bool ng, .slice a la ca]), constK (.agg #[.bool ng1, .slice a1 l1 c1]), keptK (.int .i64 (cmpI n 17592186044416)), constK (.bool false), constK (.bool false), constK undef, constK undef, constK undef, constK undef, constK undef, constK (.bool false), constK (.bool false)]
      [some 5, some 6, some 7, some 8, some 9, some 10, some 11, some 12, some 13, some 14, some 15, some 2] (by kernel_rfl) (by kernel_rfl) (by kernel_rfl) (by kernel_rfl) (by kernel_rfl) (by kernel_rfl) (fun i o ho => ?_) (fun val w13 hf hne hb => ?_)
    · match i, ho with
      | 0, ho =>
        obtain rfl := Option.some.inj ho
        exact st_plain (ok_loadB (by kernel_rfl) rfl T0.out.B) rfl
      | 1, ho =>
        obtain rfl := Option.some.inj ho
        exact st_plain (ok_loadB (by kernel_rfl) rfl T1.out.B) rfl
      | 2, ho =>
        obtain rfl := Option.some.inj ho
        refine st_plain (ok_keptG (fun _ _ => by kernel_rfl) fun A L val w env facts hb => ?_) rfl
        rw [map2, dep_const env facts 0 5 _ (by kernel_rfl) rfl rfl, dep_const env facts 1 6 _ (by kernel_rfl) rfl rfl]
        exact bcmp_any ng ng1 a a1 la ca l1 c1 n 17592186044416 _ w (T0.out.later hb).V (T1.out.later hb).V (by omega) (Nat.le_trans (Sm.le (T1.out.later hb).V SM.out) (by decide)) (Lib.hid rfl)
      | 3, ho =>
        obtain rfl := Option.some.inj ho
        exact st_plain (ok_leqZ (j := 2) rfl (by kernel_rfl) rfl ((cmpI_leq _ _).trans (decide_eq_false c))) rfl
      | 4, ho =>
        obtain rfl := Option.some.inj ho
        exact st_plain (ok_moveC (j := 3) rfl (by kernel_rfl) rfl) rfl
      | 5, ho =>
        obtain rfl := Option.some.inj ho
        exact st_skip rfl (by kernel_rfl) (t := 9) (g := 4) rfl rfl
      | 6, ho =>
        obtain rfl := Option.some.inj ho
        exact st_skip rfl (by kernel_rfl) (t := 9) (g := 4) rfl rfl
      | 7, ho =>
        obtain rfl := Option.some.inj ho
        exact st_skip rfl (by kernel_rfl) (t := 9) (g := 4) rfl rfl
      | 8, ho =>
        obtain rfl := Option.some.inj ho
        exact st_skip rfl (by kernel_rfl) (t := 9) (g := 4) rfl rfl
      | 9, ho =>
        obtain rfl := Option.some.inj ho
        exact st_skip rfl (by kernel_rfl) (t := 9) (g := 4) rfl rfl
      | 10, ho =>
        obtain rfl := Option.some.inj ho
        exact st_plain (ok_and (j := 4) (k := 9) rfl (by kernel_rfl) rfl rfl (by kernel_rfl) rfl rfl) rfl
      | 11, ho =>
        obtain rfl := Option.some.inj ho
        exact st_plain (ok_assignC (j := 10) rfl (by kernel_rfl) rfl) rfl
      | n + 12, ho => simp at ho
    have F : val 11 = .bool false := hf 11 (by decide)
    have KF := Lib.hid (bel_trans K1.out hb)
    simp only [puts2, Act.put, List.setIfInBounds_toArray, List.set_cons_zero, List.set_cons_succ, Nat.zero_add, Nat.reduceAdd]
    rw [F]
    clear hf hne hb F
    go_wp2_with fail
    go_returns
    exact ⟨by rw [HL.out]; rfl, KF.out⟩
/-- a whole number as a length: it, the error's number -/
def Tl (n v er : Int) : Prop := (lenB n = true ∧ v = n ∧ er = 0) ∨ (lenB n = false ∧ v = 0 ∧ er = 2)
theorem tl_ex (n : Int) : ∃ v er, Tl n v er := by
  cases h : lenB n
  · exact ⟨0, 2, .inr ⟨h, rfl, rfl⟩⟩
  · exact ⟨n, 0, .inl ⟨h, rfl, rfl⟩⟩
theorem lenB_true {n : Int} (h : lenB n = true) : -17592186044416 ≤ n ∧ n ≤ 17592186044416 := by
  unfold lenB at h
  rw [Bool.and_eq_true] at h
  exact ⟨of_decide_eq_true h.2, of_decide_eq_true h.1⟩
theorem lenB_false {n : Int} (h : lenB n = false) : ¬ (-17592186044416 ≤ n ∧ n ≤ 17592186044416) := fun c => by
  unfold lenB at h
  rw [decide_eq_true c.1, decide_eq_true c.2] at h
  cases h
set_option maxHeartbeats 1000000 in
theorem told4_any (ng : Bool) (a : Option Addr) (la ca : Nat) (n v er : Int) (w : World) (h : BigV w ng a la ca n) (sa : la ≤ 1000) (ht : Tl n v er) :
    Calls Try.prog 56 #[.agg #[.bool ng, .slice a la ca]] w fun e w' => e = .returned (.tuple #[.int .i64 v, .int .i64 er]) ∧ Below w.heap.size w w' := by
  have T0 := Lib.hid (show BN (w.alloc (.cells #[.bool ng, .slice a la ca] 112)) w.heap.size ng a la ca n from ⟨BV.new w ng a la ca 112, h.alloc _⟩)
  have K0 := Lib.hid (bel_alloc (Below.refl w.heap.size w) (.cells #[.bool ng, .slice a la ca] 112))
  clear h
  rcases ht with ⟨hl, rfl, rfl⟩ | ⟨hl, rfl, rfl⟩
  · obtain ⟨b0, b1⟩ := lenB_true hl
    have fF := Lib.hid (show true = decide (-9223372036854775808 ≤ v ∧ v < 9223372036854775808) from (decide_eq_true ⟨by omega, by omega⟩).symm)
    have fK := Lib.hid (show v = if -9223372036854775808 ≤ v ∧ v < 9223372036854775808 then v else 0 from (if_pos ⟨by omega, by omega⟩).symm)
    clear b0 b1
    go_enter Try.func56, Try.ntmps56
    go_wp2_with fail
    refine (len4_any ng a la ca v _ T0.out.V sa).mono ?_
    rw [hl]
    rintro e w1 ⟨rfl, hb1⟩
    have T1 := Lib.hid (T0.out.later hb1)
    have K1 := Lib.hid (bel_trans K0.out hb1)
    obtain ⟨k0, k1, k2, k3⟩ := T1.out.B
    clear hb1 T0 K0
    go_wp2_with fail
    refine (bint_any ng a la ca v _ T1.out.V sa true v fF fK).mono ?_
    rintro e w2 ⟨rfl, hb2⟩
    have K2 := Lib.hid (bel_trans K1.out hb2)
    clear hb2
    go_wp2_with fail
    go_returns
    exact ⟨rfl, K2.out⟩
  · go_enter Try.func56, Try.ntmps56
    go_wp2_with fail
    refine (len4_any ng a la ca n _ T0.out.V sa).mono ?_
    rw [hl]
    rintro e w1 ⟨rfl, hb1⟩
    have K1 := Lib.hid (bel_trans K0.out hb1)
    clear hb1 T0 K0
    go_wp2_with fail
    go_returns
    exact ⟨rfl, K1.out⟩
end Go.Proofs.Ytbolifjkhoiphaa
