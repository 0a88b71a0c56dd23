/- Two ratios: compared, multiplied. -/
import Derived.Test.YtkohefgendcofaaRegC
import Derived.Test.YtkohefgendcofaaRatioC
import Derived.Test.YtkohefgendcofaaRefD
import Derived.Test.YtkohefgendcofaaKit2
import Derived.WalkKit
import Derived.WalkSpells
import Derived.WalkLawsBesides
import Derived.Handy
import Derived.Lib.Hide
import Derived.Deep.QuietTactic
import Derived.BigQuiet
import Derived.LoopTactic
import Derived.RegionTactic
import Derived.BigRegion
import Derived.Deep.RegionHeld3
import Derived.Deep.RegionWith
import Derived.Outline
import Derived.Deep.DeepCutAuto
namespace Go.Proofs.Ytkohefgendcofaa
open Go.RowKit Go.Proofs.Big Go.Proofs.Reg
set_option linter.unusedVariables false
set_option linter.unusedSimpArgs false
set_option maxRecDepth 100000
section
variable {ops : Array Oper} {a0 : Act} {w0 : World} {kind : Nat → Kind} {o : Oper}
theorem ok_fieldR0 {t : Tmp} {q : Nat} {x : Option Tmp} {ty : TypeId} {ps : String} {af : Array Edge} {gd : Option (Nat × Bool)} (ht : (ops.all fun o => o.dst != some t) = true) (he : a0.eval (.tmp t) = .pointer (some ⟨q, 0, none⟩)) :
    OpOk Try.prog ops a0 w0 kind ⟨x, .fieldAddr 42 (.tmp t) 0, ty, ps, af, gd⟩ (constK (.pointer (some ⟨q, 0, none⟩))) := by
  refine ok_const fun A L val w env facts hb => ?_
  have e1 := env.out t ht
  rw [he] at e1
  simp only [execOp, e1]
  simp [go_sem]
theorem ok_fieldR1 {t : Tmp} {q : Nat} {x : Option Tmp} {ty : TypeId} {ps : String} {af : Array Edge} {gd : Option (Nat × Bool)} (ht : (ops.all fun o => o.dst != some t) = true) (he : a0.eval (.tmp t) = .pointer (some ⟨q, 0, none⟩)) :
    OpOk Try.prog ops a0 w0 kind ⟨x, .fieldAddr 42 (.tmp t) 1, ty, ps, af, gd⟩ (constK (.pointer (some ⟨q, 1, none⟩))) := by
  refine ok_const fun A L val w env facts hb => ?_
  have e1 := env.out t ht
  rw [he] at e1
  simp only [execOp, e1]
  simp [go_sem]
theorem ok_assignKp {j : Nat} {t : Tmp} {c : Value} {x : Option Tmp} {ty : TypeId} {ps : String} {af : Array Edge} {gd : Option (Nat × Bool)} (hj : dstAt ops j = some t) (hd : depB ⟨x, .assign (.tmp t), ty, ps, af, gd⟩ j = true) (hk : kind j = keptK c) :
    OpOk Try.prog ops a0 w0 kind ⟨x, .assign (.tmp t), ty, ps, af, gd⟩ (constK c) := by
  refine ok_const fun A L val w env facts hb => ?_
  rw [← dep_kept env facts j t _ hd hj hk]
  rfl
theorem ok_moveKp2 {j : Nat} {t : Tmp} {c : Value} {x : Option Tmp} {ty : TypeId} {ps : String} {af : Array Edge} {gd : Option (Nat × Bool)} (hj : dstAt ops j = some t) (hd : depB ⟨x, .move (.tmp t), ty, ps, af, gd⟩ j = true) (hk : kind j = keptK c) :
    OpOk Try.prog ops a0 w0 kind ⟨x, .move (.tmp t), ty, ps, af, gd⟩ (constK c) := by
  refine ok_const fun A L val w env facts hb => ?_
  rw [← dep_kept env facts j t _ hd hj hk]
  rfl
theorem ok_ext {j i : Nat} {t : Tmp} {vs : Array Value} {c : Value} {x : Option Tmp} {ty : TypeId} {ps : String} {af : Array Edge} {gd : Option (Nat × Bool)} (hj : dstAt ops j = some t) (hd : depB ⟨x, .extract (.tmp t) i, ty, ps, af, gd⟩ j = true) (hk : kind j = constK (.tuple vs)) (hv : vs[i]? = some c) :
    OpOk Try.prog ops a0 w0 kind ⟨x, .extract (.tmp t) i, ty, ps, af, gd⟩ (constK c) := by
  refine ok_const fun A L val w env facts hb => ?_
  have e1 := dep_const env facts j t _ hd hj hk
  simp only [execOp, e1]
  simp [go_sem, hv]
theorem ok_conv {j : Nat} {t : Tmp} {g : Int} {x : Option Tmp} {ty : TypeId} {ps : String} {af : Array Edge} {gd : Option (Nat × Bool)} (hj : dstAt ops j = some t) (hd : depB ⟨x, .convert 22 2 (.tmp t), ty, ps, af, gd⟩ j = true) (hk : kind j = keptK (.int .u64 g)) (g0 : 0 ≤ g) (g1 : g ≤ 9223372036854775807) :
    OpOk Try.prog ops a0 w0 kind ⟨x, .convert 22 2 (.tmp t), ty, ps, af, gd⟩ (constK (.int .i64 g)) := by
  refine ok_const fun A L val w env facts hb => ?_
  have e1 := dep_kept env facts j t _ hd hj hk
  have e2 : IntKind.i64.wrap g = g := by rw [IntKind.wrap_i64]; omega
  simp only [execOp, e1]
  simp [go_sem, e2]
theorem ok_quo {j k : Nat} {t u : Tmp} {n g a : Int} {x : Option Tmp} {ty : TypeId} {ps : String} {af : Array Edge} {gd : Option (Nat × Bool)} (hj : dstAt ops j = some t) (hd : depB ⟨x, .binOp .quo 2 (.tmp t) (.tmp u) 2, ty, ps, af, gd⟩ j = true) (hk : kind j = constK (.int .i64 n))
    (hj' : dstAt ops k = some u) (hd' : depB ⟨x, .binOp .quo 2 (.tmp t) (.tmp u) 2, ty, ps, af, gd⟩ k = true) (hk' : kind k = constK (.int .i64 g)) (g0 : 1 ≤ g) (h : a * g = n) (a0' : -9223372036854775808 ≤ a) (a1 : a ≤ 9223372036854775807) :
    OpOk Try.prog ops a0 w0 kind ⟨x, .binOp .quo 2 (.tmp t) (.tmp u) 2, ty, ps, af, gd⟩ (constK (.int .i64 a)) := by
  refine ok_const fun A L val w env facts hb => ?_
  have e1 := dep_const env facts j t _ hd hj hk
  have e2 := dep_const env facts k u _ hd' hj' hk'
  have e3 : n.tdiv g = a := by rw [← h]; exact Int.mul_tdiv_cancel _ (by omega)
  have e4 : IntKind.i64.wrap a = a := by rw [IntKind.wrap_i64]; omega
  have e5 : g ≠ 0 := by omega
  have e6 : (g == 0) = false := by simpa using e5
  simp only [execOp, e1, e2]
  simp [go_sem, e3, e4, e5, e6]
end
theorem mul_below (a b h l : Int) (h0 : -9223372036854775808 ≤ a) (h1 : a ≤ 9223372036854775807) (g0 : -9223372036854775808 ≤ b) (g1 : b ≤ 9223372036854775807)
    (p0 : -9223372036854775808 ≤ h) (p1 : h ≤ 9223372036854775807) (p2 : 0 ≤ l) (p3 : l < 18446744073709551616) (e : h * 18446744073709551616 + l = a * b) (w : World) :
    Calls Try.prog 79 #[.int .i64 a, .int .i64 b] w fun e w' => e = .returned (.agg #[.int .i64 h, .int .u64 l]) ∧ Below w.heap.size w w' :=
  (mul_any a b h l h0 h1 g0 g1 p0 p1 p2 p3 e w).mono fun e w' k => ⟨k.1, by rw [k.2]; go_grown⟩
theorem rsize_below (n m : Int) (h0 : -9223372036854775808 ≤ n) (h1 : n ≤ 9223372036854775807) (hm : m = if n < 0 then -n else n) (w : World) :
    Calls Try.prog 74 #[.int .i64 n] w fun e w' => e = .returned (.int .u64 m) ∧ Below w.heap.size w w' :=
  (rsize_any n m h0 h1 hm w).mono fun e w' k => ⟨k.1, by rw [k.2]; exact Below.refl _ _⟩
theorem divisor_below (a b g : Int) (a0 : 0 ≤ a) (a1 : a < 18446744073709551616) (b0 : 0 ≤ b) (b1 : b < 18446744073709551616) (hg : Hid (((Int.gcd a b : Nat) : Int) = g)) (w : World) :
    Calls Try.prog 73 #[.int .u64 a, .int .u64 b] w fun e w' => e = .returned (.int .u64 g) ∧ Below w.heap.size w w' :=
  (divisor_any a b g a0 a1 b0 b1 hg w).mono fun e w' k => ⟨k.1, by obtain ⟨_, n, rfl⟩ := k; exact below_drewN (Below.refl _ _) n⟩
/-- a product, and whether it is an int -/
theorem mulint (a b : Int) (h0 : -9223372036854775808 ≤ a) (h1 : a ≤ 9223372036854775807) (g0 : -9223372036854775808 ≤ b) (g1 : b ≤ 9223372036854775807) :
    ∃ (h l k : Int) (f : Bool), f = decide (-9223372036854775808 ≤ a * b ∧ a * b < 9223372036854775808) ∧ (k = if -9223372036854775808 ≤ a * b ∧ a * b < 9223372036854775808 then a * b else 0) ∧
      h * 18446744073709551616 + l = a * b ∧ 0 ≤ l ∧ l < 18446744073709551616 ∧
      (∀ w : World, Calls Try.prog 79 #[.int .i64 a, .int .i64 b] w fun e w' => e = .returned (.agg #[.int .i64 h, .int .u64 l]) ∧ Below w.heap.size w w') ∧
      (∀ w : World, Calls Try.prog 64 #[.agg #[.int .i64 h, .int .u64 l]] w fun e w' => e = .returned (.tuple #[.int .i64 k, .bool f]) ∧ Below w.heap.size w w') := by
  obtain ⟨R0, R1⟩ := prod_range a b h0 h1 g0 g1
  obtain ⟨h, l, p0, p1, p2, p3, pe⟩ := hl (a * b) (by omega) (by omega)
  have M := fun w => mul_below a b h l h0 h1 g0 g1 p0 p1 p2 p3 pe w
  by_cases c : -9223372036854775808 ≤ a * b ∧ a * b < 9223372036854775808
  · exact ⟨h, l, a * b, true, (decide_eq_true c).symm, (if_pos c).symm, pe, p2, p3, M, fun w => int_ok h l (a * b) p0 p1 p2 p3 c.1 (by omega) pe w⟩
  · exact ⟨h, l, 0, false, (decide_eq_false c).symm, (if_neg c).symm, pe, p2, p3, M, fun w => int_no h l p0 p1 p2 p3 (by omega) w⟩
set_option maxHeartbeats 1000000 in
theorem rcmp_bad (n d m c : Int) (n0 : -9223372036854775808 ≤ n) (n1 : n ≤ 9223372036854775807) (d0 : -9223372036854775808 ≤ d) (d1 : d ≤ 9223372036854775807) (m0 : -9223372036854775808 ≤ m) (m1 : m ≤ 9223372036854775807) (c0 : -9223372036854775808 ≤ c) (c1 : c ≤ 9223372036854775807) (hb : (goodB n d && goodB m c) = false) (w : World) :
    Calls Try.prog 30 #[.agg #[.int .i64 n, .int .i64 d], .agg #[.int .i64 m, .int .i64 c]] w fun e w' => e = .returned (.int .i64 0) ∧ Below w.heap.size w w' := by
  have G1 := Lib.hid (good_any n d n0 n1 d0 d1)
  have G2 := Lib.hid (good_any m c m0 m1 c0 c1)
  obtain ⟨f, hf⟩ : ∃ f, goodB n d = f := ⟨_, rfl⟩
  obtain ⟨g, hg⟩ : ∃ g, goodB m c = g := ⟨_, rfl⟩
  rw [hf] at G1 hb
  rw [hg] at G2 hb
  clear hf hg
  cases f
  · clear hb G2
    go_enter Try.func30, Try.ntmps30
    go_wp2_with fail
    refine (G1.out _).mono ?_
    rintro e w1 ⟨rfl, hb1⟩
    have K1 := Lib.hid (bel_trans (bel_alloc (bel_alloc (Below.refl w.heap.size w) (.cells #[.int .i64 n, .int .i64 d] 42)) (.cells #[.int .i64 m, .int .i64 c] 42)) hb1)
    clear hb1
    go_wp2_with fail
    go_returns
    exact ⟨rfl, K1.out⟩
  · obtain rfl : g = false := by simpa using hb
    clear hb
    go_enter Try.func30, Try.ntmps30
    go_wp2_with fail
    refine (G1.out _).mono ?_
    rintro e w1 ⟨rfl, hb1⟩
    have K1 := Lib.hid (bel_trans (bel_alloc (bel_alloc (Below.refl w.heap.size w) (.cells #[.int .i64 n, .int .i64 d] 42)) (.cells #[.int .i64 m, .int .i64 c] 42)) hb1)
    have k0 : w1.cell? ⟨w.heap.size + 1, 0, none⟩ = some (.int .i64 m) := cell_later hb1 (by simp [go_sem])
    have k1 : w1.cell? ⟨w.heap.size + 1, 1, none⟩ = some (.int .i64 c) := cell_later hb1 (by simp [go_sem])
    clear hb1
    go_wp2_with fail
    refine (G2.out _).mono ?_
    rintro e w2 ⟨rfl, hb2⟩
    have K2 := Lib.hid (bel_trans K1.out hb2)
    clear hb2
    go_wp2_with fail
    go_returns
    exact ⟨rfl, K2.out⟩
/-- two boxes of two numbers each -/
structure RR (w : World) (p q : Nat) (n d m c : Int) : Prop where
  k0 : w.cell? ⟨p, 0, none⟩ = some (.int .i64 n)
  k1 : w.cell? ⟨p, 1, none⟩ = some (.int .i64 d)
  k2 : w.cell? ⟨q, 0, none⟩ = some (.int .i64 m)
  k3 : w.cell? ⟨q, 1, none⟩ = some (.int .i64 c)
theorem RR.later {w w' : World} {p q : Nat} {n d m c : Int} (h : RR w p q n d m c) (k : Below w.heap.size w w') : RR w' p q n d m c := ⟨cell_later k h.k0, cell_later k h.k1, cell_later k h.k2, cell_later k h.k3⟩
set_option maxHeartbeats 2000000 in
theorem rcmp_any (n d m c r : Int) (n0 : -9223372036854775808 ≤ n) (n1 : n ≤ 9223372036854775807) (d0 : -9223372036854775808 ≤ d) (d1 : d ≤ 9223372036854775807) (m0 : -9223372036854775808 ≤ m) (m1 : m ≤ 9223372036854775807) (c0 : -9223372036854775808 ≤ c) (c1 : c ≤ 9223372036854775807) (hg1 : goodB n d = true) (hg2 : goodB m c = true) (hr : r = cmpI (n * c) (m * d)) (w : World) :
    Calls Try.prog 30 #[.agg #[.int .i64 n, .int .i64 d], .agg #[.int .i64 m, .int .i64 c]] w fun e w' => e = .returned (.int .i64 r) ∧ Below w.heap.size w w' := by
  have G1 := Lib.hid (good_any n d n0 n1 d0 d1)
  have G2 := Lib.hid (good_any m c m0 m1 c0 c1)
  rw [hg1] at G1
  rw [hg2] at G2
  obtain ⟨h1, l1, _, _, _, _, e1, x0, x1, M1, _⟩ := mulint n c n0 n1 c0 c1
  obtain ⟨h2, l2, _, _, _, _, e2, y0, y1, M2, _⟩ := mulint m d m0 m1 d0 d1
  have C := Lib.hid (fun w => cmp_below h1 l1 h2 l2 r x0 x1 y0 y1 (by rw [e1, e2]; exact hr) w)
  have MM1 := Lib.hid M1
  have MM2 := Lib.hid M2
  clear M1 M2 e1 e2 hr hg1 hg2
  go_enter Try.func30, Try.ntmps30
  go_wp2_with fail
  refine (G1.out _).mono ?_
  rintro e w1 ⟨rfl, hb1⟩
  have K1 := Lib.hid (bel_trans (bel_alloc (bel_alloc (Below.refl w.heap.size w) (.cells #[.int .i64 n, .int .i64 d] 42)) (.cells #[.int .i64 m, .int .i64 c] 42)) hb1)
  have R1 := Lib.hid (show RR w1 w.heap.size (w.heap.size + 1) n d m c from ⟨cell_later hb1 (by simp [go_sem]), cell_later hb1 (by simp [go_sem]), cell_later hb1 (by simp [go_sem]), cell_later hb1 (by simp [go_sem])⟩)
  obtain ⟨k0, k1, k2, k3⟩ := R1.out
  clear hb1
  go_wp2_with fail
  refine (G2.out _).mono ?_
  rintro e w2 ⟨rfl, hb2⟩
  have K2 := Lib.hid (bel_trans K1.out hb2)
  have R2 := Lib.hid (R1.out.later hb2)
  clear hb2 K1 R1 k0 k1 k2 k3
  go_wp2_with fail
  refine wp_region_kinds [constK (.pointer (some ⟨w.heap.size, 0, none⟩)), constK (.int .i64 n), constK (.pointer (some ⟨w.heap.size + 1, 1, none⟩)), constK (.int .i64 c), keptK (.agg #[.int .i64 h1, .int .u64 l1]), constK (.pointer (some ⟨w.heap.size + 1, 0, none⟩)), constK (.int .i64 m), constK (.pointer (some ⟨w.heap.size, 1, none⟩)), constK (.int .i64 d), keptK (.agg #[.int .i64 h2, .int .u64 l2]), keptK (.int .i64 r), constK (.int .i64 r)]
    [some 13, some 14, some 15, some 16, some 17, some 18, some 19, some 20, some 21, some 22, some 23, some 4] (by kernel_rfl) (by kernel_rfl) (by kernel_rfl) (by kernel_rfl) (by kernel_rfl) (by kernel_rfl) (by kernel_rfl) (fun i o ho => ?_) (fun val2 w6 hf hne hb => ?_)
  · match i, ho with
    | 0, ho =>
      obtain rfl := Option.some.inj ho
      exact ok_fieldR0 (by kernel_rfl) rfl
    | 1, ho =>
      obtain rfl := Option.some.inj ho
      exact ok_cell64 (j := 0) rfl (by kernel_rfl) rfl R2.out.k0
    | 2, ho =>
      obtain rfl := Option.some.inj ho
      exact ok_fieldR1 (by kernel_rfl) rfl
    | 3, ho =>
      obtain rfl := Option.some.inj ho
      exact ok_cell64 (j := 2) rfl (by kernel_rfl) rfl R2.out.k3
    | 4, ho =>
      obtain rfl := Option.some.inj ho
      refine ok_keptG (fun _ _ => by kernel_rfl) fun A' L val w env facts hb => ?_
      rw [map2, dep_const env facts 1 14 _ (by kernel_rfl) rfl rfl, dep_const env facts 3 16 _ (by kernel_rfl) rfl rfl]
      exact MM1.out w
    | 5, ho =>
      obtain rfl := Option.some.inj ho
      exact ok_fieldR0 (by kernel_rfl) rfl
    | 6, ho =>
      obtain rfl := Option.some.inj ho
      exact ok_cell64 (j := 5) rfl (by kernel_rfl) rfl R2.out.k2
    | 7, ho =>
      obtain rfl := Option.some.inj ho
      exact ok_fieldR1 (by kernel_rfl) rfl
    | 8, ho =>
      obtain rfl := Option.some.inj ho
      exact ok_cell64 (j := 7) rfl (by kernel_rfl) rfl R2.out.k1
    | 9, ho =>
      obtain rfl := Option.some.inj ho
      refine ok_keptG (fun _ _ => by kernel_rfl) fun A' L val w env facts hb => ?_
      rw [map2, dep_const env facts 6 19 _ (by kernel_rfl) rfl rfl, dep_const env facts 8 21 _ (by kernel_rfl) rfl rfl]
      exact MM2.out w
    | 10, ho =>
      obtain rfl := Option.some.inj ho
      refine ok_keptG (fun _ _ => by kernel_rfl) fun A' L val w env facts hb => ?_
      rw [map2, dep_kept env facts 4 17 _ (by kernel_rfl) rfl rfl, dep_kept env facts 9 22 _ (by kernel_rfl) rfl rfl]
      exact C.out w
    | 11, ho =>
      obtain rfl := Option.some.inj ho
      exact ok_assignKp (j := 10) rfl (by kernel_rfl) rfl
    | n + 12, ho => simp at ho
  have F : val2 11 = .int .i64 r := hf 11 (by decide)
  have K3 := Lib.hid (bel_trans K2.out hb)
  simp only [puts2, Act.put, List.setIfInBounds_toArray, List.set_cons_zero, List.set_cons_succ, Nat.zero_add, Nat.reduceAdd]
  rw [F]
  clear hf hne hb F
  go_wp2_with fail
  go_returns
  exact ⟨rfl, K3.out⟩
end Go.Proofs.Ytkohefgendcofaa
