/- The reference's fractions: Lowest. -/
import Derived.Test.YtkohefgendcofaaRegB
import Derived.WalkKit
import Derived.WalkSpells
import Derived.WalkLawsBesides
import Derived.Handy
import Derived.Lib.Hide
import Derived.Deep.QuietTactic
import Derived.BigQuiet
import Derived.LoopTactic
import Derived.RegionTactic
import Derived.BigRegion
import Derived.Deep.LoopGhost
import Derived.Deep.RegionHeld3
import Derived.Deep.RegionWith
import Derived.Outline
import Derived.Deep.DeepCutAuto
namespace Go.Proofs.Ytkohefgendcofaa
open Go.RowKit Go.Proofs.Big Go.Proofs.Reg
set_option linter.unusedVariables false
set_option linter.unusedSimpArgs false
set_option maxRecDepth 100000
theorem bel_alloc {w wx : World} (h : Below w.heap.size w wx) (o : Obj) : Below w.heap.size w (wx.alloc o) := h.alloc h.size o
theorem bel_trans' {w wx wy : World} (h : Below w.heap.size w wx) (k : Below wx.heap.size wx wy) : Below w.heap.size w wy := h.trans (k.mono h.size)
/-- memory in the course of Lowest -/
structure LowW (w wr : World) (ng : Bool) (a : Option Addr) (la ca : Nat) (mg : Bool) (b : Option Addr) (lb cb : Nat) (n m : Int) : Prop where
  A : BV wr w.heap.size ng a la ca
  B : BV wr (w.heap.size + 1) mg b lb cb
  R1 : BV wr (w.heap.size + 1 + 1) false none 0 0
  R2 : BV wr (w.heap.size + 1 + 1 + 1) false none 0 0
  An : BigV wr ng a la ca n
  Bn : BigV wr mg b lb cb m
  bel : Below w.heap.size w wr
theorem LowW.later {w wr wx : World} {a b : Option Addr} {la ca lb cb : Nat} {ng mg : Bool} {n m : Int} (h : LowW w wr ng a la ca mg b lb cb n m) (k : Below wr.heap.size wr wx) : LowW w wx ng a la ca mg b lb cb n m :=
  ⟨h.A.later k, h.B.later k, h.R1.later k, h.R2.later k, h.An.later k, h.Bn.later k, h.bel.trans (k.mono h.bel.size)⟩
/-- and a box with a number that is not below 0 -/
structure LowC (w wr : World) (ng : Bool) (a : Option Addr) (la ca : Nat) (mg : Bool) (b : Option Addr) (lb cb : Nat) (n m : Int) (q : Nat) (ac : Option Addr) (lc cc : Nat) (g : Int) : Prop where
  L : LowW w wr ng a la ca mg b lb cb n m
  C : BV wr q false ac lc cc
  Cn : BigV wr false ac lc cc g
  hq : w.heap.size + 1 + 1 + 1 < q
theorem LowC.later {w wr wx : World} {a b ac : Option Addr} {la ca lb cb lc cc q : Nat} {ng mg : Bool} {n m g : Int} (h : LowC w wr ng a la ca mg b lb cb n m q ac lc cc g) (k : Below wr.heap.size wr wx) : LowC w wx ng a la ca mg b lb cb n m q ac lc cc g :=
  ⟨h.L.later k, h.C.later k, h.Cn.later k, h.hq⟩
theorem LowW.put {w wr : World} {a b : Option Addr} {la ca lb cb p : Nat} {ng mg n1 : Bool} {a1 : Option Addr} {l1 c1 : Nat} {n m : Int} (h : LowW w wr ng a la ca mg b lb cb n m) (hq : BV wr p n1 a1 l1 c1) (hp : w.heap.size + 1 + 1 + 1 < p) (x y : Value) :
    LowW w ((wr.setCell ⟨p, 0, none⟩ x).setCell ⟨p, 1, none⟩ y) ng a la ca mg b lb cb n m :=
  ⟨h.A.other (by omega) _ _, h.B.other (by omega) _ _, h.R1.other (by omega) _ _, h.R2.other (by omega) _ _, h.An.setBV hq _ _, h.Bn.setBV hq _ _, (h.bel.setCell (by show w.heap.size ≤ p; omega) _).setCell (by show w.heap.size ≤ p; omega) _⟩
/-- what the numbers of Lowest are -/
structure LowN (n m : Int) : Prop where
  n0 : -P 99 < n
  n1 : n < P 99
  m0 : -P 99 < m
  m1 : m < P 99
  mz : m ≠ 0
theorem LowN.abs {n m : Int} (h : LowN n m) : 0 ≤ (if n < 0 then -n else n) ∧ (if n < 0 then -n else n) < P 99 ∧ 0 < (if m < 0 then -m else m) ∧ (if m < 0 then -m else m) < P 99 := by
  have := h.n0; have := h.n1; have := h.m0; have := h.m1; have := h.mz
  refine ⟨?_, ?_, ?_, ?_⟩ <;> split <;> omega
theorem pair_fst {N M : Int} {v3 v4 v5 : Value} {w : World} (h : PairC N M v3 w) (e : v4 = v3) (h5 : ∃ q, v4 = .tuple #[v5, q]) : BigC N v5 w := by
  obtain ⟨n, a, l, c, n', a', l', c', e3, b, b'⟩ := h
  obtain ⟨q, e5⟩ := h5
  rw [e, e3] at e5
  simp only [Value.tuple.injEq, Array.mk.injEq, List.cons.injEq, and_true] at e5
  exact ⟨n, a, l, c, e5.1.symm, b⟩
theorem pair_snd {N M : Int} {v3 v4 v5 : Value} {w : World} (h : PairC N M v3 w) (e : v4 = v3) (h5 : ∃ q, v4 = .tuple #[q, v5]) : BigC M v5 w := by
  obtain ⟨n, a, l, c, n', a', l', c', e3, b, b'⟩ := h
  obtain ⟨q, e5⟩ := h5
  rw [e, e3] at e5
  simp only [Value.tuple.injEq, Array.mk.injEq, List.cons.injEq, and_true] at e5
  exact ⟨n', a', l', c', e5.2.symm, b'⟩
/-- a box with a big number -/
structure BN (w : World) (q : Nat) (n : Bool) (a : Option Addr) (l c : Nat) (N : Int) : Prop where
  B : BV w q n a l c
  V : BigV w n a l c N
theorem BN.later {w w' : World} {q : Nat} {n : Bool} {a : Option Addr} {l c : Nat} {N : Int} (h : BN w q n a l c N) (k : Below w.heap.size w w') : BN w' q n a l c N := ⟨h.B.later k, h.V.later k⟩
theorem BN.of {w : World} {q : Nat} {v : Value} {N : Int} (h : BoxAt w q v) (k : BigC N v w) : ∃ n a l c, v = .agg #[.bool n, .slice a l c] ∧ BN w q n a l c N := by
  obtain ⟨n, a, l, c, e, b⟩ := h
  obtain ⟨n', a', l', c', e', b'⟩ := k
  rw [e] at e'
  simp only [Value.agg.injEq, Array.mk.injEq, List.cons.injEq, Value.bool.injEq, Value.slice.injEq, and_true] at e'
  obtain ⟨rfl, rfl, rfl, rfl⟩ := e'
  exact ⟨_, _, _, _, e, b, b'⟩
theorem BN.nonneg {w : World} {q : Nat} {n : Bool} {a : Option Addr} {l c : Nat} {N : Int} (h : BN w q n a l c N) (h0 : 0 ≤ N) : n = false := by
  have := h.V.hng
  rw [decide_eq_false (by omega)] at this
  exact this
set_option maxHeartbeats 4000000 in
theorem lowest_any (ng mg : Bool) (a b : Option Addr) (la ca lb cb : Nat) (n m : Int) (w : World) (ha : BigV w ng a la ca n) (hb : BigV w mg b lb cb m) (hN : Hid (LowN n m)) :
    Calls Try.prog 27 #[.agg #[.bool ng, .slice a la ca], .agg #[.bool mg, .slice b lb cb]] w
      (RetBig2 w (if (ng != mg) then -((if n < 0 then -n else n) / ((Int.gcd n m : Nat) : Int)) else (if n < 0 then -n else n) / ((Int.gcd n m : Nat) : Int)) ((if m < 0 then -m else m) / ((Int.gcd n m : Nat) : Int))) := by
  obtain ⟨x, hx⟩ : ∃ x, x = (if n < 0 then -n else n) := ⟨_, rfl⟩
  obtain ⟨y, hy⟩ : ∃ y, y = (if m < 0 then -m else m) := ⟨_, rfl⟩
  have NA := Lib.hid hN.out.abs
  have HGA := Lib.hid (gcd_abs n m)
  rw [← hx, ← hy] at NA HGA
  rw [← hx, ← hy]
  obtain ⟨g, hg⟩ : ∃ g, g = ((Int.gcd n m : Nat) : Int) := ⟨_, rfl⟩
  rw [← hg]
  have HG := Lib.hid (show ((Int.gcd x y : Nat) : Int) = g from by rw [HGA.out, hg])
  obtain ⟨R, hR⟩ : ∃ R, R = (if (ng != mg) = true then -(x / g) else x / g) := ⟨_, rfl⟩
  rw [← hR]
  have HR := Lib.hid hR
  clear hR
  have HX := Lib.hid hx
  have HY := Lib.hid hy
  have H0 := Lib.hid (show LowW w ((((w.alloc (.cells #[.bool ng, .slice a la ca] 29)).alloc (.cells #[.bool mg, .slice b lb cb] 29)).alloc (.cells #[.bool false, .slice none 0 0] 29)).alloc (.cells #[.bool false, .slice none 0 0] 29)) ng a la ca mg b lb cb n m from by
    have e1 := (((BV.new w ng a la ca 29).alloc (.cells #[.bool mg, .slice b lb cb] 29)).alloc (.cells #[.bool false, .slice none 0 0] 29)).alloc (.cells #[.bool false, .slice none 0 0] 29)
    have e2 := ((BV.new (w.alloc (.cells #[.bool ng, .slice a la ca] 29)) mg b lb cb 29).alloc (.cells #[.bool false, .slice none 0 0] 29)).alloc (.cells #[.bool false, .slice none 0 0] 29)
    have e3 := (BV.new ((w.alloc (.cells #[.bool ng, .slice a la ca] 29)).alloc (.cells #[.bool mg, .slice b lb cb] 29)) false none 0 0 29).alloc (.cells #[.bool false, .slice none 0 0] 29)
    have e4 := BV.new (((w.alloc (.cells #[.bool ng, .slice a la ca] 29)).alloc (.cells #[.bool mg, .slice b lb cb] 29)).alloc (.cells #[.bool false, .slice none 0 0] 29)) false none 0 0 29
    simp only [World.size_alloc] at e1 e2 e3 e4
    exact ⟨e1, e2, e3, e4, (((ha.alloc _).alloc _).alloc _).alloc _, (((hb.alloc _).alloc _).alloc _).alloc _, by go_grown⟩)
  have Z0 : Hid ((((((w.alloc (.cells #[.bool ng, .slice a la ca] 29)).alloc (.cells #[.bool mg, .slice b lb cb] 29)).alloc (.cells #[.bool false, .slice none 0 0] 29)).alloc (.cells #[.bool false, .slice none 0 0] 29))).heap.size = w.heap.size + 1 + 1 + 1 + 1) := Lib.hid (by simp)
  clear ha hb hN hx hy hg
  go_enter Try.func27, Try.ntmps27
  go_upto_region 1 with fail
  obtain ⟨wr, hwr⟩ : ∃ wr, wr = ((((w.alloc (.cells #[.bool ng, .slice a la ca] 29)).alloc (.cells #[.bool mg, .slice b lb cb] 29)).alloc (.cells #[.bool false, .slice none 0 0] 29)).alloc (.cells #[.bool false, .slice none 0 0] 29)) := ⟨_, rfl⟩
  rw [← hwr] at H0 Z0 ⊢
  clear hwr
  have bA := H0.out.A
  have bB := H0.out.B
  refine wp_region_kinds [constK (.agg #[.bool ng, .slice a la ca]), keptK (.agg #[.bool false, .slice a la ca]), constK (.agg #[.bool mg, .slice b lb cb]), keptK (.agg #[.bool false, .slice b lb cb]), bigK g, .box 29 6 4, .put 5 4] [some 11, some 12, some 13, some 14, some 15, some 6, none] (by kernel_rfl) (by kernel_rfl) (by kernel_rfl) (by kernel_rfl) (by kernel_rfl) (by kernel_rfl) (by kernel_rfl) (fun i o ho => ?_) (fun val w1 hf hne hb => ?_)
  · match i, ho with
    | 0, ho =>
      obtain rfl := Option.some.inj ho
      exact ok_load (by kernel_rfl) rfl bA
    | 1, ho =>
      obtain rfl := Option.some.inj ho
      refine ok_kept (fun _ _ => by kernel_rfl) fun A L val w env facts hb => ?_
      rw [map1, dep_const env facts 0 11 _ (by kernel_rfl) rfl rfl]
      exact r2size_any _ _ _ _ _
    | 2, ho =>
      obtain rfl := Option.some.inj ho
      exact ok_load (by kernel_rfl) rfl bB
    | 3, ho =>
      obtain rfl := Option.some.inj ho
      refine ok_kept (fun _ _ => by kernel_rfl) fun A L val w env facts hb => ?_
      rw [map1, dep_const env facts 2 13 _ (by kernel_rfl) rfl rfl]
      exact r2size_any _ _ _ _ _
    | 4, ho =>
      obtain rfl := Option.some.inj ho
      refine ok_big (fun _ _ => by kernel_rfl) fun A L val w env facts hb => ?_
      rw [map2, dep_kept env facts 1 12 _ (by kernel_rfl) rfl rfl, dep_kept env facts 3 14 _ (by kernel_rfl) rfl rfl, ← HG.out]
      have h1 := big_abs ((H0.out.later hb).An)
      have h2 := big_abs ((H0.out.later hb).Bn)
      rw [← HX.out] at h1
      rw [← HY.out] at h2
      exact common_any a b la ca lb cb x y _ h1 h2 NA.out.1 NA.out.2.1 (Int.le_of_lt NA.out.2.2.1) NA.out.2.2.2
    | 5, ho =>
      obtain rfl := Option.some.inj ho
      exact ok_box
    | 6, ho =>
      obtain rfl := Option.some.inj ho
      refine ok_put rfl rfl (by kernel_rfl) (by kernel_rfl) (fun L val w h => ?_)
      obtain ⟨n, a, l, c, e, _⟩ : BigC g (val 4) w := h
      exact ⟨n, a, l, c, e⟩
    | n + 7, ho => simp at ho
  have F4 : BigC g (val 4) w1 := hf 4 (by decide)
  obtain ⟨q, e5, q0, q1, B5⟩ : ∃ q, val 5 = .pointer (some ⟨q, 0, none⟩) ∧ wr.heap.size ≤ q ∧ q < w1.heap.size ∧ BoxAt w1 q (val 4) := hf 5 (by decide)
  obtain ⟨nc, ac, lc, cc, e4, C1⟩ := BN.of B5 F4
  obtain rfl := C1.nonneg (by have := HG.out; omega)
  have GB := Lib.hid (show g < P 99 from by
    have h1 := Int.gcd_dvd_right (a := x) (b := y)
    have h2 := Int.le_of_dvd NA.out.2.2.1 h1
    have := HG.out
    have := NA.out.2.2.2
    omega)
  have GP := Lib.hid (show 0 < g from by
    have : 0 < Int.gcd x y := Int.gcd_pos_of_ne_zero_right x (by have := NA.out.2.2.1; omega)
    have := HG.out
    omega)
  have H1 := Lib.hid (H0.out.later hb)
  have HC1 := Lib.hid C1
  have Q1 := Lib.hid (show w.heap.size + 1 + 1 + 1 < q from by have := Z0.out; omega)
  simp only [puts2, Act.put, List.setIfInBounds_toArray, List.set_cons_zero, List.set_cons_succ, Nat.zero_add, Nat.reduceAdd]
  rw [e5]
  clear hf hne hb F4 B5 C1 e4 e5 q0 q1 bA bB H0 Z0
  go_wp2_with fail
  refine wp_region_kinds [constK (.agg #[.bool ng, .slice a la ca]), keptK (.agg #[.bool false, .slice a la ca]), constK (.agg #[.bool false, .slice ac lc cc]), pairK (x / g) (x % g), moveK 3, fstK 4, sndK 4, .box 29 9 5, .box 29 10 6, .put 7 5, .put 8 6]
    [some 17, some 18, some 19, some 20, some 16, some 21, some 22, some 7, some 8, none, none] (by kernel_rfl) (by kernel_rfl) (by kernel_rfl) (by kernel_rfl) (by kernel_rfl) (by kernel_rfl) (by kernel_rfl) (fun i o ho => ?_) (fun val2 w2 hf hne hb => ?_)
  · match i, ho with
    | 0, ho =>
      obtain rfl := Option.some.inj ho
      exact ok_load (by kernel_rfl) rfl H1.out.A
    | 1, ho =>
      obtain rfl := Option.some.inj ho
      refine ok_kept (fun _ _ => by kernel_rfl) fun A L val w env facts hb => ?_
      rw [map1, dep_const env facts 0 17 _ (by kernel_rfl) rfl rfl]
      exact r2size_any _ _ _ _ _
    | 2, ho =>
      obtain rfl := Option.some.inj ho
      exact ok_load (by kernel_rfl) rfl HC1.out.B
    | 3, ho =>
      obtain rfl := Option.some.inj ho
      refine ok_pair (fun _ _ => by kernel_rfl) fun A L val w env facts hb => ?_
      rw [map2, dep_kept env facts 1 18 _ (by kernel_rfl) rfl rfl, dep_const env facts 2 19 _ (by kernel_rfl) rfl rfl]
      have h1 := big_abs ((H1.out.later hb).An)
      rw [← HX.out] at h1
      exact bdown_nn _ ac _ _ lc cc x g _ h1 (HC1.out.later hb).V NA.out.1 NA.out.2.1 GP.out GB.out
    | 4, ho =>
      obtain rfl := Option.some.inj ho
      exact ok_move rfl (by kernel_rfl) rfl
    | 5, ho =>
      obtain rfl := Option.some.inj ho
      exact ok_fst rfl (by kernel_rfl) rfl
    | 6, ho =>
      obtain rfl := Option.some.inj ho
      exact ok_snd rfl (by kernel_rfl) rfl
    | 7, ho =>
      obtain rfl := Option.some.inj ho
      exact ok_box
    | 8, ho =>
      obtain rfl := Option.some.inj ho
      exact ok_box
    | 9, ho =>
      obtain rfl := Option.some.inj ho
      exact ok_put rfl rfl (by kernel_rfl) (by kernel_rfl) (fun L val w h => (h : IsBig (val 5) ∧ _).1)
    | 10, ho =>
      obtain rfl := Option.some.inj ho
      exact ok_put rfl rfl (by kernel_rfl) (by kernel_rfl) (fun L val w h => (h : IsBig (val 6) ∧ _).1)
    | n + 11, ho => simp at ho
  have F3 : PairC (x / g) (x % g) (val2 3) w2 := hf 3 (by decide)
  have F4 : val2 4 = val2 3 ∧ _ := hf 4 (by decide)
  have F5 : _ ∧ ∃ q, val2 4 = .tuple #[val2 5, q] := hf 5 (by decide)
  obtain ⟨q2, e7, q0, q1, B7⟩ : ∃ q, val2 7 = .pointer (some ⟨q, 0, none⟩) ∧ w1.heap.size ≤ q ∧ q < w2.heap.size ∧ BoxAt w2 q (val2 5) := hf 7 (by decide)
  obtain ⟨n2, a2, l2, c2, e5, C2⟩ := BN.of B7 (pair_fst F3 F4.1 F5.2)
  have H2 := Lib.hid (H1.out.later hb)
  have HC2 := Lib.hid (HC1.out.later hb)
  have D2 := Lib.hid C2
  have Q2 := Lib.hid (show w1.heap.size ≤ q2 from q0)
  have Q0 := Lib.hid HC1.out.B.lt
  simp only [puts2, Act.put, List.setIfInBounds_toArray, List.set_cons_zero, List.set_cons_succ, Nat.zero_add, Nat.reduceAdd]
  rw [e7]
  clear hf hne hb F3 F4 F5 B7 C2 e7 e5 q0 q1 H1 HC1
  go_wp2_with fail
  refine wp_region_kinds [constK (.agg #[.bool mg, .slice b lb cb]), keptK (.agg #[.bool false, .slice b lb cb]), constK (.agg #[.bool false, .slice ac lc cc]), pairK (y / g) (y % g), moveK 3, fstK 4, sndK 4, .box 29 9 5, .box 29 10 6, .put 7 5, .put 8 6]
    [some 24, some 25, some 26, some 27, some 23, some 28, some 29, some 9, some 10, none, none] (by kernel_rfl) (by kernel_rfl) (by kernel_rfl) (by kernel_rfl) (by kernel_rfl) (by kernel_rfl) (by kernel_rfl) (fun i o ho => ?_) (fun val3 w3 hf hne hb => ?_)
  · match i, ho with
    | 0, ho =>
      obtain rfl := Option.some.inj ho
      exact ok_load (by kernel_rfl) rfl H2.out.B
    | 1, ho =>
      obtain rfl := Option.some.inj ho
      refine ok_kept (fun _ _ => by kernel_rfl) fun A L val w env facts hb => ?_
      rw [map1, dep_const env facts 0 24 _ (by kernel_rfl) rfl rfl]
      exact r2size_any _ _ _ _ _
    | 2, ho =>
      obtain rfl := Option.some.inj ho
      exact ok_load (by kernel_rfl) rfl HC2.out.B
    | 3, ho =>
      obtain rfl := Option.some.inj ho
      refine ok_pair (fun _ _ => by kernel_rfl) fun A L val w env facts hb => ?_
      rw [map2, dep_kept env facts 1 25 _ (by kernel_rfl) rfl rfl, dep_const env facts 2 26 _ (by kernel_rfl) rfl rfl]
      have h1 := big_abs ((H2.out.later hb).Bn)
      rw [← HY.out] at h1
      exact bdown_nn _ ac _ _ lc cc y g _ h1 (HC2.out.later hb).V (Int.le_of_lt NA.out.2.2.1) NA.out.2.2.2 GP.out GB.out
    | 4, ho =>
      obtain rfl := Option.some.inj ho
      exact ok_move rfl (by kernel_rfl) rfl
    | 5, ho =>
      obtain rfl := Option.some.inj ho
      exact ok_fst rfl (by kernel_rfl) rfl
    | 6, ho =>
      obtain rfl := Option.some.inj ho
      exact ok_snd rfl (by kernel_rfl) rfl
    | 7, ho =>
      obtain rfl := Option.some.inj ho
      exact ok_box
    | 8, ho =>
      obtain rfl := Option.some.inj ho
      exact ok_box
    | 9, ho =>
      obtain rfl := Option.some.inj ho
      exact ok_put rfl rfl (by kernel_rfl) (by kernel_rfl) (fun L val w h => (h : IsBig (val 5) ∧ _).1)
    | 10, ho =>
      obtain rfl := Option.some.inj ho
      exact ok_put rfl rfl (by kernel_rfl) (by kernel_rfl) (fun L val w h => (h : IsBig (val 6) ∧ _).1)
    | n + 11, ho => simp at ho
  have F3 : PairC (y / g) (y % g) (val3 3) w3 := hf 3 (by decide)
  have F4 : val3 4 = val3 3 ∧ _ := hf 4 (by decide)
  have F5 : _ ∧ ∃ q, val3 4 = .tuple #[val3 5, q] := hf 5 (by decide)
  obtain ⟨q3, e7, q0, q1, B7⟩ : ∃ q, val3 7 = .pointer (some ⟨q, 0, none⟩) ∧ w2.heap.size ≤ q ∧ q < w3.heap.size ∧ BoxAt w3 q (val3 5) := hf 7 (by decide)
  obtain ⟨n3, a3, l3, c3, e5, C3⟩ := BN.of B7 (pair_fst F3 F4.1 F5.2)
  have H3 := Lib.hid (H2.out.later hb)
  have D3 := Lib.hid (D2.out.later hb)
  have E3 := Lib.hid C3
  have Q3 := Lib.hid (show w2.heap.size ≤ q3 from q0)
  have LT := Lib.hid D2.out.B.lt
  simp only [puts2, Act.put, List.setIfInBounds_toArray, List.set_cons_zero, List.set_cons_succ, Nat.zero_add, Nat.reduceAdd]
  rw [e7]
  clear hf hne hb F3 F4 F5 B7 C3 e7 e5 q0 q1 H2 D2 HC2
  have ne23 := Lib.hid (show q2 < q3 from by have := LT.out; have := Q3.out; omega)
  have LQ := Lib.hid (show w.heap.size + 1 + 1 + 1 < q2 from by
    have := Q1.out; have := Q2.out; have := Q0.out; omega)
  obtain ⟨p0, p1, _, _⟩ := H3.out.A
  obtain ⟨p2, p3, _, _⟩ := H3.out.B
  by_cases hs : (ng != mg) = true
  · have HRR := Lib.hid (show R = -(x / g) from by rw [HR.out, if_pos hs])
    have hs' : (!ng == mg) = true := by cases ng <;> cases mg <;> simp at hs ⊢
    obtain ⟨k0, k1, k2, k3⟩ := D3.out.B
    go_wp2_with fail
    refine (minus_any n2 a2 l2 c2 (x / g) _ D3.out.V (Nat.le_trans (D3.out.V.len 99 (by have := quo_le NA.out.1 GP.out; have := P_pos 99; omega) (by have := quo_le NA.out.1 GP.out; have := NA.out.2.1; omega)) (by decide))).mono ?_
    rintro e w5 ⟨n4, a4, l4, c4, rfl, hv5, hb5⟩
    have D5 := Lib.hid (D3.out.B.later hb5)
    have H4 := Lib.hid ((H3.out.later hb5).put D5.out LQ.out (.bool n4) (.slice a4 l4 c4))
    have D4 := Lib.hid (show BN _ q2 n4 a4 l4 c4 (-(x / g)) from ⟨D5.out.set n4 a4 l4 c4, hv5.setBV D5.out (.bool n4) (.slice a4 l4 c4)⟩)
    have E4 := Lib.hid (show BN _ q3 n3 a3 l3 c3 (y / g) from ⟨((E3.out.later hb5).B).other (by have := ne23.out; omega) (.bool n4) (.slice a4 l4 c4), (E3.out.later hb5).V.setBV D5.out (.bool n4) (.slice a4 l4 c4)⟩)
    clear hv5 hb5 k0 k1 k2 k3 p0 p1 p2 p3 H3 D3 E3
    obtain ⟨k0, k1, k2, k3⟩ := D5.out
    go_wp2_with fail
    clear k0 k1 k2 k3
    obtain ⟨r0, r1, r2, r3⟩ := H4.out.R1
    obtain ⟨r4, r5, r6, r7⟩ := H4.out.R2
    obtain ⟨d0, d1, d2, d3⟩ := D4.out.B
    obtain ⟨g0, g1, g2, g3⟩ := E4.out.B
    have x1 : ¬ w.heap.size + 1 + 1 = q3 := by have := LQ.out; have := ne23.out; omega
    have x2 : ¬ w.heap.size + 1 + 1 + 1 = q3 := by have := LQ.out; have := ne23.out; omega
    have x3 : ¬ w.heap.size + 1 + 1 = q2 := by have := LQ.out; omega
    have x4 : ¬ w.heap.size + 1 + 1 + 1 = q2 := by have := LQ.out; omega
    go_wp2_with fail
    go_region
    all_goals
      go_wp2_with fail
      refine bodyPost_ret (v := .tuple #[.agg #[.bool n4, .slice a4 l4 c4], .agg #[.bool n3, .slice a3 l3 c3]]) (by simp [results, Try.results27, go_sem, *]) rfl ?_
      have v1 := D4.out.V.setBV H4.out.R1 (.bool n4) (.slice a4 l4 c4)
      have v2 := E4.out.V.setBV H4.out.R1 (.bool n4) (.slice a4 l4 c4)
      have rr := H4.out.R2.other (b' := w.heap.size + 1 + 1) (by omega) (.bool n4) (.slice a4 l4 c4)
      have dr : ∀ wx : World, Below wx.heap.size wx wx.drew := fun wx => Below.drew (Below.refl _ _)
      rw [HRR.out]
      exact ⟨n4, a4, l4, c4, n3, a3, l3, c3, rfl, (v1.setBV rr _ _).later (dr _), (v2.setBV rr _ _).later (dr _), Below.drew ((((H4.out.bel.setCell (by show w.heap.size ≤ w.heap.size + 1 + 1; omega) _).setCell (by show w.heap.size ≤ w.heap.size + 1 + 1; omega) _).setCell (by show w.heap.size ≤ w.heap.size + 1 + 1 + 1; omega) _).setCell (by show w.heap.size ≤ w.heap.size + 1 + 1 + 1; omega) _)⟩
  · have HRR := Lib.hid (show R = x / g from by rw [HR.out, if_neg hs])
    have hs' : (!ng == mg) = false := by cases ng <;> cases mg <;> simp at hs ⊢
    have H4 := H3
    have D4 := D3
    have E4 := E3
    obtain ⟨n4, hn4⟩ : ∃ n4, n4 = n2 := ⟨_, rfl⟩
    obtain ⟨a4, ha4⟩ : ∃ a4, a4 = a2 := ⟨_, rfl⟩
    obtain ⟨l4, hl4⟩ : ∃ l4, l4 = l2 := ⟨_, rfl⟩
    obtain ⟨c4, hc4⟩ : ∃ c4, c4 = c2 := ⟨_, rfl⟩
    subst hn4 ha4 hl4 hc4
    go_wp2_with fail
    clear p0 p1 p2 p3
    obtain ⟨r0, r1, r2, r3⟩ := H4.out.R1
    obtain ⟨r4, r5, r6, r7⟩ := H4.out.R2
    obtain ⟨d0, d1, d2, d3⟩ := D4.out.B
    obtain ⟨g0, g1, g2, g3⟩ := E4.out.B
    have x1 : ¬ w.heap.size + 1 + 1 = q3 := by have := LQ.out; have := ne23.out; omega
    have x2 : ¬ w.heap.size + 1 + 1 + 1 = q3 := by have := LQ.out; have := ne23.out; omega
    have x3 : ¬ w.heap.size + 1 + 1 = q2 := by have := LQ.out; omega
    have x4 : ¬ w.heap.size + 1 + 1 + 1 = q2 := by have := LQ.out; omega
    go_wp2_with fail
    go_region
    all_goals
      go_wp2_with fail
      refine bodyPost_ret (v := .tuple #[.agg #[.bool n4, .slice a4 l4 c4], .agg #[.bool n3, .slice a3 l3 c3]]) (by simp [results, Try.results27, go_sem, *]) rfl ?_
      have v1 := D4.out.V.setBV H4.out.R1 (.bool n4) (.slice a4 l4 c4)
      have v2 := E4.out.V.setBV H4.out.R1 (.bool n4) (.slice a4 l4 c4)
      have rr := H4.out.R2.other (b' := w.heap.size + 1 + 1) (by omega) (.bool n4) (.slice a4 l4 c4)
      have dr : ∀ wx : World, Below wx.heap.size wx wx.drew := fun wx => Below.drew (Below.refl _ _)
      rw [HRR.out]
      exact ⟨n4, a4, l4, c4, n3, a3, l3, c3, rfl, (v1.setBV rr _ _).later (dr _), (v2.setBV rr _ _).later (dr _), Below.drew ((((H4.out.bel.setCell (by show w.heap.size ≤ w.heap.size + 1 + 1; omega) _).setCell (by show w.heap.size ≤ w.heap.size + 1 + 1; omega) _).setCell (by show w.heap.size ≤ w.heap.size + 1 + 1 + 1; omega) _).setCell (by show w.heap.size ≤ w.heap.size + 1 + 1 + 1; omega) _)⟩
end Go.Proofs.Ytkohefgendcofaa
