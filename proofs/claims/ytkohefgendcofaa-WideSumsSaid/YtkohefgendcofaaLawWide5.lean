/- WideSums: its walk. -/
import Derived.Test.YtkohefgendcofaaKit4
import Derived.Test.YtkohefgendcofaaSpk1
import Derived.Test.YtkohefgendcofaaRegC
import Derived.Test.YtkohefgendcofaaRefB
import Derived.WalkKit
import Derived.WalkSpells
import Derived.WalkLawsBesides
import Derived.Handy
import Derived.Lib.Hide
import Derived.Deep.QuietTactic
import Derived.BigQuiet
import Derived.Deep.RegionHeld3
import Derived.Deep.RegionWith
import Derived.RegionTactic
import Derived.BigRegion
import Derived.Outline
import Derived.Deep.DeepCutAuto
namespace Go.Proofs.Ytkohefgendcofaa
open Go.RowKit Go.Proofs.Big Go.Proofs.Reg
set_option linter.unusedVariables false
set_option linter.unusedSimpArgs false
set_option maxRecDepth 100000
/-- the numbers of WideSums in memory -/
structure SV (w wr : World) (x y a b : Nat) (xh xl yh yl : Int) (na : Bool) (aa : Option Addr) (la ca : Nat) (nb : Bool) (ab : Option Addr) (lb cb : Nat) : Prop where
  X : WV wr x xh xl
  Y : WV wr y yh yl
  A : BV wr a na aa la ca
  B : BV wr b nb ab lb cb
  An : BigV wr na aa la ca (xh * 18446744073709551616 + xl)
  Bn : BigV wr nb ab lb cb (yh * 18446744073709551616 + yl)
  bel : Below w.heap.size w wr
theorem SV.later {w wr wx : World} {x y a b : Nat} {xh xl yh yl : Int} {na nb : Bool} {aa ab : Option Addr} {la ca lb cb : Nat} (q : SV w wr x y a b xh xl yh yl na aa la ca nb ab lb cb) (hb : Below wr.heap.size wr wx) : SV w wx x y a b xh xl yh yl na aa la ca nb ab lb cb :=
  ⟨q.X.later hb, q.Y.later hb, q.A.later hb, q.B.later hb, q.An.later hb, q.Bn.later hb, bel_trans q.bel hb⟩
set_option maxRecDepth 100000 in
/-- and what is come by: the sum and the negation, of both kinds -/
structure SE (w wr : World) (x y p q : Nat) (a b c d : Int) (na : Bool) (aa : Option Addr) (la ca : Nat) (nb : Bool) (ab : Option Addr) (lb cb : Nat) (s : Nat) (h l : Int) (t : Nat) (nt : Bool) (at' : Option Addr) (lt ct : Nat) (n : Nat) (g k : Int) (m : Nat) (nm : Bool) (am : Option Addr) (lm cm : Nat) : Prop where
  V : SV w wr x y p q a b c d na aa la ca nb ab lb cb
  S : WV wr s h l
  T : BN wr t nt at' lt ct ((a * 18446744073709551616 + b) + (c * 18446744073709551616 + d))
  N : WV wr n g k
  M : BN wr m nm am lm cm (-(a * 18446744073709551616 + b))
theorem SE.later {w wr wx : World} {x y p q : Nat} {a b c d : Int} {na : Bool} {aa : Option Addr} {la ca : Nat} {nb : Bool} {ab : Option Addr} {lb cb : Nat} {s : Nat} {h l : Int} {t : Nat} {nt : Bool} {at' : Option Addr} {lt ct : Nat} {n : Nat} {g k : Int} {m : Nat} {nm : Bool} {am : Option Addr} {lm cm : Nat} (e : SE w wr x y p q a b c d na aa la ca nb ab lb cb s h l t nt at' lt ct n g k m nm am lm cm) (hb : Below wr.heap.size wr wx) : SE w wx x y p q a b c d na aa la ca nb ab lb cb s h l t nt at' lt ct n g k m nm am lm cm :=
  ⟨e.V.later hb, e.S.later hb, e.T.later hb, e.N.later hb, e.M.later hb⟩
theorem len_of {N : Int} (s : Sm N) : ∀ {ng : Bool} {a : Option Addr} {l c : Nat} (w : World), BigV w ng a l c N → l ≤ 100 := fun w h => Sm.le h s
set_option maxHeartbeats 8000000 in
theorem law_sums (a b c d : Int) (A0 : -9223372036854775808 ≤ a) (A1 : a ≤ 9223372036854775807) (B0 : 0 ≤ b) (B1 : b < 18446744073709551616) (C0 : -9223372036854775808 ≤ c) (C1 : c ≤ 9223372036854775807) (D0 : 0 ≤ d) (D1 : d < 18446744073709551616) (w : World) :
    Calls Try.prog 3 #[.agg #[.int .i64 a, .int .u64 b], .agg #[.int .i64 c, .int .u64 d]] w fun e w' => e = .returned (.bool true) ∧ Below w.heap.size w w' := by
  obtain ⟨ok, h, l, h0, h1, l0, l1, s1, s2, s3, SA⟩ := add_ex a b c d A0 A1 B0 B1 C0 C1 D0 D1
  obtain ⟨is, g, k, g0, g1, k0, k1, t1, t2, t3, NE⟩ := wneg_ex a b A0 A1 B0 B1
  have LA0 := Lib.hid (fun (ng : Bool) (a' : Option Addr) (l' c' : Nat) (w : World) (h : BigV w ng a' l' c' (a * 18446744073709551616 + b)) => len_of (sm_of (a * 18446744073709551616 + b) (by omega) (by omega)) w h)
  have LB0 := Lib.hid (fun (ng : Bool) (a' : Option Addr) (l' c' : Nat) (w : World) (h : BigV w ng a' l' c' (c * 18446744073709551616 + d)) => len_of (sm_of (c * 18446744073709551616 + d) (by omega) (by omega)) w h)
  have LT0 := Lib.hid (fun (ng : Bool) (a' : Option Addr) (l' c' : Nat) (w : World) (h : BigV w ng a' l' c' ((a * 18446744073709551616 + b) + (c * 18446744073709551616 + d))) => len_of (sm_of ((a * 18446744073709551616 + b) + (c * 18446744073709551616 + d)) (by omega) (by omega)) w h)
  have LM0 := Lib.hid (fun (ng : Bool) (a' : Option Addr) (l' c' : Nat) (w : World) (h : BigV w ng a' l' c' (-(a * 18446744073709551616 + b))) => len_of (sm_of (-(a * 18446744073709551616 + b)) (by omega) (by omega)) w h)
  have HS := Lib.hid (And.intro s1 (And.intro s2 s3))
  have HT := Lib.hid (And.intro t1 (And.intro t2 t3))
  have HA := Lib.hid SA
  have HN := Lib.hid NE
  clear s1 s2 s3 t1 t2 t3 SA NE
  go_enter Try.func3, Try.ntmps3
  go_wp2_with fail
  refine (speaks1_any _).mono ?_
  rintro e w1 ⟨rfl, hb1⟩
  have X1 := Lib.hid (((WV.new w a b 24).later (below_alloc _ (.cells #[.int .i64 c, .int .u64 d] 24))).later hb1)
  have Y1 := Lib.hid ((WV.new (w.alloc (.cells #[.int .i64 a, .int .u64 b] 24)) c d 24).later hb1)
  have K1 := Lib.hid (bel_trans (bel_trans (below_alloc w _) (below_alloc _ _)) hb1)
  simp only [World.size_alloc] at X1 Y1
  clear hb1
  obtain ⟨q0, q1⟩ := X1.out
  obtain ⟨q2, q3⟩ := Y1.out
  have n0 := X1.out.lt
  have n1 := Y1.out.lt
  have n01 : w.heap.size < w1.heap.size + 1 := by omega
  have n02 : w.heap.size < w1.heap.size + 1 + 1 := by omega
  have n11 : w.heap.size + 1 < w1.heap.size + 1 := by omega
  have n12 : w.heap.size + 1 < w1.heap.size + 1 + 1 := by omega
  go_upto_region 3 with fail
  go_cut [5, 6] (fun s5 s6 wx => ∃ x y : Nat, s5 = .pointer (some ⟨x, 0, none⟩) ∧ s6 = .pointer (some ⟨y, 0, none⟩) ∧ Hid (WV wx x a b) ∧ Hid (WV wx y c d) ∧ Hid (Below w.heap.size w wx))
  case first =>
    go_region_held3 (fun w' => w'.cell? ⟨w.heap.size, 0, none⟩ = some (.int .i64 a) ∧ w'.cell? ⟨w.heap.size, 1, none⟩ = some (.int .u64 b) ∧ w'.cell? ⟨w.heap.size + 1, 0, none⟩ = some (.int .i64 c) ∧ w'.cell? ⟨w.heap.size + 1, 1, none⟩ = some (.int .u64 d)) (simp [go_sem, World.cell?_alloc_past, *]) (fail)
    all_goals
      go_wp2_with fail
      go_meet
      refine ⟨_, _, rfl, rfl, Lib.hid ⟨by simp [go_sem], by simp [go_sem]⟩, Lib.hid ⟨by simp [go_sem], by simp [go_sem]⟩, Lib.hid ?_⟩
      have hb := K1.out
      repeat' (first | exact hb | (with_reducible refine Below.drew ?_) | (with_reducible refine Below.alloc ?_ ?_ _) | (with_reducible refine Below.setCell ?_ ?_ _) | go_size)
  case rest =>
    obtain ⟨x, y, rfl, rfl, HX, HY, HB⟩ := hcut
    clear q0 q1 q2 q3 n0 n1 n01 n02 n11 n12 X1 Y1 K1
    go_wp2_with fail
    refine wp_region_kinds [constK (.pointer (some ⟨x, 0, none⟩)), constK (.int .i64 a), constK (.pointer (some ⟨x, 1, none⟩)), constK (.int .u64 b), bigK (a * 18446744073709551616 + b), constK (.pointer (some ⟨y, 0, none⟩)), constK (.int .i64 c), constK (.pointer (some ⟨y, 1, none⟩)), constK (.int .u64 d), bigK (c * 18446744073709551616 + d), .box 29 12 4, .box 29 13 9, .put 10 4, .put 11 9]
      [some 19, some 20, some 21, some 22, some 23, some 24, some 25, some 26, some 27, some 28, some 7, some 8, none, none] (by kernel_rfl) (by kernel_rfl) (by kernel_rfl) (by kernel_rfl) (by kernel_rfl) (by kernel_rfl) (by kernel_rfl) (fun i o ho => ?_) (fun val w2 hf hne hb => ?_)
    · match i, ho with
      | 0, ho =>
        obtain rfl := Option.some.inj ho
        exact ok_field0 (by kernel_rfl) rfl
      | 1, ho =>
        obtain rfl := Option.some.inj ho
        exact ok_cell64 (j := 0) rfl (by kernel_rfl) rfl HX.out.c0
      | 2, ho =>
        obtain rfl := Option.some.inj ho
        exact ok_field1 (by kernel_rfl) rfl
      | 3, ho =>
        obtain rfl := Option.some.inj ho
        exact ok_cellu64 (j := 2) rfl (by kernel_rfl) rfl HX.out.c1
      | 4, ho =>
        obtain rfl := Option.some.inj ho
        refine ok_big (fun _ _ => by kernel_rfl) fun A L val w env facts hb => ?_
        rw [map2, dep_const env facts 1 20 _ (by kernel_rfl) rfl rfl, dep_const env facts 3 22 _ (by kernel_rfl) rfl rfl]
        exact ofwide_any a b A0 A1 B0 B1 w
      | 5, ho =>
        obtain rfl := Option.some.inj ho
        exact ok_field0 (by kernel_rfl) rfl
      | 6, ho =>
        obtain rfl := Option.some.inj ho
        exact ok_cell64 (j := 5) rfl (by kernel_rfl) rfl HY.out.c0
      | 7, ho =>
        obtain rfl := Option.some.inj ho
        exact ok_field1 (by kernel_rfl) rfl
      | 8, ho =>
        obtain rfl := Option.some.inj ho
        exact ok_cellu64 (j := 7) rfl (by kernel_rfl) rfl HY.out.c1
      | 9, ho =>
        obtain rfl := Option.some.inj ho
        refine ok_big (fun _ _ => by kernel_rfl) fun A L val w env facts hb => ?_
        rw [map2, dep_const env facts 6 25 _ (by kernel_rfl) rfl rfl, dep_const env facts 8 27 _ (by kernel_rfl) rfl rfl]
        exact ofwide_any c d C0 C1 D0 D1 w
      | 10, ho =>
        obtain rfl := Option.some.inj ho
        exact ok_box
      | 11, ho =>
        obtain rfl := Option.some.inj ho
        exact ok_box
      | 12, ho =>
        obtain rfl := Option.some.inj ho
        refine ok_put rfl rfl (by kernel_rfl) (by kernel_rfl) (fun L val w h => ?_)
        obtain ⟨n, a, l, c, e, _⟩ : BigC (a * 18446744073709551616 + b) (val 4) w := h
        exact ⟨n, a, l, c, e⟩
      | 13, ho =>
        obtain rfl := Option.some.inj ho
        refine ok_put rfl rfl (by kernel_rfl) (by kernel_rfl) (fun L val w h => ?_)
        obtain ⟨n, a, l, c, e, _⟩ : BigC (c * 18446744073709551616 + d) (val 9) w := h
        exact ⟨n, a, l, c, e⟩
      | n + 14, ho => simp at ho
    have F1 : BigC (a * 18446744073709551616 + b) (val 4) w2 := hf 4 (by decide)
    have F2 : BigC (c * 18446744073709551616 + d) (val 9) w2 := hf 9 (by decide)
    obtain ⟨p, ep, _, _, BP⟩ : ∃ q, val 10 = .pointer (some ⟨q, 0, none⟩) ∧ _ ≤ q ∧ q < w2.heap.size ∧ BoxAt w2 q (val 4) := hf 10 (by decide)
    obtain ⟨q, eq, _, _, BQ⟩ : ∃ q, val 11 = .pointer (some ⟨q, 0, none⟩) ∧ _ ≤ q ∧ q < w2.heap.size ∧ BoxAt w2 q (val 9) := hf 11 (by decide)
    obtain ⟨na, aa, la, ca, _, CP⟩ := BN.of BP F1
    obtain ⟨nb, ab, lb, cb, _, CQ⟩ := BN.of BQ F2
    have V2 := Lib.hid (show SV w w2 x y p q a b c d na aa la ca nb ab lb cb from ⟨HX.out.later hb, HY.out.later hb, CP.B, CQ.B, CP.V, CQ.V, bel_trans HB.out hb⟩)
    simp only [puts2, Act.put, List.setIfInBounds_toArray, List.set_cons_zero, List.set_cons_succ, Nat.zero_add, Nat.reduceAdd]
    rw [ep, eq]
    clear hf hne hb F1 F2 BP BQ CP CQ ep eq HX HY HB
    obtain ⟨x0, x1⟩ := V2.out.X
    obtain ⟨y0, y1⟩ := V2.out.Y
    go_wp2_with fail
    refine (HA.out _).mono ?_
    rintro e w3 ⟨rfl, hb3⟩
    have V3 := Lib.hid ((V2.out.later hb3).later (below_alloc w3 (.cells #[.int .i64 h, .int .u64 l] 26)))
    have S3 := Lib.hid (WV.new w3 h l 26)
    clear hb3 V2 x0 x1 y0 y1
    obtain ⟨a0, a1, _, _⟩ := V3.out.A
    obtain ⟨b0, b1, _, _⟩ := V3.out.B
    go_wp2_with fail
    refine (plus_any na nb aa ab la ca lb cb (a * 18446744073709551616 + b) (c * 18446744073709551616 + d) _ V3.out.An V3.out.Bn (by have := LA0.out _ _ _ _ _ V3.out.An; omega) (by have := LB0.out _ _ _ _ _ V3.out.Bn; omega)).mono ?_
    rintro e w4 ⟨nt, at', lt, ct, rfl, hv4, hb4⟩
    have LA := Lib.hid (LA0.out _ _ _ _ _ V3.out.An)
    have LB := Lib.hid (LB0.out _ _ _ _ _ V3.out.Bn)
    have LT := Lib.hid (LT0.out _ _ _ _ _ hv4)
    have V4 := Lib.hid ((V3.out.later hb4).later (below_alloc w4 (.cells #[.bool nt, .slice at' lt ct] 29)))
    have S4 := Lib.hid ((S3.out.later hb4).later (below_alloc w4 (.cells #[.bool nt, .slice at' lt ct] 29)))
    have T4 := Lib.hid (show BN (w4.alloc (.cells #[.bool nt, .slice at' lt ct] 29)) w4.heap.size nt at' lt ct ((a * 18446744073709551616 + b) + (c * 18446744073709551616 + d)) from ⟨BV.new w4 nt at' lt ct 29, hv4.alloc _⟩)
    clear hv4 hb4 V3 S3 a0 a1 b0 b1
    obtain ⟨x0, x1⟩ := V4.out.X
    go_wp2_with fail
    refine (HN.out _).mono ?_
    rintro e w5 ⟨rfl, hb5⟩
    have V5 := Lib.hid ((V4.out.later hb5).later (below_alloc w5 (.cells #[.int .i64 g, .int .u64 k] 26)))
    have S5 := Lib.hid ((S4.out.later hb5).later (below_alloc w5 (.cells #[.int .i64 g, .int .u64 k] 26)))
    have T5 := Lib.hid ((T4.out.later hb5).later (below_alloc w5 (.cells #[.int .i64 g, .int .u64 k] 26)))
    have N5 := Lib.hid (WV.new w5 g k 26)
    clear hb5 V4 S4 T4 x0 x1
    obtain ⟨a0, a1, _, _⟩ := V5.out.A
    go_wp2_with fail
    refine (minus_any na aa la ca (a * 18446744073709551616 + b) _ V5.out.An (by have := LA.out; omega)).mono ?_
    rintro e w6 ⟨nm, am, lm, cm, rfl, hv6, hb6⟩
    have LM := Lib.hid (LM0.out _ _ _ _ _ hv6)
    have E8 := Lib.hid (show SE w (w6.alloc (.cells #[.bool nm, .slice am lm cm] 29)) x y p q a b c d na aa la ca nb ab lb cb w3.heap.size h l w4.heap.size nt at' lt ct w5.heap.size g k w6.heap.size nm am lm cm from
      ⟨(V5.out.later hb6).later (below_alloc w6 _), (S5.out.later hb6).later (below_alloc w6 _), (T5.out.later hb6).later (below_alloc w6 _), (N5.out.later hb6).later (below_alloc w6 _), ⟨BV.new w6 nm am lm cm 29, hv6.alloc _⟩⟩)
    clear hv6 hb6 V5 S5 T5 N5 a0 a1
    obtain ⟨z0, z1, _, _⟩ := E8.out.T.B
    have FT := Lib.hid (HS.out.2.1)
    have FM : Hid (is = decide (-170141183460469231731687303715884105728 ≤ -(a * 18446744073709551616 + b) ∧ -(a * 18446744073709551616 + b) < 170141183460469231731687303715884105728)) := Lib.hid (by
      rw [HT.out.2.1]
      congr 1
      exact propext ⟨fun h => ⟨by omega, h⟩, fun h => h.2⟩)
    obtain ⟨r, hr⟩ : ∃ r, r = cmpI (a * 18446744073709551616 + b) (c * 18446744073709551616 + d) := ⟨_, rfl⟩
    have HR := Lib.hid hr
    clear hr HA HN LA0 LB0 LT0 LM0
    generalize w3.heap.size = sb at *
    generalize w4.heap.size = tb at *
    generalize w5.heap.size = nb' at *
    cases ok <;> cases is
    · -- neither
      obtain ⟨rfl, rfl⟩ := HS.out.2.2 rfl
      obtain ⟨rfl, rfl⟩ := HT.out.2.2 rfl
      go_wp2_with fail
      refine (bfits_any nt at' lt ct ((a * 18446744073709551616 + b) + (c * 18446744073709551616 + d)) _ E8.out.T.V (by have := LT.out; omega) false FT).mono ?_
      rintro e w9 ⟨rfl, hb9⟩
      have E9 := Lib.hid (E8.out.later hb9)
      clear hb9 E8 z0 z1
      obtain ⟨z0, z1, _, _⟩ := E9.out.M.B
      go_wp2_with fail
      refine (bfits_any nm am lm cm (-(a * 18446744073709551616 + b)) _ E9.out.M.V (by have := LM.out; omega) false FM).mono ?_
      rintro e w10 ⟨rfl, hb10⟩
      have E10 := Lib.hid (E9.out.later hb10)
      clear hb10 E9 z0 z1
      have E11 := E10
      clear E10
      have E12 := E11
      clear E11
      go_wp2_with fail
      refine wp_region_guarded [constK (.bool false), constK (.bool false), constK (.agg #[.int .i64 0, .int .u64 0]), constK (.agg #[.int .i64 0, .int .u64 0]), constK (.bool true), constK (.bool true), constK (.bool true), constK (.bool false), constK (.bool false), constK (.agg #[.int .i64 0, .int .u64 0]), constK (.agg #[.int .i64 0, .int .u64 0]), constK (.bool true), constK (.bool true), constK (.bool true), constK (.bool true), constK (.agg #[.int .i64 a, .int .u64 b]), constK (.agg #[.int .i64 c, .int .u64 d]), keptK (.int .i64 r), constK (.agg #[.bool na, .slice aa la ca]), constK (.agg #[.bool nb, .slice ab lb cb]), keptK (.int .i64 r), constK (.bool true), constK (.bool true), constK (.bool true)]
        [some 73, some 74, some 75, some 76, some 77, some 78, some 79, some 80, some 81, some 82, some 83, some 84, some 85, some 86, some 87, some 88, some 89, some 90, some 91, some 92, some 93, some 94, some 95, some 4] (by kernel_rfl) (by kernel_rfl) (by kernel_rfl) (by kernel_rfl) (by kernel_rfl) (by kernel_rfl) (fun i o ho => ?_) (fun val w13 hf hne hb => ?_)
      · match i, ho with
        | 0, ho =>
          obtain rfl := Option.some.inj ho
          exact st_plain (ok_argG (by kernel_rfl) rfl) rfl
        | 1, ho =>
          obtain rfl := Option.some.inj ho
          exact st_plain (ok_moveC (j := 0) rfl (by kernel_rfl) rfl) rfl
        | 2, ho =>
          obtain rfl := Option.some.inj ho
          exact st_run (ok_loadW (by kernel_rfl) rfl E12.out.S) rfl (by kernel_rfl) (t := 74) (g := 1) rfl rfl
        | 3, ho =>
          obtain rfl := Option.some.inj ho
          exact st_run (ok_const fun A L val w env facts hb => by kernel_rfl) rfl (by kernel_rfl) (t := 74) (g := 1) rfl rfl
        | 4, ho =>
          obtain rfl := Option.some.inj ho
          exact st_run (ok_eqZ (j := 2) (k := 3) rfl (by kernel_rfl) rfl rfl (by kernel_rfl) rfl) rfl (by kernel_rfl) (t := 74) (g := 1) rfl rfl
        | 5, ho =>
          obtain rfl := Option.some.inj ho
          exact st_plain (ok_or (j := 1) (k := 4) rfl (by kernel_rfl) rfl rfl (by kernel_rfl) rfl rfl) rfl
        | 6, ho =>
          obtain rfl := Option.some.inj ho
          exact st_plain (ok_moveC (j := 5) rfl (by kernel_rfl) rfl) rfl
        | 7, ho =>
          obtain rfl := Option.some.inj ho
          exact st_run (ok_argG (by kernel_rfl) rfl) rfl (by kernel_rfl) (t := 79) (g := 6) rfl rfl
        | 8, ho =>
          obtain rfl := Option.some.inj ho
          exact st_run (ok_moveC (j := 7) rfl (by kernel_rfl) rfl) rfl (by kernel_rfl) (t := 79) (g := 6) rfl rfl
        | 9, ho =>
          obtain rfl := Option.some.inj ho
          exact st_run (ok_loadW (by kernel_rfl) rfl E12.out.N) rfl (by kernel_rfl) (t := 81) (g := 8) rfl rfl
        | 10, ho =>
          obtain rfl := Option.some.inj ho
          exact st_run (ok_const fun A L val w env facts hb => by kernel_rfl) rfl (by kernel_rfl) (t := 81) (g := 8) rfl rfl
        | 11, ho =>
          obtain rfl := Option.some.inj ho
          exact st_run (ok_eqZ (j := 9) (k := 10) rfl (by kernel_rfl) rfl rfl (by kernel_rfl) rfl) rfl (by kernel_rfl) (t := 81) (g := 8) rfl rfl
        | 12, ho =>
          obtain rfl := Option.some.inj ho
          exact st_run (ok_or (j := 8) (k := 11) rfl (by kernel_rfl) rfl rfl (by kernel_rfl) rfl rfl) rfl (by kernel_rfl) (t := 79) (g := 6) rfl rfl
        | 13, ho =>
          obtain rfl := Option.some.inj ho
          exact st_plain (ok_and (j := 6) (k := 12) rfl (by kernel_rfl) rfl rfl (by kernel_rfl) rfl rfl) rfl
        | 14, ho =>
          obtain rfl := Option.some.inj ho
          exact st_plain (ok_moveC (j := 13) rfl (by kernel_rfl) rfl) rfl
        | 15, ho =>
          obtain rfl := Option.some.inj ho
          exact st_run (ok_loadW (by kernel_rfl) rfl E12.out.V.X) rfl (by kernel_rfl) (t := 87) (g := 14) rfl rfl
        | 16, ho =>
          obtain rfl := Option.some.inj ho
          exact st_run (ok_loadW (by kernel_rfl) rfl E12.out.V.Y) rfl (by kernel_rfl) (t := 87) (g := 14) rfl rfl
        | 17, ho =>
          obtain rfl := Option.some.inj ho
          refine st_run (ok_keptG (fun _ _ => by kernel_rfl) fun A L val w env facts hb => ?_) rfl (by kernel_rfl) (t := 87) (g := 14) rfl rfl
          rw [map2, dep_const env facts 15 88 _ (by kernel_rfl) rfl rfl, dep_const env facts 16 89 _ (by kernel_rfl) rfl rfl]
          exact cmp_below a b c d r B0 B1 D0 D1 HR.out w
        | 18, ho =>
          obtain rfl := Option.some.inj ho
          exact st_run (ok_loadB (by kernel_rfl) rfl E12.out.V.A) rfl (by kernel_rfl) (t := 87) (g := 14) rfl rfl
        | 19, ho =>
          obtain rfl := Option.some.inj ho
          exact st_run (ok_loadB (by kernel_rfl) rfl E12.out.V.B) rfl (by kernel_rfl) (t := 87) (g := 14) rfl rfl
        | 20, ho =>
          obtain rfl := Option.some.inj ho
          refine st_run (ok_keptG (fun _ _ => by kernel_rfl) fun A L val w env facts hb => ?_) rfl (by kernel_rfl) (t := 87) (g := 14) rfl rfl
          rw [map2, dep_const env facts 18 91 _ (by kernel_rfl) rfl rfl, dep_const env facts 19 92 _ (by kernel_rfl) rfl rfl]
          exact bcmp_any na nb aa ab la ca lb cb (a * 18446744073709551616 + b) (c * 18446744073709551616 + d) r w (E12.out.V.later hb).An (E12.out.V.later hb).Bn (by have := LA.out; omega) (by have := LB.out; omega) HR
        | 21, ho =>
          obtain rfl := Option.some.inj ho
          exact st_run (ok_eqK (j := 17) (k := 20) rfl (by kernel_rfl) rfl rfl (by kernel_rfl) rfl) rfl (by kernel_rfl) (t := 87) (g := 14) rfl rfl
        | 22, ho =>
          obtain rfl := Option.some.inj ho
          exact st_plain (ok_and (j := 14) (k := 21) rfl (by kernel_rfl) rfl rfl (by kernel_rfl) rfl rfl) rfl
        | 23, ho =>
          obtain rfl := Option.some.inj ho
          exact st_plain (ok_assignC (j := 22) rfl (by kernel_rfl) rfl) rfl
        | n + 24, ho => simp at ho
      have F : val 23 = .bool true := hf 23 (by decide)
      have KF := Lib.hid (bel_trans E12.out.V.bel hb)
      simp only [puts2, Act.put, List.setIfInBounds_toArray, List.set_cons_zero, List.set_cons_succ, Nat.zero_add, Nat.reduceAdd]
      rw [F]
      clear hf hne hb F
      go_wp2_with fail
      go_returns
      exact ⟨rfl, KF.out⟩
    · -- the negation alone
      obtain ⟨rfl, rfl⟩ := HS.out.2.2 rfl
      go_wp2_with fail
      refine (bfits_any nt at' lt ct ((a * 18446744073709551616 + b) + (c * 18446744073709551616 + d)) _ E8.out.T.V (by have := LT.out; omega) false FT).mono ?_
      rintro e w9 ⟨rfl, hb9⟩
      have E9 := Lib.hid (E8.out.later hb9)
      clear hb9 E8 z0 z1
      obtain ⟨z0, z1, _, _⟩ := E9.out.M.B
      go_wp2_with fail
      refine (bfits_any nm am lm cm (-(a * 18446744073709551616 + b)) _ E9.out.M.V (by have := LM.out; omega) true FM).mono ?_
      rintro e w10 ⟨rfl, hb10⟩
      have E10 := Lib.hid (E9.out.later hb10)
      clear hb10 E9 z0 z1
      have E11 := E10
      clear E10
      obtain ⟨z0, z1⟩ := E11.out.N
      obtain ⟨z2, z3, _, _⟩ := E11.out.M.B
      go_wp2_with fail
      refine (same_any g k (-(a * 18446744073709551616 + b)) 0 g0 g1 k0 k1 nm am lm cm _ E11.out.M.V (by have := LM.out; omega)).mono ?_
      rw [decide_eq_true (HT.out.1 (by simp))]
      rintro e w12 ⟨rfl, hb12⟩
      have E12 := Lib.hid (E11.out.later hb12)
      clear hb12 E11 z0 z1 z2 z3
      go_wp2_with fail
      refine wp_region_guarded [constK (.bool false), constK (.bool false), constK (.agg #[.int .i64 0, .int .u64 0]), constK (.agg #[.int .i64 0, .int .u64 0]), constK (.bool true), constK (.bool true), constK (.bool true), constK (.bool true), constK (.bool true), constK (undef), constK (undef), constK (undef), constK (.bool true), constK (.bool true), constK (.bool true), constK (.agg #[.int .i64 a, .int .u64 b]), constK (.agg #[.int .i64 c, .int .u64 d]), keptK (.int .i64 r), constK (.agg #[.bool na, .slice aa la ca]), constK (.agg #[.bool nb, .slice ab lb cb]), keptK (.int .i64 r), constK (.bool true), constK (.bool true), constK (.bool true)]
        [some 73, some 74, some 75, some 76, some 77, some 78, some 79, some 80, some 81, some 82, some 83, some 84, some 85, some 86, some 87, some 88, some 89, some 90, some 91, some 92, some 93, some 94, some 95, some 4] (by kernel_rfl) (by kernel_rfl) (by kernel_rfl) (by kernel_rfl) (by kernel_rfl) (by kernel_rfl) (fun i o ho => ?_) (fun val w13 hf hne hb => ?_)
      · match i, ho with
        | 0, ho =>
          obtain rfl := Option.some.inj ho
          exact st_plain (ok_argG (by kernel_rfl) rfl) rfl
        | 1, ho =>
          obtain rfl := Option.some.inj ho
          exact st_plain (ok_moveC (j := 0) rfl (by kernel_rfl) rfl) rfl
        | 2, ho =>
          obtain rfl := Option.some.inj ho
          exact st_run (ok_loadW (by kernel_rfl) rfl E12.out.S) rfl (by kernel_rfl) (t := 74) (g := 1) rfl rfl
        | 3, ho =>
          obtain rfl := Option.some.inj ho
          exact st_run (ok_const fun A L val w env facts hb => by kernel_rfl) rfl (by kernel_rfl) (t := 74) (g := 1) rfl rfl
        | 4, ho =>
          obtain rfl := Option.some.inj ho
          exact st_run (ok_eqZ (j := 2) (k := 3) rfl (by kernel_rfl) rfl rfl (by kernel_rfl) rfl) rfl (by kernel_rfl) (t := 74) (g := 1) rfl rfl
        | 5, ho =>
          obtain rfl := Option.some.inj ho
          exact st_plain (ok_or (j := 1) (k := 4) rfl (by kernel_rfl) rfl rfl (by kernel_rfl) rfl rfl) rfl
        | 6, ho =>
          obtain rfl := Option.some.inj ho
          exact st_plain (ok_moveC (j := 5) rfl (by kernel_rfl) rfl) rfl
        | 7, ho =>
          obtain rfl := Option.some.inj ho
          exact st_run (ok_argG (by kernel_rfl) rfl) rfl (by kernel_rfl) (t := 79) (g := 6) rfl rfl
        | 8, ho =>
          obtain rfl := Option.some.inj ho
          exact st_run (ok_moveC (j := 7) rfl (by kernel_rfl) rfl) rfl (by kernel_rfl) (t := 79) (g := 6) rfl rfl
        | 9, ho =>
          obtain rfl := Option.some.inj ho
          exact st_skip rfl (by kernel_rfl) (t := 81) (g := 8) rfl rfl
        | 10, ho =>
          obtain rfl := Option.some.inj ho
          exact st_skip rfl (by kernel_rfl) (t := 81) (g := 8) rfl rfl
        | 11, ho =>
          obtain rfl := Option.some.inj ho
          exact st_skip rfl (by kernel_rfl) (t := 81) (g := 8) rfl rfl
        | 12, ho =>
          obtain rfl := Option.some.inj ho
          exact st_run (ok_or (j := 8) (k := 11) rfl (by kernel_rfl) rfl rfl (by kernel_rfl) rfl rfl) rfl (by kernel_rfl) (t := 79) (g := 6) rfl rfl
        | 13, ho =>
          obtain rfl := Option.some.inj ho
          exact st_plain (ok_and (j := 6) (k := 12) rfl (by kernel_rfl) rfl rfl (by kernel_rfl) rfl rfl) rfl
        | 14, ho =>
          obtain rfl := Option.some.inj ho
          exact st_plain (ok_moveC (j := 13) rfl (by kernel_rfl) rfl) rfl
        | 15, ho =>
          obtain rfl := Option.some.inj ho
          exact st_run (ok_loadW (by kernel_rfl) rfl E12.out.V.X) rfl (by kernel_rfl) (t := 87) (g := 14) rfl rfl
        | 16, ho =>
          obtain rfl := Option.some.inj ho
          exact st_run (ok_loadW (by kernel_rfl) rfl E12.out.V.Y) rfl (by kernel_rfl) (t := 87) (g := 14) rfl rfl
        | 17, ho =>
          obtain rfl := Option.some.inj ho
          refine st_run (ok_keptG (fun _ _ => by kernel_rfl) fun A L val w env facts hb => ?_) rfl (by kernel_rfl) (t := 87) (g := 14) rfl rfl
          rw [map2, dep_const env facts 15 88 _ (by kernel_rfl) rfl rfl, dep_const env facts 16 89 _ (by kernel_rfl) rfl rfl]
          exact cmp_below a b c d r B0 B1 D0 D1 HR.out w
        | 18, ho =>
          obtain rfl := Option.some.inj ho
          exact st_run (ok_loadB (by kernel_rfl) rfl E12.out.V.A) rfl (by kernel_rfl) (t := 87) (g := 14) rfl rfl
        | 19, ho =>
          obtain rfl := Option.some.inj ho
          exact st_run (ok_loadB (by kernel_rfl) rfl E12.out.V.B) rfl (by kernel_rfl) (t := 87) (g := 14) rfl rfl
        | 20, ho =>
          obtain rfl := Option.some.inj ho
          refine st_run (ok_keptG (fun _ _ => by kernel_rfl) fun A L val w env facts hb => ?_) rfl (by kernel_rfl) (t := 87) (g := 14) rfl rfl
          rw [map2, dep_const env facts 18 91 _ (by kernel_rfl) rfl rfl, dep_const env facts 19 92 _ (by kernel_rfl) rfl rfl]
          exact bcmp_any na nb aa ab la ca lb cb (a * 18446744073709551616 + b) (c * 18446744073709551616 + d) r w (E12.out.V.later hb).An (E12.out.V.later hb).Bn (by have := LA.out; omega) (by have := LB.out; omega) HR
        | 21, ho =>
          obtain rfl := Option.some.inj ho
          exact st_run (ok_eqK (j := 17) (k := 20) rfl (by kernel_rfl) rfl rfl (by kernel_rfl) rfl) rfl (by kernel_rfl) (t := 87) (g := 14) rfl rfl
        | 22, ho =>
          obtain rfl := Option.some.inj ho
          exact st_plain (ok_and (j := 14) (k := 21) rfl (by kernel_rfl) rfl rfl (by kernel_rfl) rfl rfl) rfl
        | 23, ho =>
          obtain rfl := Option.some.inj ho
          exact st_plain (ok_assignC (j := 22) rfl (by kernel_rfl) rfl) rfl
        | n + 24, ho => simp at ho
      have F : val 23 = .bool true := hf 23 (by decide)
      have KF := Lib.hid (bel_trans E12.out.V.bel hb)
      simp only [puts2, Act.put, List.setIfInBounds_toArray, List.set_cons_zero, List.set_cons_succ, Nat.zero_add, Nat.reduceAdd]
      rw [F]
      clear hf hne hb F
      go_wp2_with fail
      go_returns
      exact ⟨rfl, KF.out⟩
    · -- the sum alone
      obtain ⟨rfl, rfl⟩ := HT.out.2.2 rfl
      go_wp2_with fail
      refine (bfits_any nt at' lt ct ((a * 18446744073709551616 + b) + (c * 18446744073709551616 + d)) _ E8.out.T.V (by have := LT.out; omega) true FT).mono ?_
      rintro e w9 ⟨rfl, hb9⟩
      have E9 := Lib.hid (E8.out.later hb9)
      clear hb9 E8 z0 z1
      obtain ⟨z0, z1, _, _⟩ := E9.out.M.B
      go_wp2_with fail
      refine (bfits_any nm am lm cm (-(a * 18446744073709551616 + b)) _ E9.out.M.V (by have := LM.out; omega) false FM).mono ?_
      rintro e w10 ⟨rfl, hb10⟩
      have E10 := Lib.hid (E9.out.later hb10)
      clear hb10 E9 z0 z1
      obtain ⟨z0, z1⟩ := E10.out.S
      obtain ⟨z2, z3, _, _⟩ := E10.out.T.B
      go_wp2_with fail
      refine (same_any h l ((a * 18446744073709551616 + b) + (c * 18446744073709551616 + d)) 0 h0 h1 l0 l1 nt at' lt ct _ E10.out.T.V (by have := LT.out; omega)).mono ?_
      rw [decide_eq_true (HS.out.1 (by simp))]
      rintro e w11 ⟨rfl, hb11⟩
      have E11 := Lib.hid (E10.out.later hb11)
      clear hb11 E10 z0 z1 z2 z3
      have E12 := E11
      clear E11
      go_wp2_with fail
      refine wp_region_guarded [constK (.bool true), constK (.bool true), constK (undef), constK (undef), constK (undef), constK (.bool true), constK (.bool true), constK (.bool false), constK (.bool false), constK (.agg #[.int .i64 0, .int .u64 0]), constK (.agg #[.int .i64 0, .int .u64 0]), constK (.bool true), constK (.bool true), constK (.bool true), constK (.bool true), constK (.agg #[.int .i64 a, .int .u64 b]), constK (.agg #[.int .i64 c, .int .u64 d]), keptK (.int .i64 r), constK (.agg #[.bool na, .slice aa la ca]), constK (.agg #[.bool nb, .slice ab lb cb]), keptK (.int .i64 r), constK (.bool true), constK (.bool true), constK (.bool true)]
        [some 73, some 74, some 75, some 76, some 77, some 78, some 79, some 80, some 81, some 82, some 83, some 84, some 85, some 86, some 87, some 88, some 89, some 90, some 91, some 92, some 93, some 94, some 95, some 4] (by kernel_rfl) (by kernel_rfl) (by kernel_rfl) (by kernel_rfl) (by kernel_rfl) (by kernel_rfl) (fun i o ho => ?_) (fun val w13 hf hne hb => ?_)
      · match i, ho with
        | 0, ho =>
          obtain rfl := Option.some.inj ho
          exact st_plain (ok_argG (by kernel_rfl) rfl) rfl
        | 1, ho =>
          obtain rfl := Option.some.inj ho
          exact st_plain (ok_moveC (j := 0) rfl (by kernel_rfl) rfl) rfl
        | 2, ho =>
          obtain rfl := Option.some.inj ho
          exact st_skip rfl (by kernel_rfl) (t := 74) (g := 1) rfl rfl
        | 3, ho =>
          obtain rfl := Option.some.inj ho
          exact st_skip rfl (by kernel_rfl) (t := 74) (g := 1) rfl rfl
        | 4, ho =>
          obtain rfl := Option.some.inj ho
          exact st_skip rfl (by kernel_rfl) (t := 74) (g := 1) rfl rfl
        | 5, ho =>
          obtain rfl := Option.some.inj ho
          exact st_plain (ok_or (j := 1) (k := 4) rfl (by kernel_rfl) rfl rfl (by kernel_rfl) rfl rfl) rfl
        | 6, ho =>
          obtain rfl := Option.some.inj ho
          exact st_plain (ok_moveC (j := 5) rfl (by kernel_rfl) rfl) rfl
        | 7, ho =>
          obtain rfl := Option.some.inj ho
          exact st_run (ok_argG (by kernel_rfl) rfl) rfl (by kernel_rfl) (t := 79) (g := 6) rfl rfl
        | 8, ho =>
          obtain rfl := Option.some.inj ho
          exact st_run (ok_moveC (j := 7) rfl (by kernel_rfl) rfl) rfl (by kernel_rfl) (t := 79) (g := 6) rfl rfl
        | 9, ho =>
          obtain rfl := Option.some.inj ho
          exact st_run (ok_loadW (by kernel_rfl) rfl E12.out.N) rfl (by kernel_rfl) (t := 81) (g := 8) rfl rfl
        | 10, ho =>
          obtain rfl := Option.some.inj ho
          exact st_run (ok_const fun A L val w env facts hb => by kernel_rfl) rfl (by kernel_rfl) (t := 81) (g := 8) rfl rfl
        | 11, ho =>
          obtain rfl := Option.some.inj ho
          exact st_run (ok_eqZ (j := 9) (k := 10) rfl (by kernel_rfl) rfl rfl (by kernel_rfl) rfl) rfl (by kernel_rfl) (t := 81) (g := 8) rfl rfl
        | 12, ho =>
          obtain rfl := Option.some.inj ho
          exact st_run (ok_or (j := 8) (k := 11) rfl (by kernel_rfl) rfl rfl (by kernel_rfl) rfl rfl) rfl (by kernel_rfl) (t := 79) (g := 6) rfl rfl
        | 13, ho =>
          obtain rfl := Option.some.inj ho
          exact st_plain (ok_and (j := 6) (k := 12) rfl (by kernel_rfl) rfl rfl (by kernel_rfl) rfl rfl) rfl
        | 14, ho =>
          obtain rfl := Option.some.inj ho
          exact st_plain (ok_moveC (j := 13) rfl (by kernel_rfl) rfl) rfl
        | 15, ho =>
          obtain rfl := Option.some.inj ho
          exact st_run (ok_loadW (by kernel_rfl) rfl E12.out.V.X) rfl (by kernel_rfl) (t := 87) (g := 14) rfl rfl
        | 16, ho =>
          obtain rfl := Option.some.inj ho
          exact st_run (ok_loadW (by kernel_rfl) rfl E12.out.V.Y) rfl (by kernel_rfl) (t := 87) (g := 14) rfl rfl
        | 17, ho =>
          obtain rfl := Option.some.inj ho
          refine st_run (ok_keptG (fun _ _ => by kernel_rfl) fun A L val w env facts hb => ?_) rfl (by kernel_rfl) (t := 87) (g := 14) rfl rfl
          rw [map2, dep_const env facts 15 88 _ (by kernel_rfl) rfl rfl, dep_const env facts 16 89 _ (by kernel_rfl) rfl rfl]
          exact cmp_below a b c d r B0 B1 D0 D1 HR.out w
        | 18, ho =>
          obtain rfl := Option.some.inj ho
          exact st_run (ok_loadB (by kernel_rfl) rfl E12.out.V.A) rfl (by kernel_rfl) (t := 87) (g := 14) rfl rfl
        | 19, ho =>
          obtain rfl := Option.some.inj ho
          exact st_run (ok_loadB (by kernel_rfl) rfl E12.out.V.B) rfl (by kernel_rfl) (t := 87) (g := 14) rfl rfl
        | 20, ho =>
          obtain rfl := Option.some.inj ho
          refine st_run (ok_keptG (fun _ _ => by kernel_rfl) fun A L val w env facts hb => ?_) rfl (by kernel_rfl) (t := 87) (g := 14) rfl rfl
          rw [map2, dep_const env facts 18 91 _ (by kernel_rfl) rfl rfl, dep_const env facts 19 92 _ (by kernel_rfl) rfl rfl]
          exact bcmp_any na nb aa ab la ca lb cb (a * 18446744073709551616 + b) (c * 18446744073709551616 + d) r w (E12.out.V.later hb).An (E12.out.V.later hb).Bn (by have := LA.out; omega) (by have := LB.out; omega) HR
        | 21, ho =>
          obtain rfl := Option.some.inj ho
          exact st_run (ok_eqK (j := 17) (k := 20) rfl (by kernel_rfl) rfl rfl (by kernel_rfl) rfl) rfl (by kernel_rfl) (t := 87) (g := 14) rfl rfl
        | 22, ho =>
          obtain rfl := Option.some.inj ho
          exact st_plain (ok_and (j := 14) (k := 21) rfl (by kernel_rfl) rfl rfl (by kernel_rfl) rfl rfl) rfl
        | 23, ho =>
          obtain rfl := Option.some.inj ho
          exact st_plain (ok_assignC (j := 22) rfl (by kernel_rfl) rfl) rfl
        | n + 24, ho => simp at ho
      have F : val 23 = .bool true := hf 23 (by decide)
      have KF := Lib.hid (bel_trans E12.out.V.bel hb)
      simp only [puts2, Act.put, List.setIfInBounds_toArray, List.set_cons_zero, List.set_cons_succ, Nat.zero_add, Nat.reduceAdd]
      rw [F]
      clear hf hne hb F
      go_wp2_with fail
      go_returns
      exact ⟨rfl, KF.out⟩
    · -- both
      go_wp2_with fail
      refine (bfits_any nt at' lt ct ((a * 18446744073709551616 + b) + (c * 18446744073709551616 + d)) _ E8.out.T.V (by have := LT.out; omega) true FT).mono ?_
      rintro e w9 ⟨rfl, hb9⟩
      have E9 := Lib.hid (E8.out.later hb9)
      clear hb9 E8 z0 z1
      obtain ⟨z0, z1, _, _⟩ := E9.out.M.B
      go_wp2_with fail
      refine (bfits_any nm am lm cm (-(a * 18446744073709551616 + b)) _ E9.out.M.V (by have := LM.out; omega) true FM).mono ?_
      rintro e w10 ⟨rfl, hb10⟩
      have E10 := Lib.hid (E9.out.later hb10)
      clear hb10 E9 z0 z1
      obtain ⟨z0, z1⟩ := E10.out.S
      obtain ⟨z2, z3, _, _⟩ := E10.out.T.B
      go_wp2_with fail
      refine (same_any h l ((a * 18446744073709551616 + b) + (c * 18446744073709551616 + d)) 0 h0 h1 l0 l1 nt at' lt ct _ E10.out.T.V (by have := LT.out; omega)).mono ?_
      rw [decide_eq_true (HS.out.1 (by simp))]
      rintro e w11 ⟨rfl, hb11⟩
      have E11 := Lib.hid (E10.out.later hb11)
      clear hb11 E10 z0 z1 z2 z3
      obtain ⟨z0, z1⟩ := E11.out.N
      obtain ⟨z2, z3, _, _⟩ := E11.out.M.B
      go_wp2_with fail
      refine (same_any g k (-(a * 18446744073709551616 + b)) 0 g0 g1 k0 k1 nm am lm cm _ E11.out.M.V (by have := LM.out; omega)).mono ?_
      rw [decide_eq_true (HT.out.1 (by simp))]
      rintro e w12 ⟨rfl, hb12⟩
      have E12 := Lib.hid (E11.out.later hb12)
      clear hb12 E11 z0 z1 z2 z3
      go_wp2_with fail
      refine wp_region_guarded [constK (.bool true), constK (.bool true), constK (undef), constK (undef), constK (undef), constK (.bool true), constK (.bool true), constK (.bool true), constK (.bool true), constK (undef), constK (undef), constK (undef), constK (.bool true), constK (.bool true), constK (.bool true), constK (.agg #[.int .i64 a, .int .u64 b]), constK (.agg #[.int .i64 c, .int .u64 d]), keptK (.int .i64 r), constK (.agg #[.bool na, .slice aa la ca]), constK (.agg #[.bool nb, .slice ab lb cb]), keptK (.int .i64 r), constK (.bool true), constK (.bool true), constK (.bool true)]
        [some 73, some 74, some 75, some 76, some 77, some 78, some 79, some 80, some 81, some 82, some 83, some 84, some 85, some 86, some 87, some 88, some 89, some 90, some 91, some 92, some 93, some 94, some 95, some 4] (by kernel_rfl) (by kernel_rfl) (by kernel_rfl) (by kernel_rfl) (by kernel_rfl) (by kernel_rfl) (fun i o ho => ?_) (fun val w13 hf hne hb => ?_)
      · match i, ho with
        | 0, ho =>
          obtain rfl := Option.some.inj ho
          exact st_plain (ok_argG (by kernel_rfl) rfl) rfl
        | 1, ho =>
          obtain rfl := Option.some.inj ho
          exact st_plain (ok_moveC (j := 0) rfl (by kernel_rfl) rfl) rfl
        | 2, ho =>
          obtain rfl := Option.some.inj ho
          exact st_skip rfl (by kernel_rfl) (t := 74) (g := 1) rfl rfl
        | 3, ho =>
          obtain rfl := Option.some.inj ho
          exact st_skip rfl (by kernel_rfl) (t := 74) (g := 1) rfl rfl
        | 4, ho =>
          obtain rfl := Option.some.inj ho
          exact st_skip rfl (by kernel_rfl) (t := 74) (g := 1) rfl rfl
        | 5, ho =>
          obtain rfl := Option.some.inj ho
          exact st_plain (ok_or (j := 1) (k := 4) rfl (by kernel_rfl) rfl rfl (by kernel_rfl) rfl rfl) rfl
        | 6, ho =>
          obtain rfl := Option.some.inj ho
          exact st_plain (ok_moveC (j := 5) rfl (by kernel_rfl) rfl) rfl
        | 7, ho =>
          obtain rfl := Option.some.inj ho
          exact st_run (ok_argG (by kernel_rfl) rfl) rfl (by kernel_rfl) (t := 79) (g := 6) rfl rfl
        | 8, ho =>
          obtain rfl := Option.some.inj ho
          exact st_run (ok_moveC (j := 7) rfl (by kernel_rfl) rfl) rfl (by kernel_rfl) (t := 79) (g := 6) rfl rfl
        | 9, ho =>
          obtain rfl := Option.some.inj ho
          exact st_skip rfl (by kernel_rfl) (t := 81) (g := 8) rfl rfl
        | 10, ho =>
          obtain rfl := Option.some.inj ho
          exact st_skip rfl (by kernel_rfl) (t := 81) (g := 8) rfl rfl
        | 11, ho =>
          obtain rfl := Option.some.inj ho
          exact st_skip rfl (by kernel_rfl) (t := 81) (g := 8) rfl rfl
        | 12, ho =>
          obtain rfl := Option.some.inj ho
          exact st_run (ok_or (j := 8) (k := 11) rfl (by kernel_rfl) rfl rfl (by kernel_rfl) rfl rfl) rfl (by kernel_rfl) (t := 79) (g := 6) rfl rfl
        | 13, ho =>
          obtain rfl := Option.some.inj ho
          exact st_plain (ok_and (j := 6) (k := 12) rfl (by kernel_rfl) rfl rfl (by kernel_rfl) rfl rfl) rfl
        | 14, ho =>
          obtain rfl := Option.some.inj ho
          exact st_plain (ok_moveC (j := 13) rfl (by kernel_rfl) rfl) rfl
        | 15, ho =>
          obtain rfl := Option.some.inj ho
          exact st_run (ok_loadW (by kernel_rfl) rfl E12.out.V.X) rfl (by kernel_rfl) (t := 87) (g := 14) rfl rfl
        | 16, ho =>
          obtain rfl := Option.some.inj ho
          exact st_run (ok_loadW (by kernel_rfl) rfl E12.out.V.Y) rfl (by kernel_rfl) (t := 87) (g := 14) rfl rfl
        | 17, ho =>
          obtain rfl := Option.some.inj ho
          refine st_run (ok_keptG (fun _ _ => by kernel_rfl) fun A L val w env facts hb => ?_) rfl (by kernel_rfl) (t := 87) (g := 14) rfl rfl
          rw [map2, dep_const env facts 15 88 _ (by kernel_rfl) rfl rfl, dep_const env facts 16 89 _ (by kernel_rfl) rfl rfl]
          exact cmp_below a b c d r B0 B1 D0 D1 HR.out w
        | 18, ho =>
          obtain rfl := Option.some.inj ho
          exact st_run (ok_loadB (by kernel_rfl) rfl E12.out.V.A) rfl (by kernel_rfl) (t := 87) (g := 14) rfl rfl
        | 19, ho =>
          obtain rfl := Option.some.inj ho
          exact st_run (ok_loadB (by kernel_rfl) rfl E12.out.V.B) rfl (by kernel_rfl) (t := 87) (g := 14) rfl rfl
        | 20, ho =>
          obtain rfl := Option.some.inj ho
          refine st_run (ok_keptG (fun _ _ => by kernel_rfl) fun A L val w env facts hb => ?_) rfl (by kernel_rfl) (t := 87) (g := 14) rfl rfl
          rw [map2, dep_const env facts 18 91 _ (by kernel_rfl) rfl rfl, dep_const env facts 19 92 _ (by kernel_rfl) rfl rfl]
          exact bcmp_any na nb aa ab la ca lb cb (a * 18446744073709551616 + b) (c * 18446744073709551616 + d) r w (E12.out.V.later hb).An (E12.out.V.later hb).Bn (by have := LA.out; omega) (by have := LB.out; omega) HR
        | 21, ho =>
          obtain rfl := Option.some.inj ho
          exact st_run (ok_eqK (j := 17) (k := 20) rfl (by kernel_rfl) rfl rfl (by kernel_rfl) rfl) rfl (by kernel_rfl) (t := 87) (g := 14) rfl rfl
        | 22, ho =>
          obtain rfl := Option.some.inj ho
          exact st_plain (ok_and (j := 14) (k := 21) rfl (by kernel_rfl) rfl rfl (by kernel_rfl) rfl rfl) rfl
        | 23, ho =>
          obtain rfl := Option.some.inj ho
          exact st_plain (ok_assignC (j := 22) rfl (by kernel_rfl) rfl) rfl
        | n + 24, ho => simp at ho
      have F : val 23 = .bool true := hf 23 (by decide)
      have KF := Lib.hid (bel_trans E12.out.V.bel hb)
      simp only [puts2, Act.put, List.setIfInBounds_toArray, List.set_cons_zero, List.set_cons_succ, Nat.zero_add, Nat.reduceAdd]
      rw [F]
      clear hf hne hb F
      go_wp2_with fail
      go_returns
      exact ⟨rfl, KF.out⟩
end Go.Proofs.Ytkohefgendcofaa
