/- The reference of law 5: Sum. -/
import Derived.Test.YtbolifjkhoiphaaShareD
import Derived.Test.YtbolifjkhoiphaaKit3
import Derived.Test.YtbolifjkhoiphaaRefC
import Derived.Test.YtbolifjkhoiphaaRegC
import Derived.Test.YtbolifjkhoiphaaShareG
import Derived.Test.YtbolifjkhoiphaaLen
import Derived.WalkKit
import Derived.WalkSpells
import Derived.WalkLawsBesides
import Derived.Handy
import Derived.Lib.Hide
import Derived.Deep.QuietTactic
import Derived.BigQuiet
import Derived.LoopTactic
import Derived.RegionTactic
import Derived.BigRegion
import Derived.Deep.RegionHeld3
import Derived.Deep.RegionWith
import Derived.Outline
import Derived.Deep.DeepCutAuto
namespace Go.Proofs.Ytbolifjkhoiphaa
open Go.RowKit Go.Proofs.Big Go.Proofs.Reg
set_option linter.unusedVariables false
set_option linter.unusedSimpArgs false
set_option maxRecDepth 100000
theorem take_small {xs : List Int} (h : ∀ x ∈ xs, 0 ≤ x ∧ x ≤ 9223372036854775807) (k : Nat) : 0 ≤ (xs.take k).sum ∧ (xs.take k).sum ≤ 9223372036854775807 * k := by
  induction k generalizing xs with
  | zero => simp
  | succ k ih =>
    cases xs with
    | nil => simp; omega
    | cons x xs =>
      have := ih (xs := xs) (fun y m => h y (by simp [m]))
      have := h x (by simp)
      simp only [List.take_succ_cons, List.sum_cons]
      omega
set_option maxHeartbeats 4000000 in
theorem r5sum_any (s : Option Addr) (len cap m : Nat) (xs : List Int) (w : World) (R : Ri w s len cap xs) (hx : ∀ x ∈ xs, 0 ≤ x ∧ x ≤ 9223372036854775807) (hm : m ≤ len) (hl40 : len ≤ 1024) :
    Calls Try.prog 72 #[.slice s len cap, .int .i64 m] w (RetBig w (xs.take m).sum) := by
  have hl := R.hlen
  have H := Lib.hid R
  have HX := Lib.hid hx
  clear R hx
  go_enter Try.func72, Try.ntmps72
  go_wp2_with fail
  have BR0 := Lib.hid (BV.new w false none 0 0 112)
  refine (ofu_any 0 (by decide) (by decide) _).mono ?_
  rintro e w1 ⟨ng1, a1, l1, c1, rfl, hv1, hb1⟩
  have BX := Lib.hid (BV.new w1 ng1 a1 l1 c1 112)
  have BR := Lib.hid ((BR0.out.later hb1).alloc (.cells #[.bool ng1, .slice a1 l1 c1] 112))
  have HV1 := Lib.hid (hv1.alloc (.cells #[.bool ng1, .slice a1 l1 c1] 112))
  have hg0 := hb1.size
  simp only [World.size_alloc] at hg0
  have hg : w.heap.size < w1.heap.size := by omega
  have HB1 := Lib.hid (bel_tr0 (bel_tr0 (bel_new w (.cells #[.bool false, .slice none 0 0] 112)) hb1) (bel_new w1 (.cells #[.bool ng1, .slice a1 l1 c1] 112)))
  clear hv1 hb1 hg0 BR0
  go_wp2_with fail
  go_loopw [6] (fun s6 wr => ∃ (k : Nat) (t : Int) (ng : Bool) (a : Option Addr) (l c : Nat), s6 = .int .i64 k ∧ k ≤ m ∧ 0 ≤ t ∧ t ≤ 9444732965739290427392 ∧ Hid ((xs.take k).sum = t) ∧ Hid (BV wr w1.heap.size ng a l c) ∧ Hid (BV wr w.heap.size false none 0 0) ∧ Hid (BigV wr ng a l c t) ∧ Hid (Below w.heap.size w wr)) (fun s6 _ => m - (intOf s6).toNat)
  case atStart => exact ⟨0, 0, ng1, a1, l1, c1, rfl, Nat.zero_le _, by decide, by decide, Lib.hid (by simp), BX, BR, HV1, HB1⟩
  case round =>
    clear BX BR HV1 HB1
    obtain ⟨k, t, ng, a, l, c, rfl, hk, t0, t1, HT, BX, BR, HV, HB⟩ := hrel
    obtain ⟨k0, k1, k2, k3⟩ := BX.out
    have ST := Lib.hid (sm_of t (by omega) (by omega))
    by_cases hlt : k < m
    · obtain ⟨p, rfl, hc⟩ := H.out.addr (by omega)
      obtain ⟨x, hxk⟩ : ∃ x, xs.getD k 0 = x := ⟨_, rfl⟩
      have d1 := cell_later HB.out (hc k (by omega))
      have xb := HX.out _ (getD_mem (show k < xs.length by omega))
      have nx := sum_take_succ xs k (by omega)
      rw [hxk] at d1 xb nx
      rw [HT.out] at nx
      have bd := take_small HX.out (k + 1)
      rw [nx] at bd
      obtain ⟨x0', x1⟩ := xb
      have x0 : -9223372036854775808 ≤ x := by omega
      have kl : (k : Int) < (m : Int) := by omega
      have kn : (k : Int) < (len : Int) := by omega
      have kk : (0 : Int) ≤ (k : Int) := by omega
      have SX := Lib.hid (sm_of x (by omega) (by omega))
      have s0 : 0 ≤ t + x := by omega
      have s1 : t + x ≤ 9444732965739290427392 := by omega
      have HT1 := Lib.hid nx
      clear hc hxk nx bd
      go_wp2_with fail
      go_region_with (first
        | (go_at_call 58; refine (bof_any x x0 x1 _).mono ?_; rintro e w5 ⟨ng5, a5, l5, c5, rfl, hv5, hb5⟩; have H5 := Lib.hid hv5; have B5 := Lib.hid (below_undrew hb5); obtain ⟨k0, k1, k2, k3⟩ := BX.out.later (below_undrew hb5); clear hv5 hb5)
        | (go_at_call 57; refine (plus_any ng ng5 a a5 l c l5 c5 t x _ (HV.out.later B5.out) H5.out (Nat.le_trans (Sm.le HV.out ST.out) (by decide)) (Nat.le_trans (Sm.le H5.out SX.out) (by decide))).mono ?_; rintro e w6 ⟨ng6, a6, l6, c6, rfl, hv6, hb6⟩; have H6 := Lib.hid hv6; have B6 := Lib.hid (B5.out.trans (hb6.mono B5.out.size)); obtain ⟨k0, k1, k2, k3⟩ := (BX.out.later B5.out).later hb6; clear hv6 hb6))
      all_goals
        have BN6 := Lib.hid ((BX.out.later B6.out).set ng6 a6 l6 c6)
        have BR6 := Lib.hid ((BR.out.later B6.out).other (show w.heap.size ≠ w1.heap.size by omega) (.bool ng6) (.slice a6 l6 c6))
        have HN6 := Lib.hid (H6.out.setBV (BX.out.later B6.out) (.bool ng6) (.slice a6 l6 c6))
        have HB6 := Lib.hid (((HB.out.trans (B6.out.mono HB.out.size)).setCell (p := ⟨w1.heap.size, 0, none⟩) (Nat.le_of_lt hg) (.bool ng6)).setCell (p := ⟨w1.heap.size, 1, none⟩) (Nat.le_of_lt hg) (.slice a6 l6 c6))
        go_wp2_with fail
        go_roundw
        case rel => exact ⟨k + 1, t + x, ng6, a6, l6, c6, by go_num, by omega, s0, s1, HT1, BN6, BR6, HN6, HB6⟩
        case measure => simp [intOf]; omega
    · have kl : ¬ (k : Int) < (m : Int) := by omega
      obtain rfl : k = m := by omega
      obtain ⟨j0, j1, j2, j3⟩ := BR.out
      have FN := Lib.hid (HV.out.setBV BR.out (.bool ng) (.slice a l c))
      have FB := Lib.hid ((HB.out.setCell (p := ⟨w.heap.size, 0, none⟩) (Nat.le_refl _) (.bool ng)).setCell (p := ⟨w.heap.size, 1, none⟩) (Nat.le_refl _) (.slice a l c))
      have FC := BR.out.set ng a l c
      obtain ⟨f0, f1, _, _⟩ := FC
      go_wp2_with fail
      refine bodyPost_ret (v := .agg #[.bool ng, .slice a l c]) (by simp [results, Try.results72, go_sem, f0, f1]) rfl ?_
      exact RetBig.mk (by rw [HT.out]; exact FN.out) FB.out
end Go.Proofs.Ytbolifjkhoiphaa
/- The reference of law 5: Bound. -/
namespace Go.Proofs.Ytbolifjkhoiphaa
open Go.RowKit Go.Proofs.Big Go.Proofs.Reg
set_option linter.unusedVariables false
set_option linter.unusedSimpArgs false
set_option maxRecDepth 100000
set_option maxHeartbeats 2000000 in
theorem r5bound_any (T F A : Int) (n1 n2 : Bool) (a1 a2 : Option Addr) (l1 c1 l2 c2 : Nat) (w : World) (h1 : BigV w n1 a1 l1 c1 F) (h2 : BigV w n2 a2 l2 c2 A) (t0 : -17592186044416 ≤ T) (t1 : T ≤ 17592186044416) (f0 : 0 ≤ F) (f1 : F ≤ A) (p : 0 < A) (p1 : A ≤ 4611686018427387904) :
    Calls Try.prog 75 #[.int .i64 T, .agg #[.bool n1, .slice a1 l1 c1], .agg #[.bool n2, .slice a2 l2 c2]] w fun e w' => e = .returned (.int .i64 (T * F / A)) ∧ Below w.heap.size w w' := by
  have m1 : T * F ≤ 17592186044416 * F := Int.mul_le_mul_of_nonneg_right t1 f0
  have m2 : -17592186044416 * F ≤ T * F := Int.mul_le_mul_of_nonneg_right t0 f0
  have x0 : -81129638414606681695789005144064 ≤ T * F := by omega
  have x1 : T * F ≤ 81129638414606681695789005144064 := by omega
  have y0 : -17592186044416 ≤ T * F / A := by rw [Int.le_ediv_iff_mul_le p]; omega
  have y1 : T * F / A ≤ 17592186044416 := by
    have : T * F / A < 17592186044417 := by rw [Int.ediv_lt_iff_lt_mul p]; omega
    omega
  clear m1 m2
  have SF := Lib.hid (sm_of F (by omega) (by omega))
  have ST := Lib.hid (sm_of T (by omega) (by omega))
  have KA := Lib.hid (bel_tr0 (bel_new w (.cells #[.bool n1, .slice a1 l1 c1] 112)) (bel_new (w.alloc (.cells #[.bool n1, .slice a1 l1 c1] 112)) (.cells #[.bool n2, .slice a2 l2 c2] 112)))
  have TF := Lib.hid (show BN ((w.alloc (.cells #[.bool n1, .slice a1 l1 c1] 112)).alloc (.cells #[.bool n2, .slice a2 l2 c2] 112)) w.heap.size n1 a1 l1 c1 F from ⟨(BV.new w n1 a1 l1 c1 112).alloc _, (h1.alloc _).alloc _⟩)
  have TA := Lib.hid (show BN ((w.alloc (.cells #[.bool n1, .slice a1 l1 c1] 112)).alloc (.cells #[.bool n2, .slice a2 l2 c2] 112)) (w.heap.size + 1) n2 a2 l2 c2 A from ⟨by
    have := BV.new (w.alloc (.cells #[.bool n1, .slice a1 l1 c1] 112)) n2 a2 l2 c2 112
    rwa [World.size_alloc] at this, (h2.alloc _).alloc _⟩)
  clear h1 h2
  go_enter Try.func75, Try.ntmps75
  go_wp2_with fail
  refine wp_region_kinds [constK (.int .i64 T), bigK T, constK (.agg #[.bool n1, .slice a1 l1 c1]), bigK (T * F), constK (.agg #[.bool n2, .slice a2 l2 c2]), pairK (T * F / A) (T * F % A), moveK 5, fstK 6, sndK 6, .box 112 11 7, .box 112 12 8, .put 9 7, .put 10 8]
    [some 12, some 13, some 14, some 15, some 16, some 17, some 11, some 18, some 19, some 7, some 8, none, none] (by kernel_rfl) (by kernel_rfl) (by kernel_rfl) (by kernel_rfl) (by kernel_rfl) (by kernel_rfl) (by kernel_rfl) (fun i o ho => ?_) (fun val3 w3 hf hne hb => ?_)
  · match i, ho with
    | 0, ho =>
      obtain rfl := Option.some.inj ho
      exact ok_arg (by kernel_rfl) rfl
    | 1, ho =>
      obtain rfl := Option.some.inj ho
      refine ok_big (fun _ _ => by kernel_rfl) fun A' L val w env facts hb => ?_
      rw [map1, dep_const env facts 0 12 _ (by kernel_rfl) rfl rfl]
      exact bof_any T (by omega) (by omega) w
    | 2, ho =>
      obtain rfl := Option.some.inj ho
      exact ok_load (by kernel_rfl) rfl TF.out.B
    | 3, ho =>
      obtain rfl := Option.some.inj ho
      refine ok_big (fun _ _ => by kernel_rfl) fun A' L val w env facts hb => ?_
      obtain ⟨ng3, a3, l3, c3, e3, v3⟩ := dep_big env facts 1 13 _ (by kernel_rfl) rfl rfl
      have v2 := (TF.out.later hb).V
      rw [map2, e3, dep_const env facts 2 14 _ (by kernel_rfl) rfl rfl]
      exact times_any ng3 n1 a3 a1 l3 c3 l1 c1 T F w v3 v2 (Nat.le_trans (Sm.le v3 ST.out) (by decide)) (Nat.le_trans (Sm.le v2 SF.out) (by decide))
    | 4, ho =>
      obtain rfl := Option.some.inj ho
      exact ok_load (by kernel_rfl) rfl TA.out.B
    | 5, ho =>
      obtain rfl := Option.some.inj ho
      refine ok_pair (fun _ _ => by kernel_rfl) fun A' L val w env facts hb => ?_
      obtain ⟨ng3, a3, l3, c3, e3, v3⟩ := dep_big env facts 3 15 _ (by kernel_rfl) rfl rfl
      have v2 := (TA.out.later hb).V
      have hn2 := v2.hng
      rw [decide_eq_false (by omega)] at hn2
      subst hn2
      rw [map2, e3, dep_const env facts 4 16 _ (by kernel_rfl) rfl rfl]
      exact bdown_pos ng3 a3 a2 l3 c3 l2 c2 (T * F) A w v3 v2 (by have := P98_big; omega) (by have := P98_big; omega) (by omega) (by have := P98_big; omega)
    | 6, ho =>
      obtain rfl := Option.some.inj ho
      exact ok_move rfl (by kernel_rfl) rfl
    | 7, ho =>
      obtain rfl := Option.some.inj ho
      exact ok_fst rfl (by kernel_rfl) rfl
    | 8, ho =>
      obtain rfl := Option.some.inj ho
      exact ok_snd rfl (by kernel_rfl) rfl
    | 9, ho =>
      obtain rfl := Option.some.inj ho
      exact ok_box
    | 10, ho =>
      obtain rfl := Option.some.inj ho
      exact ok_box
    | 11, ho =>
      obtain rfl := Option.some.inj ho
      exact ok_put rfl rfl (by kernel_rfl) (by kernel_rfl) (fun L val w h => (h : IsBig (val 7) ∧ _).1)
    | 12, ho =>
      obtain rfl := Option.some.inj ho
      exact ok_put rfl rfl (by kernel_rfl) (by kernel_rfl) (fun L val w h => (h : IsBig (val 8) ∧ _).1)
    | n + 13, ho => simp at ho
  have F8 : PairC (T * F / A) (T * F % A) (val3 5) w3 := hf 5 (by decide)
  have F9 : val3 6 = val3 5 ∧ _ := hf 6 (by decide)
  have F10 : _ ∧ ∃ q, val3 6 = .tuple #[val3 7, q] := hf 7 (by decide)
  obtain ⟨qB, eB, q0, q1, BB⟩ : ∃ q, val3 9 = .pointer (some ⟨q, 0, none⟩) ∧ _ ≤ q ∧ q < w3.heap.size ∧ BoxAt w3 q (val3 7) := hf 9 (by decide)
  obtain ⟨nB, aB, lB, cB, e10, CB⟩ := BN.of BB (pair_fst F8 F9.1 F10.2)
  have TB := Lib.hid CB
  have K3 := Lib.hid (bel_trans KA.out hb)
  simp only [puts2, Act.put, List.setIfInBounds_toArray, List.set_cons_zero, List.set_cons_succ, Nat.zero_add, Nat.reduceAdd]
  rw [eB]
  clear hf hne hb F8 F9 F10 BB CB eB e10 q0 q1 KA TA TF
  obtain ⟨g0, g1, _, _⟩ := TB.out.B
  have SQ := sm_of (T * F / A) (by omega) (by omega)
  have LQ := Lib.hid (Sm.le TB.out.V SQ)
  clear SQ
  go_wp2_with fail
  refine (bint_any nB aB lB cB (T * F / A) _ TB.out.V (by have := LQ.out; omega) true (T * F / A) (Lib.hid (decide_eq_true (by omega)).symm) (Lib.hid (by rw [if_pos (by omega)]))).mono ?_
  rintro e w4 ⟨rfl, hb4⟩
  have K4 := Lib.hid (bel_trans K3.out hb4)
  clear hb4
  go_wp2_with fail
  go_returns
  exact ⟨rfl, K4.out⟩
end Go.Proofs.Ytbolifjkhoiphaa
/- The reference of law 5: Split. -/
namespace Go.Proofs.Ytbolifjkhoiphaa
open Go.RowKit Go.Proofs.Big Go.Proofs.Reg
set_option linter.unusedVariables false
set_option linter.unusedSimpArgs false
set_option maxRecDepth 100000
theorem BigV.len_zero {w : World} {ng : Bool} {a : Option Addr} {l c : Nat} {n : Int} (h : BigV w ng a l c n) : l = 0 ↔ n = 0 := by
  constructor
  · intro e
    obtain ⟨xs, r, _, _, v⟩ := h.rd
    have : xs = [] := List.length_eq_zero_iff.1 (by rw [r.hlen]; exact e)
    subst this
    rw [val_nil] at v
    split at v <;> omega
  · intro e
    have := h.len 0 (by rw [P_zero]; omega) (by rw [P_zero]; omega)
    omega
/-- what the reference's Split answers -/
def R5S (w : World) (len : Nat) (T : Int) (xs : List Int) (e : Ending) (w' : World) : Prop :=
  Below w.heap.size w w' ∧ ((negB xs = true ∧ e = .returned (.tuple #[.slice none 0 0, .int .i64 1])) ∨ (negB xs = false ∧ ¬ (okT T ∧ okS xs) ∧ e = .returned (.tuple #[.slice none 0 0, .int .i64 2])) ∨
    (negB xs = false ∧ okT T ∧ okS xs ∧ ∃ a c, e = .returned (.tuple #[.slice a len c, .int .i64 0]) ∧ Ri w' a len c (parts5 T xs)))
theorem owns_later {w w' : World} {base : Nat} {e : TypeId} {v : Value} {n : Nat} {xs : List Value} (h : w.ownsRow base e 1 v n xs) (hb : Below w.heap.size w w') : w'.ownsRow base e 1 v n xs := by
  refine ⟨h.1, ?_⟩
  rcases h.2 with hn | ⟨g, cap, cur, rfl, hbg, hgg, rest⟩
  · exact .inl hn
  · refine .inr ⟨g, cap, cur, rfl, hbg, ?_, rest⟩
    rw [hb.block g (Array.getElem?_eq_some_iff.1 hgg).1]
    exact hgg
end Go.Proofs.Ytbolifjkhoiphaa
/- The reference of law 5: what the region of a part keeps. -/
namespace Go.Proofs.Ytbolifjkhoiphaa
open Go.RowKit Go.Proofs.Big Go.Proofs.Reg
set_option linter.unusedVariables false
set_option linter.unusedSimpArgs false
theorem sub_i64 (x y : Int) (h : -9223372036854775808 ≤ x - y ∧ x - y ≤ 9223372036854775807) (w : World) : (binOp .sub 2 (.int .i64 x) (.int .i64 y)).run Try.prog w = .ok (.int .i64 (x - y)) w := by
  obtain ⟨h0, h1⟩ := h
  simp [go_sem, IntKind.wrap_i64]
  omega
/-- what the region keeps -/
def SpB (wl : World) (v : Value) (k : Nat) (ts : List Int) (d F1 F0 : Int) (L : Nat → Bool) (vz : Nat → Value) (wy : World) : Prop :=
  Below wl.heap.size wl wy ∧
  (L 16 = false → wy.ownsRow wl.heap.size 2 1 v k (ts.map (Value.int .i64))) ∧
  (L 5 = true → L 7 = false → ∃ ng a l c, vz 5 = .agg #[.bool ng, .slice a l c] ∧ BigV wy ng a l c F1) ∧
  (L 11 = true → L 13 = false → ∃ ng a l c, vz 11 = .agg #[.bool ng, .slice a l c] ∧ BigV wy ng a l c F0) ∧
  (L 15 = true → ∃ g, vz 15 = .slice (some ⟨g, 0, none⟩) 1 1 ∧ (L 16 = false → wy.cell? ⟨g, 0, none⟩ = some (.int .i64 d))) ∧
  (L 16 = true → wy.ownsRow wl.heap.size 2 1 (vz 16) (k + 1) ((ts ++ [d]).map (Value.int .i64))) ∧
  (L 17 = true → vz 17 = vz 16) ∧ (L 16 = true → L 15 = true) ∧ (L 15 = true → L 14 = true) ∧ (L 14 = true → L 7 = true ∧ L 13 = true)
section
variable {wl : World} {v : Value} {k : Nat} {ts : List Int} {d F1 F0 : Int} {L : Nat → Bool} {vz : Nat → Value} {wy : World}
theorem bf {b : Bool} (h : b = true → False) : b = false := by cases b; rfl; exact (h rfl).elim
theorem ft {b : Bool} (h : b = false) (k : b = true) : False := by rw [h] at k; cases k
theorem SpB.n14 (h : SpB wl v k ts d F1 F0 L vz wy) (c : L 14 = false) : L 15 = false ∧ L 16 = false := by
  obtain ⟨_, _, _, _, _, _, _, h1, h2, _⟩ := h
  have a : L 15 = false := bf fun x => ft c (h2 x)
  exact ⟨a, bf fun x => ft a (h1 x)⟩
theorem SpB.n7 (h : SpB wl v k ts d F1 F0 L vz wy) (c : L 7 = false) : L 14 = false := bf fun x => ft c (h.2.2.2.2.2.2.2.2.2 x).1
theorem SpB.n13 (h : SpB wl v k ts d F1 F0 L vz wy) (c : L 13 = false) : L 14 = false := bf fun x => ft c (h.2.2.2.2.2.2.2.2.2 x).2
theorem SpB.pure (h : SpB wl v k ts d F1 F0 L vz wy) (i : Nat) (hi : (i != 5 && i != 7 && i != 11 && i != 13 && i != 14 && i != 15 && i != 16 && i != 17) = true) (u : Value) : SpB wl v k ts d F1 F0 (addL L i) (upd vz i u) wy := by
  have e : ∀ j, (j == 5 || j == 7 || j == 11 || j == 13 || j == 14 || j == 15 || j == 16 || j == 17) = true → addL L i j = L j ∧ upd vz i u j = vz j := fun j hj => by
    have : j ≠ i := fun c => by subst c; simp at hi hj; omega
    simp [addL, upd, this]
  unfold SpB
  rw [(e 5 rfl).1, (e 5 rfl).2, (e 7 rfl).1, (e 11 rfl).1, (e 11 rfl).2, (e 13 rfl).1, (e 14 rfl).1, (e 15 rfl).1, (e 15 rfl).2, (e 16 rfl).1, (e 16 rfl).2, (e 17 rfl).1, (e 17 rfl).2]
  exact h
theorem SpB.move (h : SpB wl v k ts d F1 F0 L vz wy) (h16 : L 16 = false) {w' : World} (hb : Below wy.heap.size wy w') : SpB wl v k ts d F1 F0 L vz w' := by
  obtain ⟨b, o, b5, b11, g, o2, e17, h1, h2, h3⟩ := h
  refine ⟨bel_tr0 b hb, fun c => owns_later (o c) hb, fun c c' => ?_, fun c c' => ?_, fun c => ?_, fun c => (ft h16 c).elim, e17, h1, h2, h3⟩
  · obtain ⟨ng, a, l, c, e, f⟩ := b5 c c'
    exact ⟨ng, a, l, c, e, f.later hb⟩
  · obtain ⟨ng, a, l, c, e, f⟩ := b11 c c'
    exact ⟨ng, a, l, c, e, f.later hb⟩
  · obtain ⟨q, e, f⟩ := g c
    exact ⟨q, e, fun c => cell_later hb (f c)⟩
theorem SpB.set5 (h : SpB wl v k ts d F1 F0 L vz wy) {ng : Bool} {a : Option Addr} {l c : Nat} (f : BigV wy ng a l c F1) : SpB wl v k ts d F1 F0 (addL L 5) (upd vz 5 (.agg #[.bool ng, .slice a l c])) wy := by
  obtain ⟨b, o, b5, b11, g, o2, e17, h1, h2, h3⟩ := h
  refine ⟨b, ?_, fun _ _ => ⟨ng, a, l, c, by simp [upd], f⟩, ?_, ?_, ?_, ?_, ?_, ?_, ?_⟩ <;> (first | exact o | exact b5 | exact b11 | exact g | exact o2 | exact e17 | exact h1 | exact h2 | exact h3)
theorem SpB.set11 (h : SpB wl v k ts d F1 F0 L vz wy) {ng : Bool} {a : Option Addr} {l c : Nat} (f : BigV wy ng a l c F0) : SpB wl v k ts d F1 F0 (addL L 11) (upd vz 11 (.agg #[.bool ng, .slice a l c])) wy := by
  obtain ⟨b, o, b5, b11, g, o2, e17, h1, h2, h3⟩ := h
  refine ⟨b, ?_, ?_, fun _ _ => ⟨ng, a, l, c, by simp [upd], f⟩, ?_, ?_, ?_, ?_, ?_, ?_⟩ <;> (first | exact o | exact b5 | exact b11 | exact g | exact o2 | exact e17 | exact h1 | exact h2 | exact h3)
theorem SpB.set7 (h : SpB wl v k ts d F1 F0 L vz wy) (u : Value) : SpB wl v k ts d F1 F0 (addL L 7) (upd vz 7 u) wy := by
  obtain ⟨b, o, b5, b11, g, o2, e17, h1, h2, h3⟩ := h
  refine ⟨b, ?_, fun _ c => by simp [addL] at c, ?_, ?_, ?_, ?_, ?_, ?_, fun c => ⟨by simp [addL], ?_⟩⟩
  · (first | exact o | exact b5 | exact b11 | exact g | exact o2 | exact e17 | exact h1 | exact h2 | exact h3)
  · (first | exact o | exact b5 | exact b11 | exact g | exact o2 | exact e17 | exact h1 | exact h2 | exact h3)
  · (first | exact o | exact b5 | exact b11 | exact g | exact o2 | exact e17 | exact h1 | exact h2 | exact h3)
  · (first | exact o | exact b5 | exact b11 | exact g | exact o2 | exact e17 | exact h1 | exact h2 | exact h3)
  · (first | exact o | exact b5 | exact b11 | exact g | exact o2 | exact e17 | exact h1 | exact h2 | exact h3)
  · (first | exact o | exact b5 | exact b11 | exact g | exact o2 | exact e17 | exact h1 | exact h2 | exact h3)
  · (first | exact o | exact b5 | exact b11 | exact g | exact o2 | exact e17 | exact h1 | exact h2 | exact h3)
  · have := (h3 (by simpa [addL] using c)).2
    simpa [addL] using this
theorem SpB.set13 (h : SpB wl v k ts d F1 F0 L vz wy) (u : Value) : SpB wl v k ts d F1 F0 (addL L 13) (upd vz 13 u) wy := by
  obtain ⟨b, o, b5, b11, g, o2, e17, h1, h2, h3⟩ := h
  refine ⟨b, ?_, ?_, fun _ c => by simp [addL] at c, ?_, ?_, ?_, ?_, ?_, fun c => ⟨?_, by simp [addL]⟩⟩
  · (first | exact o | exact b5 | exact b11 | exact g | exact o2 | exact e17 | exact h1 | exact h2 | exact h3)
  · (first | exact o | exact b5 | exact b11 | exact g | exact o2 | exact e17 | exact h1 | exact h2 | exact h3)
  · (first | exact o | exact b5 | exact b11 | exact g | exact o2 | exact e17 | exact h1 | exact h2 | exact h3)
  · (first | exact o | exact b5 | exact b11 | exact g | exact o2 | exact e17 | exact h1 | exact h2 | exact h3)
  · (first | exact o | exact b5 | exact b11 | exact g | exact o2 | exact e17 | exact h1 | exact h2 | exact h3)
  · (first | exact o | exact b5 | exact b11 | exact g | exact o2 | exact e17 | exact h1 | exact h2 | exact h3)
  · (first | exact o | exact b5 | exact b11 | exact g | exact o2 | exact e17 | exact h1 | exact h2 | exact h3)
  · have := (h3 (by simpa [addL] using c)).1
    simpa [addL] using this
theorem SpB.set14 (h : SpB wl v k ts d F1 F0 L vz wy) (h7 : L 7 = true) (h13 : L 13 = true) (u : Value) : SpB wl v k ts d F1 F0 (addL L 14) (upd vz 14 u) wy := by
  obtain ⟨b, o, b5, b11, g, o2, e17, h1, h2, h3⟩ := h
  refine ⟨b, ?_, ?_, ?_, ?_, ?_, ?_, ?_, fun _ => by simp [addL], fun _ => ⟨by simpa [addL] using h7, by simpa [addL] using h13⟩⟩ <;> (first | exact o | exact b5 | exact b11 | exact g | exact o2 | exact e17 | exact h1 | exact h2 | exact h3)
theorem SpB.set15 (h : SpB wl v k ts d F1 F0 L vz wy) (h14 : L 14 = true) (h16 : L 16 = false) : SpB wl v k ts d F1 F0 (addL L 15) (upd vz 15 (.slice (some ⟨wy.heap.size, 0, none⟩) 1 1)) (wy.alloc (.cells #[.int .i64 d] 2)) := by
  obtain ⟨b, o, b5, b11, g, o2, e17, h1, h2, h3⟩ := h.move h16 (bel_new wy (.cells #[.int .i64 d] 2))
  refine ⟨b, ?_, ?_, ?_, fun _ => ⟨wy.heap.size, by simp [upd], fun _ => by simp [go_sem]⟩, ?_, ?_, fun _ => by simp [addL], fun _ => by simpa [addL] using h14, ?_⟩ <;> (first | exact o | exact b5 | exact b11 | exact g | exact o2 | exact e17 | exact h1 | exact h2 | exact h3)
theorem SpB.set16 (h : SpB wl v k ts d F1 F0 L vz wy) (h15 : L 15 = true) (h16 : L 16 = false) (h17 : L 17 = false) {v' : Value} {w' : World} (o' : w'.ownsRow wl.heap.size 2 1 v' (k + 1) ((ts ++ [d]).map (Value.int .i64))) (gr : wy.grownBy w' v.ownBlock) : SpB wl v k ts d F1 F0 (addL L 16) (upd vz 16 v') w' := by
  obtain ⟨b, o, b5, b11, g, o2, e17, h1, h2, h3⟩ := h
  obtain ⟨c7, c13⟩ := h3 (h2 h15)
  obtain ⟨q, e, _⟩ := g h15
  refine ⟨below_grown b (o h16) gr, fun c => ?_, fun _ c => ?_, fun _ c => ?_, fun _ => ⟨q, by simpa [upd] using e, fun c => ?_⟩, fun _ => by simpa [upd] using o', fun c => ?_, fun _ => by simpa [addL] using h15, ?_, ?_⟩
  · simp [addL] at c
  · exact (ft (by simpa [addL] using c) c7).elim
  · exact (ft (by simpa [addL] using c) c13).elim
  · simp [addL] at c
  · exact (ft h17 (by simpa [addL] using c)).elim
  · (first | exact o | exact b5 | exact b11 | exact g | exact o2 | exact e17 | exact h1 | exact h2 | exact h3)
  · (first | exact o | exact b5 | exact b11 | exact g | exact o2 | exact e17 | exact h1 | exact h2 | exact h3)
theorem SpB.set17 (h : SpB wl v k ts d F1 F0 L vz wy) : SpB wl v k ts d F1 F0 (addL L 17) (upd vz 17 (vz 16)) wy := by
  obtain ⟨b, o, b5, b11, g, o2, e17, h1, h2, h3⟩ := h
  refine ⟨b, ?_, ?_, ?_, ?_, ?_, fun _ => by simp [upd], ?_, ?_, ?_⟩ <;> (first | exact o | exact b5 | exact b11 | exact g | exact o2 | exact e17 | exact h1 | exact h2 | exact h3)
theorem SpB.start (hb : Below wl.heap.size wl wy) (o : wy.ownsRow wl.heap.size 2 1 v k (ts.map (Value.int .i64))) : SpB wl v k ts d F1 F0 (fun _ => false) vz wy :=
  ⟨hb, fun _ => o, fun h => (by cases h), fun h => (by cases h), fun h => (by cases h), fun h => (by cases h), fun h => (by cases h), fun h => (by cases h), fun h => (by cases h), fun h => (by cases h)⟩
end
end Go.Proofs.Ytbolifjkhoiphaa
