/- Package real: Exact, for any float. -/
import Derived.Test.YtdccoebjcaemcaaRRRDoorGridB
import Derived.Test.YtdccoebjcaemcaaRRRDoorRatioB
import Derived.WalkKit
import Derived.WalkSpells
import Derived.WalkLawsBesides
import Derived.Handy
import Derived.Lib.Hide
import Derived.Outline
namespace Go.Proofs.YtdccoebjcaemcaaRRRDoor
open Go.RowKit Go.Proofs.Flo Go.Proofs.Reg
set_option linter.unusedVariables false
set_option linter.unusedSimpArgs false
set_option maxRecDepth 100000
/-- not beyond the ints -/
def okB (x : Nat) : Bool := decide (key 14114281232179134464 ≤ key x) && decide (key x < key 4890909195324358656)
theorem bounded_any (x : Nat) (h : rung x < 9218868437227405312) (w : World) : Calls Tryd.prog 27 #[.float .f64 x] w fun e w' => e = .returned (.bool (okB x)) ∧ w' = w := by
  have e1 := eql_key 14114281232179134464 x (by decide) (nan_num h)
  have e2 := (eql_key x 4890909195324358656 (nan_num h) (by decide)).2.1
  have O : Hid (okB x = (decide (key 14114281232179134464 ≤ key x) && decide (key x < key 4890909195324358656))) := Lib.hid rfl
  obtain ⟨y1, y2, _⟩ := e1
  by_cases a : key 14114281232179134464 < key x
  · rw [decide_eq_true a] at y2
    rw [decide_eq_false (by omega)] at y1
    obtain ⟨f, hf⟩ : ∃ f, decide (key x < key 4890909195324358656) = f := ⟨_, rfl⟩
    rw [hf] at e2
    have R : Hid (okB x = f) := Lib.hid (by rw [O.out, hf, decide_eq_true (by omega)]; rfl)
    rw [R.out]
    clear a hf O R
    cases f
    all_goals
      go_enter Tryd.func27, Tryd.ntmps27
      go_wp2_with fail
      go_returns
      exact ⟨rfl, rfl⟩
  · by_cases b : key 14114281232179134464 = key x
    · rw [decide_eq_false a] at y2
      rw [decide_eq_true b] at y1
      obtain ⟨f, hf⟩ : ∃ f, decide (key x < key 4890909195324358656) = f := ⟨_, rfl⟩
      rw [hf] at e2
      have R : Hid (okB x = f) := Lib.hid (by rw [O.out, hf, decide_eq_true (by omega)]; rfl)
      rw [R.out]
      clear a b hf O R
      cases f
      all_goals
        go_enter Tryd.func27, Tryd.ntmps27
        go_wp2_with fail
        go_returns
        exact ⟨rfl, rfl⟩
    · rw [decide_eq_false a] at y2
      rw [decide_eq_false b] at y1
      have R : Hid (okB x = false) := Lib.hid (by rw [O.out, decide_eq_false (by omega)]; rfl)
      rw [R.out]
      clear a b O R e2
      go_enter Tryd.func27, Tryd.ntmps27
      go_wp2_with fail
      go_returns
      exact ⟨rfl, rfl⟩
/-- what Exact answers -/
structure ExR (x : Nat) (N D E : Int) : Prop where
  cs : (nanB x = true ∧ N = 0 ∧ D = 0 ∧ E = 4) ∨ (nanB x = false ∧ infB x = true ∧ N = 0 ∧ D = 0 ∧ E = 5) ∨
    (rung x < 9218868437227405312 ∧ ¬ (-(9223372036854775808 * (U : Int)) ≤ sval x ∧ sval x < 9223372036854775808 * U) ∧ N = 0 ∧ D = 0 ∧ E = 2) ∨
    (rung x < 9218868437227405312 ∧ (∃ n h, Spl3 x n h ∧ 62 < h) ∧ N = 0 ∧ D = 0 ∧ E = 2) ∨
    (rung x < 9218868437227405312 ∧ ∃ h, Spl3 x N h ∧ h ≤ 62 ∧ D = 2 ^ h ∧ E = 0)
theorem gcd_pow (n : Int) (h : Nat) (o : h = 0 ∨ n % 2 = 1) : Int.gcd n (2 ^ h) = 1 := by
  rcases o with rfl | o
  · simp
  · have e : Int.gcd n (2 ^ h) = Nat.gcd n.natAbs (2 ^ h) := by
      unfold Int.gcd
      rw [Int.natAbs_pow]; rfl
    rw [e]
    have m : n.natAbs % 2 = 1 := by omega
    have c : Nat.Coprime n.natAbs 2 := by
      unfold Nat.Coprime
      rw [Nat.gcd_comm, Nat.gcd_rec, m]
      rfl
    exact Nat.Coprime.pow_right h c
theorem low_pow (n : Int) (h : Nat) (hh : h ≤ 62) (n0 : -9223372036854775808 ≤ n) (n1 : n ≤ 9223372036854775807) (o : h = 0 ∨ n % 2 = 1) : Lowest n (2 ^ h) 1 n (2 ^ h) := by
  have p0 := pow_ge h
  have p1 := pow_le62 h hh
  exact ⟨n0, n1, by omega, by omega, by omega, by rw [gcd_pow n h o]; rfl, by rw [if_neg (by omega)]; omega, by rw [if_neg (by omega)]; omega⟩
theorem ok_iff (x : Nat) (h : rung x < 9218868437227405312) : okB x = true ↔ (-(9223372036854775808 * (U : Int)) ≤ sval x ∧ sval x < 9223372036854775808 * U) := by
  obtain ⟨k1, k2⟩ := key_in x h
  unfold okB
  rw [Bool.and_eq_true, decide_eq_true_eq, decide_eq_true_eq, k1, k2]
set_option maxHeartbeats 1000000 in
theorem exact_ok (x : Nat) (n : Int) (h : Nat) (D : Int) (c : h ≤ 62) (S : Spl3 x n h) (hDD : 2 ^ h = D)
    (NA : Hid (∀ w : World, Calls Tryd.prog 25 #[.float .f64 x] w fun e w' => e = .returned (.bool false) ∧ w' = w))
    (II : Hid (∀ w : World, Calls Tryd.prog 26 #[.float .f64 x, .int .i64 0] w fun e w' => e = .returned (.bool false) ∧ w' = w))
    (BO : Hid (∀ w : World, Calls Tryd.prog 27 #[.float .f64 x] w fun e w' => e = .returned (.bool true) ∧ w' = w))
    (SP : Hid (∀ w : World, Deb w → Calls Tryd.prog 28 #[.float .f64 x] w fun e w' => e = .returned (.tuple #[.int .i64 n, .int .i64 h]) ∧ w' = w)) (w : World) (hD : Deb w) :
    Calls Tryd.prog 9 #[.float .f64 x] w fun e w' => e = .returned (.tuple #[.agg #[.int .i64 n, .int .i64 D], .int .i64 0]) ∧ Below w.heap.size w w' := by
  have ci : ¬ (62 : Int) < (h : Int) := by omega
  have h0 : (0 : Int) ≤ (h : Int) := by omega
  have wr : wrap64 (2 ^ h) = D := by
    have p0 := pow_ge h
    have p1 := pow_le62 h c
    rw [← hDD]
    simp only [wrap64]
    omega
  have O := Lib.hid (of_any' (low_pow n h c S.n0 S.n1 S.odd) 0 n (2 ^ h) (.inl ⟨S.n1, by have := pow_le62 h c; omega, rfl, rfl, rfl⟩))
  have HD := Lib.hid (hD.later (bel_new w (.cells #[.int .i64 0, .int .i64 0] 25)))
  rw [hDD] at O
  clear S hD c hDD
  go_enter Tryd.func9, Tryd.ntmps9
  go_wp2_with fail
  refine (NA.out _).mono ?_
  rintro e w1 ⟨rfl, rfl⟩
  go_wp2_with fail
  refine (II.out _).mono ?_
  rintro e w1 ⟨rfl, rfl⟩
  go_wp2_with fail
  refine (BO.out _).mono ?_
  rintro e w1 ⟨rfl, rfl⟩
  go_wp2_with fail
  refine (SP.out _ HD.out).mono ?_
  rintro e w1 ⟨rfl, rfl⟩
  go_wp2_with fail
  refine (O.out _).mono ?_
  rintro e w2 ⟨rfl, hb⟩
  have KT := Lib.hid (((Tab.nil w).new [.int .i64 0, .int .i64 0] 25).later hb)
  have KB : Hid (Below w.heap.size w w2) := Lib.hid (bel_tr0 (by go_grown) hb)
  have z0 := KT.out.cell 0 0 rfl rfl
  have z1 := KT.out.cell 0 1 rfl rfl
  have zf0 := KT.out.froz 0 0 rfl rfl
  have zf1 := KT.out.froz 0 1 rfl rfl
  have lz := KT.out.lt 0 rfl
  clear hb wr
  go_wp2_with fail
  refine bodyPost_ret (v := .tuple #[.agg #[.int .i64 n, .int .i64 D], .int .i64 0]) (by simp [results, Tryd.results9, go_sem, z0, z1, lz]) rfl ?_
  exact ⟨rfl, (by have hk := KB.out; repeat' (first | exact hk | (with_reducible refine Below.drew ?_) | (with_reducible refine Below.alloc ?_ ?_ _) | (with_reducible refine Below.setCell ?_ ?_ _) | (with_reducible refine below_drewN ?_ _) | go_size))⟩
set_option maxHeartbeats 1000000 in
theorem kexact_ex (x : Nat) (hx : x < 18446744073709551616) : ∃ N D E, ExR x N D E ∧ ∀ w, Deb w → Calls Tryd.prog 9 #[.float .f64 x] w fun e w' => e = .returned (.tuple #[.agg #[.int .i64 N, .int .i64 D], .int .i64 E]) ∧ Below w.heap.size w w' := by
  have NA := Lib.hid (isnan_any x)
  have II := Lib.hid (isinf_any x hx)
  cases nn : nanB x
  · rw [nn] at NA
    cases ii : infB x
    · rw [ii] at II
      have hf : rung x < 9218868437227405312 := by
        have a := of_decide_eq_false nn
        have b := of_decide_eq_false ii
        omega
      have BO := Lib.hid (bounded_any x hf)
      have OI := ok_iff x hf
      cases ob : okB x
      · rw [ob] at BO
        refine ⟨0, 0, 2, ⟨.inr (.inr (.inl ⟨hf, (fun c => absurd (OI.2 c) (by rw [ob]; decide)), rfl, rfl, rfl⟩))⟩, fun w _ => ?_⟩
        clear OI ob hf nn ii
        go_enter Tryd.func9, Tryd.ntmps9
        go_wp2_with fail
        refine (NA.out _).mono ?_
        rintro e w1 ⟨rfl, rfl⟩
        go_wp2_with fail
        refine (II.out _).mono ?_
        rintro e w1 ⟨rfl, rfl⟩
        go_wp2_with fail
        refine (BO.out _).mono ?_
        rintro e w1 ⟨rfl, rfl⟩
        go_wp2_with fail
        refine bodyPost_ret (v := .tuple #[.agg #[.int .i64 0, .int .i64 0], .int .i64 2]) (by simp [results, Tryd.results9, go_sem]) rfl ?_
        exact ⟨rfl, by go_grown⟩
      · rw [ob] at BO
        obtain ⟨l0, l1⟩ := OI.1 ob
        obtain ⟨n, h, S, C⟩ := ksplit_any x hx hf l0 l1
        have SP := Lib.hid C
        have hh := S.hh
        by_cases c : 62 < h
        · refine ⟨0, 0, 2, ⟨.inr (.inr (.inr (.inl ⟨hf, ⟨n, h, S, c⟩, rfl, rfl, rfl⟩)))⟩, fun w hD => ?_⟩
          have ci : (62 : Int) < (h : Int) := by omega
          have HD := Lib.hid (hD.later (bel_new w (.cells #[.int .i64 0, .int .i64 0] 25)))
          clear OI ob hf nn ii S C hD c l0 l1 hh
          go_enter Tryd.func9, Tryd.ntmps9
          go_wp2_with fail
          refine (NA.out _).mono ?_
          rintro e w1 ⟨rfl, rfl⟩
          go_wp2_with fail
          refine (II.out _).mono ?_
          rintro e w1 ⟨rfl, rfl⟩
          go_wp2_with fail
          refine (BO.out _).mono ?_
          rintro e w1 ⟨rfl, rfl⟩
          go_wp2_with fail
          refine (SP.out _ HD.out).mono ?_
          rintro e w1 ⟨rfl, rfl⟩
          go_wp2_with fail
          refine bodyPost_ret (v := .tuple #[.agg #[.int .i64 0, .int .i64 0], .int .i64 2]) (by simp [results, Tryd.results9, go_sem]) rfl ?_
          exact ⟨rfl, by go_grown⟩
        · refine ⟨n, 2 ^ h, 0, ⟨.inr (.inr (.inr (.inr ⟨hf, h, S, by omega, rfl, rfl⟩)))⟩, fun w hD => ?_⟩
          exact exact_ok x n h (2 ^ h) (by omega) S rfl NA II BO SP w hD
    · rw [ii] at II
      refine ⟨0, 0, 5, ⟨.inr (.inl ⟨nn, ii, rfl, rfl, rfl⟩)⟩, fun w _ => ?_⟩
      clear nn ii
      go_enter Tryd.func9, Tryd.ntmps9
      go_wp2_with fail
      refine (NA.out _).mono ?_
      rintro e w1 ⟨rfl, rfl⟩
      go_wp2_with fail
      refine (II.out _).mono ?_
      rintro e w1 ⟨rfl, rfl⟩
      go_wp2_with fail
      refine bodyPost_ret (v := .tuple #[.agg #[.int .i64 0, .int .i64 0], .int .i64 5]) (by simp [results, Tryd.results9, go_sem]) rfl ?_
      exact ⟨rfl, by go_grown⟩
  · rw [nn] at NA
    refine ⟨0, 0, 4, ⟨.inl ⟨nn, rfl, rfl, rfl⟩⟩, fun w _ => ?_⟩
    clear nn II
    go_enter Tryd.func9, Tryd.ntmps9
    go_wp2_with fail
    refine (NA.out _).mono ?_
    rintro e w1 ⟨rfl, rfl⟩
    go_wp2_with fail
    refine bodyPost_ret (v := .tuple #[.agg #[.int .i64 0, .int .i64 0], .int .i64 4]) (by simp [results, Tryd.results9, go_sem]) rfl ?_
    exact ⟨rfl, by go_grown⟩
end Go.Proofs.YtdccoebjcaemcaaRRRDoor
