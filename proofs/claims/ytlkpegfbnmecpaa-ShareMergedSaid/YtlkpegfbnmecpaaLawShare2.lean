/- ShareFair. -/
import Derived.Test.YtlkpegfbnmecpaaShareG
import Derived.RegionTactic
import Derived.WalkKit
import Derived.WalkSpells
import Derived.WalkLawsBesides
import Derived.Handy
import Derived.Lib.Hide
import Derived.Deep.QuietTactic
import Derived.BigQuiet
import Derived.LoopTactic
import Derived.Outline
import Derived.Deep.DeepCutAuto
namespace Go.Proofs.Ytlkpegfbnmecpaa
open Go.RowKit Go.Proofs.Reg
set_option linter.unusedVariables false
set_option linter.unusedSimpArgs false
set_option maxRecDepth 100000
/-- Split of small weights -/
theorem split_small {w : World} {a : Option Addr} {n c : Nat} {ys : List Int} {T : Int} (h : Ri w a n c ys) (hn : n ≤ 40) (hy : ∀ x ∈ ys, 0 ≤ x ∧ x ≤ 4294967295) (hs : ys.sum ≤ 4611686018427387904) (t0 : -17592186044416 ≤ T) (t1 : T ≤ 17592186044416) :
    Calls Try.prog 11 #[.int .i64 T, .slice a n c] w fun e w' => (∃ b, e = .returned (.tuple #[.slice (some ⟨b, 0, none⟩) n n, .int .i64 0]) ∧ w.heap.size ≤ b ∧ OwnI w' b (parts5 T ys)) ∧ Below w.heap.size w w' := by
  refine (ssplit_any a n c ys T w h (fun x m => by have := hy x m; omega)).mono ?_
  rintro e w' ⟨hb, hr⟩
  rcases hr with ⟨h, _⟩ | ⟨_, h, _⟩ | ⟨_, _, _, _, b, rfl, hb', o⟩ | ⟨_, _, no, _⟩
  · omega
  · unfold negB at h
    rw [List.any_eq_true] at h
    obtain ⟨x, m, hx⟩ := h
    have := hy x m
    have := of_decide_eq_true hx
    omega
  · exact ⟨⟨b, rfl, hb', o⟩, hb⟩
  · exact absurd ⟨⟨t0, t1⟩, hs⟩ no
set_option maxHeartbeats 2000000 in
theorem law_fair (a : Option Addr) (len cap : Nat) (xs : List Int) (T : Int) (w : World) (h : RiK .u16 w a len cap xs) (hx : ∀ x ∈ xs, 0 ≤ x ∧ x ≤ 65535) (kT : -2147483648 ≤ T ∧ T ≤ 2147483647) :
    Calls Try.prog 5 #[.int .i32 T, .slice a len cap] w fun e w' => e = .returned (.bool true) ∧ Below w.heap.size w w' := by
  obtain ⟨t0, t1⟩ := kT
  have H := Lib.hid h
  have HX := Lib.hid hx
  clear h hx
  go_enter Try.func5, Try.ntmps5
  go_wp2_with fail
  refine (speaks5_any _).mono ?_
  rintro e w1 ⟨rfl, hb⟩
  have KB := Lib.hid hb
  have SM := Lib.hid (small5_any a len cap xs w1 (H.out.later hb) HX.out)
  clear hb
  go_wp2_with fail
  refine SM.out.mono ?_
  rintro e w2 ⟨⟨a2, c2, rfl, R, _⟩, hb⟩
  have KB := Lib.hid (bel_tr0 KB.out hb)
  obtain ⟨ys, hys⟩ : ∃ ys, xs.take 40 = ys := ⟨_, rfl⟩
  have HY : Hid (∀ x ∈ ys, 0 ≤ x ∧ x ≤ 65535) := Lib.hid fun x m => HX.out x (List.mem_of_mem_take (by rw [hys]; exact m))
  have HN : Hid (∀ x ∈ ys, 0 ≤ x) := Lib.hid fun x m => (HY.out x m).1
  obtain ⟨S0, S1⟩ := sum_small HX.out 40
  have n40 : (xs.take 40).length ≤ 40 := by rw [List.length_take]; omega
  rw [hys] at R S0 S1 n40
  rw [hys]
  obtain ⟨S, hS⟩ : ∃ S, ys.sum = S := ⟨_, rfl⟩
  obtain ⟨n, hn⟩ : ∃ n, ys.length = n := ⟨_, rfl⟩
  rw [hS] at S0 S1
  rw [hn] at R n40
  rw [hS, hn]
  have RW := Lib.hid R
  have HS := Lib.hid hS
  have HL := Lib.hid hn
  have SP := Lib.hid (split_small R n40 (fun x m => by have := HY.out x m; omega) (T := T) (by rw [hS]; omega) (by omega) (by omega))
  clear R SM hb hys hS hn H HX
  have hnn : ((n : Int) != (n : Int)) = false := by simp
  go_wp2_with fail
  refine SP.out.mono ?_
  rintro e w3 ⟨⟨b, rfl, hb1, o⟩, hb⟩
  have KB := Lib.hid (bel_tr0 KB.out hb)
  have RW := Lib.hid (ri_later RW.out hb)
  have O := Lib.hid o
  clear o hb1 hb SP
  go_wp2_with fail
  go_loopw [9, 10, 11] (fun s9 s10 s11 wr => ∃ (k : Nat) (s : Int), s10 = .int .i64 k ∧ s9 = .int .i64 s ∧ k ≤ n ∧ Hid (s = cum T ys k) ∧ Hid (OwnI wr b (parts5 T ys)) ∧ Hid (Ri wr a2 n c2 ys) ∧ Hid (Below w.heap.size w wr)) (fun _ s10 _ _ => n - (intOf s10).toNat)
  case atStart => exact ⟨0, 0, rfl, rfl, by omega, Lib.hid (cum_zero _ _).symm, O, RW, KB⟩
  case round =>
    obtain ⟨k, s, rfl, rfl, hk, HC, HO, HR, KB⟩ := hrel
    have cr := cum_range HN.out (T := T) (by omega) (by omega) k
    rw [← HC.out] at cr
    obtain ⟨s0, s1⟩ := cr
    have nm := HR.out.hmax
    by_cases hlt : k < n
    · have kl : (k : Int) < (n : Int) := by omega
      have k0 : (0 : Int) ≤ (k : Int) := by omega
      have kx : k < ys.length := by rw [HL.out]; exact hlt
      obtain ⟨p, rfl, hc⟩ := HR.out.addr (by omega)
      have d2 := hc k hlt
      have d1 := HO.out.cell k (by rw [parts_len]; exact kx)
      rw [parts_get _ _ _ kx] at d1
      obtain ⟨q0, q1⟩ := part_range HN.out (T := T) (by omega) (by omega) k
      have CS := cum_succ T ys k
      rw [← HC.out] at CS
      have wb := HY.out _ (getD_mem kx)
      have PO := fun h => part_off (T := T) HN.out h kx
      have PN := part_none (T := T) kx
      have PZ : S = 0 → part5 T ys k = 0 := fun h => by unfold part5; rw [HS.out, if_pos h]
      rw [HS.out] at PO
      obtain ⟨x, hx⟩ : ∃ x, part5 T ys k = x := ⟨_, rfl⟩
      obtain ⟨y, hy⟩ : ∃ y, ys.getD k 0 = y := ⟨_, rfl⟩
      rw [hx] at d1 q0 q1 CS PO PN PZ
      rw [hy] at d2 wb PO PN
      obtain ⟨y0, y1⟩ := wb
      have HS1 := Lib.hid CS.symm
      have m1 : T * y ≤ 2147483647 * y := Int.mul_le_mul_of_nonneg_right t1 y0
      have m2 : -2147483648 * y ≤ T * y := Int.mul_le_mul_of_nonneg_right t0 y0
      have m3 : -140735340871680 ≤ T * y := by omega
      have m4 : T * y ≤ 140735340871680 := by omega
      have HPO := Lib.hid PO
      have HPN := Lib.hid PN
      have HPZ := Lib.hid PZ
      clear hx hy CS PO PN PZ hc m1 m2
      by_cases z : S = 0
      · subst z
        obtain rfl : x = 0 := HPZ.out rfl
        have yz : (y == 0) = true ∨ (y == 0) = false := by cases (y == 0) <;> simp
        have g1 : decide ((0 : Int) < 0) = false := rfl
        have g3 : ((0 : Int) != 0) = false := rfl
        rcases yz with yz | yz
        · go_wp2_with fail
          go_quiet (fail)
          go_wp2_with fail
          go_roundw
          case rel => exact ⟨k + 1, s, by go_num, rfl, by omega, Lib.hid (by have := HS1.out; omega), Lib.hid (HO.out.later (below_drewN (Below.refl _ _) _)), Lib.hid (ri_later HR.out (below_drewN (Below.refl _ _) _)), Lib.hid (below_drewN KB.out _)⟩
          case measure => simp [intOf]; omega
        · go_wp2_with fail
          go_quiet (fail)
          go_wp2_with fail
          go_roundw
          case rel => exact ⟨k + 1, s, by go_num, rfl, by omega, Lib.hid (by have := HS1.out; omega), Lib.hid (HO.out.later (below_drewN (Below.refl _ _) _)), Lib.hid (ri_later HR.out (below_drewN (Below.refl _ _) _)), Lib.hid (below_drewN KB.out _)⟩
          case measure => simp [intOf]; omega
      · have sp : 0 < S := by omega
        have g1 : decide (0 < S) = true := decide_eq_true sp
        obtain ⟨o1, o2⟩ := HPO.out sp
        have o3 : -140735343493080 ≤ x * S := by omega
        have o4 : x * S ≤ 140735343493080 := by omega
        have g2 : decide (S ≤ x * S - T * y) = false := decide_eq_false (by omega)
        have g4 : decide (x * S - T * y ≤ -S) = false := decide_eq_false (by omega)
        by_cases yz : y = 0
        · subst yz
          obtain rfl : x = 0 := HPN.out rfl
          have g3 : ((0 : Int) != 0) = false := rfl
          go_wp2_with fail
          go_quiet (fail)
          go_wp2_with fail
          go_roundw
          case rel => exact ⟨k + 1, s, by go_num, rfl, by omega, Lib.hid (by have := HS1.out; omega), Lib.hid (HO.out.later (below_drewN (Below.refl _ _) _)), Lib.hid (ri_later HR.out (below_drewN (Below.refl _ _) _)), Lib.hid (below_drewN KB.out _)⟩
          case measure => simp [intOf]; omega
        · have yb : (y == 0) = false := by simpa using yz
          go_wp2_with fail
          go_quiet (fail)
          go_wp2_with fail
          go_roundw
          case rel => exact ⟨k + 1, s + x, by go_num, rfl, by omega, HS1, Lib.hid (HO.out.later (below_drewN (Below.refl _ _) _)), Lib.hid (ri_later HR.out (below_drewN (Below.refl _ _) _)), Lib.hid (below_drewN KB.out _)⟩
          case measure => simp [intOf]; omega
    · have kl : ¬ (k : Int) < (n : Int) := by omega
      obtain rfl : k = n := by omega
      have HT : Hid (s = if S = 0 then 0 else T) := Lib.hid (by
        rw [HC.out]
        have := cum_all T ys
        rwa [HL.out, HS.out] at this)
      by_cases z : S = 0
      · subst z
        obtain rfl : s = 0 := by rw [HT.out, if_pos rfl]
        have g1 : decide ((0 : Int) < 0) = false := rfl
        go_wp2_with fail
        go_ret
        exact ⟨rfl, KB.out⟩
      · have sp : 0 < S := by omega
        have g1 : decide (0 < S) = true := decide_eq_true sp
        obtain rfl : s = T := by rw [HT.out, if_neg z]
        have gt : (s == s) = true := by simp
        go_wp2_with fail
        go_ret
        exact ⟨rfl, KB.out⟩
end Go.Proofs.Ytlkpegfbnmecpaa
