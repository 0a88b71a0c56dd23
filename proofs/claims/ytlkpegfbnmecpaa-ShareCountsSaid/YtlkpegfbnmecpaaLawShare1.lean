/- ShareCounts. -/
import Derived.Test.YtlkpegfbnmecpaaShareF
import Derived.RegionTactic
import Derived.WalkKit
import Derived.WalkSpells
import Derived.WalkLawsBesides
import Derived.Handy
import Derived.Lib.Hide
import Derived.Deep.QuietTactic
import Derived.BigQuiet
import Derived.LoopTactic
import Derived.Outline
import Derived.Deep.DeepCutAuto
namespace Go.Proofs.Ytlkpegfbnmecpaa
open Go.RowKit Go.Proofs.Reg
set_option linter.unusedVariables false
set_option linter.unusedSimpArgs false
set_option maxRecDepth 100000
set_option maxHeartbeats 2000000 in
theorem law_counts (T n : Int) (kT : -2147483648 ≤ T ∧ T ≤ 2147483647) (kn : -9223372036854775808 ≤ n ∧ n ≤ 9223372036854775807) (w : World) :
    Calls Try.prog 4 #[.int .i32 T, .int .i64 n] w fun e w' => e = .returned (.bool true) ∧ Below w.heap.size w w' := by
  obtain ⟨t0, t1⟩ := kT
  obtain ⟨n0, n1⟩ := kn
  have hmk : ∀ w : World, (Instr.makeSlice 22 (.int .i64 1025) (.int .i64 1025)).run Try.prog w = .ok (.slice (some ⟨w.heap.size, 0, none⟩) 1025 1025) (w.alloc (.cells (madeCells #[.int .i64 0] 1025) 2)) := make_ints 1025 (by decide)
  go_enter Try.func4, Try.ntmps4
  go_wp2_with fail
  refine (speaks5_any _).mono ?_
  rintro e w1 ⟨rfl, hb⟩
  have KB := Lib.hid hb
  clear hb
  go_wp2_with fail
  refine (seven_any T n _).mono ?_
  rintro e w2 ⟨hb, hr⟩
  have G1 := Lib.hid KB.out.size
  have KB := Lib.hid (bel_tr0 KB.out hb)
  clear hb
  rcases hr with ⟨h, rfl⟩ | ⟨h, rfl⟩ | ⟨m, rfl, hm, _, b, rfl, hb1, o⟩ | ⟨_, _, no, rfl⟩
  · clear hmk
    go_wp2_with fail
    go_returns
    exact ⟨rfl, KB.out⟩
  · have B1 := Lib.hid (bel_new w2 (.cells (madeCells #[.int .i64 0] 1025) 2))
    have S := Lib.hid (ssplit_any _ 1025 1025 _ 1 _ ((OwnI.new w2 1025 2).ri (by simp) (by decide)) (fun x hx => by
      obtain ⟨_, rfl⟩ := List.mem_replicate.1 hx
      decide))
    go_wp2_with fail
    clear hmk
    refine S.out.mono ?_
    rintro e w3 ⟨hb, hr⟩
    have KB := Lib.hid (bel_tr0 KB.out (bel_tr0 B1.out hb))
    clear hb S B1
    rcases hr with ⟨_, rfl⟩ | ⟨h, _⟩ | ⟨h, _⟩ | ⟨h, _⟩
    · go_wp2_with fail
      go_returns
      exact ⟨rfl, KB.out⟩
    · omega
    · omega
    · omega
  · have O := Lib.hid o
    have LB : Hid (w.heap.size ≤ b) := Lib.hid (Nat.le_trans G1.out hb1)
    clear hmk o hb1
    have NG : Hid (∀ x ∈ List.replicate m (1 : Int), 0 ≤ x) := Lib.hid fun x hx => by
      obtain ⟨_, rfl⟩ := List.mem_replicate.1 hx
      decide
    have hmn : ((m : Int) == (m : Int)) = true := by simp
    go_wp2_with fail
    go_loopw [9, 10] (fun s9 s10 wr => ∃ (k : Nat) (s : Int), s10 = .int .i64 k ∧ s9 = .int .i64 s ∧ k ≤ m ∧ Hid (s = cum T (List.replicate m 1) k) ∧ Hid (OwnI wr b (parts5 T (List.replicate m 1))) ∧ Hid (Below w.heap.size w wr)) (fun _ s10 _ => m - (intOf s10).toNat)
    case atStart => exact ⟨0, 0, rfl, rfl, by omega, Lib.hid (cum_zero _ _).symm, O, KB⟩
    case round =>
      obtain ⟨k, s, rfl, rfl, hk, HS, HO, KB⟩ := hrel
      have cr := cum_range NG.out (T := T) (by omega) (by omega) k
      rw [← HS.out] at cr
      obtain ⟨s0, s1⟩ := cr
      by_cases hlt : k < m
      · have kl : (k : Int) < (m : Int) := by omega
        have k0 : (0 : Int) ≤ (k : Int) := by omega
        have ml : (0 : Int) < (m : Int) := by omega
        have d1 := HO.out.cell k (by rw [parts_len]; simpa using hlt)
        have d2 := HO.out.cell 0 (by rw [parts_len]; simp; omega)
        rw [parts_get _ _ _ (by simpa using hlt)] at d1
        rw [parts_get _ _ _ (by simp; omega), part_ones_zero (by omega)] at d2
        obtain ⟨p0, p1⟩ := part_ones (T := T) hlt
        obtain ⟨q0, q1⟩ := part_range NG.out (T := T) (by omega) (by omega) k
        have CS := cum_succ T (List.replicate m 1) k
        rw [← HS.out] at CS
        obtain ⟨x, hx⟩ : ∃ x, part5 T (List.replicate m 1) k = x := ⟨_, rfl⟩
        obtain ⟨q, hq⟩ : ∃ q, T / (m : Int) = q := ⟨_, rfl⟩
        rw [hx] at d1 p0 p1 q0 q1 CS
        rw [hq] at d2 p0 p1
        have HS1 := Lib.hid CS.symm
        have g1 : decide (x < q - 1) = false := decide_eq_false (by omega)
        have g2 : decide (q + 1 < x) = false := decide_eq_false (by omega)
        clear hx hq CS
        go_wp2_with fail
        go_quiet (fail)
        go_wp2_with fail
        go_roundw
        case rel => exact ⟨k + 1, s + x, by go_num, rfl, by omega, HS1, Lib.hid (HO.out.later (below_drewN (Below.refl _ _) _)), Lib.hid (below_drewN KB.out _)⟩
        case measure => simp [intOf]; omega
      · have kl : ¬ (k : Int) < (m : Int) := by omega
        obtain rfl : k = m := by omega
        have HT : Hid (s = if (k : Int) = 0 then 0 else T) := Lib.hid (by
          rw [HS.out]
          have := cum_all T (List.replicate k 1)
          rw [sum_ones, List.length_replicate] at this
          exact this)
        by_cases z : k = 0
        · subst z
          go_wp2_with fail
          go_ret
          exact ⟨rfl, KB.out⟩
        · have zb : ((k : Int) == 0) = false := by simpa using z
          obtain rfl : s = T := by rw [HT.out, if_neg (by omega)]
          go_wp2_with fail
          go_ret
          exact ⟨rfl, KB.out⟩
  · exact absurd (by unfold okT; omega) no
end Go.Proofs.Ytlkpegfbnmecpaa
