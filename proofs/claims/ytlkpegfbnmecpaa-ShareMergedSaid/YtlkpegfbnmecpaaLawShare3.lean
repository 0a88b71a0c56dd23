/- ShareMerged. -/
import Derived.Test.YtlkpegfbnmecpaaLawShare2
import Derived.Test.YtlkpegfbnmecpaaShareJ
import Derived.RegionTactic
import Derived.BigRegion
import Derived.WalkKit
import Derived.WalkSpells
import Derived.WalkLawsBesides
import Derived.Handy
import Derived.Lib.Hide
import Derived.Deep.QuietTactic
import Derived.BigQuiet
import Derived.LoopTactic
import Derived.Outline
import Derived.Deep.DeepCutAuto
namespace Go.Proofs.Ytlkpegfbnmecpaa
open Go.RowKit Go.Proofs.Reg Go.Proofs.Big
set_option linter.unusedVariables false
set_option linter.unusedSimpArgs false
set_option maxRecDepth 100000
set_option maxHeartbeats 2000000 in
theorem law_merged (a : Option Addr) (len cap : Nat) (xs : List Int) (T at_ : Int) (w : World) (h : RiK .u16 w a len cap xs) (hx : ∀ x ∈ xs, 0 ≤ x ∧ x ≤ 65535) (kT : -2147483648 ≤ T ∧ T ≤ 2147483647) (ka : 0 ≤ at_ ∧ at_ ≤ 255) :
    Calls Try.prog 6 #[.int .i32 T, .slice a len cap, .int .u8 at_] w fun e w' => e = .returned (.bool true) ∧ Below w.heap.size w w' := by
  obtain ⟨t0, t1⟩ := kT
  obtain ⟨a0, a1⟩ := ka
  have H := Lib.hid h
  have HX := Lib.hid hx
  clear h hx
  go_enter Try.func6, Try.ntmps6
  go_wp2_with fail
  refine (speaks5_any _).mono ?_
  rintro e w1 ⟨rfl, hb⟩
  have KB := Lib.hid hb
  have SM := Lib.hid (small5_any a len cap xs w1 (H.out.later hb) HX.out)
  clear hb
  go_wp2_with fail
  refine SM.out.mono ?_
  rintro e w2 ⟨⟨a2, c2, rfl, R, cc1, cc2⟩, hb⟩
  have KB := Lib.hid (bel_tr0 KB.out hb)
  obtain ⟨ys, hys⟩ : ∃ ys, xs.take 40 = ys := ⟨_, rfl⟩
  have HY : Hid (∀ x ∈ ys, 0 ≤ x ∧ x ≤ 65535) := Lib.hid fun x m => HX.out x (List.mem_of_mem_take (by rw [hys]; exact m))
  have HN : Hid (∀ x ∈ ys, 0 ≤ x) := Lib.hid fun x m => (HY.out x m).1
  obtain ⟨S0, S1⟩ := sum_small HX.out 40
  have n40 : (xs.take 40).length ≤ 40 := by rw [List.length_take]; omega
  rw [hys] at R S0 S1 n40 cc1
  rw [hys]
  obtain ⟨S, hS⟩ : ∃ S, ys.sum = S := ⟨_, rfl⟩
  obtain ⟨n, hn⟩ : ∃ n, ys.length = n := ⟨_, rfl⟩
  rw [hS] at S0 S1
  rw [hn] at R n40 cc1
  rw [hS, hn]
  have RW := Lib.hid R
  have HS := Lib.hid hS
  have HL := Lib.hid hn
  have SP := Lib.hid (split_small R n40 (fun x m => by have := HY.out x m; omega) (T := T) (by rw [hS]; omega) (by omega) (by omega))
  clear R SM hb hys hS hn H HX
  have hnn : ((n : Int) != (n : Int)) = false := by simp
  go_wp2_with fail
  refine SP.out.mono ?_
  rintro e w3 ⟨⟨b, rfl, hb1, o⟩, hb⟩
  have KB := Lib.hid (bel_tr0 KB.out hb)
  have RW := Lib.hid (ri_later RW.out hb)
  have O := Lib.hid o
  have SH := Lib.hid KB.out.size
  clear o hb1 hb SP
  obtain ⟨q, hq⟩ : ∃ q, T.tmod 1000 = q := ⟨_, rfl⟩
  have q0 : -1000 < q := by rw [← hq]; exact Int.lt_tmod_of_pos T (by decide)
  have q1 : q < 1000 := by rw [← hq]; exact Int.tmod_lt_of_pos T (by decide)
  have qa : q * S ≤ 999 * S := Int.mul_le_mul_of_nonneg_right (by omega) S0
  have qb : -999 * S ≤ q * S := Int.mul_le_mul_of_nonneg_right (by omega) S0
  have qc : q * S ≤ 2618778600 := by omega
  have qd : -2618778600 ≤ q * S := by omega
  clear qa qb
  by_cases n1 : n ≤ 1
  · have n1' : ¬ (1 : Int) < (n : Int) := by omega
    have SP := Lib.hid (split_small RW.out n40 (fun x m => by have := HY.out x m; omega) (T := q * S) (by rw [HS.out]; omega) (by omega) (by omega))
    go_wp2_with fail
    refine SP.out.mono ?_
    rintro e w4 ⟨⟨b4, rfl, hb1, o⟩, hb⟩
    have KB := Lib.hid (bel_tr0 KB.out hb)
    have RW := Lib.hid (ri_later RW.out hb)
    have O := Lib.hid o
    clear o hb1 hb SP
    go_wp2_with fail
    go_loopw [19] (fun s19 wr => ∃ k : Nat, s19 = .int .i64 k ∧ k ≤ n ∧ Hid (OwnI wr b4 (parts5 (q * S) ys)) ∧ Hid (Ri wr a2 n c2 ys) ∧ Hid (Below w.heap.size w wr)) (fun s19 _ => n - (intOf s19).toNat)
    case atStart => exact ⟨0, rfl, by omega, O, RW, KB⟩
    case round =>
      obtain ⟨k, rfl, hk, HO, HR, KB⟩ := hrel
      have nm := HR.out.hmax
      by_cases hlt : k < n
      · have kl : (k : Int) < (n : Int) := by omega
        have k0 : (0 : Int) ≤ (k : Int) := by omega
        have kx : k < ys.length := by rw [HL.out]; exact hlt
        obtain ⟨p, rfl, hc⟩ := HR.out.addr (by omega)
        have d2 := hc k hlt
        have d1 := HO.out.cell k (by rw [parts_len]; exact kx)
        rw [parts_get _ _ _ kx, ← HS.out, part_round HN.out kx] at d1
        have wb := HY.out _ (getD_mem kx)
        obtain ⟨y, hy⟩ : ∃ y, ys.getD k 0 = y := ⟨_, rfl⟩
        rw [hy] at d1 d2 wb
        obtain ⟨y0, y1⟩ := wb
        have m1 : q * y ≤ 999 * y := Int.mul_le_mul_of_nonneg_right (by omega) y0
        have m2 : -999 * y ≤ q * y := Int.mul_le_mul_of_nonneg_right (by omega) y0
        have m3 : q * y ≤ 65469465 := by omega
        have m4 : -65469465 ≤ q * y := by omega
        have nb : (q * y != q * y) = false := by simp
        clear hc hy m1 m2
        go_wp2_with fail
        go_quiet (fail)
        go_wp2_with fail
        go_roundw
        case rel => exact ⟨k + 1, by go_num, by omega, Lib.hid (HO.out.later (below_drewN (Below.refl _ _) _)), Lib.hid (ri_later HR.out (below_drewN (Below.refl _ _) _)), Lib.hid (below_drewN KB.out _)⟩
        case measure => simp [intOf]; omega
      · have kl : ¬ (k : Int) < (n : Int) := by omega
        go_wp2_with fail
        go_ret
        exact ⟨rfl, KB.out⟩
  · have n1' : (1 : Int) < (n : Int) := by omega
    have nz : ((n : Int) - 1 == 0) = false := by simp; omega
    have tz : 0 ≤ at_.tmod ((n : Int) - 1) := Int.tmod_nonneg _ a0
    have tl : at_.tmod ((n : Int) - 1) < (n : Int) - 1 := Int.tmod_lt_of_pos _ (by omega)
    obtain ⟨k, hk⟩ : ∃ k : Nat, at_.tmod ((n : Int) - 1) = k := ⟨(at_.tmod ((n : Int) - 1)).toNat, by omega⟩
    have hk2 : at_ % ((n : Int) - 1) = k := by rw [← Int.tmod_eq_emod_of_nonneg a0]; exact hk
    have kn : k + 1 < n := by omega
    clear tz tl
    obtain ⟨p, rfl, hc⟩ := RW.out.addr (by omega)
    have HC := Lib.hid hc
    have kn1 : (k : Int) < (n : Int) := by omega
    have kn2 : (k : Int) + 1 < (n : Int) := by omega
    have kn3 : (k : Int) + 2 ≤ (n : Int) := by omega
    have kc : (k : Int) ≤ (c2 : Int) := by omega
    have B0 := Lib.hid (bel_new w3 (.cells #[] 2))
    obtain ⟨v4, w4, r4, o4, g4⟩ := own_append (w3.alloc (.cells #[] 2)) w3.heap.size _ 0 [] (row_new w3 _ (Nat.le_refl _)) (by simp) p k c2 (ys.take k) (by rw [List.length_take, HL.out]; omega) (fun j hj => by
      rw [List.getD_eq_getElem?_getD, List.getElem?_take_of_lt hj, ← List.getD_eq_getElem?_getD]
      exact cell_later B0.out (hc j (by omega))) (by omega)
    have OWA : Hid (w4.ownsRow w3.heap.size 2 1 v4 k ((ys.take k).map (Value.int .i64))) := Lib.hid (by simpa using o4)
    have KRA := Lib.hid (below_grown B0.out (row_new w3 _ (Nat.le_refl _)) g4)
    clear hc o4 g4
    obtain ⟨paA, hpaA⟩ : ∃ q, (p).add k = q := ⟨_, rfl⟩
    obtain ⟨pbA, hpbA⟩ : ∃ q, (p).add (k + 1) = q := ⟨_, rfl⟩
    obtain ⟨pdA, hpdA⟩ : ∃ q, (if c2 = k + 2 then some (p) else some ((p).add (k + 2))) = q := ⟨_, rfl⟩
    obtain ⟨yA, hyA⟩ : ∃ y, (ys).getD k 0 = y := ⟨_, rfl⟩
    obtain ⟨zA, hzA⟩ : ∃ y, (ys).getD (k + 1) 0 = y := ⟨_, rfl⟩
    have PAA : Hid (∀ w : World, (Instr.indexAt 22 (.slice (some (p)) n c2) (.int .i64 k)).run Try.prog w = .ok (.pointer (some paA)) w) := Lib.hid fun w => by rw [← hpaA]; exact index_i64 _ n c2 k (by omega) w
    have PBA : Hid (∀ w : World, (Instr.indexAt 22 (.slice (some (p)) n c2) (.int .i64 (k + 1 : Nat))).run Try.prog w = .ok (.pointer (some pbA)) w) := Lib.hid fun w => by rw [← hpbA]; exact index_i64 _ n c2 (k + 1) (by omega) w
    have PDA : Hid (∀ w : World, (Instr.sliceAt 22 (.slice (some (p)) n c2) (some (.int .i64 (k + 2 : Nat))) none none).run Try.prog w = .ok (.slice pdA (n - (k + 2)) (c2 - (k + 2))) w) := Lib.hid fun w => by rw [← hpdA]; exact slice_from _ n c2 (k + 2) (by omega) w
    have CAA : Hid (w3.cell? paA = some (.int .i64 yA)) := Lib.hid (by rw [← hpaA, ← hyA]; exact HC.out k (by omega))
    have CBA : Hid (w3.cell? pbA = some (.int .i64 zA)) := Lib.hid (by rw [← hpbA, ← hzA]; exact HC.out (k + 1) (by omega))
    have CDA : Hid (∀ (wy : World) (v : Value), Below w3.heap.size w3 wy → wy.ownsRow w3.heap.size 2 1 v (k + 1) (((ys).take k ++ [yA + zA]).map (Value.int .i64)) → ∃ v' w', (Builtin.append_ #[22, 22] 22 #[v, .slice pdA (n - (k + 2)) (c2 - (k + 2))]).run Try.prog wy = .ok v' w' ∧ w'.ownsRow w3.heap.size 2 1 v' (n - 1) ((mrg (ys) k).map (Value.int .i64)) ∧ wy.grownBy w' v.ownBlock) := Lib.hid fun wy v hb ho => by
      rw [← hpdA]
      have e : ∀ q : Addr, (if c2 = k + 2 then some (p) else some ((p).add (k + 2))) = some q → ∃ v' w', (Builtin.append_ #[22, 22] 22 #[v, .slice (some q) (n - (k + 2)) (c2 - (k + 2))]).run Try.prog wy = .ok v' w' ∧ w'.ownsRow w3.heap.size 2 1 v' (n - 1) ((mrg (ys) k).map (Value.int .i64)) ∧ wy.grownBy w' v.ownBlock := fun q hq => by
        obtain ⟨v', w', r, o, g⟩ := own_append wy w3.heap.size v (k + 1) _ ho hb.size q (n - (k + 2)) (c2 - (k + 2)) ((ys).drop (k + 2)) (by rw [List.length_drop, HL.out]) (fun j hj => by
          rw [if_neg (by omega)] at hq
          obtain rfl := Option.some.inj hq
          rw [Addr.add_add, List.getD_eq_getElem?_getD, List.getElem?_drop, ← List.getD_eq_getElem?_getD]
          exact cell_later hb (HC.out (k + 2 + j) (by omega))) (by omega)
        refine ⟨v', w', r, ?_, g⟩
        rw [show k + 1 + (n - (k + 2)) = n - 1 by omega, ← hyA, ← hzA] at o
        exact o
      split
      · exact e _ (by rename_i c; rw [if_pos c])
      · exact e _ (by rename_i c; rw [if_neg c])
    have HYA := Lib.hid hyA
    have HZA := Lib.hid hzA
    clear hpaA hpbA hpdA hyA hzA
    have YZA : Hid (-9223372036854775808 ≤ yA + zA ∧ yA + zA ≤ 9223372036854775807) := Lib.hid (by
      have u := HY.out _ (getD_mem (show k < ys.length by rw [HL.out]; omega))
      have v := HY.out _ (getD_mem (show k + 1 < ys.length by rw [HL.out]; omega))
      rw [HYA.out] at u
      rw [HZA.out] at v
      omega)
    go_wp2_with (at_builtin; refine wpList_plain rfl (fun _ hK => wpo_val (run_append2 rfl rfl r4) (hK _ _ ?_)))
    clear r4
    go_wp2_with fail
    refine wp_region_vals [some v4, some (.slice (some p) n c2), some (.int .i64 k), some (.pointer (some paA)), some (.int .i64 yA), some (.slice (some p) n c2), some (.int .i64 k), some (.int .i64 (k + 1 : Nat)), some (.pointer (some pbA)), some (.int .i64 zA), some (.int .i64 (yA + zA)), none, none, some (.slice (some p) n c2), some (.int .i64 k), some (.int .i64 (k + 2 : Nat)), some (.slice pdA (n - (k + 2)) (c2 - (k + 2))), none, none]
        (MgB w3 v4 k n (ys) (yA + zA)) [some 57, some 58, some 59, some 60, some 61, some 62, some 63, some 64, some 65, some 66, some 67, some 68, some 69, some 70, some 71, some 72, some 73, some 74, some 12] (by kernel_rfl) (by kernel_rfl) (by kernel_rfl) (by kernel_rfl) (by kernel_rfl) (by kernel_rfl) (MgB.start KRA.out.drew (owns_drew OWA.out)) (fun i o ho => ?_) (fun Lz vz wz hL hB => ?_)
    · match i, ho with
      | 0, ho =>
        obtain rfl := Option.some.inj ho
        intro Az Lz vz wy Kz Ez hB kk
        have z18 : Lz 18 = false := Ez.late 18 _ rfl (by kernel_rfl)
        exact wpo_val (run_move ((Ez.keep1 12 18 z18 (by kernel_rfl)).trans rfl)) (kk _ _ rfl (hB.pure 0 (by decide) _))
      | 1, ho =>
        obtain rfl := Option.some.inj ho
        intro Az Lz vz wy Kz Ez hB kk
        exact wpo_val (run_move ((Ez.out 7 (by kernel_rfl)).trans rfl)) (kk _ _ rfl (hB.pure 1 (by decide) _))
      | 2, ho =>
        obtain rfl := Option.some.inj ho
        intro Az Lz vz wy Kz Ez hB kk
        exact wpo_val (run_move ((Ez.out 11 (by kernel_rfl)).trans rfl)) (kk _ _ rfl (hB.pure 2 (by decide) _))
      | 3, ho =>
        obtain rfl := Option.some.inj ho
        intro Az Lz vz wy Kz Ez hB kk
        exact wpo_val (run_index (Ez.dep 1 58 (by kernel_rfl) rfl) (Ez.dep 2 59 (by kernel_rfl) rfl) (PAA.out wy)) (kk _ _ rfl (hB.pure 3 (by decide) _))
      | 4, ho =>
        obtain rfl := Option.some.inj ho
        intro Az Lz vz wy Kz Ez hB kk
        exact wpo_val (run_load (Ez.dep 3 60 (by kernel_rfl) rfl) (load_i64 (cell_later hB.1 CAA.out))) (kk _ _ rfl (hB.pure 4 (by decide) _))
      | 5, ho =>
        obtain rfl := Option.some.inj ho
        intro Az Lz vz wy Kz Ez hB kk
        exact wpo_val (run_move ((Ez.out 7 (by kernel_rfl)).trans rfl)) (kk _ _ rfl (hB.pure 5 (by decide) _))
      | 6, ho =>
        obtain rfl := Option.some.inj ho
        intro Az Lz vz wy Kz Ez hB kk
        exact wpo_val (run_move ((Ez.out 11 (by kernel_rfl)).trans rfl)) (kk _ _ rfl (hB.pure 6 (by decide) _))
      | 7, ho =>
        obtain rfl := Option.some.inj ho
        intro Az Lz vz wy Kz Ez hB kk
        exact wpo_val (run_bin (Ez.dep 6 63 (by kernel_rfl) rfl) rfl (by simp [go_sem]) (add_int k 1 (by omega) wy)) (kk _ _ rfl (hB.pure 7 (by decide) _))
      | 8, ho =>
        obtain rfl := Option.some.inj ho
        intro Az Lz vz wy Kz Ez hB kk
        exact wpo_val (run_index (Ez.dep 5 62 (by kernel_rfl) rfl) (Ez.dep 7 64 (by kernel_rfl) rfl) (PBA.out wy)) (kk _ _ rfl (hB.pure 8 (by decide) _))
      | 9, ho =>
        obtain rfl := Option.some.inj ho
        intro Az Lz vz wy Kz Ez hB kk
        exact wpo_val (run_load (Ez.dep 8 65 (by kernel_rfl) rfl) (load_i64 (cell_later hB.1 CBA.out))) (kk _ _ rfl (hB.pure 9 (by decide) _))
      | 10, ho =>
        obtain rfl := Option.some.inj ho
        intro Az Lz vz wy Kz Ez hB kk
        exact wpo_val (run_bin (Ez.dep 4 61 (by kernel_rfl) rfl) (Ez.dep 9 66 (by kernel_rfl) rfl) (by simp [go_sem]) (add_i64 yA zA YZA.out wy)) (kk _ _ rfl (hB.pure 10 (by decide) _))
      | 11, ho =>
        obtain rfl := Option.some.inj ho
        intro Az Lz vz wy Kz Ez hB kk
        have z12 : Lz 12 = false := Ez.late 12 _ rfl (by kernel_rfl)
        have z18 : Lz 18 = false := Ez.late 18 _ rfl (by kernel_rfl)
        exact wpo_val (run_bslice1 (Ez.dep 10 67 (by kernel_rfl) rfl) (bslice1_i64 _ wy)) (kk _ _ trivial (hB.build z12 z18))
      | 12, ho =>
        obtain rfl := Option.some.inj ho
        intro Az Lz vz wy Kz Ez hB kk
        have z12 : Lz 12 = false := Ez.not
        have z18 : Lz 18 = false := Ez.late 18 _ rfl (by kernel_rfl)
        have h11 := Ez.had 11 (by kernel_rfl)
        obtain ⟨g, hg, hc⟩ := hB.2.2.1 h11
        have e11 := (Ez.dep 11 68 (by kernel_rfl) rfl : Az.eval (.tmp 68) = vz 11).trans hg
        obtain ⟨v', w', r, o, gr⟩ := own_append wy w3.heap.size v4 k ((ys).take k) (hB.2.1 z12) hB.1.size ⟨g, 0, none⟩ 1 1 [yA + zA] rfl (fun j hj => by obtain rfl : j = 0 := (by omega); simpa [Addr.add] using hc z12) (by omega)
        exact wpo_val (run_append2 (Ez.dep 0 57 (by kernel_rfl) rfl) e11 r) (kk _ _ trivial (hB.app1 z12 z18 o gr h11))
      | 13, ho =>
        obtain rfl := Option.some.inj ho
        intro Az Lz vz wy Kz Ez hB kk
        exact wpo_val (run_move ((Ez.out 7 (by kernel_rfl)).trans rfl)) (kk _ _ rfl (hB.pure 13 (by decide) _))
      | 14, ho =>
        obtain rfl := Option.some.inj ho
        intro Az Lz vz wy Kz Ez hB kk
        exact wpo_val (run_move ((Ez.out 11 (by kernel_rfl)).trans rfl)) (kk _ _ rfl (hB.pure 14 (by decide) _))
      | 15, ho =>
        obtain rfl := Option.some.inj ho
        intro Az Lz vz wy Kz Ez hB kk
        exact wpo_val (run_bin (Ez.dep 14 71 (by kernel_rfl) rfl) rfl (by simp [go_sem]) (add_int k 2 (by omega) wy)) (kk _ _ rfl (hB.pure 15 (by decide) _))
      | 16, ho =>
        obtain rfl := Option.some.inj ho
        intro Az Lz vz wy Kz Ez hB kk
        exact wpo_val (run_slice1 (Ez.dep 13 70 (by kernel_rfl) rfl) (Ez.dep 15 72 (by kernel_rfl) rfl) (PDA.out wy)) (kk _ _ rfl (hB.pure 16 (by decide) _))
      | 17, ho =>
        obtain rfl := Option.some.inj ho
        intro Az Lz vz wy Kz Ez hB kk
        have z17 : Lz 17 = false := Ez.not
        have z18 : Lz 18 = false := Ez.late 18 _ rfl (by kernel_rfl)
        have h12 := Ez.had 12 (by kernel_rfl)
        obtain ⟨v', w', r, o, gr⟩ := CDA.out wy (vz 12) hB.1 (hB.2.2.2.1 h12 z17)
        exact wpo_val (run_append2 (Ez.dep 12 69 (by kernel_rfl) rfl) (Ez.dep 16 73 (by kernel_rfl) rfl) r) (kk _ _ trivial (hB.app2 h12 z17 z18 o gr))
      | 18, ho =>
        obtain rfl := Option.some.inj ho
        intro Az Lz vz wy Kz Ez hB kk
        have h17 := Ez.had 17 (by kernel_rfl)
        exact wpo_val (run_assign (Ez.dep 17 74 (by kernel_rfl) rfl)) (kk _ _ trivial (hB.last h17))
      | m + 19, ho => simp at ho
    obtain ⟨kb, _, _, _, h5, h6, _⟩ := hB
    obtain ⟨a5, c5, e5, R5⟩ := ri_of_owns (h5 (hL 17 (by decide))) (by omega)
    have e6 := (h6 (hL 18 (by decide))).trans e5
    have KM : Hid (Below w3.heap.size w3 wz) := Lib.hid kb
    have KB := Lib.hid (bel_tr0 KB.out kb)
    have SP2 := Lib.hid (split_small R5 (by omega) (fun x m => by have := mrg_mem (show k + 1 < ys.length by rw [HL.out]; exact kn) HY.out x m; omega) (T := T) (by rw [mrg_sum (show k + 1 < ys.length by rw [HL.out]; exact kn), HS.out]; omega) (by omega) (by omega))
    clear kb h5 h6 hL R5 e5
    simp only [puts2, mix, Act.put, List.setIfInBounds_toArray, List.set_cons_zero, List.set_cons_succ, Nat.zero_add, Nat.reduceAdd, List.getElem?_cons_zero, List.getElem?_cons_succ, e6]
    clear e6
    go_wp2_with fail
    refine SP2.out.mono ?_
    rintro e w7 ⟨⟨b6, rfl, hb1, o6⟩, hb⟩
    have KB := Lib.hid (bel_tr0 KB.out hb)
    have KM := Lib.hid (bel_tr0 KM.out hb)
    have O6 := Lib.hid o6
    have O7 := Lib.hid (O.out.later KM.out)
    have RW7 := Lib.hid (ri_later RW.out KM.out)
    have HLB : Hid ((parts5 T ys).length = n) := Lib.hid (by rw [parts_len]; exact HL.out)
    have HCB : Hid (∀ j, j < n → w7.cell? ((⟨b, 0, none⟩ : Addr).add j) = some (.int .i64 ((parts5 T ys).getD j 0))) := Lib.hid fun j hj => by
      rw [Addr.add_lit, Nat.zero_add]
      exact O7.out.cell j (by rw [HLB.out]; exact hj)
    have B8 := Lib.hid (bel_new w7 (.cells #[] 2))
    obtain ⟨v8, w8, r8, o8, g8⟩ := own_append (w7.alloc (.cells #[] 2)) w7.heap.size _ 0 [] (row_new w7 _ (Nat.le_refl _)) (by simp) ⟨b, 0, none⟩ k n ((parts5 T ys).take k) (by rw [List.length_take, HLB.out]; omega) (fun j hj => by
      rw [List.getD_eq_getElem?_getD, List.getElem?_take_of_lt hj, ← List.getD_eq_getElem?_getD]
      exact cell_later B8.out (HCB.out j (by omega))) (by omega)
    have OWB : Hid (w8.ownsRow w7.heap.size 2 1 v8 k (((parts5 T ys).take k).map (Value.int .i64))) := Lib.hid (by simpa using o8)
    have KRB := Lib.hid (below_grown B8.out (row_new w7 _ (Nat.le_refl _)) g8)
    clear hb1 o6 hb o8 g8 SP2 O
    obtain ⟨paB, hpaB⟩ : ∃ q, ((⟨b, 0, none⟩ : Addr)).add k = q := ⟨_, rfl⟩
    obtain ⟨pbB, hpbB⟩ : ∃ q, ((⟨b, 0, none⟩ : Addr)).add (k + 1) = q := ⟨_, rfl⟩
    obtain ⟨pdB, hpdB⟩ : ∃ q, (if n = k + 2 then some ((⟨b, 0, none⟩ : Addr)) else some (((⟨b, 0, none⟩ : Addr)).add (k + 2))) = q := ⟨_, rfl⟩
    obtain ⟨yB, hyB⟩ : ∃ y, (parts5 T ys).getD k 0 = y := ⟨_, rfl⟩
    obtain ⟨zB, hzB⟩ : ∃ y, (parts5 T ys).getD (k + 1) 0 = y := ⟨_, rfl⟩
    have PAB : Hid (∀ w : World, (Instr.indexAt 22 (.slice (some ((⟨b, 0, none⟩ : Addr))) n n) (.int .i64 k)).run Try.prog w = .ok (.pointer (some paB)) w) := Lib.hid fun w => by rw [← hpaB]; exact index_i64 _ n n k (by omega) w
    have PBB : Hid (∀ w : World, (Instr.indexAt 22 (.slice (some ((⟨b, 0, none⟩ : Addr))) n n) (.int .i64 (k + 1 : Nat))).run Try.prog w = .ok (.pointer (some pbB)) w) := Lib.hid fun w => by rw [← hpbB]; exact index_i64 _ n n (k + 1) (by omega) w
    have PDB : Hid (∀ w : World, (Instr.sliceAt 22 (.slice (some ((⟨b, 0, none⟩ : Addr))) n n) (some (.int .i64 (k + 2 : Nat))) none none).run Try.prog w = .ok (.slice pdB (n - (k + 2)) (n - (k + 2))) w) := Lib.hid fun w => by rw [← hpdB]; exact slice_from _ n n (k + 2) (by omega) w
    have CAB : Hid (w7.cell? paB = some (.int .i64 yB)) := Lib.hid (by rw [← hpaB, ← hyB]; exact HCB.out k (by omega))
    have CBB : Hid (w7.cell? pbB = some (.int .i64 zB)) := Lib.hid (by rw [← hpbB, ← hzB]; exact HCB.out (k + 1) (by omega))
    have CDB : Hid (∀ (wy : World) (v : Value), Below w7.heap.size w7 wy → wy.ownsRow w7.heap.size 2 1 v (k + 1) (((parts5 T ys).take k ++ [yB + zB]).map (Value.int .i64)) → ∃ v' w', (Builtin.append_ #[22, 22] 22 #[v, .slice pdB (n - (k + 2)) (n - (k + 2))]).run Try.prog wy = .ok v' w' ∧ w'.ownsRow w7.heap.size 2 1 v' (n - 1) ((mrg (parts5 T ys) k).map (Value.int .i64)) ∧ wy.grownBy w' v.ownBlock) := Lib.hid fun wy v hb ho => by
      rw [← hpdB]
      have e : ∀ q : Addr, (if n = k + 2 then some ((⟨b, 0, none⟩ : Addr)) else some (((⟨b, 0, none⟩ : Addr)).add (k + 2))) = some q → ∃ v' w', (Builtin.append_ #[22, 22] 22 #[v, .slice (some q) (n - (k + 2)) (n - (k + 2))]).run Try.prog wy = .ok v' w' ∧ w'.ownsRow w7.heap.size 2 1 v' (n - 1) ((mrg (parts5 T ys) k).map (Value.int .i64)) ∧ wy.grownBy w' v.ownBlock := fun q hq => by
        obtain ⟨v', w', r, o, g⟩ := own_append wy w7.heap.size v (k + 1) _ ho hb.size q (n - (k + 2)) (n - (k + 2)) ((parts5 T ys).drop (k + 2)) (by rw [List.length_drop, HLB.out]) (fun j hj => by
          rw [if_neg (by omega)] at hq
          obtain rfl := Option.some.inj hq
          rw [Addr.add_add, List.getD_eq_getElem?_getD, List.getElem?_drop, ← List.getD_eq_getElem?_getD]
          exact cell_later hb (HCB.out (k + 2 + j) (by omega))) (by omega)
        refine ⟨v', w', r, ?_, g⟩
        rw [show k + 1 + (n - (k + 2)) = n - 1 by omega, ← hyB, ← hzB] at o
        exact o
      split
      · exact e _ (by rename_i c; rw [if_pos c])
      · exact e _ (by rename_i c; rw [if_neg c])
    have HYB := Lib.hid hyB
    have HZB := Lib.hid hzB
    clear hpaB hpbB hpdB hyB hzB
    have YZB : Hid (-9223372036854775808 ≤ yB + zB ∧ yB + zB ≤ 9223372036854775807) := Lib.hid (by
      have u := part_range HN.out (T := T) (by omega) (by omega) k
      have v := part_range HN.out (T := T) (by omega) (by omega) (k + 1)
      rw [← parts_get T ys k (by rw [HL.out]; omega), HYB.out] at u
      rw [← parts_get T ys (k + 1) (by rw [HL.out]; omega), HZB.out] at v
      omega)
    go_wp2_with (at_builtin; refine wpList_plain rfl (fun _ hK => wpo_val (run_append2 rfl rfl r8) (hK _ _ ?_)))
    clear r8
    go_wp2_with fail
    refine wp_region_vals [some v8, some (.slice (some ⟨b, 0, none⟩) n n), some (.int .i64 k), some (.pointer (some paB)), some (.int .i64 yB), some (.slice (some ⟨b, 0, none⟩) n n), some (.int .i64 k), some (.int .i64 (k + 1 : Nat)), some (.pointer (some pbB)), some (.int .i64 zB), some (.int .i64 (yB + zB)), none, none, some (.slice (some ⟨b, 0, none⟩) n n), some (.int .i64 k), some (.int .i64 (k + 2 : Nat)), some (.slice pdB (n - (k + 2)) (n - (k + 2))), none, none]
        (MgB w7 v8 k n (parts5 T ys) (yB + zB)) [some 87, some 88, some 89, some 90, some 91, some 92, some 93, some 94, some 95, some 96, some 97, some 98, some 99, some 100, some 101, some 102, some 103, some 104, some 15] (by kernel_rfl) (by kernel_rfl) (by kernel_rfl) (by kernel_rfl) (by kernel_rfl) (by kernel_rfl) (MgB.start KRB.out.drew (owns_drew OWB.out)) (fun i o ho => ?_) (fun Lz vz wz hL hB => ?_)
    · match i, ho with
      | 0, ho =>
        obtain rfl := Option.some.inj ho
        intro Az Lz vz wy Kz Ez hB kk
        have z18 : Lz 18 = false := Ez.late 18 _ rfl (by kernel_rfl)
        exact wpo_val (run_move ((Ez.keep1 15 18 z18 (by kernel_rfl)).trans rfl)) (kk _ _ rfl (hB.pure 0 (by decide) _))
      | 1, ho =>
        obtain rfl := Option.some.inj ho
        intro Az Lz vz wy Kz Ez hB kk
        exact wpo_val (run_move ((Ez.out 9 (by kernel_rfl)).trans rfl)) (kk _ _ rfl (hB.pure 1 (by decide) _))
      | 2, ho =>
        obtain rfl := Option.some.inj ho
        intro Az Lz vz wy Kz Ez hB kk
        exact wpo_val (run_move ((Ez.out 11 (by kernel_rfl)).trans rfl)) (kk _ _ rfl (hB.pure 2 (by decide) _))
      | 3, ho =>
        obtain rfl := Option.some.inj ho
        intro Az Lz vz wy Kz Ez hB kk
        exact wpo_val (run_index (Ez.dep 1 88 (by kernel_rfl) rfl) (Ez.dep 2 89 (by kernel_rfl) rfl) (PAB.out wy)) (kk _ _ rfl (hB.pure 3 (by decide) _))
      | 4, ho =>
        obtain rfl := Option.some.inj ho
        intro Az Lz vz wy Kz Ez hB kk
        exact wpo_val (run_load (Ez.dep 3 90 (by kernel_rfl) rfl) (load_i64 (cell_later hB.1 CAB.out))) (kk _ _ rfl (hB.pure 4 (by decide) _))
      | 5, ho =>
        obtain rfl := Option.some.inj ho
        intro Az Lz vz wy Kz Ez hB kk
        exact wpo_val (run_move ((Ez.out 9 (by kernel_rfl)).trans rfl)) (kk _ _ rfl (hB.pure 5 (by decide) _))
      | 6, ho =>
        obtain rfl := Option.some.inj ho
        intro Az Lz vz wy Kz Ez hB kk
        exact wpo_val (run_move ((Ez.out 11 (by kernel_rfl)).trans rfl)) (kk _ _ rfl (hB.pure 6 (by decide) _))
      | 7, ho =>
        obtain rfl := Option.some.inj ho
        intro Az Lz vz wy Kz Ez hB kk
        exact wpo_val (run_bin (Ez.dep 6 93 (by kernel_rfl) rfl) rfl (by simp [go_sem]) (add_int k 1 (by omega) wy)) (kk _ _ rfl (hB.pure 7 (by decide) _))
      | 8, ho =>
        obtain rfl := Option.some.inj ho
        intro Az Lz vz wy Kz Ez hB kk
        exact wpo_val (run_index (Ez.dep 5 92 (by kernel_rfl) rfl) (Ez.dep 7 94 (by kernel_rfl) rfl) (PBB.out wy)) (kk _ _ rfl (hB.pure 8 (by decide) _))
      | 9, ho =>
        obtain rfl := Option.some.inj ho
        intro Az Lz vz wy Kz Ez hB kk
        exact wpo_val (run_load (Ez.dep 8 95 (by kernel_rfl) rfl) (load_i64 (cell_later hB.1 CBB.out))) (kk _ _ rfl (hB.pure 9 (by decide) _))
      | 10, ho =>
        obtain rfl := Option.some.inj ho
        intro Az Lz vz wy Kz Ez hB kk
        exact wpo_val (run_bin (Ez.dep 4 91 (by kernel_rfl) rfl) (Ez.dep 9 96 (by kernel_rfl) rfl) (by simp [go_sem]) (add_i64 yB zB YZB.out wy)) (kk _ _ rfl (hB.pure 10 (by decide) _))
      | 11, ho =>
        obtain rfl := Option.some.inj ho
        intro Az Lz vz wy Kz Ez hB kk
        have z12 : Lz 12 = false := Ez.late 12 _ rfl (by kernel_rfl)
        have z18 : Lz 18 = false := Ez.late 18 _ rfl (by kernel_rfl)
        exact wpo_val (run_bslice1 (Ez.dep 10 97 (by kernel_rfl) rfl) (bslice1_i64 _ wy)) (kk _ _ trivial (hB.build z12 z18))
      | 12, ho =>
        obtain rfl := Option.some.inj ho
        intro Az Lz vz wy Kz Ez hB kk
        have z12 : Lz 12 = false := Ez.not
        have z18 : Lz 18 = false := Ez.late 18 _ rfl (by kernel_rfl)
        have h11 := Ez.had 11 (by kernel_rfl)
        obtain ⟨g, hg, hc⟩ := hB.2.2.1 h11
        have e11 := (Ez.dep 11 98 (by kernel_rfl) rfl : Az.eval (.tmp 98) = vz 11).trans hg
        obtain ⟨v', w', r, o, gr⟩ := own_append wy w7.heap.size v8 k ((parts5 T ys).take k) (hB.2.1 z12) hB.1.size ⟨g, 0, none⟩ 1 1 [yB + zB] rfl (fun j hj => by obtain rfl : j = 0 := (by omega); simpa [Addr.add] using hc z12) (by omega)
        exact wpo_val (run_append2 (Ez.dep 0 87 (by kernel_rfl) rfl) e11 r) (kk _ _ trivial (hB.app1 z12 z18 o gr h11))
      | 13, ho =>
        obtain rfl := Option.some.inj ho
        intro Az Lz vz wy Kz Ez hB kk
        exact wpo_val (run_move ((Ez.out 9 (by kernel_rfl)).trans rfl)) (kk _ _ rfl (hB.pure 13 (by decide) _))
      | 14, ho =>
        obtain rfl := Option.some.inj ho
        intro Az Lz vz wy Kz Ez hB kk
        exact wpo_val (run_move ((Ez.out 11 (by kernel_rfl)).trans rfl)) (kk _ _ rfl (hB.pure 14 (by decide) _))
      | 15, ho =>
        obtain rfl := Option.some.inj ho
        intro Az Lz vz wy Kz Ez hB kk
        exact wpo_val (run_bin (Ez.dep 14 101 (by kernel_rfl) rfl) rfl (by simp [go_sem]) (add_int k 2 (by omega) wy)) (kk _ _ rfl (hB.pure 15 (by decide) _))
      | 16, ho =>
        obtain rfl := Option.some.inj ho
        intro Az Lz vz wy Kz Ez hB kk
        exact wpo_val (run_slice1 (Ez.dep 13 100 (by kernel_rfl) rfl) (Ez.dep 15 102 (by kernel_rfl) rfl) (PDB.out wy)) (kk _ _ rfl (hB.pure 16 (by decide) _))
      | 17, ho =>
        obtain rfl := Option.some.inj ho
        intro Az Lz vz wy Kz Ez hB kk
        have z17 : Lz 17 = false := Ez.not
        have z18 : Lz 18 = false := Ez.late 18 _ rfl (by kernel_rfl)
        have h12 := Ez.had 12 (by kernel_rfl)
        obtain ⟨v', w', r, o, gr⟩ := CDB.out wy (vz 12) hB.1 (hB.2.2.2.1 h12 z17)
        exact wpo_val (run_append2 (Ez.dep 12 99 (by kernel_rfl) rfl) (Ez.dep 16 103 (by kernel_rfl) rfl) r) (kk _ _ trivial (hB.app2 h12 z17 z18 o gr))
      | 18, ho =>
        obtain rfl := Option.some.inj ho
        intro Az Lz vz wy Kz Ez hB kk
        have h17 := Ez.had 17 (by kernel_rfl)
        exact wpo_val (run_assign (Ez.dep 17 104 (by kernel_rfl) rfl)) (kk _ _ trivial (hB.last h17))
      | m + 19, ho => simp at ho
    obtain ⟨kb, _, _, _, h5, h6, _⟩ := hB
    obtain ⟨a9, c9, e9, R9⟩ := ri_of_owns (h5 (hL 17 (by decide))) (by omega)
    have e10 := (h6 (hL 18 (by decide))).trans e9
    have KB := Lib.hid (bel_tr0 KB.out kb)
    have RW := Lib.hid (ri_later RW7.out kb)
    have S6 := Lib.hid (same5_any _ _ (n - 1) (n - 1) (n - 1) c9 _ _ _ (ri_later (O6.out.ri (by rw [parts_len, mrg_len (by rw [HL.out]; exact kn), HL.out]) (by omega)) kb) R9)
    rw [mrg_parts (show k + 1 < ys.length by rw [HL.out]; exact kn), decide_eq_true rfl] at S6
    clear kb h5 h6 hL e9 R9
    simp only [puts2, mix, Act.put, List.setIfInBounds_toArray, List.set_cons_zero, List.set_cons_succ, Nat.zero_add, Nat.reduceAdd, List.getElem?_cons_zero, List.getElem?_cons_succ, e10]
    clear e10
    go_wp2_with fail
    refine S6.out.mono ?_
    rintro e w3 ⟨rfl, hb⟩
    have KB := Lib.hid (bel_tr0 KB.out hb)
    have RW := Lib.hid (ri_later RW.out hb)
    clear hb S6
    have SP := Lib.hid (split_small RW.out n40 (fun x m => by have := HY.out x m; omega) (T := q * S) (by rw [HS.out]; omega) (by omega) (by omega))
    go_wp2_with fail
    refine SP.out.mono ?_
    rintro e w4 ⟨⟨b4, rfl, hb1, o⟩, hb⟩
    have KB := Lib.hid (bel_tr0 KB.out hb)
    have RW := Lib.hid (ri_later RW.out hb)
    have O := Lib.hid o
    clear o hb1 hb SP
    go_wp2_with fail
    go_loopw [19] (fun s19 wr => ∃ k : Nat, s19 = .int .i64 k ∧ k ≤ n ∧ Hid (OwnI wr b4 (parts5 (q * S) ys)) ∧ Hid (Ri wr (some p) n c2 ys) ∧ Hid (Below w.heap.size w wr)) (fun s19 _ => n - (intOf s19).toNat)
    case atStart => exact ⟨0, rfl, by omega, O, RW, KB⟩
    case round =>
      obtain ⟨k, rfl, hk, HO, HR, KB⟩ := hrel
      have nm := HR.out.hmax
      by_cases hlt : k < n
      · have kl : (k : Int) < (n : Int) := by omega
        have k0 : (0 : Int) ≤ (k : Int) := by omega
        have kx : k < ys.length := by rw [HL.out]; exact hlt
        obtain ⟨p2, hp2, hc⟩ := HR.out.addr (by omega)
        obtain rfl := Option.some.inj hp2
        have d2 := hc k hlt
        have d1 := HO.out.cell k (by rw [parts_len]; exact kx)
        rw [parts_get _ _ _ kx, ← HS.out, part_round HN.out kx] at d1
        have wb := HY.out _ (getD_mem kx)
        obtain ⟨y, hy⟩ : ∃ y, ys.getD k 0 = y := ⟨_, rfl⟩
        rw [hy] at d1 d2 wb
        obtain ⟨y0, y1⟩ := wb
        have m1 : q * y ≤ 999 * y := Int.mul_le_mul_of_nonneg_right (by omega) y0
        have m2 : -999 * y ≤ q * y := Int.mul_le_mul_of_nonneg_right (by omega) y0
        have m3 : q * y ≤ 65469465 := by omega
        have m4 : -65469465 ≤ q * y := by omega
        have nb : (q * y != q * y) = false := by simp
        clear hc hy m1 m2
        go_wp2_with fail
        go_quiet (fail)
        go_wp2_with fail
        go_roundw
        case rel => exact ⟨k + 1, by go_num, by omega, Lib.hid (HO.out.later (below_drewN (Below.refl _ _) _)), Lib.hid (ri_later HR.out (below_drewN (Below.refl _ _) _)), Lib.hid (below_drewN KB.out _)⟩
        case measure => simp [intOf]; omega
      · have kl : ¬ (k : Int) < (n : Int) := by omega
        go_wp2_with fail
        go_ret
        exact ⟨rfl, KB.out⟩
end Go.Proofs.Ytlkpegfbnmecpaa
