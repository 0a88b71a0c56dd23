/- The reference's big numbers: Plus, of two signs. -/
import Derived.Test.YtkohefgendcofaaBigC
import Derived.WalkKit
import Derived.WalkSpells
import Derived.WalkLawsBesides
import Derived.Handy
import Derived.Lib.Hide
import Derived.Deep.QuietTactic
import Derived.BigQuiet
import Derived.LoopTactic
import Derived.Deep.LoopGhost
import Derived.Deep.RegionHeld3
import Derived.Deep.RegionWith
import Derived.Outline
import Derived.Deep.DeepCutAuto
namespace Go.Proofs.Ytkohefgendcofaa
open Go.RowKit Go.Proofs.Big
set_option linter.unusedVariables false
set_option maxRecDepth 100000
set_option linter.unusedSimpArgs false


/-- the difference so far -/
structure DifTo (xs ys os : List Int) (i : Nat) (bw : Int) : Prop where
  len : os.length = i
  ok : Ok os
  dif : val os - P i * bw = val (xs.take i) - val (ys.take i)
theorem DifTo.step {xs ys os : List Int} {i : Nat} {bw t d bw' : Int} (h : DifTo xs ys os i bw) (hx : Ok xs) (hy : Ok ys) (c0 : 0 ≤ bw) (c1 : bw ≤ 1) (ht : t = bw + ys.getD i 0) (hd : d = xs.getD i 0 + 65536 * bw' - t) (h0 : 0 ≤ d) (h1 : d < 65536) :
    DifTo xs ys (os ++ [d]) (i + 1) bw' := by
  refine ⟨by simp [h.len], ok_snoc h.ok h0 h1, ?_⟩
  rw [val_snoc, h.len, val_take_all, val_take_all, P_succ, Int.mul_comm 65536, Int.mul_assoc]
  have k := h.dif
  have e : P i * d = P i * xs.getD i 0 + P i * (65536 * bw') - P i * bw - P i * ys.getD i 0 := by rw [hd, ht, Int.mul_sub, Int.mul_add, Int.mul_add]; omega
  omega
theorem DifTo.fin {xs ys os : List Int} {bw : Int} (h : DifTo xs ys os xs.length bw) (hl : ys.length ≤ xs.length) (c0 : 0 ≤ bw) (hv : val ys ≤ val xs) : val os = val xs - val ys := by
  have k := h.dif
  rw [List.take_of_length_le (Nat.le_refl _), List.take_of_length_le hl] at k
  have b := val_bd h.ok
  rw [h.len] at b
  by_cases z : bw = 0
  · subst z; rw [Int.mul_zero] at k; omega
  · have : P xs.length * 1 ≤ P xs.length * bw := Int.mul_le_mul_of_nonneg_left (by omega) (by have := P_pos xs.length; omega)
    omega
set_option maxHeartbeats 4000000 in
theorem plus_dif (ng mg : Bool) (a b : Option Addr) (la ca lb cb : Nat) (xs ys : List Int) (n : Int) (w : World) (ha : Rd w a la ca xs) (hb : Rd w b lb cb ys) (hx : Ok xs) (hy : Ok ys) (cx : Canon xs) (cy : Canon ys) (sa : la ≤ 900000) (sb : lb ≤ la)
    (hs : (ng == mg) = false) (hv : val ys ≤ val xs) (hn : Hid (n = if ng then -(val xs - val ys) else val xs - val ys)) :
    Calls Try.prog 15 #[.agg #[.bool ng, .slice a la ca], .agg #[.bool mg, .slice b lb cb]] w (RetBig w n) := by
  obtain ⟨i0, hi, hz0, hz1, hz2⟩ := info_parts Try.info23
  have lx := ha.hlen
  have ly := hb.hlen
  have HA := Lib.hid ha
  have HBB := Lib.hid hb
  obtain ⟨r, hr⟩ : ∃ r, r = cmpI (val xs) (val ys) := ⟨_, rfl⟩
  have hr0 : 0 ≤ r := by rw [hr]; unfold cmpI; repeat' split
                         all_goals omega
  have HT := Lib.hid (fun (w1 : World) (h : Below w.heap.size w w1) => sizes_any a b la ca lb cb xs ys w1 (ha.later h) (hb.later h) hx hy cx cy (by omega) (by omega) r (Lib.hid hr))
  have HV := Lib.hid hv
  clear ha hb hr hv
  go_enter Try.func15, Try.ntmps15
  go_wp2_with fail
  refine (HT.out _ (by go_grown)).mono ?_
  rintro e w1 ⟨rfl, nd, rfl⟩
  go_wp2_with fail
  go_loopw [9, 10, 11] (fun s5 s6 s7 wr => ∃ (i : Nat) (bw : Int) (os : List Int) (ao : Option Addr) (co : Nat), s5 = .slice ao i co ∧ s6 = .int .u64 bw ∧ s7 = .int .i64 i ∧ 0 ≤ bw ∧ bw ≤ 1 ∧ i ≤ la ∧ Hid (DifTo xs ys os i bw) ∧
      wr.ownsRow (w.heap.size + 3) 22 1 (.slice ao i co) i (os.map (Value.int .u64)) ∧ w.heap.size + 3 ≤ wr.heap.size ∧ Hid (BV wr w.heap.size ng a la ca) ∧ Hid (BV wr (w.heap.size + 1) mg b lb cb) ∧ Hid (BV wr (w.heap.size + 1 + 1) false none 0 0) ∧ Hid (Below w.heap.size w wr)) (fun _ _ s7 _ => la - (intOf s7).toNat)
  case atStart =>
    refine ⟨0, 0, [], none, 0, rfl, rfl, rfl, by decide, by decide, by omega, Lib.hid ⟨rfl, ok_nil, by simp [val]⟩, World.ownsRow_nil _ _ _ _, by simp, Lib.hid ?_, Lib.hid ?_, Lib.hid ?_, Lib.hid (below_drewN (by go_grown) _)⟩
    · exact (((BV.new _ _ _ _ _ _).alloc _).alloc _).later (below_drewN (Below.refl _ _) _)
    · have := ((BV.new (w.alloc (.cells #[.bool ng, .slice a la ca] 29)) mg b lb cb 29).alloc (.cells #[.bool false, .slice none 0 0] 29)).later (below_drewN (Below.refl _ _) nd)
      simpa only [World.size_alloc] using this
    · have := (BV.new ((w.alloc (.cells #[.bool ng, .slice a la ca] 29)).alloc (.cells #[.bool mg, .slice b lb cb] 29)) false none 0 0 29).later (below_drewN (Below.refl _ _) nd)
      simpa only [World.size_alloc] using this
  case round =>
    obtain ⟨i, bw, os, ao, co, rfl, rfl, rfl, bw0, bw1, iM, hS, hown, hsz, BA, BB, BR, hB⟩ := hrel
    obtain ⟨p0, p1, _, _⟩ := BA.out
    obtain ⟨p2, p3, _, _⟩ := BB.out
    obtain ⟨p4, p5, p6, p7⟩ := BR.out
    have hlen := hS.out.len
    have ap0 : w.heap.size < wr.heap.size := by omega
    have ap1 : w.heap.size + 1 < wr.heap.size := by omega
    have ap2 : w.heap.size + 1 + 1 < wr.heap.size := by omega
    by_cases hil : i < la
    · by_cases hjl : i < lb
      · obtain ⟨b1, o1, rfl, c1⟩ := HA.out.addr (by omega)
        have d1 := cell_later hB.out (c1 i (by omega))
        have x0 := getD_ok hx i
        obtain ⟨x, hxk⟩ : ∃ x, xs.getD i 0 = x := ⟨_, rfl⟩
        rw [hxk] at d1 x0
        obtain ⟨x0, x1⟩ := x0
        have z1 := World.block_lt_of_cell? wr _ d1
        simp only at z1
        have HX := Lib.hid hxk
        obtain ⟨b2, o2, rfl, c2⟩ := HBB.out.addr (by omega)
        have d2 := cell_later hB.out (c2 i (by omega))
        have y0 := getD_ok hy i
        obtain ⟨y, hyk⟩ : ∃ y, ys.getD i 0 = y := ⟨_, rfl⟩
        rw [hyk] at d2 y0
        obtain ⟨y0, y1⟩ := y0
        have z2 := World.block_lt_of_cell? wr _ d2
        simp only at z2
        have HY := Lib.hid hyk
        clear hxk hyk c1 c2
        by_cases lt : x < bw + y
        · have ST1 := Lib.hid (hS.out.step (t := bw + y) (d := x + 65536 - (bw + y)) (bw' := 1) hx hy bw0 bw1 (by have := HY.out; omega) (by have := HX.out; omega) (by omega) (by omega))
          go_wp2_with (at_builtin; refine wpList_append_own _ rfl _ _ 27 rfl (w.heap.size + 3) 22 i0 (.int .u64 0) 1 8 Try.underlying27 hi hz0 hz1 hz2 rfl (by decide) _ _ _ rfl (hown.alloc _) ⟨wr.heap.size, 0, none⟩ 1 1 [.int .u64 (x + 65536 - (bw + y))] rfl rfl ?_ ?_ ?_ ?_ ?_ ?_)
          any_goals (first | exact cell_one_new _ _ _ | (simp [Value.oneCell']; done) | (unfold maxLen; omega) | omega | (simp; omega))
          intro v1 w1 hown1 hgrow _
          have hown2 : w1.ownsRow (w.heap.size + 3) 22 1 v1 (i + 1) ((os ++ [x + 65536 - (bw + y)]).map (Value.int .u64)) := by
            simpa using hown1
          obtain ⟨a1, cap1, rfl, rd1⟩ := rd_of_owns hown2
          have X1 := Lib.hid (bv_grown hown hgrow (by omega) (show w.heap.size < w.heap.size + 3 by omega) BA.out)
          have X2 := Lib.hid (bv_grown hown hgrow (by omega) (show w.heap.size + 1 < w.heap.size + 3 by omega) BB.out)
          have X3 := Lib.hid (bv_grown hown hgrow (by omega) (show w.heap.size + 1 + 1 < w.heap.size + 3 by omega) BR.out)
          have B1 := Lib.hid (grown_below (B := w.heap.size) hown hgrow (by omega) (by omega) hB.out)
          have HS : w.heap.size + 3 ≤ w1.heap.size := by have := hgrow.size; simp at this; omega
          have OW := Lib.hid hown2
          clear hown hown1 hown2 hgrow rd1 BA BB BR hB
          go_wp2
          go_roundw
          case rel =>
            exact ⟨i + 1, 1, os ++ [x + 65536 - (bw + y)], a1, cap1, rfl, rfl, by go_num, by decide, by decide, by omega, ST1, OW.out, HS, X1, X2, X3, B1⟩
          case measure => simp [intOf]; omega
        · have ST1 := Lib.hid (hS.out.step (t := bw + y) (d := x - (bw + y)) (bw' := 0) hx hy bw0 bw1 (by have := HY.out; omega) (by have := HX.out; omega) (by omega) (by omega))
          go_wp2_with (at_builtin; refine wpList_append_own _ rfl _ _ 27 rfl (w.heap.size + 3) 22 i0 (.int .u64 0) 1 8 Try.underlying27 hi hz0 hz1 hz2 rfl (by decide) _ _ _ rfl (hown.alloc _) ⟨wr.heap.size, 0, none⟩ 1 1 [.int .u64 (x - (bw + y))] rfl rfl ?_ ?_ ?_ ?_ ?_ ?_)
          any_goals (first | exact cell_one_new _ _ _ | (simp [Value.oneCell']; done) | (unfold maxLen; omega) | omega | (simp; omega))
          intro v1 w1 hown1 hgrow _
          have hown2 : w1.ownsRow (w.heap.size + 3) 22 1 v1 (i + 1) ((os ++ [x - (bw + y)]).map (Value.int .u64)) := by
            simpa using hown1
          obtain ⟨a1, cap1, rfl, rd1⟩ := rd_of_owns hown2
          have X1 := Lib.hid (bv_grown hown hgrow (by omega) (show w.heap.size < w.heap.size + 3 by omega) BA.out)
          have X2 := Lib.hid (bv_grown hown hgrow (by omega) (show w.heap.size + 1 < w.heap.size + 3 by omega) BB.out)
          have X3 := Lib.hid (bv_grown hown hgrow (by omega) (show w.heap.size + 1 + 1 < w.heap.size + 3 by omega) BR.out)
          have B1 := Lib.hid (grown_below (B := w.heap.size) hown hgrow (by omega) (by omega) hB.out)
          have HS : w.heap.size + 3 ≤ w1.heap.size := by have := hgrow.size; simp at this; omega
          have OW := Lib.hid hown2
          clear hown hown1 hown2 hgrow rd1 BA BB BR hB
          go_wp2
          go_roundw
          case rel =>
            exact ⟨i + 1, 0, os ++ [x - (bw + y)], a1, cap1, rfl, rfl, by go_num, by decide, by decide, by omega, ST1, OW.out, HS, X1, X2, X3, B1⟩
          case measure => simp [intOf]; omega
      · obtain ⟨b1, o1, rfl, c1⟩ := HA.out.addr (by omega)
        have d1 := cell_later hB.out (c1 i (by omega))
        have x0 := getD_ok hx i
        obtain ⟨x, hxk⟩ : ∃ x, xs.getD i 0 = x := ⟨_, rfl⟩
        rw [hxk] at d1 x0
        obtain ⟨x0, x1⟩ := x0
        have z1 := World.block_lt_of_cell? wr _ d1
        simp only at z1
        have HX := Lib.hid hxk
        have HY := Lib.hid (show ys.getD i 0 = 0 from getD_out (by omega))
        clear hxk c1
        by_cases lt : x < bw
        · have ST1 := Lib.hid (hS.out.step (t := bw) (d := x + 65536 - bw) (bw' := 1) hx hy bw0 bw1 (by have := HY.out; omega) (by have := HX.out; omega) (by omega) (by omega))
          go_wp2_with (at_builtin; refine wpList_append_own _ rfl _ _ 27 rfl (w.heap.size + 3) 22 i0 (.int .u64 0) 1 8 Try.underlying27 hi hz0 hz1 hz2 rfl (by decide) _ _ _ rfl (hown.alloc _) ⟨wr.heap.size, 0, none⟩ 1 1 [.int .u64 (x + 65536 - bw)] rfl rfl ?_ ?_ ?_ ?_ ?_ ?_)
          any_goals (first | exact cell_one_new _ _ _ | (simp [Value.oneCell']; done) | (unfold maxLen; omega) | omega | (simp; omega))
          intro v1 w1 hown1 hgrow _
          have hown2 : w1.ownsRow (w.heap.size + 3) 22 1 v1 (i + 1) ((os ++ [x + 65536 - bw]).map (Value.int .u64)) := by
            simpa using hown1
          obtain ⟨a1, cap1, rfl, rd1⟩ := rd_of_owns hown2
          have X1 := Lib.hid (bv_grown hown hgrow (by omega) (show w.heap.size < w.heap.size + 3 by omega) BA.out)
          have X2 := Lib.hid (bv_grown hown hgrow (by omega) (show w.heap.size + 1 < w.heap.size + 3 by omega) BB.out)
          have X3 := Lib.hid (bv_grown hown hgrow (by omega) (show w.heap.size + 1 + 1 < w.heap.size + 3 by omega) BR.out)
          have B1 := Lib.hid (grown_below (B := w.heap.size) hown hgrow (by omega) (by omega) hB.out)
          have HS : w.heap.size + 3 ≤ w1.heap.size := by have := hgrow.size; simp at this; omega
          have OW := Lib.hid hown2
          clear hown hown1 hown2 hgrow rd1 BA BB BR hB
          go_wp2
          go_roundw
          case rel =>
            exact ⟨i + 1, 1, os ++ [x + 65536 - bw], a1, cap1, rfl, rfl, by go_num, by decide, by decide, by omega, ST1, OW.out, HS, X1, X2, X3, B1⟩
          case measure => simp [intOf]; omega
        · have ST1 := Lib.hid (hS.out.step (t := bw) (d := x - bw) (bw' := 0) hx hy bw0 bw1 (by have := HY.out; omega) (by have := HX.out; omega) (by omega) (by omega))
          go_wp2_with (at_builtin; refine wpList_append_own _ rfl _ _ 27 rfl (w.heap.size + 3) 22 i0 (.int .u64 0) 1 8 Try.underlying27 hi hz0 hz1 hz2 rfl (by decide) _ _ _ rfl (hown.alloc _) ⟨wr.heap.size, 0, none⟩ 1 1 [.int .u64 (x - bw)] rfl rfl ?_ ?_ ?_ ?_ ?_ ?_)
          any_goals (first | exact cell_one_new _ _ _ | (simp [Value.oneCell']; done) | (unfold maxLen; omega) | omega | (simp; omega))
          intro v1 w1 hown1 hgrow _
          have hown2 : w1.ownsRow (w.heap.size + 3) 22 1 v1 (i + 1) ((os ++ [x - bw]).map (Value.int .u64)) := by
            simpa using hown1
          obtain ⟨a1, cap1, rfl, rd1⟩ := rd_of_owns hown2
          have X1 := Lib.hid (bv_grown hown hgrow (by omega) (show w.heap.size < w.heap.size + 3 by omega) BA.out)
          have X2 := Lib.hid (bv_grown hown hgrow (by omega) (show w.heap.size + 1 < w.heap.size + 3 by omega) BB.out)
          have X3 := Lib.hid (bv_grown hown hgrow (by omega) (show w.heap.size + 1 + 1 < w.heap.size + 3 by omega) BR.out)
          have B1 := Lib.hid (grown_below (B := w.heap.size) hown hgrow (by omega) (by omega) hB.out)
          have HS : w.heap.size + 3 ≤ w1.heap.size := by have := hgrow.size; simp at this; omega
          have OW := Lib.hid hown2
          clear hown hown1 hown2 hgrow rd1 BA BB BR hB
          go_wp2
          go_roundw
          case rel =>
            exact ⟨i + 1, 0, os ++ [x - bw], a1, cap1, rfl, rfl, by go_num, by decide, by decide, by omega, ST1, OW.out, HS, X1, X2, X3, B1⟩
          case measure => simp [intOf]; omega
    · obtain rfl : la = i := by omega
      have hs := (show DifTo xs ys os xs.length bw from by rw [lx]; exact hS.out).fin (by omega) bw0 HV.out
      have RD := rd_of_owns2 hown
      have OKS := hS.out.ok
      have HT2 := Lib.hid (trim_any ng ao la co os wr RD OKS (by omega) n (Lib.hid (by rw [hn.out, hs])))
      clear RD OKS hs hown
      go_wp2_with fail
      refine HT2.out.mono ?_
      rintro e w1 ⟨ng1, a1, l1, c1, rfl, hv1, hb1⟩
      have BVH := Lib.hid (BR.out.later hb1)
      have HV1 := Lib.hid hv1
      have HB1 := Lib.hid hb1
      obtain ⟨k0, k1, k2, k3⟩ := BVH.out
      clear hv1 hb1
      go_wp2_with fail
      refine bodyPost_ret (v := .agg #[.bool ng1, .slice a1 l1 c1]) (by simp [results, Try.results15, go_sem, k0, k1]) rfl ?_
      refine RetBig.mk (HV1.out.setBV BVH.out _ _) ?_
      exact ((hB.out.trans (HB1.out.mono (by omega))).setCell (by show w.heap.size ≤ w.heap.size + 1 + 1; omega) _).setCell (by show w.heap.size ≤ w.heap.size + 1 + 1; omega) _
theorem plus_swap (ng mg : Bool) (a b : Option Addr) (la ca lb cb : Nat) (xs ys : List Int) (n : Int) (w : World) (ha : Rd w a la ca xs) (hb : Rd w b lb cb ys) (hx : Ok xs) (hy : Ok ys) (cx : Canon xs) (cy : Canon ys) (sa : la ≤ lb) (sb : lb ≤ 900000)
    (hs : (ng == mg) = false) (hv : val xs < val ys) (hn : Hid (n = if mg then -(val ys - val xs) else val ys - val xs)) :
    Calls Try.prog 15 #[.agg #[.bool ng, .slice a la ca], .agg #[.bool mg, .slice b lb cb]] w (RetBig w n) := by
  have HT := Lib.hid (fun (w1 : World) (h : Below w.heap.size w w1) => sizes_any a b la ca lb cb xs ys w1 (ha.later h) (hb.later h) hx hy cx cy (by omega) (by omega) (-1) (Lib.hid (by unfold cmpI; rw [if_neg (by omega), if_pos hv])))
  have HP := Lib.hid (fun (w1 : World) (h : Below w.heap.size w w1) => plus_dif mg ng b a lb cb la ca ys xs n w1 (hb.later h) (ha.later h) hy hx cy cx sb sa (by revert hs; cases ng <;> cases mg <;> simp) (by omega) hn)
  clear ha hb hv
  go_enter Try.func15, Try.ntmps15
  go_wp2_with fail
  refine (HT.out _ (by go_grown)).mono ?_
  rintro e w1 ⟨rfl, nd, rfl⟩
  go_wp2_with fail
  refine (HP.out _ (below_drewN (by go_grown) _)).mono ?_
  rintro e w1 ⟨ng1, a1, l1, c1, rfl, hv1, hb1⟩
  have bv := (((BV.new ((w.alloc (.cells #[.bool ng, .slice a la ca] 29)).alloc (.cells #[.bool mg, .slice b lb cb] 29)) false none 0 0 29).later (below_drewN (Below.refl _ _) nd)).later hb1)
  simp only [World.size_alloc] at bv
  have BVH := Lib.hid bv
  have HV1 := Lib.hid hv1
  have HB1 := Lib.hid hb1
  obtain ⟨k0, k1, k2, k3⟩ := bv
  clear hv1 hb1
  go_wp2_with fail
  refine bodyPost_ret (v := .agg #[.bool ng1, .slice a1 l1 c1]) (by simp [results, Try.results15, go_sem, k0, k1]) rfl ?_
  refine RetBig.mk (HV1.out.setBV BVH.out _ _) ?_
  refine Below.setCell (Below.setCell (Below.trans ?_ (HB1.out.mono ?_)) ?_ _) ?_ _
  · exact below_drewN (by go_grown) _
  · simp; omega
  · show w.heap.size ≤ w.heap.size + 1 + 1; omega
  · show w.heap.size ≤ w.heap.size + 1 + 1; omega
/-- Plus, whatever the signs. -/
theorem plus_any (ng mg : Bool) (a b : Option Addr) (la ca lb cb : Nat) (n m : Int) (w : World) (h : BigV w ng a la ca n) (h' : BigV w mg b lb cb m) (sa : la ≤ 900000) (sb : lb ≤ 900000) :
    Calls Try.prog 15 #[.agg #[.bool ng, .slice a la ca], .agg #[.bool mg, .slice b lb cb]] w (RetBig w (n + m)) := by
  obtain ⟨xs, rd, ok, cn, hv⟩ := h.rd
  obtain ⟨ys, rd', ok', cn', hv'⟩ := h'.rd
  have hng := h.hng
  have hmg := h'.hng
  have lx := rd.hlen
  have ly := rd'.hlen
  by_cases e : ng = mg
  · subst e
    refine plus_same ng a b la ca lb cb 900000 xs ys (n + m) w rd rd' ok ok' sa sb (Nat.le_refl _) (Lib.hid ?_)
    rw [hv, hv']
    by_cases c : n < 0
    · have : m < 0 := by rw [hng] at hmg; simpa [c] using hmg
      rw [hng]; simp [c, this]; omega
    · have : ¬ m < 0 := by rw [hng] at hmg; simpa [c] using hmg
      rw [hng]; simp [c, this]
  · have hs : (ng == mg) = false := by simpa using e
    have sg : (n < 0 ∧ ¬ m < 0) ∨ (¬ n < 0 ∧ m < 0) := by
      by_cases c1 : n < 0 <;> by_cases c2 : m < 0
      · exfalso; exact e (by rw [hng, hmg]; simp [c1, c2])
      · exact .inl ⟨c1, c2⟩
      · exact .inr ⟨c1, c2⟩
      · exfalso; exact e (by rw [hng, hmg]; simp [c1, c2])
    by_cases hc : val xs < val ys
    · have sl : la ≤ lb := by
        by_cases k : la ≤ lb
        · exact k
        · have := cmp_len ok' ok cn (by omega); omega
      refine plus_swap ng mg a b la ca lb cb xs ys (n + m) w rd rd' ok ok' cn cn' sl sb hs hc (Lib.hid ?_)
      rw [hv, hv', hmg]
      rcases sg with ⟨c1, c2⟩ | ⟨c1, c2⟩ <;> simp [c1, c2] <;> omega
    · have sl : lb ≤ la := by
        by_cases k : lb ≤ la
        · exact k
        · have := cmp_len ok ok' cn' (by omega); omega
      refine plus_dif ng mg a b la ca lb cb xs ys (n + m) w rd rd' ok ok' cn cn' sa sl hs (by omega) (Lib.hid ?_)
      rw [hv, hv', hng]
      rcases sg with ⟨c1, c2⟩ | ⟨c1, c2⟩ <;> simp [c1, c2] <;> omega
end Go.Proofs.Ytkohefgendcofaa
