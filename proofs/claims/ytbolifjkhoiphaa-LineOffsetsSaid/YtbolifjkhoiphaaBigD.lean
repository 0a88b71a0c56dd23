/- The reference's big numbers: Plus, of two signs. -/
import Derived.Test.YtbolifjkhoiphaaBigA
import Derived.WalkKit
import Derived.WalkSpells
import Derived.WalkLawsBesides
import Derived.Handy
import Derived.Lib.Hide
import Derived.Deep.QuietTactic
import Derived.BigQuiet
import Derived.LoopTactic
import Derived.Deep.LoopGhost
import Derived.Deep.RegionHeld3
import Derived.Deep.RegionWith
import Derived.Outline
import Derived.Deep.DeepCutAuto
import Derived.Laws.MakeOwn
namespace Go.Proofs.Ytbolifjkhoiphaa
open Go.RowKit Go.Proofs.Big
set_option linter.unusedVariables false
set_option maxRecDepth 100000
set_option linter.unusedSimpArgs false


/-- the difference so far -/
structure DifTo (xs ys os : List Int) (i : Nat) (bw : Int) : Prop where
  len : os.length = i
  ok : Ok os
  dif : val os - P i * bw = val (xs.take i) - val (ys.take i)
theorem DifTo.step {xs ys os : List Int} {i : Nat} {bw t d bw' : Int} (h : DifTo xs ys os i bw) (hx : Ok xs) (hy : Ok ys) (c0 : 0 ≤ bw) (c1 : bw ≤ 1) (ht : t = bw + ys.getD i 0) (hd : d = xs.getD i 0 + 65536 * bw' - t) (h0 : 0 ≤ d) (h1 : d < 65536) :
    DifTo xs ys (os ++ [d]) (i + 1) bw' := by
  refine ⟨by simp [h.len], ok_snoc h.ok h0 h1, ?_⟩
  rw [val_snoc, h.len, val_take_all, val_take_all, P_succ, Int.mul_comm 65536, Int.mul_assoc]
  have k := h.dif
  have e : P i * d = P i * xs.getD i 0 + P i * (65536 * bw') - P i * bw - P i * ys.getD i 0 := by rw [hd, ht, Int.mul_sub, Int.mul_add, Int.mul_add]; omega
  omega
theorem DifTo.fin {xs ys os : List Int} {bw : Int} (h : DifTo xs ys os xs.length bw) (hl : ys.length ≤ xs.length) (c0 : 0 ≤ bw) (hv : val ys ≤ val xs) : val os = val xs - val ys := by
  have k := h.dif
  rw [List.take_of_length_le (Nat.le_refl _), List.take_of_length_le hl] at k
  have b := val_bd h.ok
  rw [h.len] at b
  by_cases z : bw = 0
  · subst z; rw [Int.mul_zero] at k; omega
  · have : P xs.length * 1 ≤ P xs.length * bw := Int.mul_le_mul_of_nonneg_left (by omega) (by have := P_pos xs.length; omega)
    omega
set_option maxHeartbeats 4000000 in
theorem plus_dif (ng mg : Bool) (a b : Option Addr) (la ca lb cb : Nat) (xs ys : List Int) (n : Int) (w : World) (ha : Rd w a la ca xs) (hb : Rd w b lb cb ys) (hx : Ok xs) (hy : Ok ys) (cx : Canon xs) (cy : Canon ys) (sa : la ≤ 900000) (sb : lb ≤ la)
    (hs : (ng == mg) = false) (hv : val ys ≤ val xs) (hn : Hid (n = if ng then -(val xs - val ys) else val xs - val ys)) :
    Calls Try.prog 57 #[.agg #[.bool ng, .slice a la ca], .agg #[.bool mg, .slice b lb cb]] w (RetBig w n) := by
  obtain ⟨i0, hi, hz0, hz1, hz2⟩ := info_parts Try.info23
  have lx := ha.hlen
  have ly := hb.hlen
  have HA := Lib.hid ha
  have HBB := Lib.hid hb
  obtain ⟨r, hr⟩ : ∃ r, r = cmpI (val xs) (val ys) := ⟨_, rfl⟩
  have hr0 : 0 ≤ r := by rw [hr]; unfold cmpI; repeat' split
                         all_goals omega
  have HT := Lib.hid (fun (w1 : World) (h : Below w.heap.size w w1) => sizes_any a b la ca lb cb xs ys w1 (ha.later h) (hb.later h) hx hy cx cy (by omega) (by omega) r (Lib.hid hr))
  have HV := Lib.hid hv
  clear ha hb hr hv
  go_enter Try.func57, Try.ntmps57
  go_wp2_with fail
  refine (HT.out _ (by go_grown)).mono ?_
  rintro e w1 ⟨rfl, nd, rfl⟩
  go_wp2_with fail
  go_loopw [9, 10, 11] (fun s5 s6 s7 wr => ∃ (i : Nat) (bw : Int) (os : List Int) (ao : Option Addr) (co : Nat), s5 = .slice ao i co ∧ s6 = .int .u64 bw ∧ s7 = .int .i64 i ∧ 0 ≤ bw ∧ bw ≤ 1 ∧ i ≤ la ∧ Hid (DifTo xs ys os i bw) ∧
      wr.ownsRow (w.heap.size + 3) 118 1 (.slice ao i co) i (os.map (Value.int .u64)) ∧ w.heap.size + 3 ≤ wr.heap.size ∧ Hid (BV wr w.heap.size ng a la ca) ∧ Hid (BV wr (w.heap.size + 1) mg b lb cb) ∧ Hid (BV wr (w.heap.size + 1 + 1) false none 0 0) ∧ Hid (Below w.heap.size w wr)) (fun _ _ s7 _ => la - (intOf s7).toNat)
  case atStart =>
    refine ⟨0, 0, [], none, 0, rfl, rfl, rfl, by decide, by decide, by omega, Lib.hid ⟨rfl, ok_nil, by simp [val]⟩, World.ownsRow_nil _ _ _ _, by simp, Lib.hid ?_, Lib.hid ?_, Lib.hid ?_, Lib.hid (below_drewN (by go_grown) _)⟩
    · exact (((BV.new _ _ _ _ _ _).alloc _).alloc _).later (below_drewN (Below.refl _ _) _)
    · have := ((BV.new (w.alloc (.cells #[.bool ng, .slice a la ca] 112)) mg b lb cb 112).alloc (.cells #[.bool false, .slice none 0 0] 112)).later (below_drewN (Below.refl _ _) nd)
      simpa only [World.size_alloc] using this
    · have := (BV.new ((w.alloc (.cells #[.bool ng, .slice a la ca] 112)).alloc (.cells #[.bool mg, .slice b lb cb] 112)) false none 0 0 112).later (below_drewN (Below.refl _ _) nd)
      simpa only [World.size_alloc] using this
  case round =>
    obtain ⟨i, bw, os, ao, co, rfl, rfl, rfl, bw0, bw1, iM, hS, hown, hsz, BA, BB, BR, hB⟩ := hrel
    obtain ⟨p0, p1, _, _⟩ := BA.out
    obtain ⟨p2, p3, _, _⟩ := BB.out
    obtain ⟨p4, p5, p6, p7⟩ := BR.out
    have hlen := hS.out.len
    have ap0 : w.heap.size < wr.heap.size := by omega
    have ap1 : w.heap.size + 1 < wr.heap.size := by omega
    have ap2 : w.heap.size + 1 + 1 < wr.heap.size := by omega
    by_cases hil : i < la
    · by_cases hjl : i < lb
      · obtain ⟨b1, o1, rfl, c1⟩ := HA.out.addr (by omega)
        have d1 := cell_later hB.out (c1 i (by omega))
        have x0 := getD_ok hx i
        obtain ⟨x, hxk⟩ : ∃ x, xs.getD i 0 = x := ⟨_, rfl⟩
        rw [hxk] at d1 x0
        obtain ⟨x0, x1⟩ := x0
        have z1 := World.block_lt_of_cell? wr _ d1
        simp only at z1
        have HX := Lib.hid hxk
        obtain ⟨b2, o2, rfl, c2⟩ := HBB.out.addr (by omega)
        have d2 := cell_later hB.out (c2 i (by omega))
        have y0 := getD_ok hy i
        obtain ⟨y, hyk⟩ : ∃ y, ys.getD i 0 = y := ⟨_, rfl⟩
        rw [hyk] at d2 y0
        obtain ⟨y0, y1⟩ := y0
        have z2 := World.block_lt_of_cell? wr _ d2
        simp only at z2
        have HY := Lib.hid hyk
        clear hxk hyk c1 c2
        by_cases lt : x < bw + y
        · have ST1 := Lib.hid (hS.out.step (t := bw + y) (d := x + 65536 - (bw + y)) (bw' := 1) hx hy bw0 bw1 (by have := HY.out; omega) (by have := HX.out; omega) (by omega) (by omega))
          go_wp2_with (at_builtin; refine wpList_append_own _ rfl _ _ 110 rfl (w.heap.size + 3) 118 i0 (.int .u64 0) 1 8 Try.underlying110 hi hz0 hz1 hz2 rfl (by decide) _ _ _ rfl (hown.alloc _) ⟨wr.heap.size, 0, none⟩ 1 1 [.int .u64 (x + 65536 - (bw + y))] rfl rfl ?_ ?_ ?_ ?_ ?_ ?_)
          any_goals (first | exact cell_one_new _ _ _ | (simp [Value.oneCell']; done) | (unfold maxLen; omega) | omega | (simp; omega))
          intro v1 w1 hown1 hgrow _
          have hown2 : w1.ownsRow (w.heap.size + 3) 118 1 v1 (i + 1) ((os ++ [x + 65536 - (bw + y)]).map (Value.int .u64)) := by
            simpa using hown1
          obtain ⟨a1, cap1, rfl, rd1⟩ := rd_of_owns hown2
          have X1 := Lib.hid (bv_grown hown hgrow (by omega) (show w.heap.size < w.heap.size + 3 by omega) BA.out)
          have X2 := Lib.hid (bv_grown hown hgrow (by omega) (show w.heap.size + 1 < w.heap.size + 3 by omega) BB.out)
          have X3 := Lib.hid (bv_grown hown hgrow (by omega) (show w.heap.size + 1 + 1 < w.heap.size + 3 by omega) BR.out)
          have B1 := Lib.hid (grown_below (B := w.heap.size) hown hgrow (by omega) (by omega) hB.out)
          have HS : w.heap.size + 3 ≤ w1.heap.size := by have := hgrow.size; simp at this; omega
          have OW := Lib.hid hown2
          clear hown hown1 hown2 hgrow rd1 BA BB BR hB
          go_wp2
          go_roundw
          case rel =>
            exact ⟨i + 1, 1, os ++ [x + 65536 - (bw + y)], a1, cap1, rfl, rfl, by go_num, by decide, by decide, by omega, ST1, OW.out, HS, X1, X2, X3, B1⟩
          case measure => simp [intOf]; omega
        · have ST1 := Lib.hid (hS.out.step (t := bw + y) (d := x - (bw + y)) (bw' := 0) hx hy bw0 bw1 (by have := HY.out; omega) (by have := HX.out; omega) (by omega) (by omega))
          go_wp2_with (at_builtin; refine wpList_append_own _ rfl _ _ 110 rfl (w.heap.size + 3) 118 i0 (.int .u64 0) 1 8 Try.underlying110 hi hz0 hz1 hz2 rfl (by decide) _ _ _ rfl (hown.alloc _) ⟨wr.heap.size, 0, none⟩ 1 1 [.int .u64 (x - (bw + y))] rfl rfl ?_ ?_ ?_ ?_ ?_ ?_)
          any_goals (first | exact cell_one_new _ _ _ | (simp [Value.oneCell']; done) | (unfold maxLen; omega) | omega | (simp; omega))
          intro v1 w1 hown1 hgrow _
          have hown2 : w1.ownsRow (w.heap.size + 3) 118 1 v1 (i + 1) ((os ++ [x - (bw + y)]).map (Value.int .u64)) := by
            simpa using hown1
          obtain ⟨a1, cap1, rfl, rd1⟩ := rd_of_owns hown2
          have X1 := Lib.hid (bv_grown hown hgrow (by omega) (show w.heap.size < w.heap.size + 3 by omega) BA.out)
          have X2 := Lib.hid (bv_grown hown hgrow (by omega) (show w.heap.size + 1 < w.heap.size + 3 by omega) BB.out)
          have X3 := Lib.hid (bv_grown hown hgrow (by omega) (show w.heap.size + 1 + 1 < w.heap.size + 3 by omega) BR.out)
          have B1 := Lib.hid (grown_below (B := w.heap.size) hown hgrow (by omega) (by omega) hB.out)
          have HS : w.heap.size + 3 ≤ w1.heap.size := by have := hgrow.size; simp at this; omega
          have OW := Lib.hid hown2
          clear hown hown1 hown2 hgrow rd1 BA BB BR hB
          go_wp2
          go_roundw
          case rel =>
            exact ⟨i + 1, 0, os ++ [x - (bw + y)], a1, cap1, rfl, rfl, by go_num, by decide, by decide, by omega, ST1, OW.out, HS, X1, X2, X3, B1⟩
          case measure => simp [intOf]; omega
      · obtain ⟨b1, o1, rfl, c1⟩ := HA.out.addr (by omega)
        have d1 := cell_later hB.out (c1 i (by omega))
        have x0 := getD_ok hx i
        obtain ⟨x, hxk⟩ : ∃ x, xs.getD i 0 = x := ⟨_, rfl⟩
        rw [hxk] at d1 x0
        obtain ⟨x0, x1⟩ := x0
        have z1 := World.block_lt_of_cell? wr _ d1
        simp only at z1
        have HX := Lib.hid hxk
        have HY := Lib.hid (show ys.getD i 0 = 0 from getD_out (by omega))
        clear hxk c1
        by_cases lt : x < bw
        · have ST1 := Lib.hid (hS.out.step (t := bw) (d := x + 65536 - bw) (bw' := 1) hx hy bw0 bw1 (by have := HY.out; omega) (by have := HX.out; omega) (by omega) (by omega))
          go_wp2_with (at_builtin; refine wpList_append_own _ rfl _ _ 110 rfl (w.heap.size + 3) 118 i0 (.int .u64 0) 1 8 Try.underlying110 hi hz0 hz1 hz2 rfl (by decide) _ _ _ rfl (hown.alloc _) ⟨wr.heap.size, 0, none⟩ 1 1 [.int .u64 (x + 65536 - bw)] rfl rfl ?_ ?_ ?_ ?_ ?_ ?_)
          any_goals (first | exact cell_one_new _ _ _ | (simp [Value.oneCell']; done) | (unfold maxLen; omega) | omega | (simp; omega))
          intro v1 w1 hown1 hgrow _
          have hown2 : w1.ownsRow (w.heap.size + 3) 118 1 v1 (i + 1) ((os ++ [x + 65536 - bw]).map (Value.int .u64)) := by
            simpa using hown1
          obtain ⟨a1, cap1, rfl, rd1⟩ := rd_of_owns hown2
          have X1 := Lib.hid (bv_grown hown hgrow (by omega) (show w.heap.size < w.heap.size + 3 by omega) BA.out)
          have X2 := Lib.hid (bv_grown hown hgrow (by omega) (show w.heap.size + 1 < w.heap.size + 3 by omega) BB.out)
          have X3 := Lib.hid (bv_grown hown hgrow (by omega) (show w.heap.size + 1 + 1 < w.heap.size + 3 by omega) BR.out)
          have B1 := Lib.hid (grown_below (B := w.heap.size) hown hgrow (by omega) (by omega) hB.out)
          have HS : w.heap.size + 3 ≤ w1.heap.size := by have := hgrow.size; simp at this; omega
          have OW := Lib.hid hown2
          clear hown hown1 hown2 hgrow rd1 BA BB BR hB
          go_wp2
          go_roundw
          case rel =>
            exact ⟨i + 1, 1, os ++ [x + 65536 - bw], a1, cap1, rfl, rfl, by go_num, by decide, by decide, by omega, ST1, OW.out, HS, X1, X2, X3, B1⟩
          case measure => simp [intOf]; omega
        · have ST1 := Lib.hid (hS.out.step (t := bw) (d := x - bw) (bw' := 0) hx hy bw0 bw1 (by have := HY.out; omega) (by have := HX.out; omega) (by omega) (by omega))
          go_wp2_with (at_builtin; refine wpList_append_own _ rfl _ _ 110 rfl (w.heap.size + 3) 118 i0 (.int .u64 0) 1 8 Try.underlying110 hi hz0 hz1 hz2 rfl (by decide) _ _ _ rfl (hown.alloc _) ⟨wr.heap.size, 0, none⟩ 1 1 [.int .u64 (x - bw)] rfl rfl ?_ ?_ ?_ ?_ ?_ ?_)
          any_goals (first | exact cell_one_new _ _ _ | (simp [Value.oneCell']; done) | (unfold maxLen; omega) | omega | (simp; omega))
          intro v1 w1 hown1 hgrow _
          have hown2 : w1.ownsRow (w.heap.size + 3) 118 1 v1 (i + 1) ((os ++ [x - bw]).map (Value.int .u64)) := by
            simpa using hown1
          obtain ⟨a1, cap1, rfl, rd1⟩ := rd_of_owns hown2
          have X1 := Lib.hid (bv_grown hown hgrow (by omega) (show w.heap.size < w.heap.size + 3 by omega) BA.out)
          have X2 := Lib.hid (bv_grown hown hgrow (by omega) (show w.heap.size + 1 < w.heap.size + 3 by omega) BB.out)
          have X3 := Lib.hid (bv_grown hown hgrow (by omega) (show w.heap.size + 1 + 1 < w.heap.size + 3 by omega) BR.out)
          have B1 := Lib.hid (grown_below (B := w.heap.size) hown hgrow (by omega) (by omega) hB.out)
          have HS : w.heap.size + 3 ≤ w1.heap.size := by have := hgrow.size; simp at this; omega
          have OW := Lib.hid hown2
          clear hown hown1 hown2 hgrow rd1 BA BB BR hB
          go_wp2
          go_roundw
          case rel =>
            exact ⟨i + 1, 0, os ++ [x - bw], a1, cap1, rfl, rfl, by go_num, by decide, by decide, by omega, ST1, OW.out, HS, X1, X2, X3, B1⟩
          case measure => simp [intOf]; omega
    · obtain rfl : la = i := by omega
      have hs := (show DifTo xs ys os xs.length bw from by rw [lx]; exact hS.out).fin (by omega) bw0 HV.out
      have RD := rd_of_owns2 hown
      have OKS := hS.out.ok
      have HT2 := Lib.hid (trim_any ng ao la co os wr RD OKS (by omega) n (Lib.hid (by rw [hn.out, hs])))
      clear RD OKS hs hown
      go_wp2_with fail
      refine HT2.out.mono ?_
      rintro e w1 ⟨ng1, a1, l1, c1, rfl, hv1, hb1⟩
      have BVH := Lib.hid (BR.out.later hb1)
      have HV1 := Lib.hid hv1
      have HB1 := Lib.hid hb1
      obtain ⟨k0, k1, k2, k3⟩ := BVH.out
      clear hv1 hb1
      go_wp2_with fail
      refine bodyPost_ret (v := .agg #[.bool ng1, .slice a1 l1 c1]) (by simp [results, Try.results57, go_sem, k0, k1]) rfl ?_
      refine RetBig.mk (HV1.out.setBV BVH.out _ _) ?_
      exact ((hB.out.trans (HB1.out.mono (by omega))).setCell (by show w.heap.size ≤ w.heap.size + 1 + 1; omega) _).setCell (by show w.heap.size ≤ w.heap.size + 1 + 1; omega) _
theorem plus_swap (ng mg : Bool) (a b : Option Addr) (la ca lb cb : Nat) (xs ys : List Int) (n : Int) (w : World) (ha : Rd w a la ca xs) (hb : Rd w b lb cb ys) (hx : Ok xs) (hy : Ok ys) (cx : Canon xs) (cy : Canon ys) (sa : la ≤ lb) (sb : lb ≤ 900000)
    (hs : (ng == mg) = false) (hv : val xs < val ys) (hn : Hid (n = if mg then -(val ys - val xs) else val ys - val xs)) :
    Calls Try.prog 57 #[.agg #[.bool ng, .slice a la ca], .agg #[.bool mg, .slice b lb cb]] w (RetBig w n) := by
  have HT := Lib.hid (fun (w1 : World) (h : Below w.heap.size w w1) => sizes_any a b la ca lb cb xs ys w1 (ha.later h) (hb.later h) hx hy cx cy (by omega) (by omega) (-1) (Lib.hid (by unfold cmpI; rw [if_neg (by omega), if_pos hv])))
  have HP := Lib.hid (fun (w1 : World) (h : Below w.heap.size w w1) => plus_dif mg ng b a lb cb la ca ys xs n w1 (hb.later h) (ha.later h) hy hx cy cx sb sa (by revert hs; cases ng <;> cases mg <;> simp) (by omega) hn)
  clear ha hb hv
  go_enter Try.func57, Try.ntmps57
  go_wp2_with fail
  refine (HT.out _ (by go_grown)).mono ?_
  rintro e w1 ⟨rfl, nd, rfl⟩
  go_wp2_with fail
  refine (HP.out _ (below_drewN (by go_grown) _)).mono ?_
  rintro e w1 ⟨ng1, a1, l1, c1, rfl, hv1, hb1⟩
  have bv := (((BV.new ((w.alloc (.cells #[.bool ng, .slice a la ca] 112)).alloc (.cells #[.bool mg, .slice b lb cb] 112)) false none 0 0 112).later (below_drewN (Below.refl _ _) nd)).later hb1)
  simp only [World.size_alloc] at bv
  have BVH := Lib.hid bv
  have HV1 := Lib.hid hv1
  have HB1 := Lib.hid hb1
  obtain ⟨k0, k1, k2, k3⟩ := bv
  clear hv1 hb1
  go_wp2_with fail
  refine bodyPost_ret (v := .agg #[.bool ng1, .slice a1 l1 c1]) (by simp [results, Try.results57, go_sem, k0, k1]) rfl ?_
  refine RetBig.mk (HV1.out.setBV BVH.out _ _) ?_
  refine Below.setCell (Below.setCell (Below.trans ?_ (HB1.out.mono ?_)) ?_ _) ?_ _
  · exact below_drewN (by go_grown) _
  · simp; omega
  · show w.heap.size ≤ w.heap.size + 1 + 1; omega
  · show w.heap.size ≤ w.heap.size + 1 + 1; omega
/-- Plus, whatever the signs. -/
theorem plus_any (ng mg : Bool) (a b : Option Addr) (la ca lb cb : Nat) (n m : Int) (w : World) (h : BigV w ng a la ca n) (h' : BigV w mg b lb cb m) (sa : la ≤ 900000) (sb : lb ≤ 900000) :
    Calls Try.prog 57 #[.agg #[.bool ng, .slice a la ca], .agg #[.bool mg, .slice b lb cb]] w (RetBig w (n + m)) := by
  obtain ⟨xs, rd, ok, cn, hv⟩ := h.rd
  obtain ⟨ys, rd', ok', cn', hv'⟩ := h'.rd
  have hng := h.hng
  have hmg := h'.hng
  have lx := rd.hlen
  have ly := rd'.hlen
  by_cases e : ng = mg
  · subst e
    refine plus_same ng a b la ca lb cb 900000 xs ys (n + m) w rd rd' ok ok' sa sb (Nat.le_refl _) (Lib.hid ?_)
    rw [hv, hv']
    by_cases c : n < 0
    · have : m < 0 := by rw [hng] at hmg; simpa [c] using hmg
      rw [hng]; simp [c, this]; omega
    · have : ¬ m < 0 := by rw [hng] at hmg; simpa [c] using hmg
      rw [hng]; simp [c, this]
  · have hs : (ng == mg) = false := by simpa using e
    have sg : (n < 0 ∧ ¬ m < 0) ∨ (¬ n < 0 ∧ m < 0) := by
      by_cases c1 : n < 0 <;> by_cases c2 : m < 0
      · exfalso; exact e (by rw [hng, hmg]; simp [c1, c2])
      · exact .inl ⟨c1, c2⟩
      · exact .inr ⟨c1, c2⟩
      · exfalso; exact e (by rw [hng, hmg]; simp [c1, c2])
    by_cases hc : val xs < val ys
    · have sl : la ≤ lb := by
        by_cases k : la ≤ lb
        · exact k
        · have := cmp_len ok' ok cn (by omega); omega
      refine plus_swap ng mg a b la ca lb cb xs ys (n + m) w rd rd' ok ok' cn cn' sl sb hs hc (Lib.hid ?_)
      rw [hv, hv', hmg]
      rcases sg with ⟨c1, c2⟩ | ⟨c1, c2⟩ <;> simp [c1, c2] <;> omega
    · have sl : lb ≤ la := by
        by_cases k : lb ≤ la
        · exact k
        · have := cmp_len ok ok' cn' (by omega); omega
      refine plus_dif ng mg a b la ca lb cb xs ys (n + m) w rd rd' ok ok' cn cn' sa sl hs (by omega) (Lib.hid ?_)
      rw [hv, hv', hng]
      rcases sg with ⟨c1, c2⟩ | ⟨c1, c2⟩ <;> simp [c1, c2] <;> omega
end Go.Proofs.Ytbolifjkhoiphaa
/- The reference's big numbers: Times. -/
namespace Go.Proofs.Ytbolifjkhoiphaa
open Go.RowKit Go.Proofs.Big
set_option linter.unusedVariables false
set_option maxRecDepth 100000
set_option linter.unusedSimpArgs false

theorem own_new (w : World) (n : Nat) (t : TypeId) : Own (w.alloc (.cells (madeCells #[.int .u64 0] n) t)) w.heap.size (List.replicate n 0) := by
  refine ⟨fun k hk => ?_, fun k hk => World.frozen?_alloc_at _ _ _ _ rfl⟩
  rw [List.length_replicate] at hk
  rw [World.cell?_alloc_at _ _ _ _ rfl, getD_zeros, madeCells]
  simp [hk, Nat.mod_one]
theorem own_later {w w' : World} {b : Nat} {os : List Int} (h : Own w b os) (hb : Below w.heap.size w w') : Own w' b os :=
  ⟨fun k hk => cell_later hb (h.cell k hk), fun k hk => (hb.frozen (p := ⟨b, k, none⟩) (World.block_lt_of_cell? w _ (h.cell k hk))).trans (h.froz k hk)⟩
/-- the product so far: i whole rows, k pieces of the next one -/
structure MulTo (xs ys os : List Int) (i k : Nat) (cy : Int) : Prop where
  len : os.length = xs.length + ys.length
  ok : Ok os
  val' : val os + P (i + k) * cy = val (xs.take i) * val ys + P i * (xs.getD i 0 * val (ys.take k))
  zero : ∀ j, i + ys.length ≤ j → os.getD j 0 = 0
theorem MulTo.step {xs ys os : List Int} {i k : Nat} {cy t : Int} (h : MulTo xs ys os i k cy) (hx : Ok xs) (hy : Ok ys) (hi : i < xs.length) (hk : k < ys.length) (c0 : 0 ≤ cy) (ht : t = os.getD (i + k) 0 + xs.getD i 0 * ys.getD k 0 + cy) (t0 : 0 ≤ t) :
    MulTo xs ys (os.set (i + k) (t % 65536)) i (k + 1) (t / 65536) := by
  have hl := h.len
  refine ⟨by rw [List.length_set, hl], ok_set h.ok _ _ (by omega) (by omega), ?_, fun j hj => ?_⟩
  · rw [val_set _ _ _ (by omega), val_take_succ ys k hk, ← Nat.add_assoc, P_succ, Int.mul_comm 65536, Int.mul_assoc]
    have v := h.val'
    have e1 : P (i + k) * (t % 65536 - os.getD (i + k) 0) + P (i + k) * (65536 * (t / 65536)) = P (i + k) * (xs.getD i 0 * ys.getD k 0) + P (i + k) * cy := by
      rw [← Int.mul_add, ← Int.mul_add]; congr 1; omega
    have e2 : P i * (xs.getD i 0 * (val (ys.take k) + P k * ys.getD k 0)) = P i * (xs.getD i 0 * val (ys.take k)) + P (i + k) * (xs.getD i 0 * ys.getD k 0) := by
      rw [Int.mul_add, Int.mul_add, P_add]; congr 1
      rw [Int.mul_left_comm (xs.getD i 0), Int.mul_assoc]
    omega
  · rw [getD_set _ _ _ _ (by omega), if_neg (by omega)]; exact h.zero j hj
theorem MulTo.row {xs ys os : List Int} {i : Nat} {cy : Int} (h : MulTo xs ys os i ys.length cy) (hi : i < xs.length) (c0 : 0 ≤ cy) (c1 : cy < 65536) :
    MulTo xs ys (os.set (i + ys.length) cy) (i + 1) 0 0 := by
  have hl := h.len
  have hz := h.zero (i + ys.length) (Nat.le_refl _)
  refine ⟨by rw [List.length_set, hl], ok_set h.ok _ _ c0 c1, ?_, fun j hj => ?_⟩
  · have v := h.val'
    rw [List.take_of_length_le (Nat.le_refl _)] at v
    rw [val_set _ _ _ (by omega), hz, val_take_succ xs i hi, Int.sub_zero, Int.mul_zero, Int.add_zero, Int.add_mul, Int.mul_assoc (P i)]
    simp [val]
    exact v
  · rw [getD_set _ _ _ _ (by omega), if_neg (by omega)]; exact h.zero j (by omega)
theorem mul_small {x y c o : Int} (x0 : 0 ≤ x) (x1 : x < 65536) (y0 : 0 ≤ y) (y1 : y < 65536) : 0 ≤ x * y ∧ x * y ≤ 4294836225 := by
  have h1 : x * y ≤ 65535 * y := Int.mul_le_mul_of_nonneg_right (by omega) y0
  exact ⟨Int.mul_nonneg x0 y0, by omega⟩
set_option maxHeartbeats 4000000 in
theorem times_mid (ng mg : Bool) (a b : Option Addr) (la ca lb cb : Nat) (xs ys : List Int) (n : Int) (w : World) (ha : Rd w a la ca xs) (hb : Rd w b lb cb ys) (hx : Ok xs) (hy : Ok ys) (sa : la ≤ 400000) (sb : lb ≤ 400000)
    (hn : Hid (n = if !(ng == mg) then -(val xs * val ys) else val xs * val ys)) :
    Calls Try.prog 88 #[.agg #[.bool ng, .slice a la ca], .agg #[.bool mg, .slice b lb cb]] w (RetBig w n) := by
  obtain ⟨i0, hi, hz0, hz1, hz2⟩ := info_parts Try.info23
  have lx := ha.hlen
  have ly := hb.hlen
  have HA := Lib.hid ha
  have HBB := Lib.hid hb
  have hmk := fun (w : World) => run_make (P := Try.prog) w 110 118 i0 (.int .u64 0) Try.underlying110 hi hz0 .i64 .i64 ((la : Int) + (lb : Int)) ((la : Int) + (lb : Int)) (by omega) (by omega) (by rw [hz2]; omega) (by omega)
  rw [hz1, Nat.mul_one, show ((la : Int) + (lb : Int)).toNat = la + lb from by omega] at hmk
  clear ha hb
  go_enter Try.func88, Try.ntmps88
  go_wp2_with fail
  go_loopw [6] (fun s6 wr => ∃ (i : Nat) (os : List Int), s6 = .int .i64 i ∧ i ≤ la ∧ Hid (MulTo xs ys os i 0 0) ∧ Hid (Own wr (w.heap.size + 1 + 1 + 1) os) ∧ Hid (BV wr w.heap.size ng a la ca) ∧ Hid (BV wr (w.heap.size + 1) mg b lb cb) ∧ Hid (BV wr (w.heap.size + 1 + 1) false none 0 0) ∧ Hid (Below w.heap.size w wr) ∧ w.heap.size + 1 + 1 + 1 < wr.heap.size) (fun s6 _ => la - (intOf s6).toNat)
  case atStart =>
    refine ⟨0, List.replicate (la + lb) 0, rfl, by omega, Lib.hid ⟨by rw [List.length_replicate]; omega, ok_zeros _, by rw [val_zeros]; simp [val], fun j _ => getD_zeros _ _⟩, Lib.hid ?_, Lib.hid ?_, Lib.hid ?_, Lib.hid ?_, Lib.hid (by go_grown), by simp⟩
    · have := own_new (((w.alloc (.cells #[.bool ng, .slice a la ca] 112)).alloc (.cells #[.bool mg, .slice b lb cb] 112)).alloc (.cells #[.bool false, .slice none 0 0] 112)) (la + lb) 118
      simpa only [World.size_alloc] using this
    · exact (((BV.new _ _ _ _ _ _).alloc _).alloc _).alloc _
    · have := (((BV.new (w.alloc (.cells #[.bool ng, .slice a la ca] 112)) mg b lb cb 112).alloc (.cells #[.bool false, .slice none 0 0] 112)).alloc (.cells (madeCells #[.int .u64 0] (la + lb)) 118))
      simpa only [World.size_alloc] using this
    · have := ((BV.new ((w.alloc (.cells #[.bool ng, .slice a la ca] 112)).alloc (.cells #[.bool mg, .slice b lb cb] 112)) false none 0 0 112).alloc (.cells (madeCells #[.int .u64 0] (la + lb)) 118))
      simpa only [World.size_alloc] using this
  case round =>
    obtain ⟨i, os, rfl, hil, hM, hO, BA, BB, BR, hB, hsz⟩ := hrel
    obtain ⟨p0, p1, _, _⟩ := BA.out
    obtain ⟨p2, p3, _, _⟩ := BB.out
    obtain ⟨p4, p5, p6, p7⟩ := BR.out
    by_cases hi2 : i < la
    · obtain ⟨b1, o1, rfl, c1⟩ := HA.out.addr (by omega)
      have C1 := Lib.hid (c1 i hi2)
      have x0 := getD_ok hx i
      obtain ⟨x, hxk⟩ : ∃ x, xs.getD i 0 = x := ⟨_, rfl⟩
      rw [hxk] at x0
      have C1 : Hid (w.cell? ⟨b1, o1 + i, none⟩ = some (.int .u64 x)) := by rw [← hxk]; exact C1
      obtain ⟨x0, x1⟩ := x0
      have HX := Lib.hid hxk
      clear hxk c1
      go_wp2_with fail
      obtain ⟨wo, hwo⟩ : ∃ wo : World, wo = wr := ⟨_, rfl⟩
      clear hwo p0 p1 p2 p3 p4 p5 p6 p7
      have hM0 := hM
      go_loopw [7, 8] (fun s7 s8 wr => ∃ (k : Nat) (cy : Int) (os : List Int), s7 = .int .u64 cy ∧ s8 = .int .i64 k ∧ 0 ≤ cy ∧ cy < 65536 ∧ k ≤ lb ∧ Hid (MulTo xs ys os i k cy) ∧ Hid (Own wr (w.heap.size + 1 + 1 + 1) os) ∧ Hid (BV wr w.heap.size ng (some ⟨b1, o1, none⟩) la ca) ∧ Hid (BV wr (w.heap.size + 1) mg b lb cb) ∧ Hid (BV wr (w.heap.size + 1 + 1) false none 0 0) ∧ Hid (Below w.heap.size w wr) ∧ w.heap.size + 1 + 1 + 1 < wr.heap.size) (fun _ s8 _ => lb - (intOf s8).toNat)
      case atStart => exact ⟨0, 0, os, rfl, rfl, by decide, by decide, by omega, hM, hO, BA, BB, BR, hB, hsz⟩
      case round =>
        clear hM hM0 hO BA BB BR hB hsz os
        obtain ⟨k, cy, os, rfl, rfl, cy0, cy1, hk, hM, hO, BA, BB, BR, hB, hsz⟩ := hrel
        obtain ⟨p0, p1, _, _⟩ := BA.out
        obtain ⟨p2, p3, _, _⟩ := BB.out
        obtain ⟨p4, p5, p6, p7⟩ := BR.out
        have hol := hM.out.len
        by_cases hk2 : k < lb
        · obtain ⟨b2, o2, rfl, c2⟩ := HBB.out.addr (by omega)
          have y0 := getD_ok hy k
          obtain ⟨y, hyk⟩ : ∃ y, ys.getD k 0 = y := ⟨_, rfl⟩
          have d2 := cell_later hB.out (c2 k hk2)
          rw [hyk] at d2 y0
          obtain ⟨y0, y1⟩ := y0
          have HY := Lib.hid hyk
          have d1 := cell_later hB.out C1.out
          have o0 := getD_ok hM.out.ok (i + k)
          obtain ⟨o, hok⟩ : ∃ o, os.getD (i + k) 0 = o := ⟨_, rfl⟩
          have d3 := hO.out.cell (i + k) (by omega)
          have f3 := hO.out.froz (i + k) (by omega)
          rw [hok] at d3 o0
          obtain ⟨o0, o1'⟩ := o0
          have HO := Lib.hid hok
          obtain ⟨m0, m1⟩ := mul_small (c := 0) (o := 0) x0 x1 y0 y1
          have ST := Lib.hid (hM.out.step (t := o + x * y + cy) hx hy (by omega) (by omega) cy0 (by rw [HO.out, HX.out, HY.out]) (by omega))
          have OS := Lib.hid (hO.out.set (i + k) ((o + x * y + cy) % 65536) (by omega))
          have i1 : (i : Int) + (k : Int) < (la : Int) + (lb : Int) := by omega
          have i1' : i + k < la + lb := by omega
          have i2 : (k : Int) < (lb : Int) := by omega
          have i3 : (i : Int) < (la : Int) := by omega
          clear hyk hok c2
          go_wp2_with fail
          go_quiet (fail)
          go_wp2_with fail
          go_roundw
          case rel =>
            refine ⟨k + 1, (o + x * y + cy) / 65536, os.set (i + k) ((o + x * y + cy) % 65536), rfl, by go_num, by omega, by omega, by omega, ST, Lib.hid (((own_later hO.out (below_drewN (Below.refl _ _) nq))).set (i + k) _ (by omega)), Lib.hid ((BA.out.later (below_drewN (Below.refl _ _) nq)).other1 (by omega) _), Lib.hid ((BB.out.later (below_drewN (Below.refl _ _) nq)).other1 (by omega) _), Lib.hid ((BR.out.later (below_drewN (Below.refl _ _) nq)).other1 (by omega) _), Lib.hid ((below_drewN hB.out nq).setCell (by show w.heap.size ≤ w.heap.size + 1 + 1 + 1; omega) _), by simpa using hsz⟩
          case measure => simp [intOf]; omega
        · obtain rfl : k = lb := by omega
          have hz := hM.out.zero (i + k) (by omega)
          have d3 := hO.out.cell (i + k) (by omega)
          have f3 := hO.out.froz (i + k) (by omega)
          rw [hz] at d3
          have RW := Lib.hid (show MulTo xs ys (os.set (i + k) cy) (i + 1) 0 0 from by
            have := (show MulTo xs ys os i ys.length cy from by rw [ly]; exact hM.out).row (by omega) cy0 cy1
            rw [ly] at this; exact this)
          have OS := Lib.hid (hO.out.set (i + k) cy (by omega))
          have i1 : (i : Int) + (k : Int) < (la : Int) + (k : Int) := by omega
          have i1' : i + k < la + k := by omega
          clear hz
          go_wp2_with fail
          go_roundw
          case rel => exact ⟨i + 1, os.set (i + k) cy, by go_num, by omega, RW, OS, Lib.hid (BA.out.other1 (by omega) _), Lib.hid (BB.out.other1 (by omega) _), Lib.hid (BR.out.other1 (by omega) _), Lib.hid (hB.out.setCell (by show w.heap.size ≤ w.heap.size + 1 + 1 + 1; omega) _), by simpa using hsz⟩
          case measure => simp [intOf]; omega
    · obtain rfl : i = la := by omega
      have hv := hM.out.val'
      rw [List.take_of_length_le (by omega), show xs.getD i 0 = 0 from getD_out (by omega), Int.zero_mul, Int.mul_zero, Int.mul_zero, Int.add_zero, Int.add_zero] at hv
      have RD := hO.out.rd (show os.length = i + lb by have := hM.out.len; omega)
      have OKS := hM.out.ok
      have HT2 := Lib.hid (trim_any (!(ng == mg)) (some ⟨w.heap.size + 1 + 1 + 1, 0, none⟩) (i + lb) (i + lb) os wr RD OKS (by omega) n (Lib.hid (by rw [hn.out, hv])))
      clear RD OKS hv
      go_wp2_with fail
      refine HT2.out.mono ?_
      rintro e w1 ⟨ng1, a1, l1, c1, rfl, hv1, hb1⟩
      have BVH := Lib.hid (BR.out.later hb1)
      have HV1 := Lib.hid hv1
      have HB1 := Lib.hid hb1
      obtain ⟨k0, k1, k2, k3⟩ := BVH.out
      clear hv1 hb1
      go_wp2_with fail
      refine bodyPost_ret (v := .agg #[.bool ng1, .slice a1 l1 c1]) (by simp [results, Try.results88, go_sem, k0, k1]) rfl ?_
      refine RetBig.mk (HV1.out.setBV BVH.out _ _) ?_
      exact ((hB.out.trans (HB1.out.mono (by omega))).setCell (by show w.heap.size ≤ w.heap.size + 1 + 1; omega) _).setCell (by show w.heap.size ≤ w.heap.size + 1 + 1; omega) _
theorem times_any (ng mg : Bool) (a b : Option Addr) (la ca lb cb : Nat) (n m : Int) (w : World) (h : BigV w ng a la ca n) (h' : BigV w mg b lb cb m) (sa : la ≤ 400000) (sb : lb ≤ 400000) :
    Calls Try.prog 88 #[.agg #[.bool ng, .slice a la ca], .agg #[.bool mg, .slice b lb cb]] w (RetBig w (n * m)) := by
  obtain ⟨xs, rd, ok, cn, hv⟩ := h.rd
  obtain ⟨ys, rd', ok', cn', hv'⟩ := h'.rd
  have hng := h.hng
  have hmg := h'.hng
  refine times_mid ng mg a b la ca lb cb xs ys (n * m) w rd rd' ok ok' sa sb (Lib.hid ?_)
  rw [hv, hv', hng, hmg]
  by_cases c1 : n < 0 <;> by_cases c2 : m < 0 <;> simp [c1, c2, Int.neg_mul, Int.mul_neg]
end Go.Proofs.Ytbolifjkhoiphaa
/- The reference's big numbers: Of, Power, OfWide. -/
namespace Go.Proofs.Ytbolifjkhoiphaa
open Go.RowKit Go.Proofs.Big
set_option linter.unusedVariables false
set_option maxRecDepth 100000
set_option linter.unusedSimpArgs false

/-- numbers of at most 100 pieces -/
def Sm (n : Int) : Prop := -P 100 < n ∧ n < P 100
theorem Sm.le {w : World} {ng : Bool} {a : Option Addr} {l c : Nat} {n : Int} (h : BigV w ng a l c n) (s : Sm n) : l ≤ 100 := h.len 100 s.1 s.2
theorem P_num (k : Nat) : P k = 65536 ^ k := rfl
theorem sm_of (n : Int) (h0 : -115792089237316195423570985008687907853269984665640564039457584007913129639936 ≤ n) (h1 : n ≤ 115792089237316195423570985008687907853269984665640564039457584007913129639936) : Sm n := by
  have p : P 17 ≤ P 100 := P_mono (by decide)
  have e : P 17 = 7588550360256754183279148073529370729071901715047420004889892225542594864082845696 := by unfold P; rfl
  unfold Sm; omega

theorem bof_any (n : Int) (h0 : -9223372036854775808 ≤ n) (h1 : n ≤ 9223372036854775807) (w : World) :
    Calls Try.prog 58 #[.int .i64 n] w (RetBig w n) := by
  by_cases c : 0 ≤ n
  · go_enter Try.func58, Try.ntmps58
    go_wp2_with fail
    refine (ofu_any n c (by omega) _).mono ?_
    rintro e w1 ⟨ng1, a1, l1, c1, rfl, hv1, hb1⟩
    have bv := (BV.new w false none 0 0 112).later hb1
    have BVH := Lib.hid bv
    have HV1 := Lib.hid hv1
    have HB1 := Lib.hid hb1
    obtain ⟨k0, k1, k2, k3⟩ := bv
    clear hv1 hb1
    go_wp2_with fail
    refine bodyPost_ret (v := .agg #[.bool ng1, .slice a1 l1 c1]) (by simp [results, Try.results58, go_sem, k0, k1]) rfl ?_
    refine RetBig.mk (HV1.out.setBV BVH.out _ _) ?_
    refine Below.setCell (Below.setCell (Below.trans ?_ (HB1.out.mono ?_)) ?_ _) ?_ _
    · go_grown
    · simp
    · exact Nat.le_refl _
    · exact Nat.le_refl _
  · go_enter Try.func58, Try.ntmps58
    go_wp2_with fail
    refine (ofu_any (-(n + 1)) (by omega) (by omega) _).mono ?_
    rintro e w1 ⟨ng1, a1, l1, c1, rfl, hv1, hb1⟩
    have BVH := Lib.hid ((BV.new w false none 0 0 112).later hb1)
    have HV1 := Lib.hid hv1
    have HB1 := Lib.hid (((Below.refl w.heap.size w).alloc (Nat.le_refl _) _).trans (hb1.mono (by simp)))
    clear hv1 hb1
    go_wp2_with fail
    refine (ofu_any 1 (by decide) (by decide) _).mono ?_
    rintro e w2 ⟨ng2, a2, l2, c2, rfl, hv2, hb2⟩
    have BVH2 := Lib.hid (BVH.out.later hb2)
    have HV1' := Lib.hid (HV1.out.later hb2)
    have HV2 := Lib.hid hv2
    have HB2 := Lib.hid (HB1.out.trans (hb2.mono HB1.out.size))
    clear hv2 hb2 HB1 BVH HV1
    go_wp2_with fail
    refine (plus_any ng1 ng2 a1 a2 l1 c1 l2 c2 (-(n + 1)) 1 _ HV1'.out HV2.out (by have := Sm.le HV1'.out (sm_of _ (by omega) (by omega)); omega) (by have := Sm.le HV2.out (sm_of _ (by omega) (by omega)); omega)).mono ?_
    rintro e w3 ⟨ng3, a3, l3, c3, rfl, hv3, hb3⟩
    have BVH3 := Lib.hid (BVH2.out.later hb3)
    have HV3 := Lib.hid hv3
    have HB3 := Lib.hid (HB2.out.trans (hb3.mono HB2.out.size))
    obtain ⟨k0, k1, k2, k3⟩ := BVH3.out
    have lt3 := BVH3.out.lt
    clear hv3 hb3
    go_wp2_with fail
    refine bodyPost_ret (v := .agg #[.bool true, .slice a3 l3 c3]) (by simp [results, Try.results58, go_sem, k0, k1, lt3]) rfl ?_
    obtain ⟨xs, r3, o3, cn3, v3⟩ := HV3.out.rd
    have hv : BigV w3 true a3 l3 c3 n := ⟨⟨xs, r3, o3, cn3, by rw [v3, if_neg (by omega), if_pos (by omega)]; omega⟩, by simp; omega⟩
    refine RetBig.mk ((hv.setBV BVH3.out _ _).alloc _) (((HB3.out.setCell (Nat.le_refl _) _).setCell (Nat.le_refl _) _).alloc ?_ _)
    have := HB3.out.size
    simpa using this
theorem below_undrew {B : Nat} {w w' : World} (h : Below B w.drew w') : Below B w w' := (Below.drew (Below.refl _ _)).trans h
theorem pow_sm (i : Nat) (h : i ≤ 1500) : (1 : Int) ≤ 2 ^ i ∧ Sm (2 ^ i) := by
  have h1 : (0 : Int) < 2 ^ i := Int.pow_pos (by decide)
  have h2 : (2 : Int) ^ i < P 100 := by
    have e : P 100 = 2 ^ (16 * 100) := by unfold P; rw [Int.pow_mul]; rfl
    have c : ∀ k : Nat, (2 : Int) ^ k = ((2 ^ k : Nat) : Int) := fun k => (Int.natCast_pow 2 k).symm
    obtain ⟨m, hm⟩ : ∃ m, m = 16 * 100 := ⟨_, rfl⟩
    rw [← hm] at e
    rw [e, c i, c m]
    exact Int.ofNat_lt.2 (Nat.pow_lt_pow_right (show 1 < 2 by decide) (show i < m by omega))
  exact ⟨by omega, by unfold Sm; omega⟩
set_option maxRecDepth 100000 in
set_option maxHeartbeats 2000000 in
theorem power_any (n : Nat) (hn : n ≤ 1500) (w : World) :
    Calls Try.prog 74 #[.int .i64 n] w (RetBig w (2 ^ n)) := by
  go_enter Try.func74, Try.ntmps74
  go_wp2_with fail
  refine (ofu_any 1 (by decide) (by decide) _).mono ?_
  rintro e w1 ⟨ng1, a1, l1, c1, rfl, hv1, hb1⟩
  have bv1 := (BV.new w false none 0 0 112).later hb1
  have BR := Lib.hid (bv1.alloc (.cells #[.bool ng1, .slice a1 l1 c1] 112))
  have BX := Lib.hid (BV.new w1 ng1 a1 l1 c1 112)
  have HV1 := Lib.hid (hv1.alloc (.cells #[.bool ng1, .slice a1 l1 c1] 112))
  have hs1 := hb1.size
  simp only [World.size_alloc] at hs1
  have HB1 := Lib.hid ((((Below.refl w.heap.size w).alloc (Nat.le_refl _) _).trans (hb1.mono (by simp))).alloc (by omega) (.cells #[.bool ng1, .slice a1 l1 c1] 112))
  have hg : w.heap.size < w1.heap.size := by omega
  clear hv1 hb1 bv1
  go_wp2_with fail
  go_loopw [4] (fun s wr => ∃ (i : Nat) (ng : Bool) (a : Option Addr) (l c : Nat), s = .int .i64 i ∧ i ≤ n ∧ Hid (BV wr w.heap.size false none 0 0) ∧ Hid (BV wr w1.heap.size ng a l c) ∧ Hid (BigV wr ng a l c (2 ^ i)) ∧ Hid (Below w.heap.size w wr)) (fun s _ => n - (intOf s).toNat)
  case atStart => exact ⟨0, ng1, a1, l1, c1, rfl, by omega, BR, BX, HV1, HB1⟩
  case round =>
    clear BR BX HV1 HB1
    obtain ⟨i, ng, a, l, c, rfl, hi, BR, BX, HV, HB⟩ := hrel
    obtain ⟨p0, p1, p2, p3⟩ := BR.out
    obtain ⟨k0, k1, k2, k3⟩ := BX.out
    obtain ⟨ps, psm⟩ := pow_sm i (by omega)
    have PSM := Lib.hid psm
    by_cases hlt : i < n
    · clear psm ps
      go_wp2_with fail
      go_region_with (first
        | (go_at_call 61; refine (ofu_any 2 (by decide) (by decide) _).mono ?_; rintro e w5 ⟨ng5, a5, l5, c5, rfl, hv5, hb5⟩; have H5 := Lib.hid hv5; have B5 := Lib.hid (below_undrew hb5); obtain ⟨k0, k1, k2, k3⟩ := BX.out.later (below_undrew hb5); clear hv5 hb5)
        | (go_at_call 88; refine (times_any ng ng5 a a5 l c l5 c5 (2 ^ i) 2 _ (HV.out.later B5.out) H5.out (Nat.le_trans (Sm.le HV.out PSM.out) (by decide)) (Nat.le_trans (Sm.le H5.out (sm_of 2 (by decide) (by decide))) (by decide))).mono ?_; rintro e w6 ⟨ng6, a6, l6, c6, rfl, hv6, hb6⟩; have H6 := Lib.hid hv6; have B6 := Lib.hid (B5.out.trans (hb6.mono B5.out.size)); obtain ⟨k0, k1, k2, k3⟩ := (BX.out.later B5.out).later hb6; clear hv6 hb6))
      all_goals
        go_wp2_with fail
        go_roundw
        case rel =>
          have bx6 := BX.out.later B6.out
          refine ⟨i + 1, ng6, a6, l6, c6, by go_num, by omega, Lib.hid ((BR.out.later B6.out).other (by omega) _ _), Lib.hid (bx6.set _ _ _ _), Lib.hid ?_, Lib.hid ?_⟩
          · have := H6.out.setBV bx6 (.bool ng6) (.slice a6 l6 c6)
            rw [Int.pow_succ]; exact this
          · exact ((HB.out.trans (B6.out.mono HB.out.size)).setCell (Nat.le_of_lt hg) _).setCell (Nat.le_of_lt hg) _
        case measure => simp [intOf]; omega
    · obtain rfl : i = n := by omega
      clear psm ps
      go_wp2_with fail
      refine bodyPost_ret (v := .agg #[.bool ng, .slice a l c]) (by simp [results, Try.results74, go_sem, p0, p1]) rfl ?_
      exact RetBig.mk (HV.out.setBV BR.out _ _) ((HB.out.setCell (Nat.le_refl _) _).setCell (Nat.le_refl _) _)
end Go.Proofs.Ytbolifjkhoiphaa
/- The reference's big numbers: what a long division keeps. -/
namespace Go.Proofs.Ytbolifjkhoiphaa
open Go.RowKit Go.Proofs.Big
set_option linter.unusedVariables false
set_option maxRecDepth 100000
set_option linter.unusedSimpArgs false

/-- what a call that hands back two big numbers ends in -/
def RetBig2 (w : World) (n m : Int) (e : Ending) (w' : World) : Prop := ∃ ng a l c mg b k d, e = .returned (.tuple #[.agg #[.bool ng, .slice a l c], .agg #[.bool mg, .slice b k d]]) ∧ BigV w' ng a l c n ∧ BigV w' mg b k d m ∧ Below w.heap.size w w'
/-- memory in the course of a long division -/
structure DivW (w wr : World) (a : Option Addr) (la ca : Nat) (b : Option Addr) (lb cb : Nat) (nq : Bool) (aq : Option Addr) (lq cq : Nat) (nr : Bool) (ar : Option Addr) (lr cr : Nat) (Q R : Int) : Prop where
  A : BV wr w.heap.size false a la ca
  B : BV wr (w.heap.size + 1) false b lb cb
  R1 : BV wr (w.heap.size + 1 + 1) false none 0 0
  R2 : BV wr (w.heap.size + 1 + 1 + 1) false none 0 0
  Qv : BV wr (w.heap.size + 1 + 1 + 1 + 1) nq aq lq cq
  Rv : BV wr (w.heap.size + 1 + 1 + 1 + 1 + 1) nr ar lr cr
  Qn : BigV wr nq aq lq cq Q
  Rn : BigV wr nr ar lr cr R
  bel : Below w.heap.size w wr
section
variable {w wr wx : World} {a b aq ar a' : Option Addr} {la ca lb cb lq cq lr cr l' c' : Nat} {nq nr n' : Bool} {Q R N : Int}
theorem DivW.later (h : DivW w wr a la ca b lb cb nq aq lq cq nr ar lr cr Q R) (k : Below wr.heap.size wr wx) : DivW w wx a la ca b lb cb nq aq lq cq nr ar lr cr Q R :=
  ⟨h.A.later k, h.B.later k, h.R1.later k, h.R2.later k, h.Qv.later k, h.Rv.later k, h.Qn.later k, h.Rn.later k, h.bel.trans (k.mono h.bel.size)⟩
theorem DivW.setQ (h : DivW w wr a la ca b lb cb nq aq lq cq nr ar lr cr Q R) (k : BigV wr n' a' l' c' N) :
    DivW w ((wr.setCell ⟨w.heap.size + 1 + 1 + 1 + 1, 0, none⟩ (.bool n')).setCell ⟨w.heap.size + 1 + 1 + 1 + 1, 1, none⟩ (.slice a' l' c')) a la ca b lb cb n' a' l' c' nr ar lr cr N R :=
  ⟨h.A.other (by omega) _ _, h.B.other (by omega) _ _, h.R1.other (by omega) _ _, h.R2.other (by omega) _ _, h.Qv.set _ _ _ _, h.Rv.other (by omega) _ _, k.setBV h.Qv _ _, h.Rn.setBV h.Qv _ _,
    (h.bel.setCell (by show w.heap.size ≤ w.heap.size + 1 + 1 + 1 + 1; omega) _).setCell (by show w.heap.size ≤ w.heap.size + 1 + 1 + 1 + 1; omega) _⟩
theorem DivW.setR (h : DivW w wr a la ca b lb cb nq aq lq cq nr ar lr cr Q R) (k : BigV wr n' a' l' c' N) :
    DivW w ((wr.setCell ⟨w.heap.size + 1 + 1 + 1 + 1 + 1, 0, none⟩ (.bool n')).setCell ⟨w.heap.size + 1 + 1 + 1 + 1 + 1, 1, none⟩ (.slice a' l' c')) a la ca b lb cb nq aq lq cq n' a' l' c' Q N :=
  ⟨h.A.other (by omega) _ _, h.B.other (by omega) _ _, h.R1.other (by omega) _ _, h.R2.other (by omega) _ _, h.Qv.other (by omega) _ _, h.Rv.set _ _ _ _, h.Qn.setBV h.Rv _ _, k.setBV h.Rv _ _,
    (h.bel.setCell (by show w.heap.size ≤ w.heap.size + 1 + 1 + 1 + 1 + 1; omega) _).setCell (by show w.heap.size ≤ w.heap.size + 1 + 1 + 1 + 1 + 1; omega) _⟩
end
end Go.Proofs.Ytbolifjkhoiphaa
