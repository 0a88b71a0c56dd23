/- The reference's big numbers: Plus. -/
import Derived.Test.YtkohefgendcofaaBigB
import Derived.WalkKit
import Derived.WalkSpells
import Derived.WalkLawsBesides
import Derived.Handy
import Derived.Lib.Hide
import Derived.Deep.QuietTactic
import Derived.BigQuiet
import Derived.LoopTactic
import Derived.Deep.LoopGhost
import Derived.Deep.RegionHeld3
import Derived.Deep.RegionWith
import Derived.Outline
import Derived.Deep.DeepCutAuto
namespace Go.Proofs.Ytkohefgendcofaa
open Go.RowKit Go.Proofs.Big
set_option linter.unusedVariables false
set_option maxRecDepth 100000
set_option linter.unusedSimpArgs false


theorem val_take_all (xs : List Int) (k : Nat) : val (xs.take (k + 1)) = val (xs.take k) + P k * xs.getD k 0 := by
  by_cases h : k < xs.length
  · exact val_take_succ xs k h
  · rw [List.take_of_length_le (by omega), List.take_of_length_le (by omega), List.getD_eq_getElem?_getD, List.getElem?_eq_none (by omega)]
    simp
theorem bv_grown {wr w1 : World} {base : Nat} {e : TypeId} {sz : Nat} {v : Value} {n : Nat} {xs : List Value} {o : Obj} (hown : wr.ownsRow base e sz v n xs) (hgrow : (wr.alloc o).grownBy w1 v.ownBlock) (hB : base ≤ wr.heap.size) {b : Nat} (hb : b < base)
    {ng : Bool} {a : Option Addr} {l c : Nat} (h : BV wr b ng a l c) : BV w1 b ng a l c := by
  obtain ⟨g, f⟩ := grown_keeps hown hgrow hB hb
  exact ⟨g _ _ h.c0, g _ _ h.c1, (f 0).trans h.f0, (f 1).trans h.f1⟩
theorem getD_out {xs : List Int} {k : Nat} (h : ¬ k < xs.length) : xs.getD k 0 = 0 := by
  rw [List.getD_eq_getElem?_getD, List.getElem?_eq_none (by omega)]; rfl
/-- the sum so far -/
structure SumTo (xs ys os : List Int) (i M : Nat) (cy : Int) : Prop where
  len : os.length = i
  ok : Ok os
  sum : val os + P i * cy = val (xs.take i) + val (ys.take i)
  top : M < i → cy = 0
theorem SumTo.step {xs ys os : List Int} {i M : Nat} {cy s : Int} (h : SumTo xs ys os i M cy) (hx : Ok xs) (hy : Ok ys) (lx : xs.length ≤ M) (ly : ys.length ≤ M) (c0 : 0 ≤ cy) (c1 : cy ≤ 1) (hs : s = cy + xs.getD i 0 + ys.getD i 0) :
    SumTo xs ys (os ++ [s % 65536]) (i + 1) M (s / 65536) ∧ 0 ≤ s / 65536 ∧ s / 65536 ≤ 1 := by
  have g1 := getD_ok hx i
  have g2 := getD_ok hy i
  refine ⟨⟨by simp [h.len], ok_snoc h.ok (by omega) (by omega), ?_, fun t => ?_⟩, by omega, by omega⟩
  · rw [val_snoc, h.len, val_take_all, val_take_all, P_succ, Int.mul_comm 65536, Int.mul_assoc]
    have k := h.sum
    have : P i * (s % 65536) + P i * (65536 * (s / 65536)) = P i * s := by rw [← Int.mul_add]; congr 1; omega
    have e : P i * s = P i * cy + P i * xs.getD i 0 + P i * ys.getD i 0 := by rw [hs, Int.mul_add, Int.mul_add]
    omega
  · have e1 : xs.getD i 0 = 0 := getD_out (by omega)
    have e2 : ys.getD i 0 = 0 := getD_out (by omega)
    omega
set_option maxHeartbeats 4000000 in
theorem plus_same (ng : Bool) (a b : Option Addr) (la ca lb cb M : Nat) (xs ys : List Int) (n : Int) (w : World) (ha : Rd w a la ca xs) (hb : Rd w b lb cb ys) (hx : Ok xs) (hy : Ok ys) (sa : la ≤ M) (sb : lb ≤ M) (sM : M ≤ 900000)
    (hn : Hid (n = if ng then -(val xs + val ys) else val xs + val ys)) :
    Calls Try.prog 15 #[.agg #[.bool ng, .slice a la ca], .agg #[.bool ng, .slice b lb cb]] w (RetBig w n) := by
  obtain ⟨i0, hi, hz0, hz1, hz2⟩ := info_parts Try.info23
  have lx := ha.hlen
  have ly := hb.hlen
  have HA := Lib.hid ha
  have HBB := Lib.hid hb
  have sgn : (ng == ng) = true := by simp
  clear ha hb
  go_enter Try.func15, Try.ntmps15
  go_wp2_with fail
  go_loopw [5, 6, 7] (fun s5 s6 s7 wr => ∃ (i : Nat) (cy : Int) (os : List Int) (ao : Option Addr) (co : Nat), s5 = .slice ao i co ∧ s6 = .int .u64 cy ∧ s7 = .int .i64 i ∧ 0 ≤ cy ∧ cy ≤ 1 ∧ i ≤ M + 1 ∧ Hid (SumTo xs ys os i M cy) ∧
      wr.ownsRow (w.heap.size + 3) 22 1 (.slice ao i co) i (os.map (Value.int .u64)) ∧ w.heap.size + 3 ≤ wr.heap.size ∧ Hid (BV wr w.heap.size ng a la ca) ∧ Hid (BV wr (w.heap.size + 1) ng b lb cb) ∧ Hid (BV wr (w.heap.size + 1 + 1) false none 0 0) ∧ Hid (Below w.heap.size w wr)) (fun _ _ s7 _ => M + 2 - (intOf s7).toNat)
  case atStart =>
    refine ⟨0, 0, [], none, 0, rfl, rfl, rfl, by decide, by decide, by omega, Lib.hid ⟨rfl, ok_nil, by simp [val], fun h => by omega⟩, World.ownsRow_nil _ _ _ _, by simp, Lib.hid ?_, Lib.hid ?_, Lib.hid ?_, Lib.hid (by go_grown)⟩
    · exact ((BV.new _ _ _ _ _ _).alloc _).alloc _
    · have := ((BV.new (w.alloc (.cells #[.bool ng, .slice a la ca] 29)) ng b lb cb 29).alloc (.cells #[.bool false, .slice none 0 0] 29))
      simpa only [World.size_alloc] using this
    · have := (BV.new ((w.alloc (.cells #[.bool ng, .slice a la ca] 29)).alloc (.cells #[.bool ng, .slice b lb cb] 29)) false none 0 0 29)
      simpa only [World.size_alloc] using this
  case round =>
    obtain ⟨i, cy, os, ao, co, rfl, rfl, rfl, cy0, cy1, iM, hS, hown, hsz, BA, BB, BR, hB⟩ := hrel
    obtain ⟨p0, p1, _, _⟩ := BA.out
    obtain ⟨p2, p3, _, _⟩ := BB.out
    obtain ⟨p4, p5, p6, p7⟩ := BR.out
    have hlen := hS.out.len
    have ap0 : w.heap.size < wr.heap.size := by omega
    have ap1 : w.heap.size + 1 < wr.heap.size := by omega
    have ap2 : w.heap.size + 1 + 1 < wr.heap.size := by omega
    by_cases hil : i < la
    · by_cases hjl : i < lb
      · obtain ⟨b1, o1, rfl, c1⟩ := HA.out.addr (by omega)
        have d1 := cell_later hB.out (c1 i (by omega))
        have x0 := getD_ok hx i
        obtain ⟨x, hxk⟩ : ∃ x, xs.getD i 0 = x := ⟨_, rfl⟩
        rw [hxk] at d1 x0
        obtain ⟨x0, x1⟩ := x0
        have z1 := World.block_lt_of_cell? wr _ d1
        simp only at z1
        obtain ⟨b2, o2, rfl, c2⟩ := HBB.out.addr (by omega)
        have d2 := cell_later hB.out (c2 i (by omega))
        have y0 := getD_ok hy i
        obtain ⟨y, hyk⟩ : ∃ y, ys.getD i 0 = y := ⟨_, rfl⟩
        rw [hyk] at d2 y0
        obtain ⟨y0, y1⟩ := y0
        have z2 := World.block_lt_of_cell? wr _ d2
        simp only at z2
        have itop : i ≤ M := Nat.le_of_not_lt (fun h => by have := hS.out.top h; omega)
        have ST := hS.out.step (s := cy + x + y) hx hy (by omega) (by omega) cy0 cy1 (by rw [hxk, hyk])
        have ST1 := Lib.hid ST.1
        obtain ⟨_, st0, st1⟩ := ST
        have HX := Lib.hid hxk
        have HY := Lib.hid hyk
        clear hxk hyk c1 c2
        go_wp2_with (at_builtin; refine wpList_append_own _ rfl _ _ 27 rfl (w.heap.size + 3) 22 i0 (.int .u64 0) 1 8 Try.underlying27 hi hz0 hz1 hz2 rfl (by decide) _ _ _ rfl (hown.alloc _) ⟨wr.heap.size, 0, none⟩ 1 1 [.int .u64 ((cy + x + y) % 65536)] rfl rfl ?c1 ?c2 ?c3 ?c4 ?c5 ?_)
        case c1 => exact cell_one_new _ _ _
        case c2 => simp [Value.oneCell']
        case c3 => unfold maxLen; omega
        case c4 => omega
        case c5 => simp; omega
        intro v1 w1 hown1 hgrow _
        have hown2 : w1.ownsRow (w.heap.size + 3) 22 1 v1 (i + 1) ((os ++ [(cy + x + y) % 65536]).map (Value.int .u64)) := by
          simpa using hown1
        obtain ⟨a1, cap1, rfl, rd1⟩ := rd_of_owns hown2
        have X1 := Lib.hid (bv_grown hown hgrow (by omega) (show w.heap.size < w.heap.size + 3 by omega) BA.out)
        have X2 := Lib.hid (bv_grown hown hgrow (by omega) (show w.heap.size + 1 < w.heap.size + 3 by omega) BB.out)
        have X3 := Lib.hid (bv_grown hown hgrow (by omega) (show w.heap.size + 1 + 1 < w.heap.size + 3 by omega) BR.out)
        have B1 := Lib.hid (grown_below (B := w.heap.size) hown hgrow (by omega) (by omega) hB.out)
        have HS : w.heap.size + 3 ≤ w1.heap.size := by have := hgrow.size; simp at this; omega
        have OW := Lib.hid hown2
        clear hown hown1 hown2 hgrow rd1 BA BB BR hB
        go_wp2
        go_roundw
        case rel =>
          exact ⟨i + 1, (cy + x + y) / 65536, os ++ [(cy + x + y) % 65536], a1, cap1, rfl, rfl, by go_num, st0, st1, by omega, ST1, OW.out, HS, X1, X2, X3, B1⟩
        case measure => simp [intOf]; omega
      · obtain ⟨b1, o1, rfl, c1⟩ := HA.out.addr (by omega)
        have d1 := cell_later hB.out (c1 i (by omega))
        have x0 := getD_ok hx i
        obtain ⟨x, hxk⟩ : ∃ x, xs.getD i 0 = x := ⟨_, rfl⟩
        rw [hxk] at d1 x0
        obtain ⟨x0, x1⟩ := x0
        have z1 := World.block_lt_of_cell? wr _ d1
        simp only at z1
        have hyk : ys.getD i 0 = 0 := getD_out (by omega)
        have itop : i ≤ M := Nat.le_of_not_lt (fun h => by have := hS.out.top h; omega)
        have ST := hS.out.step (s := cy + x) hx hy (by omega) (by omega) cy0 cy1 (by rw [hxk, hyk]; omega)
        have ST1 := Lib.hid ST.1
        obtain ⟨_, st0, st1⟩ := ST
        have HX := Lib.hid hxk
        have HY := Lib.hid hyk
        clear hxk hyk c1
        go_wp2_with (at_builtin; refine wpList_append_own _ rfl _ _ 27 rfl (w.heap.size + 3) 22 i0 (.int .u64 0) 1 8 Try.underlying27 hi hz0 hz1 hz2 rfl (by decide) _ _ _ rfl (hown.alloc _) ⟨wr.heap.size, 0, none⟩ 1 1 [.int .u64 ((cy + x) % 65536)] rfl rfl ?c1 ?c2 ?c3 ?c4 ?c5 ?_)
        case c1 => exact cell_one_new _ _ _
        case c2 => simp [Value.oneCell']
        case c3 => unfold maxLen; omega
        case c4 => omega
        case c5 => simp; omega
        intro v1 w1 hown1 hgrow _
        have hown2 : w1.ownsRow (w.heap.size + 3) 22 1 v1 (i + 1) ((os ++ [(cy + x) % 65536]).map (Value.int .u64)) := by
          simpa using hown1
        obtain ⟨a1, cap1, rfl, rd1⟩ := rd_of_owns hown2
        have X1 := Lib.hid (bv_grown hown hgrow (by omega) (show w.heap.size < w.heap.size + 3 by omega) BA.out)
        have X2 := Lib.hid (bv_grown hown hgrow (by omega) (show w.heap.size + 1 < w.heap.size + 3 by omega) BB.out)
        have X3 := Lib.hid (bv_grown hown hgrow (by omega) (show w.heap.size + 1 + 1 < w.heap.size + 3 by omega) BR.out)
        have B1 := Lib.hid (grown_below (B := w.heap.size) hown hgrow (by omega) (by omega) hB.out)
        have HS : w.heap.size + 3 ≤ w1.heap.size := by have := hgrow.size; simp at this; omega
        have OW := Lib.hid hown2
        clear hown hown1 hown2 hgrow rd1 BA BB BR hB
        go_wp2
        go_roundw
        case rel =>
          exact ⟨i + 1, (cy + x) / 65536, os ++ [(cy + x) % 65536], a1, cap1, rfl, rfl, by go_num, st0, st1, by omega, ST1, OW.out, HS, X1, X2, X3, B1⟩
        case measure => simp [intOf]; omega
    · by_cases hjl : i < lb
      · have hxk : xs.getD i 0 = 0 := getD_out (by omega)
        obtain ⟨b2, o2, rfl, c2⟩ := HBB.out.addr (by omega)
        have d2 := cell_later hB.out (c2 i (by omega))
        have y0 := getD_ok hy i
        obtain ⟨y, hyk⟩ : ∃ y, ys.getD i 0 = y := ⟨_, rfl⟩
        rw [hyk] at d2 y0
        obtain ⟨y0, y1⟩ := y0
        have z2 := World.block_lt_of_cell? wr _ d2
        simp only at z2
        have itop : i ≤ M := Nat.le_of_not_lt (fun h => by have := hS.out.top h; omega)
        have ST := hS.out.step (s := cy + y) hx hy (by omega) (by omega) cy0 cy1 (by rw [hxk, hyk]; omega)
        have ST1 := Lib.hid ST.1
        obtain ⟨_, st0, st1⟩ := ST
        have HX := Lib.hid hxk
        have HY := Lib.hid hyk
        clear hxk hyk c2
        go_wp2_with (at_builtin; refine wpList_append_own _ rfl _ _ 27 rfl (w.heap.size + 3) 22 i0 (.int .u64 0) 1 8 Try.underlying27 hi hz0 hz1 hz2 rfl (by decide) _ _ _ rfl (hown.alloc _) ⟨wr.heap.size, 0, none⟩ 1 1 [.int .u64 ((cy + y) % 65536)] rfl rfl ?c1 ?c2 ?c3 ?c4 ?c5 ?_)
        case c1 => exact cell_one_new _ _ _
        case c2 => simp [Value.oneCell']
        case c3 => unfold maxLen; omega
        case c4 => omega
        case c5 => simp; omega
        intro v1 w1 hown1 hgrow _
        have hown2 : w1.ownsRow (w.heap.size + 3) 22 1 v1 (i + 1) ((os ++ [(cy + y) % 65536]).map (Value.int .u64)) := by
          simpa using hown1
        obtain ⟨a1, cap1, rfl, rd1⟩ := rd_of_owns hown2
        have X1 := Lib.hid (bv_grown hown hgrow (by omega) (show w.heap.size < w.heap.size + 3 by omega) BA.out)
        have X2 := Lib.hid (bv_grown hown hgrow (by omega) (show w.heap.size + 1 < w.heap.size + 3 by omega) BB.out)
        have X3 := Lib.hid (bv_grown hown hgrow (by omega) (show w.heap.size + 1 + 1 < w.heap.size + 3 by omega) BR.out)
        have B1 := Lib.hid (grown_below (B := w.heap.size) hown hgrow (by omega) (by omega) hB.out)
        have HS : w.heap.size + 3 ≤ w1.heap.size := by have := hgrow.size; simp at this; omega
        have OW := Lib.hid hown2
        clear hown hown1 hown2 hgrow rd1 BA BB BR hB
        go_wp2
        go_roundw
        case rel =>
          exact ⟨i + 1, (cy + y) / 65536, os ++ [(cy + y) % 65536], a1, cap1, rfl, rfl, by go_num, st0, st1, by omega, ST1, OW.out, HS, X1, X2, X3, B1⟩
        case measure => simp [intOf]; omega
      · by_cases cz : 0 < cy
        · have hxk : xs.getD i 0 = 0 := getD_out (by omega)
          have hyk : ys.getD i 0 = 0 := getD_out (by omega)
          have itop : i ≤ M := Nat.le_of_not_lt (fun h => by have := hS.out.top h; omega)
          have ST := hS.out.step (s := cy) hx hy (by omega) (by omega) cy0 cy1 (by rw [hxk, hyk]; omega)
          have ST1 := Lib.hid ST.1
          obtain ⟨_, st0, st1⟩ := ST
          have HX := Lib.hid hxk
          have HY := Lib.hid hyk
          clear hxk hyk 
          go_wp2_with (at_builtin; refine wpList_append_own _ rfl _ _ 27 rfl (w.heap.size + 3) 22 i0 (.int .u64 0) 1 8 Try.underlying27 hi hz0 hz1 hz2 rfl (by decide) _ _ _ rfl (hown.alloc _) ⟨wr.heap.size, 0, none⟩ 1 1 [.int .u64 ((cy) % 65536)] rfl rfl ?c1 ?c2 ?c3 ?c4 ?c5 ?_)
          case c1 => exact cell_one_new _ _ _
          case c2 => simp [Value.oneCell']
          case c3 => unfold maxLen; omega
          case c4 => omega
          case c5 => simp; omega
          intro v1 w1 hown1 hgrow _
          have hown2 : w1.ownsRow (w.heap.size + 3) 22 1 v1 (i + 1) ((os ++ [(cy) % 65536]).map (Value.int .u64)) := by
            simpa using hown1
          obtain ⟨a1, cap1, rfl, rd1⟩ := rd_of_owns hown2
          have X1 := Lib.hid (bv_grown hown hgrow (by omega) (show w.heap.size < w.heap.size + 3 by omega) BA.out)
          have X2 := Lib.hid (bv_grown hown hgrow (by omega) (show w.heap.size + 1 < w.heap.size + 3 by omega) BB.out)
          have X3 := Lib.hid (bv_grown hown hgrow (by omega) (show w.heap.size + 1 + 1 < w.heap.size + 3 by omega) BR.out)
          have B1 := Lib.hid (grown_below (B := w.heap.size) hown hgrow (by omega) (by omega) hB.out)
          have HS : w.heap.size + 3 ≤ w1.heap.size := by have := hgrow.size; simp at this; omega
          have OW := Lib.hid hown2
          clear hown hown1 hown2 hgrow rd1 BA BB BR hB
          go_wp2
          go_roundw
          case rel =>
            exact ⟨i + 1, (cy) / 65536, os ++ [(cy) % 65536], a1, cap1, rfl, rfl, by go_num, st0, st1, by omega, ST1, OW.out, HS, X1, X2, X3, B1⟩
          case measure => simp [intOf]; omega
        · obtain rfl : cy = 0 := by omega
          have hs := hS.out.sum
          rw [List.take_of_length_le (by omega), List.take_of_length_le (by omega), Int.mul_zero, Int.add_zero] at hs
          have RD := rd_of_owns2 hown
          have OKS := hS.out.ok
          have HT := Lib.hid (trim_any ng ao i co os wr RD OKS (by omega) n (Lib.hid (by rw [hn.out, hs])))
          clear RD OKS hs hown
          go_wp2_with fail
          refine HT.out.mono ?_
          rintro e w1 ⟨ng1, a1, l1, c1, rfl, hv1, hb1⟩
          have BVH := Lib.hid (BR.out.later hb1)
          have HV1 := Lib.hid hv1
          have HB1 := Lib.hid hb1
          obtain ⟨k0, k1, k2, k3⟩ := BVH.out
          clear hv1 hb1
          go_wp2_with fail
          refine bodyPost_ret (v := .agg #[.bool ng1, .slice a1 l1 c1]) (by simp [results, Try.results15, go_sem, k0, k1]) rfl ?_
          refine RetBig.mk (HV1.out.setBV BVH.out _ _) ?_
          exact ((hB.out.trans (HB1.out.mono (by omega))).setCell (by show w.heap.size ≤ w.heap.size + 1 + 1; omega) _).setCell (by show w.heap.size ≤ w.heap.size + 1 + 1; omega) _
end Go.Proofs.Ytkohefgendcofaa
