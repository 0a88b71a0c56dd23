/- The reference's big numbers: Times. -/
import Derived.Test.YtkohefgendcofaaBigD
import Derived.Laws.MakeOwn
import Derived.WalkKit
import Derived.WalkSpells
import Derived.WalkLawsBesides
import Derived.Handy
import Derived.Lib.Hide
import Derived.Deep.QuietTactic
import Derived.BigQuiet
import Derived.LoopTactic
import Derived.Deep.LoopGhost
import Derived.Outline
namespace Go.Proofs.Ytkohefgendcofaa
open Go.RowKit Go.Proofs.Big
set_option linter.unusedVariables false
set_option maxRecDepth 100000
set_option linter.unusedSimpArgs false

theorem own_new (w : World) (n : Nat) (t : TypeId) : Own (w.alloc (.cells (madeCells #[.int .u64 0] n) t)) w.heap.size (List.replicate n 0) := by
  refine ⟨fun k hk => ?_, fun k hk => World.frozen?_alloc_at _ _ _ _ rfl⟩
  rw [List.length_replicate] at hk
  rw [World.cell?_alloc_at _ _ _ _ rfl, getD_zeros, madeCells]
  simp [hk, Nat.mod_one]
theorem own_later {w w' : World} {b : Nat} {os : List Int} (h : Own w b os) (hb : Below w.heap.size w w') : Own w' b os :=
  ⟨fun k hk => cell_later hb (h.cell k hk), fun k hk => (hb.frozen (p := ⟨b, k, none⟩) (World.block_lt_of_cell? w _ (h.cell k hk))).trans (h.froz k hk)⟩
/-- the product so far: i whole rows, k pieces of the next one -/
structure MulTo (xs ys os : List Int) (i k : Nat) (cy : Int) : Prop where
  len : os.length = xs.length + ys.length
  ok : Ok os
  val' : val os + P (i + k) * cy = val (xs.take i) * val ys + P i * (xs.getD i 0 * val (ys.take k))
  zero : ∀ j, i + ys.length ≤ j → os.getD j 0 = 0
theorem MulTo.step {xs ys os : List Int} {i k : Nat} {cy t : Int} (h : MulTo xs ys os i k cy) (hx : Ok xs) (hy : Ok ys) (hi : i < xs.length) (hk : k < ys.length) (c0 : 0 ≤ cy) (ht : t = os.getD (i + k) 0 + xs.getD i 0 * ys.getD k 0 + cy) (t0 : 0 ≤ t) :
    MulTo xs ys (os.set (i + k) (t % 65536)) i (k + 1) (t / 65536) := by
  have hl := h.len
  refine ⟨by rw [List.length_set, hl], ok_set h.ok _ _ (by omega) (by omega), ?_, fun j hj => ?_⟩
  · rw [val_set _ _ _ (by omega), val_take_succ ys k hk, ← Nat.add_assoc, P_succ, Int.mul_comm 65536, Int.mul_assoc]
    have v := h.val'
    have e1 : P (i + k) * (t % 65536 - os.getD (i + k) 0) + P (i + k) * (65536 * (t / 65536)) = P (i + k) * (xs.getD i 0 * ys.getD k 0) + P (i + k) * cy := by
      rw [← Int.mul_add, ← Int.mul_add]; congr 1; omega
    have e2 : P i * (xs.getD i 0 * (val (ys.take k) + P k * ys.getD k 0)) = P i * (xs.getD i 0 * val (ys.take k)) + P (i + k) * (xs.getD i 0 * ys.getD k 0) := by
      rw [Int.mul_add, Int.mul_add, P_add]; congr 1
      rw [Int.mul_left_comm (xs.getD i 0), Int.mul_assoc]
    omega
  · rw [getD_set _ _ _ _ (by omega), if_neg (by omega)]; exact h.zero j hj
theorem MulTo.row {xs ys os : List Int} {i : Nat} {cy : Int} (h : MulTo xs ys os i ys.length cy) (hi : i < xs.length) (c0 : 0 ≤ cy) (c1 : cy < 65536) :
    MulTo xs ys (os.set (i + ys.length) cy) (i + 1) 0 0 := by
  have hl := h.len
  have hz := h.zero (i + ys.length) (Nat.le_refl _)
  refine ⟨by rw [List.length_set, hl], ok_set h.ok _ _ c0 c1, ?_, fun j hj => ?_⟩
  · have v := h.val'
    rw [List.take_of_length_le (Nat.le_refl _)] at v
    rw [val_set _ _ _ (by omega), hz, val_take_succ xs i hi, Int.sub_zero, Int.mul_zero, Int.add_zero, Int.add_mul, Int.mul_assoc (P i)]
    simp [val]
    exact v
  · rw [getD_set _ _ _ _ (by omega), if_neg (by omega)]; exact h.zero j (by omega)
theorem mul_small {x y c o : Int} (x0 : 0 ≤ x) (x1 : x < 65536) (y0 : 0 ≤ y) (y1 : y < 65536) : 0 ≤ x * y ∧ x * y ≤ 4294836225 := by
  have h1 : x * y ≤ 65535 * y := Int.mul_le_mul_of_nonneg_right (by omega) y0
  exact ⟨Int.mul_nonneg x0 y0, by omega⟩
set_option maxHeartbeats 4000000 in
theorem times_mid (ng mg : Bool) (a b : Option Addr) (la ca lb cb : Nat) (xs ys : List Int) (n : Int) (w : World) (ha : Rd w a la ca xs) (hb : Rd w b lb cb ys) (hx : Ok xs) (hy : Ok ys) (sa : la ≤ 400000) (sb : lb ≤ 400000)
    (hn : Hid (n = if !(ng == mg) then -(val xs * val ys) else val xs * val ys)) :
    Calls Try.prog 31 #[.agg #[.bool ng, .slice a la ca], .agg #[.bool mg, .slice b lb cb]] w (RetBig w n) := by
  obtain ⟨i0, hi, hz0, hz1, hz2⟩ := info_parts Try.info23
  have lx := ha.hlen
  have ly := hb.hlen
  have HA := Lib.hid ha
  have HBB := Lib.hid hb
  have hmk := fun (w : World) => run_make (P := Try.prog) w 27 22 i0 (.int .u64 0) Try.underlying27 hi hz0 .i64 .i64 ((la : Int) + (lb : Int)) ((la : Int) + (lb : Int)) (by omega) (by omega) (by rw [hz2]; omega) (by omega)
  rw [hz1, Nat.mul_one, show ((la : Int) + (lb : Int)).toNat = la + lb from by omega] at hmk
  clear ha hb
  go_enter Try.func31, Try.ntmps31
  go_wp2_with fail
  go_loopw [6] (fun s6 wr => ∃ (i : Nat) (os : List Int), s6 = .int .i64 i ∧ i ≤ la ∧ Hid (MulTo xs ys os i 0 0) ∧ Hid (Own wr (w.heap.size + 1 + 1 + 1) os) ∧ Hid (BV wr w.heap.size ng a la ca) ∧ Hid (BV wr (w.heap.size + 1) mg b lb cb) ∧ Hid (BV wr (w.heap.size + 1 + 1) false none 0 0) ∧ Hid (Below w.heap.size w wr) ∧ w.heap.size + 1 + 1 + 1 < wr.heap.size) (fun s6 _ => la - (intOf s6).toNat)
  case atStart =>
    refine ⟨0, List.replicate (la + lb) 0, rfl, by omega, Lib.hid ⟨by rw [List.length_replicate]; omega, ok_zeros _, by rw [val_zeros]; simp [val], fun j _ => getD_zeros _ _⟩, Lib.hid ?_, Lib.hid ?_, Lib.hid ?_, Lib.hid ?_, Lib.hid (by go_grown), by simp⟩
    · have := own_new (((w.alloc (.cells #[.bool ng, .slice a la ca] 29)).alloc (.cells #[.bool mg, .slice b lb cb] 29)).alloc (.cells #[.bool false, .slice none 0 0] 29)) (la + lb) 22
      simpa only [World.size_alloc] using this
    · exact (((BV.new _ _ _ _ _ _).alloc _).alloc _).alloc _
    · have := (((BV.new (w.alloc (.cells #[.bool ng, .slice a la ca] 29)) mg b lb cb 29).alloc (.cells #[.bool false, .slice none 0 0] 29)).alloc (.cells (madeCells #[.int .u64 0] (la + lb)) 22))
      simpa only [World.size_alloc] using this
    · have := ((BV.new ((w.alloc (.cells #[.bool ng, .slice a la ca] 29)).alloc (.cells #[.bool mg, .slice b lb cb] 29)) false none 0 0 29).alloc (.cells (madeCells #[.int .u64 0] (la + lb)) 22))
      simpa only [World.size_alloc] using this
  case round =>
    obtain ⟨i, os, rfl, hil, hM, hO, BA, BB, BR, hB, hsz⟩ := hrel
    obtain ⟨p0, p1, _, _⟩ := BA.out
    obtain ⟨p2, p3, _, _⟩ := BB.out
    obtain ⟨p4, p5, p6, p7⟩ := BR.out
    by_cases hi2 : i < la
    · obtain ⟨b1, o1, rfl, c1⟩ := HA.out.addr (by omega)
      have C1 := Lib.hid (c1 i hi2)
      have x0 := getD_ok hx i
      obtain ⟨x, hxk⟩ : ∃ x, xs.getD i 0 = x := ⟨_, rfl⟩
      rw [hxk] at x0
      have C1 : Hid (w.cell? ⟨b1, o1 + i, none⟩ = some (.int .u64 x)) := by rw [← hxk]; exact C1
      obtain ⟨x0, x1⟩ := x0
      have HX := Lib.hid hxk
      clear hxk c1
      go_wp2_with fail
      obtain ⟨wo, hwo⟩ : ∃ wo : World, wo = wr := ⟨_, rfl⟩
      clear hwo p0 p1 p2 p3 p4 p5 p6 p7
      have hM0 := hM
      go_loopw [7, 8] (fun s7 s8 wr => ∃ (k : Nat) (cy : Int) (os : List Int), s7 = .int .u64 cy ∧ s8 = .int .i64 k ∧ 0 ≤ cy ∧ cy < 65536 ∧ k ≤ lb ∧ Hid (MulTo xs ys os i k cy) ∧ Hid (Own wr (w.heap.size + 1 + 1 + 1) os) ∧ Hid (BV wr w.heap.size ng (some ⟨b1, o1, none⟩) la ca) ∧ Hid (BV wr (w.heap.size + 1) mg b lb cb) ∧ Hid (BV wr (w.heap.size + 1 + 1) false none 0 0) ∧ Hid (Below w.heap.size w wr) ∧ w.heap.size + 1 + 1 + 1 < wr.heap.size) (fun _ s8 _ => lb - (intOf s8).toNat)
      case atStart => exact ⟨0, 0, os, rfl, rfl, by decide, by decide, by omega, hM, hO, BA, BB, BR, hB, hsz⟩
      case round =>
        clear hM hM0 hO BA BB BR hB hsz os
        obtain ⟨k, cy, os, rfl, rfl, cy0, cy1, hk, hM, hO, BA, BB, BR, hB, hsz⟩ := hrel
        obtain ⟨p0, p1, _, _⟩ := BA.out
        obtain ⟨p2, p3, _, _⟩ := BB.out
        obtain ⟨p4, p5, p6, p7⟩ := BR.out
        have hol := hM.out.len
        by_cases hk2 : k < lb
        · obtain ⟨b2, o2, rfl, c2⟩ := HBB.out.addr (by omega)
          have y0 := getD_ok hy k
          obtain ⟨y, hyk⟩ : ∃ y, ys.getD k 0 = y := ⟨_, rfl⟩
          have d2 := cell_later hB.out (c2 k hk2)
          rw [hyk] at d2 y0
          obtain ⟨y0, y1⟩ := y0
          have HY := Lib.hid hyk
          have d1 := cell_later hB.out C1.out
          have o0 := getD_ok hM.out.ok (i + k)
          obtain ⟨o, hok⟩ : ∃ o, os.getD (i + k) 0 = o := ⟨_, rfl⟩
          have d3 := hO.out.cell (i + k) (by omega)
          have f3 := hO.out.froz (i + k) (by omega)
          rw [hok] at d3 o0
          obtain ⟨o0, o1'⟩ := o0
          have HO := Lib.hid hok
          obtain ⟨m0, m1⟩ := mul_small (c := 0) (o := 0) x0 x1 y0 y1
          have ST := Lib.hid (hM.out.step (t := o + x * y + cy) hx hy (by omega) (by omega) cy0 (by rw [HO.out, HX.out, HY.out]) (by omega))
          have OS := Lib.hid (hO.out.set (i + k) ((o + x * y + cy) % 65536) (by omega))
          have i1 : (i : Int) + (k : Int) < (la : Int) + (lb : Int) := by omega
          have i1' : i + k < la + lb := by omega
          have i2 : (k : Int) < (lb : Int) := by omega
          have i3 : (i : Int) < (la : Int) := by omega
          clear hyk hok c2
          go_wp2_with fail
          go_quiet (fail)
          go_wp2_with fail
          go_roundw
          case rel =>
            refine ⟨k + 1, (o + x * y + cy) / 65536, os.set (i + k) ((o + x * y + cy) % 65536), rfl, by go_num, by omega, by omega, by omega, ST, Lib.hid (((own_later hO.out (below_drewN (Below.refl _ _) nq))).set (i + k) _ (by omega)), Lib.hid ((BA.out.later (below_drewN (Below.refl _ _) nq)).other1 (by omega) _), Lib.hid ((BB.out.later (below_drewN (Below.refl _ _) nq)).other1 (by omega) _), Lib.hid ((BR.out.later (below_drewN (Below.refl _ _) nq)).other1 (by omega) _), Lib.hid ((below_drewN hB.out nq).setCell (by show w.heap.size ≤ w.heap.size + 1 + 1 + 1; omega) _), by simpa using hsz⟩
          case measure => simp [intOf]; omega
        · obtain rfl : k = lb := by omega
          have hz := hM.out.zero (i + k) (by omega)
          have d3 := hO.out.cell (i + k) (by omega)
          have f3 := hO.out.froz (i + k) (by omega)
          rw [hz] at d3
          have RW := Lib.hid (show MulTo xs ys (os.set (i + k) cy) (i + 1) 0 0 from by
            have := (show MulTo xs ys os i ys.length cy from by rw [ly]; exact hM.out).row (by omega) cy0 cy1
            rw [ly] at this; exact this)
          have OS := Lib.hid (hO.out.set (i + k) cy (by omega))
          have i1 : (i : Int) + (k : Int) < (la : Int) + (k : Int) := by omega
          have i1' : i + k < la + k := by omega
          clear hz
          go_wp2_with fail
          go_roundw
          case rel => exact ⟨i + 1, os.set (i + k) cy, by go_num, by omega, RW, OS, Lib.hid (BA.out.other1 (by omega) _), Lib.hid (BB.out.other1 (by omega) _), Lib.hid (BR.out.other1 (by omega) _), Lib.hid (hB.out.setCell (by show w.heap.size ≤ w.heap.size + 1 + 1 + 1; omega) _), by simpa using hsz⟩
          case measure => simp [intOf]; omega
    · obtain rfl : i = la := by omega
      have hv := hM.out.val'
      rw [List.take_of_length_le (by omega), show xs.getD i 0 = 0 from getD_out (by omega), Int.zero_mul, Int.mul_zero, Int.mul_zero, Int.add_zero, Int.add_zero] at hv
      have RD := hO.out.rd (show os.length = i + lb by have := hM.out.len; omega)
      have OKS := hM.out.ok
      have HT2 := Lib.hid (trim_any (!(ng == mg)) (some ⟨w.heap.size + 1 + 1 + 1, 0, none⟩) (i + lb) (i + lb) os wr RD OKS (by omega) n (Lib.hid (by rw [hn.out, hv])))
      clear RD OKS hv
      go_wp2_with fail
      refine HT2.out.mono ?_
      rintro e w1 ⟨ng1, a1, l1, c1, rfl, hv1, hb1⟩
      have BVH := Lib.hid (BR.out.later hb1)
      have HV1 := Lib.hid hv1
      have HB1 := Lib.hid hb1
      obtain ⟨k0, k1, k2, k3⟩ := BVH.out
      clear hv1 hb1
      go_wp2_with fail
      refine bodyPost_ret (v := .agg #[.bool ng1, .slice a1 l1 c1]) (by simp [results, Try.results31, go_sem, k0, k1]) rfl ?_
      refine RetBig.mk (HV1.out.setBV BVH.out _ _) ?_
      exact ((hB.out.trans (HB1.out.mono (by omega))).setCell (by show w.heap.size ≤ w.heap.size + 1 + 1; omega) _).setCell (by show w.heap.size ≤ w.heap.size + 1 + 1; omega) _
theorem times_any (ng mg : Bool) (a b : Option Addr) (la ca lb cb : Nat) (n m : Int) (w : World) (h : BigV w ng a la ca n) (h' : BigV w mg b lb cb m) (sa : la ≤ 400000) (sb : lb ≤ 400000) :
    Calls Try.prog 31 #[.agg #[.bool ng, .slice a la ca], .agg #[.bool mg, .slice b lb cb]] w (RetBig w (n * m)) := by
  obtain ⟨xs, rd, ok, cn, hv⟩ := h.rd
  obtain ⟨ys, rd', ok', cn', hv'⟩ := h'.rd
  have hng := h.hng
  have hmg := h'.hng
  refine times_mid ng mg a b la ca lb cb xs ys (n * m) w rd rd' ok ok' sa sb (Lib.hid ?_)
  rw [hv, hv', hng, hmg]
  by_cases c1 : n < 0 <;> by_cases c2 : m < 0 <;> simp [c1, c2, Int.neg_mul, Int.mul_neg]
end Go.Proofs.Ytkohefgendcofaa
