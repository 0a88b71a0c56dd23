/- The reference's big numbers: sizes, trim, OfU, Minus, Cmp. -/
import Derived.Test.YtbolifjkhoiphaaWideC
import Derived.Test.YtbolifjkhoiphaaBig
import Derived.WalkKit
import Derived.WalkSpells
import Derived.WalkLawsBesides
import Derived.Handy
import Derived.Lib.Hide
import Derived.Deep.QuietTactic
import Derived.BigQuiet
import Derived.LoopTactic
import Derived.Deep.LoopGhost
import Derived.Deep.RegionHeld3
import Derived.Deep.RegionWith
import Derived.Outline
import Derived.Deep.DeepCutAuto
namespace Go.Proofs.Ytbolifjkhoiphaa
open Go.RowKit Go.Proofs.Big
set_option linter.unusedVariables false
set_option maxRecDepth 100000
set_option linter.unusedSimpArgs false

theorem sizes_any (a b : Option Addr) (la ca lb cb : Nat) (xs ys : List Int) (w : World) (ha : Rd w a la ca xs) (hb : Rd w b lb cb ys) (hx : Ok xs) (hy : Ok ys) (cx : Canon xs) (cy : Canon ys) (sa : la ≤ 1000000) (sb : lb ≤ 1000000) (m : Int)
    (hm : Hid (m = cmpI (val xs) (val ys))) :
    Calls Try.prog 81 #[.slice a la ca, .slice b lb cb] w fun e w' => e = .returned (.int .i64 m) ∧ ∃ n, w' = w.drewN n := by
  have lx := ha.hlen
  have ly := hb.hlen
  rcases Nat.lt_trichotomy la lb with h | h | h
  · have ne : ((la : Int) == (lb : Int)) = false := by rw [beq_eq_false_iff_ne]; omega
    have ne2 : ((la : Int) != (lb : Int)) = true := by simp; omega
    obtain rfl : m = -1 := by
      have := cmp_len hx hy cy (by omega)
      rw [hm.out, cmpI, if_neg (by omega), if_pos this]
    go_enter Try.func81, Try.ntmps81
    go_wp2
    go_returns
    exact ⟨rfl, 0, rfl⟩
  · subst h
    go_enter Try.func81, Try.ntmps81
    go_wp2
    go_loopw [5] (fun i wr => ∃ k : Nat, i = .int .i64 ((k : Int) - 1) ∧ k ≤ la ∧ Hid (∀ j, k ≤ j → xs.getD j 0 = ys.getD j 0) ∧ ∃ n, wr = w.drewN n) (fun i _ => (intOf i + 1).toNat)
    case atStart => exact ⟨la, rfl, Nat.le_refl _, Lib.hid (fun j hj => by
      rw [List.getD_eq_getElem?_getD, List.getD_eq_getElem?_getD, List.getElem?_eq_none (by omega), List.getElem?_eq_none (by omega)]), 0, rfl⟩
    case round =>
      obtain ⟨k, rfl, hk, he, n, rfl⟩ := hrel
      cases k with
      | zero =>
        have e0 : xs = ys := eq_all (by omega) (fun j _ => he.out j (Nat.zero_le _))
        obtain rfl : m = 0 := by rw [hm.out, e0, cmpI, if_pos rfl]
        rw [show (((0 : Nat) : Int) - 1) = -1 from rfl]
        go_wp2
        go_returns
        exact ⟨rfl, n, rfl⟩
      | succ k =>
        rw [show (((k + 1 : Nat) : Int) - 1) = (k : Int) from by omega]
        obtain ⟨b1, o1, rfl, c1⟩ := ha.addr (by omega)
        obtain ⟨b2, o2, rfl, c2⟩ := hb.addr (by omega)
        have d1 := c1 k (by omega)
        have d2 := c2 k (by omega)
        have hkl : (k : Int) < (la : Int) := by omega
        obtain ⟨x, hxk⟩ : ∃ x, xs.getD k 0 = x := ⟨_, rfl⟩
        obtain ⟨y, hyk⟩ : ∃ y, ys.getD k 0 = y := ⟨_, rfl⟩
        rw [hxk] at d1
        rw [hyk] at d2
        have HX := Lib.hid hxk
        have HY := Lib.hid hyk
        have HC1 := Lib.hid c1
        have HC2 := Lib.hid c2
        clear hxk hyk c1 c2
        by_cases l1 : x < y
        · obtain rfl : m = -1 := by
            have := cmp_at hx hy (by omega) k (by omega) (fun j hj => he.out j (by omega)) (by rw [HX.out, HY.out]; exact l1)
            rw [hm.out, cmpI, if_neg (by omega), if_pos this]
          go_wp2
          go_quiet (fail)
          go_wp2
          go_returns
          exact ⟨rfl, n + nq, by simp [World.drewN, Nat.add_assoc]⟩
        · by_cases l2 : y < x
          · obtain rfl : m = 1 := by
              have := cmp_at hy hx (by omega) k (by omega) (fun j hj => (he.out j (by omega)).symm) (by rw [HX.out, HY.out]; exact l2)
              rw [hm.out, cmpI, if_neg (by omega), if_neg (by omega)]
            go_wp2
            go_quiet (fail)
            go_wp2
            go_quiet (fail)
            go_wp2
            go_returns
            exact ⟨rfl, _, by simp [World.drewN, Nat.add_assoc]; rfl⟩
          · have exy : xs.getD k 0 = ys.getD k 0 := by rw [HX.out, HY.out]; omega
            have HE := Lib.hid exy
            clear exy
            go_wp2
            go_quiet (fail)
            go_wp2
            go_quiet (fail)
            go_wp2
            go_roundw
            case rel => exact ⟨k, rfl, by omega, Lib.hid (fun j hj => by
              rcases Nat.lt_or_eq_of_le hj with h | h
              · exact he.out j (by omega)
              · subst h; exact HE.out), _, by simp [World.drewN, Nat.add_assoc]; rfl⟩
            case measure => first | (simp [intOf]; done) | (simp [intOf]; omega)
  · have ne : ((la : Int) == (lb : Int)) = false := by rw [beq_eq_false_iff_ne]; omega
    have ne2 : ((la : Int) != (lb : Int)) = true := by simp; omega
    obtain rfl : m = 1 := by
      have := cmp_len hy hx cx (by omega)
      rw [hm.out, cmpI, if_neg (by omega), if_neg (by omega)]
    go_enter Try.func81, Try.ntmps81
    go_wp2
    go_returns
    exact ⟨rfl, 0, rfl⟩

theorem trim_any (ng : Bool) (a : Option Addr) (la ca : Nat) (xs : List Int) (w : World) (ha : Rd w a la ca xs) (hx : Ok xs) (sa : la ≤ 1000000) (n : Int) (hn : Hid (n = if ng then -val xs else val xs)) :
    Calls Try.prog 80 #[.agg #[.bool ng, .slice a la ca]] w (RetBig w n) := by
  have hac := ha.hcap
  have lx := ha.hlen
  have HA := Lib.hid ha
  clear ha
  go_enter Try.func80, Try.ntmps80
  go_wp2
  go_loopg [] la (fun k wr => wr = (w.alloc (.cells #[.bool ng, .slice a k ca] 112)).alloc (.cells #[.bool false, .slice none 0 0] 112) ∧ k ≤ la ∧ Hid (val (xs.take k) = val xs))
  case atStart => exact ⟨rfl, Nat.le_refl _, Lib.hid (by rw [← lx, List.take_length])⟩
  case round =>
    obtain ⟨rfl, hk, hv⟩ := hrel
    have fin : ∀ (c : Canon (xs.take gk)) (ng' : Bool), ng' = (ng && decide (0 < gk)) → ∀ w' : World, Below w.heap.size w w' → BigV w' ng' a gk ca n := by
      intro c ng' hn' w' hb
      rw [hn.out]
      have hl : (xs.take gk).length = gk := by rw [List.length_take]; omega
      have okt : Ok (xs.take gk) := fun x h => hx x (List.mem_of_mem_take h)
      have v0 := (val_bd okt).1
      have vz := val_zero_iff okt c
      rw [hv.out] at v0 vz
      have rz : xs.take gk = [] ↔ gk = 0 := by rw [← List.length_eq_zero_iff, hl]
      refine ⟨⟨xs.take gk, ⟨hl, by have := HA.out.hcap; omega, fun p => ?_⟩, okt, c, ?_⟩, ?_⟩
      · obtain ⟨b, off, e, cc⟩ := HA.out.addr (by omega)
        refine ⟨b, off, e, fun k hk' => ?_⟩
        have := cell_later hb (cc k (by omega))
        rw [this, List.getD_eq_getElem?_getD, List.getD_eq_getElem?_getD, List.getElem?_take_of_lt hk']
      · rw [hv.out]; cases ng <;> simp <;> (try split) <;> omega
      · rw [hn']
        cases ng
        · simp; omega
        · by_cases g0 : gk = 0
          · have := vz.2 (rz.2 g0); simp [g0]; omega
          · have : val xs ≠ 0 := fun h => g0 (rz.1 (vz.1 h))
            simp; omega
    by_cases g0 : gk = 0
    · subst g0
      have FIN := Lib.hid (fin (.inl (by simp)) false (by simp))
      clear fin
      go_wp2
      go_returns
      exact RetBig.mk (FIN.out _ (by go_grown)) (by go_grown)
    · obtain ⟨b1, o1, rfl, c1⟩ := HA.out.addr (by omega)
      obtain ⟨j, rfl⟩ : ∃ j, gk = j + 1 := ⟨gk - 1, by omega⟩
      have d1 := c1 j (by omega)
      have hb1 := World.block_lt_of_cell? w _ d1
      simp only at hb1
      have hb2 : b1 < w.heap.size + 1 := by omega
      have HC1 := Lib.hid c1
      clear c1
      have hjc : (j : Int) ≤ (ca : Int) := by omega
      obtain ⟨x, hxk⟩ : ∃ x, xs.getD j 0 = x := ⟨_, rfl⟩
      rw [hxk] at d1
      have HX := Lib.hid hxk
      clear hxk
      have tk := val_take_succ xs j (by omega)
      by_cases xz : x = 0
      · subst xz
        rw [HX.out] at tk
        have HV := Lib.hid (show val (xs.take j) = val xs from by have := hv.out; omega)
        clear fin tk
        go_wp2
        go_roundg j
        case measure => omega
        case rel => exact ⟨rfl, by omega, HV⟩
      · have xzb : (x == 0) = false := by simpa using xz
        have FIN := Lib.hid (fin (.inr (by
          rw [List.length_take, Nat.min_eq_left (by omega), List.getD_eq_getElem?_getD, List.getElem?_take_of_lt (by omega), ← List.getD_eq_getElem?_getD]
          rw [show j + 1 - 1 = j from rfl, HX.out]; exact xz)) ng (by simp))
        clear fin tk
        go_wp2
        go_returns
        exact RetBig.mk (FIN.out _ (by go_grown)) (by go_grown)

theorem Try.info23 : (Try.prog.info? 118).map (fun i => (i.zero, i.size, i.bytes)) = some (some (.int .u64 0), 1, 8) := by kernel_rfl
theorem canon_snoc {xs : List Int} {x : Int} (h : x ≠ 0) : Canon (xs ++ [x]) := by
  right
  rw [List.length_append, List.getD_eq_getElem?_getD]
  simpa using h
set_option maxHeartbeats 1000000 in
theorem ofu_any (n : Int) (n0 : 0 ≤ n) (n1 : n < 18446744073709551616) (w : World) :
    Calls Try.prog 61 #[.int .u64 n] w (RetBig w n) := by
  obtain ⟨i0, hi, hz0, hz1, hz2⟩ := info_parts Try.info23
  go_enter Try.func61, Try.ntmps61
  go_wp2
  go_loopw [0] (fun s wr => ∃ (m : Int) (xs : List Int) (a : Option Addr) (cap : Nat), s = .int .u64 m ∧ 0 ≤ m ∧ m < 18446744073709551616 ∧ wr.cell? ⟨w.heap.size, 0, none⟩ = some (.bool false) ∧ wr.cell? ⟨w.heap.size, 1, none⟩ = some (.slice none 0 0) ∧ wr.frozen? ⟨w.heap.size, 0, none⟩ = false ∧ wr.frozen? ⟨w.heap.size, 1, none⟩ = false ∧
      wr.cell? ⟨w.heap.size + 1, 0, none⟩ = some (.bool false) ∧ wr.cell? ⟨w.heap.size + 1, 1, none⟩ = some (.slice a xs.length cap) ∧ wr.frozen? ⟨w.heap.size + 1, 1, none⟩ = false ∧
      wr.ownsRow (w.heap.size + 2) 118 1 (.slice a xs.length cap) xs.length (xs.map (Value.int .u64)) ∧ w.heap.size + 2 ≤ wr.heap.size ∧ Hid (Ok xs ∧ n = val xs + P xs.length * m ∧ (m = 0 → Canon xs)) ∧ Hid (Below w.heap.size w wr)) (fun s _ => (intOf s).toNat)
  case atStart => exact ⟨n, [], none, 0, rfl, n0, n1, by simp [go_sem], by simp [go_sem], by simp [go_sem], by simp [go_sem], by simp [go_sem], by simp [go_sem], by simp [go_sem], World.ownsRow_nil _ _ _ _, by simp, Lib.hid ⟨ok_nil, by simp [val, P_zero], fun _ => .inl rfl⟩, Lib.hid (by go_grown)⟩
  case round =>
    obtain ⟨m, xs, a, cap, rfl, m0, m1, k0, k1, k2, k3, k4, k5, k6, hown, hsz, hn, hB⟩ := hrel
    by_cases mz : m = 0
    · subst mz
      have RD := Lib.hid (rd_of_owns2 (ownsRow_setCell_below (ownsRow_setCell_below hown (a := ⟨w.heap.size, 0, none⟩) (by show w.heap.size < w.heap.size + 2; omega) (.bool false)) (a := ⟨w.heap.size, 1, none⟩) (by show w.heap.size < w.heap.size + 2; omega) (.slice a xs.length cap)))
      obtain ⟨o1, o2, o3⟩ := hn.out
      have FIN := Lib.hid (show val xs = (if n < 0 then -n else n) from by rw [if_neg (by omega)]; omega)
      have OK := Lib.hid o1
      have CN := Lib.hid (o3 rfl)
      have NG := Lib.hid (show false = decide (n < 0) from by simp; omega)
      clear o1 o2 o3
      go_wp2
      refine bodyPost_ret (v := .agg #[.bool false, .slice a xs.length cap]) (by simp [results, Try.results61, go_sem, k0, k1]) rfl ?_
      refine RetBig.mk ⟨⟨xs, RD.out, OK.out, CN.out, FIN.out⟩, NG.out⟩ ?_
      exact (hB.out.setCell (by show w.heap.size ≤ w.heap.size; omega) _).setCell (by show w.heap.size ≤ w.heap.size; omega) _
    · have mzb : (m == 0) = false := by simpa using mz
      have l5 : xs.length ≤ 4 := by
        obtain ⟨o1, o2, o3⟩ := hn.out
        by_cases h : xs.length ≤ 4
        · exact h
        · have h1 := P_mono (show 5 ≤ xs.length by omega)
          have h2 : P 5 = 1208925819614629174706176 := by unfold P; rfl
          have h3 : P xs.length * 1 ≤ P xs.length * m := Int.mul_le_mul_of_nonneg_left (by omega) (by omega)
          have h4 := (val_bd o1).1
          omega
      have hB2 : w.heap.size + 1 < wr.heap.size := by omega
      have hB1 : w.heap.size < wr.heap.size := by omega
      have hB3 : w.heap.size + 2 ≤ wr.heap.size + 1 := by omega
      go_wp2_with (at_builtin; refine wpList_append_own _ rfl _ _ 110 rfl (w.heap.size + 2) 118 i0 (.int .u64 0) 1 8 Try.underlying110 hi hz0 hz1 hz2 rfl (by decide) _ _ _ rfl (hown.alloc _) ⟨wr.heap.size, 0, none⟩ 1 1 [.int .u64 (m % 65536)] rfl rfl ?c1 ?c2 ?c3 ?c4 ?c5 ?_)
      case c1 => exact cell_one_new _ _ _
      case c2 => simp [Value.oneCell']
      case c3 => unfold maxLen; omega
      case c4 => omega
      case c5 => simp; omega
      intro v1 w1 hown1 hgrow _
      have hown2 : w1.ownsRow (w.heap.size + 2) 118 1 v1 (xs ++ [m % 65536]).length ((xs ++ [m % 65536]).map (Value.int .u64)) := by
        simpa using hown1
      obtain ⟨a1, cap1, rfl, rd1⟩ := rd_of_owns hown2
      obtain ⟨g1, f1⟩ := grown_keeps hown hgrow (by omega) (show w.heap.size < w.heap.size + 2 by omega)
      obtain ⟨g2, f2⟩ := grown_keeps hown hgrow (by omega) (show w.heap.size + 1 < w.heap.size + 2 by omega)
      have j0 := g1 _ _ k0
      have j1 := g1 _ _ k1
      have j2 := (f1 0).trans k2
      have j3 := (f1 1).trans k3
      have j4 := g2 _ _ k4
      have j5 := g2 _ _ k5
      have j6 := (f2 1).trans k6
      have B1 := Lib.hid (grown_below (B := w.heap.size) hown hgrow (by omega) (by omega) hB.out)
      have HS : w.heap.size + 2 ≤ w1.heap.size := by have := hgrow.size; simp at this; omega
      have OW := Lib.hid hown2
      obtain ⟨o1, o2, o3⟩ := hn.out
      have HN := Lib.hid (show Ok (xs ++ [m % 65536]) ∧ n = val (xs ++ [m % 65536]) + P (xs ++ [m % 65536]).length * (m / 65536) ∧ (m / 65536 = 0 → Canon (xs ++ [m % 65536])) from
        ⟨ok_snoc o1 (by omega) (by omega), by
          rw [val_snoc, List.length_append, P_add, o2]
          have p1 : P [m % 65536].length = 65536 := rfl
          rw [p1, Int.mul_assoc]
          have : P xs.length * m = P xs.length * (m % 65536) + P xs.length * (65536 * (m / 65536)) := by rw [← Int.mul_add]; congr 1; omega
          omega, fun h => canon_snoc (by omega)⟩)
      clear g1 f1 g2 f2 hown hown1 hown2 hgrow rd1 o1 o2 o3 k0 k1 k2 k3 k4 k5 k6 hn hB
      go_wp2
      go_roundw
      case rel =>
        refine ⟨m / 65536, xs ++ [m % 65536], a1, cap1, rfl, by omega, by omega, ?_, ?_, ?_, ?_, ?_, ?_, ?_, ownsRow_setCell_below OW.out (by show w.heap.size + 1 < w.heap.size + 2; omega) _, by simp; omega, HN, Lib.hid (B1.out.setCell (by show w.heap.size ≤ w.heap.size + 1; omega) _)⟩
        all_goals simp [go_sem, j0, j1, j2, j3, j4, j5, j6]
      case measure => simp [intOf]; omega
end Go.Proofs.Ytbolifjkhoiphaa
/- The reference's big numbers: Minus, Cmp, Plus. -/
namespace Go.Proofs.Ytbolifjkhoiphaa
open Go.RowKit Go.Proofs.Big
set_option linter.unusedVariables false
set_option maxRecDepth 100000
set_option linter.unusedSimpArgs false

theorem minus_any (ng : Bool) (a : Option Addr) (la ca : Nat) (n : Int) (w : World) (h : BigV w ng a la ca n) (sa : la ≤ 1000000) :
    Calls Try.prog 59 #[.agg #[.bool ng, .slice a la ca]] w (RetBig w (-n)) := by
  have H := Lib.hid h
  obtain ⟨xs, rd, ok, cn, hv⟩ := h.rd
  have hng := h.hng
  have HT := Lib.hid (fun (w1 : World) (hb : Below w.heap.size w w1) => trim_any (!ng) a la ca xs w1 (rd.later hb) ok sa (-n) (Lib.hid (by
    rw [hv, hng]
    by_cases c : n < 0
    · simp [c]
    · simp [c])))
  clear h rd ok cn hv hng
  go_enter Try.func59, Try.ntmps59
  go_wp2_with fail
  refine (HT.out _ (by go_grown)).mono ?_
  rintro e w1 ⟨ng1, a1, l1, c1, rfl, hv1, hb1⟩
  have bv := ((BV.new (w.alloc (.cells #[.bool ng, .slice a la ca] 112)) false none 0 0 112).later hb1)
  simp only [World.size_alloc] at bv
  have BVH := Lib.hid bv
  have HV1 := Lib.hid hv1
  have HB1 := Lib.hid hb1
  obtain ⟨k0, k1, k2, k3⟩ := bv
  clear hv1 hb1
  go_wp2_with fail
  refine bodyPost_ret (v := .agg #[.bool ng1, .slice a1 l1 c1]) (by simp [results, Try.results59, go_sem, k0, k1]) rfl ?_
  refine RetBig.mk (HV1.out.setBV BVH.out _ _) ?_
  refine Below.setCell (Below.setCell (Below.trans ?_ (HB1.out.mono ?_)) ?_ _) ?_ _
  · go_grown
  · simp; omega
  · show w.heap.size ≤ w.heap.size + 1; omega
  · show w.heap.size ≤ w.heap.size + 1; omega
theorem bcmp_any (ng mg : Bool) (a b : Option Addr) (la ca lb cb : Nat) (n m r : Int) (w : World) (h : BigV w ng a la ca n) (h' : BigV w mg b lb cb m) (sa : la ≤ 1000000) (sb : lb ≤ 1000000) (hr : Hid (r = cmpI n m)) :
    Calls Try.prog 73 #[.agg #[.bool ng, .slice a la ca], .agg #[.bool mg, .slice b lb cb]] w fun e w' => e = .returned (.int .i64 r) ∧ Below w.heap.size w w' := by
  obtain ⟨xs, rd, ok, cn, hv⟩ := h.rd
  obtain ⟨ys, rd', ok', cn', hv'⟩ := h'.rd
  have hng := h.hng
  have hmg := h'.hng
  by_cases c1 : n < 0 <;> by_cases c2 : m < 0
  · rw [decide_eq_true c1] at hng; rw [decide_eq_true c2] at hmg; subst hng; subst hmg
    rw [if_pos c1] at hv; rw [if_pos c2] at hv'
    have HT := Lib.hid (fun (w1 : World) (hb : Below w.heap.size w w1) => sizes_any b a lb cb la ca ys xs w1 (rd'.later hb) (rd.later hb) ok' ok cn' cn sb sa r (Lib.hid (by rw [hr.out, hv, hv']; unfold cmpI; repeat' split; all_goals omega)))
    clear h h' rd rd' ok ok' cn cn' hv hv'
    go_enter Try.func73, Try.ntmps73
    go_wp2_with fail
    refine (HT.out _ (by go_grown)).mono ?_
    rintro e w1 ⟨rfl, nd, rfl⟩
    go_wp2_with fail
    go_returns
    exact ⟨rfl, below_drewN (by go_grown) _⟩
  · rw [decide_eq_true c1] at hng; rw [decide_eq_false c2] at hmg; subst hng; subst hmg
    obtain rfl : r = -1 := by rw [hr.out]; unfold cmpI; rw [if_neg (by omega), if_pos (by omega)]
    clear h h' rd rd' ok ok' cn cn' hv hv'
    go_enter Try.func73, Try.ntmps73
    go_wp2_with fail
    go_returns
    exact ⟨rfl, by go_grown⟩
  · rw [decide_eq_false c1] at hng; rw [decide_eq_true c2] at hmg; subst hng; subst hmg
    obtain rfl : r = 1 := by rw [hr.out]; unfold cmpI; rw [if_neg (by omega), if_neg (by omega)]
    clear h h' rd rd' ok ok' cn cn' hv hv'
    go_enter Try.func73, Try.ntmps73
    go_wp2_with fail
    go_returns
    exact ⟨rfl, by go_grown⟩
  · rw [decide_eq_false c1] at hng; rw [decide_eq_false c2] at hmg; subst hng; subst hmg
    rw [if_neg c1] at hv; rw [if_neg c2] at hv'
    have HT := Lib.hid (fun (w1 : World) (hb : Below w.heap.size w w1) => sizes_any a b la ca lb cb xs ys w1 (rd.later hb) (rd'.later hb) ok ok' cn cn' sa sb r (Lib.hid (by rw [hr.out, hv, hv'])))
    clear h h' rd rd' ok ok' cn cn' hv hv'
    go_enter Try.func73, Try.ntmps73
    go_wp2_with fail
    refine (HT.out _ (by go_grown)).mono ?_
    rintro e w1 ⟨rfl, nd, rfl⟩
    go_wp2_with fail
    go_returns
    exact ⟨rfl, below_drewN (by go_grown) _⟩
end Go.Proofs.Ytbolifjkhoiphaa
/- The reference's big numbers: Plus. -/
namespace Go.Proofs.Ytbolifjkhoiphaa
open Go.RowKit Go.Proofs.Big
set_option linter.unusedVariables false
set_option maxRecDepth 100000
set_option linter.unusedSimpArgs false


theorem val_take_all (xs : List Int) (k : Nat) : val (xs.take (k + 1)) = val (xs.take k) + P k * xs.getD k 0 := by
  by_cases h : k < xs.length
  · exact val_take_succ xs k h
  · rw [List.take_of_length_le (by omega), List.take_of_length_le (by omega), List.getD_eq_getElem?_getD, List.getElem?_eq_none (by omega)]
    simp
theorem bv_grown {wr w1 : World} {base : Nat} {e : TypeId} {sz : Nat} {v : Value} {n : Nat} {xs : List Value} {o : Obj} (hown : wr.ownsRow base e sz v n xs) (hgrow : (wr.alloc o).grownBy w1 v.ownBlock) (hB : base ≤ wr.heap.size) {b : Nat} (hb : b < base)
    {ng : Bool} {a : Option Addr} {l c : Nat} (h : BV wr b ng a l c) : BV w1 b ng a l c := by
  obtain ⟨g, f⟩ := grown_keeps hown hgrow hB hb
  exact ⟨g _ _ h.c0, g _ _ h.c1, (f 0).trans h.f0, (f 1).trans h.f1⟩
theorem getD_out {xs : List Int} {k : Nat} (h : ¬ k < xs.length) : xs.getD k 0 = 0 := by
  rw [List.getD_eq_getElem?_getD, List.getElem?_eq_none (by omega)]; rfl
/-- the sum so far -/
structure SumTo (xs ys os : List Int) (i M : Nat) (cy : Int) : Prop where
  len : os.length = i
  ok : Ok os
  sum : val os + P i * cy = val (xs.take i) + val (ys.take i)
  top : M < i → cy = 0
theorem SumTo.step {xs ys os : List Int} {i M : Nat} {cy s : Int} (h : SumTo xs ys os i M cy) (hx : Ok xs) (hy : Ok ys) (lx : xs.length ≤ M) (ly : ys.length ≤ M) (c0 : 0 ≤ cy) (c1 : cy ≤ 1) (hs : s = cy + xs.getD i 0 + ys.getD i 0) :
    SumTo xs ys (os ++ [s % 65536]) (i + 1) M (s / 65536) ∧ 0 ≤ s / 65536 ∧ s / 65536 ≤ 1 := by
  have g1 := getD_ok hx i
  have g2 := getD_ok hy i
  refine ⟨⟨by simp [h.len], ok_snoc h.ok (by omega) (by omega), ?_, fun t => ?_⟩, by omega, by omega⟩
  · rw [val_snoc, h.len, val_take_all, val_take_all, P_succ, Int.mul_comm 65536, Int.mul_assoc]
    have k := h.sum
    have : P i * (s % 65536) + P i * (65536 * (s / 65536)) = P i * s := by rw [← Int.mul_add]; congr 1; omega
    have e : P i * s = P i * cy + P i * xs.getD i 0 + P i * ys.getD i 0 := by rw [hs, Int.mul_add, Int.mul_add]
    omega
  · have e1 : xs.getD i 0 = 0 := getD_out (by omega)
    have e2 : ys.getD i 0 = 0 := getD_out (by omega)
    omega
set_option maxHeartbeats 4000000 in
theorem plus_same (ng : Bool) (a b : Option Addr) (la ca lb cb M : Nat) (xs ys : List Int) (n : Int) (w : World) (ha : Rd w a la ca xs) (hb : Rd w b lb cb ys) (hx : Ok xs) (hy : Ok ys) (sa : la ≤ M) (sb : lb ≤ M) (sM : M ≤ 900000)
    (hn : Hid (n = if ng then -(val xs + val ys) else val xs + val ys)) :
    Calls Try.prog 57 #[.agg #[.bool ng, .slice a la ca], .agg #[.bool ng, .slice b lb cb]] w (RetBig w n) := by
  obtain ⟨i0, hi, hz0, hz1, hz2⟩ := info_parts Try.info23
  have lx := ha.hlen
  have ly := hb.hlen
  have HA := Lib.hid ha
  have HBB := Lib.hid hb
  have sgn : (ng == ng) = true := by simp
  clear ha hb
  go_enter Try.func57, Try.ntmps57
  go_wp2_with fail
  go_loopw [5, 6, 7] (fun s5 s6 s7 wr => ∃ (i : Nat) (cy : Int) (os : List Int) (ao : Option Addr) (co : Nat), s5 = .slice ao i co ∧ s6 = .int .u64 cy ∧ s7 = .int .i64 i ∧ 0 ≤ cy ∧ cy ≤ 1 ∧ i ≤ M + 1 ∧ Hid (SumTo xs ys os i M cy) ∧
      wr.ownsRow (w.heap.size + 3) 118 1 (.slice ao i co) i (os.map (Value.int .u64)) ∧ w.heap.size + 3 ≤ wr.heap.size ∧ Hid (BV wr w.heap.size ng a la ca) ∧ Hid (BV wr (w.heap.size + 1) ng b lb cb) ∧ Hid (BV wr (w.heap.size + 1 + 1) false none 0 0) ∧ Hid (Below w.heap.size w wr)) (fun _ _ s7 _ => M + 2 - (intOf s7).toNat)
  case atStart =>
    refine ⟨0, 0, [], none, 0, rfl, rfl, rfl, by decide, by decide, by omega, Lib.hid ⟨rfl, ok_nil, by simp [val], fun h => by omega⟩, World.ownsRow_nil _ _ _ _, by simp, Lib.hid ?_, Lib.hid ?_, Lib.hid ?_, Lib.hid (by go_grown)⟩
    · exact ((BV.new _ _ _ _ _ _).alloc _).alloc _
    · have := ((BV.new (w.alloc (.cells #[.bool ng, .slice a la ca] 112)) ng b lb cb 112).alloc (.cells #[.bool false, .slice none 0 0] 112))
      simpa only [World.size_alloc] using this
    · have := (BV.new ((w.alloc (.cells #[.bool ng, .slice a la ca] 112)).alloc (.cells #[.bool ng, .slice b lb cb] 112)) false none 0 0 112)
      simpa only [World.size_alloc] using this
  case round =>
    obtain ⟨i, cy, os, ao, co, rfl, rfl, rfl, cy0, cy1, iM, hS, hown, hsz, BA, BB, BR, hB⟩ := hrel
    obtain ⟨p0, p1, _, _⟩ := BA.out
    obtain ⟨p2, p3, _, _⟩ := BB.out
    obtain ⟨p4, p5, p6, p7⟩ := BR.out
    have hlen := hS.out.len
    have ap0 : w.heap.size < wr.heap.size := by omega
    have ap1 : w.heap.size + 1 < wr.heap.size := by omega
    have ap2 : w.heap.size + 1 + 1 < wr.heap.size := by omega
    by_cases hil : i < la
    · by_cases hjl : i < lb
      · obtain ⟨b1, o1, rfl, c1⟩ := HA.out.addr (by omega)
        have d1 := cell_later hB.out (c1 i (by omega))
        have x0 := getD_ok hx i
        obtain ⟨x, hxk⟩ : ∃ x, xs.getD i 0 = x := ⟨_, rfl⟩
        rw [hxk] at d1 x0
        obtain ⟨x0, x1⟩ := x0
        have z1 := World.block_lt_of_cell? wr _ d1
        simp only at z1
        obtain ⟨b2, o2, rfl, c2⟩ := HBB.out.addr (by omega)
        have d2 := cell_later hB.out (c2 i (by omega))
        have y0 := getD_ok hy i
        obtain ⟨y, hyk⟩ : ∃ y, ys.getD i 0 = y := ⟨_, rfl⟩
        rw [hyk] at d2 y0
        obtain ⟨y0, y1⟩ := y0
        have z2 := World.block_lt_of_cell? wr _ d2
        simp only at z2
        have itop : i ≤ M := Nat.le_of_not_lt (fun h => by have := hS.out.top h; omega)
        have ST := hS.out.step (s := cy + x + y) hx hy (by omega) (by omega) cy0 cy1 (by rw [hxk, hyk])
        have ST1 := Lib.hid ST.1
        obtain ⟨_, st0, st1⟩ := ST
        have HX := Lib.hid hxk
        have HY := Lib.hid hyk
        clear hxk hyk c1 c2
        go_wp2_with (at_builtin; refine wpList_append_own _ rfl _ _ 110 rfl (w.heap.size + 3) 118 i0 (.int .u64 0) 1 8 Try.underlying110 hi hz0 hz1 hz2 rfl (by decide) _ _ _ rfl (hown.alloc _) ⟨wr.heap.size, 0, none⟩ 1 1 [.int .u64 ((cy + x + y) % 65536)] rfl rfl ?c1 ?c2 ?c3 ?c4 ?c5 ?_)
        case c1 => exact cell_one_new _ _ _
        case c2 => simp [Value.oneCell']
        case c3 => unfold maxLen; omega
        case c4 => omega
        case c5 => simp; omega
        intro v1 w1 hown1 hgrow _
        have hown2 : w1.ownsRow (w.heap.size + 3) 118 1 v1 (i + 1) ((os ++ [(cy + x + y) % 65536]).map (Value.int .u64)) := by
          simpa using hown1
        obtain ⟨a1, cap1, rfl, rd1⟩ := rd_of_owns hown2
        have X1 := Lib.hid (bv_grown hown hgrow (by omega) (show w.heap.size < w.heap.size + 3 by omega) BA.out)
        have X2 := Lib.hid (bv_grown hown hgrow (by omega) (show w.heap.size + 1 < w.heap.size + 3 by omega) BB.out)
        have X3 := Lib.hid (bv_grown hown hgrow (by omega) (show w.heap.size + 1 + 1 < w.heap.size + 3 by omega) BR.out)
        have B1 := Lib.hid (grown_below (B := w.heap.size) hown hgrow (by omega) (by omega) hB.out)
        have HS : w.heap.size + 3 ≤ w1.heap.size := by have := hgrow.size; simp at this; omega
        have OW := Lib.hid hown2
        clear hown hown1 hown2 hgrow rd1 BA BB BR hB
        go_wp2
        go_roundw
        case rel =>
          exact ⟨i + 1, (cy + x + y) / 65536, os ++ [(cy + x + y) % 65536], a1, cap1, rfl, rfl, by go_num, st0, st1, by omega, ST1, OW.out, HS, X1, X2, X3, B1⟩
        case measure => simp [intOf]; omega
      · obtain ⟨b1, o1, rfl, c1⟩ := HA.out.addr (by omega)
        have d1 := cell_later hB.out (c1 i (by omega))
        have x0 := getD_ok hx i
        obtain ⟨x, hxk⟩ : ∃ x, xs.getD i 0 = x := ⟨_, rfl⟩
        rw [hxk] at d1 x0
        obtain ⟨x0, x1⟩ := x0
        have z1 := World.block_lt_of_cell? wr _ d1
        simp only at z1
        have hyk : ys.getD i 0 = 0 := getD_out (by omega)
        have itop : i ≤ M := Nat.le_of_not_lt (fun h => by have := hS.out.top h; omega)
        have ST := hS.out.step (s := cy + x) hx hy (by omega) (by omega) cy0 cy1 (by rw [hxk, hyk]; omega)
        have ST1 := Lib.hid ST.1
        obtain ⟨_, st0, st1⟩ := ST
        have HX := Lib.hid hxk
        have HY := Lib.hid hyk
        clear hxk hyk c1
        go_wp2_with (at_builtin; refine wpList_append_own _ rfl _ _ 110 rfl (w.heap.size + 3) 118 i0 (.int .u64 0) 1 8 Try.underlying110 hi hz0 hz1 hz2 rfl (by decide) _ _ _ rfl (hown.alloc _) ⟨wr.heap.size, 0, none⟩ 1 1 [.int .u64 ((cy + x) % 65536)] rfl rfl ?c1 ?c2 ?c3 ?c4 ?c5 ?_)
        case c1 => exact cell_one_new _ _ _
        case c2 => simp [Value.oneCell']
        case c3 => unfold maxLen; omega
        case c4 => omega
        case c5 => simp; omega
        intro v1 w1 hown1 hgrow _
        have hown2 : w1.ownsRow (w.heap.size + 3) 118 1 v1 (i + 1) ((os ++ [(cy + x) % 65536]).map (Value.int .u64)) := by
          simpa using hown1
        obtain ⟨a1, cap1, rfl, rd1⟩ := rd_of_owns hown2
        have X1 := Lib.hid (bv_grown hown hgrow (by omega) (show w.heap.size < w.heap.size + 3 by omega) BA.out)
        have X2 := Lib.hid (bv_grown hown hgrow (by omega) (show w.heap.size + 1 < w.heap.size + 3 by omega) BB.out)
        have X3 := Lib.hid (bv_grown hown hgrow (by omega) (show w.heap.size + 1 + 1 < w.heap.size + 3 by omega) BR.out)
        have B1 := Lib.hid (grown_below (B := w.heap.size) hown hgrow (by omega) (by omega) hB.out)
        have HS : w.heap.size + 3 ≤ w1.heap.size := by have := hgrow.size; simp at this; omega
        have OW := Lib.hid hown2
        clear hown hown1 hown2 hgrow rd1 BA BB BR hB
        go_wp2
        go_roundw
        case rel =>
          exact ⟨i + 1, (cy + x) / 65536, os ++ [(cy + x) % 65536], a1, cap1, rfl, rfl, by go_num, st0, st1, by omega, ST1, OW.out, HS, X1, X2, X3, B1⟩
        case measure => simp [intOf]; omega
    · by_cases hjl : i < lb
      · have hxk : xs.getD i 0 = 0 := getD_out (by omega)
        obtain ⟨b2, o2, rfl, c2⟩ := HBB.out.addr (by omega)
        have d2 := cell_later hB.out (c2 i (by omega))
        have y0 := getD_ok hy i
        obtain ⟨y, hyk⟩ : ∃ y, ys.getD i 0 = y := ⟨_, rfl⟩
        rw [hyk] at d2 y0
        obtain ⟨y0, y1⟩ := y0
        have z2 := World.block_lt_of_cell? wr _ d2
        simp only at z2
        have itop : i ≤ M := Nat.le_of_not_lt (fun h => by have := hS.out.top h; omega)
        have ST := hS.out.step (s := cy + y) hx hy (by omega) (by omega) cy0 cy1 (by rw [hxk, hyk]; omega)
        have ST1 := Lib.hid ST.1
        obtain ⟨_, st0, st1⟩ := ST
        have HX := Lib.hid hxk
        have HY := Lib.hid hyk
        clear hxk hyk c2
        go_wp2_with (at_builtin; refine wpList_append_own _ rfl _ _ 110 rfl (w.heap.size + 3) 118 i0 (.int .u64 0) 1 8 Try.underlying110 hi hz0 hz1 hz2 rfl (by decide) _ _ _ rfl (hown.alloc _) ⟨wr.heap.size, 0, none⟩ 1 1 [.int .u64 ((cy + y) % 65536)] rfl rfl ?c1 ?c2 ?c3 ?c4 ?c5 ?_)
        case c1 => exact cell_one_new _ _ _
        case c2 => simp [Value.oneCell']
        case c3 => unfold maxLen; omega
        case c4 => omega
        case c5 => simp; omega
        intro v1 w1 hown1 hgrow _
        have hown2 : w1.ownsRow (w.heap.size + 3) 118 1 v1 (i + 1) ((os ++ [(cy + y) % 65536]).map (Value.int .u64)) := by
          simpa using hown1
        obtain ⟨a1, cap1, rfl, rd1⟩ := rd_of_owns hown2
        have X1 := Lib.hid (bv_grown hown hgrow (by omega) (show w.heap.size < w.heap.size + 3 by omega) BA.out)
        have X2 := Lib.hid (bv_grown hown hgrow (by omega) (show w.heap.size + 1 < w.heap.size + 3 by omega) BB.out)
        have X3 := Lib.hid (bv_grown hown hgrow (by omega) (show w.heap.size + 1 + 1 < w.heap.size + 3 by omega) BR.out)
        have B1 := Lib.hid (grown_below (B := w.heap.size) hown hgrow (by omega) (by omega) hB.out)
        have HS : w.heap.size + 3 ≤ w1.heap.size := by have := hgrow.size; simp at this; omega
        have OW := Lib.hid hown2
        clear hown hown1 hown2 hgrow rd1 BA BB BR hB
        go_wp2
        go_roundw
        case rel =>
          exact ⟨i + 1, (cy + y) / 65536, os ++ [(cy + y) % 65536], a1, cap1, rfl, rfl, by go_num, st0, st1, by omega, ST1, OW.out, HS, X1, X2, X3, B1⟩
        case measure => simp [intOf]; omega
      · by_cases cz : 0 < cy
        · have hxk : xs.getD i 0 = 0 := getD_out (by omega)
          have hyk : ys.getD i 0 = 0 := getD_out (by omega)
          have itop : i ≤ M := Nat.le_of_not_lt (fun h => by have := hS.out.top h; omega)
          have ST := hS.out.step (s := cy) hx hy (by omega) (by omega) cy0 cy1 (by rw [hxk, hyk]; omega)
          have ST1 := Lib.hid ST.1
          obtain ⟨_, st0, st1⟩ := ST
          have HX := Lib.hid hxk
          have HY := Lib.hid hyk
          clear hxk hyk 
          go_wp2_with (at_builtin; refine wpList_append_own _ rfl _ _ 110 rfl (w.heap.size + 3) 118 i0 (.int .u64 0) 1 8 Try.underlying110 hi hz0 hz1 hz2 rfl (by decide) _ _ _ rfl (hown.alloc _) ⟨wr.heap.size, 0, none⟩ 1 1 [.int .u64 ((cy) % 65536)] rfl rfl ?c1 ?c2 ?c3 ?c4 ?c5 ?_)
          case c1 => exact cell_one_new _ _ _
          case c2 => simp [Value.oneCell']
          case c3 => unfold maxLen; omega
          case c4 => omega
          case c5 => simp; omega
          intro v1 w1 hown1 hgrow _
          have hown2 : w1.ownsRow (w.heap.size + 3) 118 1 v1 (i + 1) ((os ++ [(cy) % 65536]).map (Value.int .u64)) := by
            simpa using hown1
          obtain ⟨a1, cap1, rfl, rd1⟩ := rd_of_owns hown2
          have X1 := Lib.hid (bv_grown hown hgrow (by omega) (show w.heap.size < w.heap.size + 3 by omega) BA.out)
          have X2 := Lib.hid (bv_grown hown hgrow (by omega) (show w.heap.size + 1 < w.heap.size + 3 by omega) BB.out)
          have X3 := Lib.hid (bv_grown hown hgrow (by omega) (show w.heap.size + 1 + 1 < w.heap.size + 3 by omega) BR.out)
          have B1 := Lib.hid (grown_below (B := w.heap.size) hown hgrow (by omega) (by omega) hB.out)
          have HS : w.heap.size + 3 ≤ w1.heap.size := by have := hgrow.size; simp at this; omega
          have OW := Lib.hid hown2
          clear hown hown1 hown2 hgrow rd1 BA BB BR hB
          go_wp2
          go_roundw
          case rel =>
            exact ⟨i + 1, (cy) / 65536, os ++ [(cy) % 65536], a1, cap1, rfl, rfl, by go_num, st0, st1, by omega, ST1, OW.out, HS, X1, X2, X3, B1⟩
          case measure => simp [intOf]; omega
        · obtain rfl : cy = 0 := by omega
          have hs := hS.out.sum
          rw [List.take_of_length_le (by omega), List.take_of_length_le (by omega), Int.mul_zero, Int.add_zero] at hs
          have RD := rd_of_owns2 hown
          have OKS := hS.out.ok
          have HT := Lib.hid (trim_any ng ao i co os wr RD OKS (by omega) n (Lib.hid (by rw [hn.out, hs])))
          clear RD OKS hs hown
          go_wp2_with fail
          refine HT.out.mono ?_
          rintro e w1 ⟨ng1, a1, l1, c1, rfl, hv1, hb1⟩
          have BVH := Lib.hid (BR.out.later hb1)
          have HV1 := Lib.hid hv1
          have HB1 := Lib.hid hb1
          obtain ⟨k0, k1, k2, k3⟩ := BVH.out
          clear hv1 hb1
          go_wp2_with fail
          refine bodyPost_ret (v := .agg #[.bool ng1, .slice a1 l1 c1]) (by simp [results, Try.results57, go_sem, k0, k1]) rfl ?_
          refine RetBig.mk (HV1.out.setBV BVH.out _ _) ?_
          exact ((hB.out.trans (HB1.out.mono (by omega))).setCell (by show w.heap.size ≤ w.heap.size + 1 + 1; omega) _).setCell (by show w.heap.size ≤ w.heap.size + 1 + 1; omega) _
end Go.Proofs.Ytbolifjkhoiphaa
