/- The reference's big numbers: divided. -/
import Derived.Test.YtbolifjkhoiphaaBigD
import Derived.WalkKit
import Derived.WalkSpells
import Derived.WalkLawsBesides
import Derived.Handy
import Derived.Lib.Hide
import Derived.Deep.QuietTactic
import Derived.BigQuiet
import Derived.LoopTactic
import Derived.Deep.LoopGhost
import Derived.Deep.RegionHeld3
import Derived.Deep.RegionWith
import Derived.Outline
import Derived.Deep.DeepCutAuto
namespace Go.Proofs.Ytbolifjkhoiphaa
open Go.RowKit Go.Proofs.Big
set_option linter.unusedVariables false
set_option maxRecDepth 100000
set_option linter.unusedSimpArgs false


structure QR (bv V Q R : Int) : Prop where
  e : Q * bv + R = V
  r0 : 0 ≤ R
  r1 : R < bv
  q0 : 0 ≤ Q
theorem QR.le {bv V Q R : Int} (h : QR bv V Q R) : Q ≤ V ∧ 0 ≤ V := by
  have h1 : Q * 1 ≤ Q * bv := Int.mul_le_mul_of_nonneg_left (by have := h.r0; have := h.r1; omega) h.q0
  have := h.e
  have := h.r0
  have := h.q0
  omega
theorem QR.hi {bv V Q R d : Int} (h : QR bv V Q R) (d0 : 0 ≤ d) (d1 : d ≤ 1) (hc : bv ≤ 2 * R + d) : QR bv (2 * V + d) (2 * Q + 1) (2 * R + d - bv) := by
  have := h.e
  have := h.r0
  have := h.r1
  have := h.q0
  have e2 : (2 * Q + 1) * bv = 2 * (Q * bv) + bv := by rw [Int.add_mul, Int.mul_assoc]; omega
  exact ⟨by rw [e2]; omega, by omega, by omega, by omega⟩
theorem QR.lo {bv V Q R d : Int} (h : QR bv V Q R) (d0 : 0 ≤ d) (d1 : d ≤ 1) (hc : 2 * R + d < bv) : QR bv (2 * V + d) (2 * Q) (2 * R + d) := by
  have := h.e
  have := h.r0
  have := h.q0
  have e2 : (2 * Q) * bv = 2 * (Q * bv) := by rw [Int.mul_assoc]
  exact ⟨by rw [e2]; omega, by omega, hc, by omega⟩
/-- the bits of a piece, from the highest on -/
structure Bits (x T V D t : Int) (j : Nat) : Prop where
  hD : D = 2 ^ j
  ht : t = D / 2
  hj : j ≤ 16
  e : V * D + x % D = T
theorem bits_start {x A T : Int} (x0 : 0 ≤ x) (x1 : x < 65536) (hT : T = A * 65536 + x) : Bits x T A 65536 32768 16 := ⟨rfl, rfl, by decide, by rw [Int.emod_eq_of_lt x0 x1]; exact hT.symm⟩
theorem Bits.cases {x T V D t : Int} {j : Nat} (h : Bits x T V D t j) : (t = 0 ∧ V = T) ∨ (1 ≤ t ∧ t ≤ 32768 ∧ D = 2 * t ∧ 0 < j) := by
  have hD := h.hD
  have ht := h.ht
  have e := h.e
  cases j with
  | zero =>
    left
    have : D = 1 := hD
    subst this
    omega
  | succ j =>
    right
    have p : (0 : Int) < 2 ^ j := Int.pow_pos (by decide)
    have q : (2 : Int) ^ j ≤ 2 ^ 15 := by
      have := h.hj
      have c : ∀ k : Nat, (2 : Int) ^ k = ((2 ^ k : Nat) : Int) := fun k => (Int.natCast_pow 2 k).symm
      rw [c, c]
      exact Int.ofNat_le.2 (Nat.pow_le_pow_right (by decide) (by omega))
    rw [Int.pow_succ] at hD
    omega
theorem Bits.step {x T V D t : Int} {j : Nat} (h : Bits x T V D t j) (x0 : 0 ≤ x) (t0 : 1 ≤ t) (hDt : D = 2 * t) (hj : 0 < j) : Bits x T (2 * V + x / t % 2) t (t / 2) (j - 1) := by
  have hD := h.hD
  have e := h.e
  obtain ⟨k, rfl⟩ : ∃ k, j = k + 1 := ⟨j - 1, by omega⟩
  refine ⟨?_, rfl, by have := h.hj; omega, ?_⟩
  · rw [Int.pow_succ] at hD; simp; omega
  · have e1 := Int.mul_ediv_add_emod x t
    have e2 := Int.mul_ediv_add_emod (x / t) 2
    have r0 := Int.emod_nonneg x (show t ≠ 0 by omega)
    have r1 := Int.emod_lt_of_pos x (show 0 < t by omega)
    have s0 := Int.emod_nonneg (x / t) (show (2 : Int) ≠ 0 by omega)
    have s1 := Int.emod_lt_of_pos (x / t) (show (0 : Int) < 2 by omega)
    have key : x % (2 * t) = x / t % 2 * t + x % t := by
      have m1 : x / t % 2 * t ≤ 1 * t := Int.mul_le_mul_of_nonneg_right (by omega) (by omega)
      have m0 : 0 ≤ x / t % 2 * t := Int.mul_nonneg s0 (by omega)
      have ex : x = 2 * t * (x / t / 2) + (x / t % 2 * t + x % t) := by
        have : t * (x / t) = t * (2 * (x / t / 2)) + t * (x / t % 2) := by rw [← Int.mul_add, e2]
        rw [Int.mul_comm 2 t, Int.mul_assoc, Int.mul_comm (x / t % 2) t]
        omega
      exact ((Int.ediv_emod_unique (a := x) (r := x / t % 2 * t + x % t) (q := x / t / 2) (show 0 < 2 * t by omega)).2 ⟨by omega, by omega, by omega⟩).2
    rw [hDt, key] at e
    rw [Int.add_mul]
    have : 2 * V * t = V * (2 * t) := by rw [Int.mul_comm 2 V, Int.mul_assoc]
    omega
theorem sm50 {x : Int} (x0 : 0 ≤ x) (x1 : x < P 99) : Sm x ∧ Sm (2 * x) ∧ Sm (2 * x + 1) ∧ Sm (-x) := by
  have e : P 100 = 65536 * P 99 := P_succ 99
  unfold Sm
  omega
theorem val_drop (xs : List Int) (k : Nat) (hk : k < xs.length) : val (xs.drop k) = val (xs.drop (k + 1)) * 65536 + xs.getD k 0 := by
  rw [List.drop_eq_getElem_cons hk, val, List.getD_eq_getElem?_getD, List.getElem?_eq_getElem hk]
  simp; omega
theorem val_drop_le (xs : List Int) (h : Ok xs) (k : Nat) : val (xs.drop k) ≤ val xs := by
  have e := val_append (xs.take k) (xs.drop k)
  rw [List.take_append_drop] at e
  have a := (val_bd (xs := xs.take k) (fun x hx => h x (List.mem_of_mem_take hx))).1
  have b := (val_bd (xs := xs.drop k) (fun x hx => h x (List.mem_of_mem_drop hx))).1
  have p := P_pos (xs.take k).length
  have : 1 * val (xs.drop k) ≤ P (xs.take k).length * val (xs.drop k) := Int.mul_le_mul_of_nonneg_right p b
  omega
theorem big_pos {w : World} {ng : Bool} {a : Option Addr} {l c : Nat} {n : Int} (h : BigV w ng a l c n) (h0 : 0 ≤ n) : ∃ xs, Rd w a l c xs ∧ Ok xs ∧ Canon xs ∧ val xs = n := by
  obtain ⟨xs, r, o, cn, v⟩ := h.rd
  exact ⟨xs, r, o, cn, by rw [v, if_neg (by omega)]⟩

set_option maxRecDepth 100000 in
set_option maxHeartbeats 8000000 in
theorem divided_any (a b : Option Addr) (la ca lb cb : Nat) (n m : Int) (w : World) (ha : BigV w false a la ca n) (hb : BigV w false b lb cb m) (n0 : 0 ≤ n) (n1 : n < P 99) (m0 : 0 < m) (m1 : m < P 99) :
    Calls Try.prog 102 #[.agg #[.bool false, .slice a la ca], .agg #[.bool false, .slice b lb cb]] w (RetBig2 w (n / m) (n % m)) := by
  have sa : la ≤ 99 := ha.len 99 (by omega) n1
  have sb : lb ≤ 99 := hb.len 99 (by omega) m1
  obtain ⟨xs, rd, ok, cn, hv⟩ := big_pos ha n0
  have lx := rd.hlen
  have HB := Lib.hid hb
  have RD := Lib.hid rd
  have NM : Hid (BigV w true b lb cb (-m)) := by
    obtain ⟨ys, r', o', c', v'⟩ := big_pos hb (by omega)
    exact Lib.hid ⟨⟨ys, r', o', c', by rw [v', if_pos (by omega)]; omega⟩, by simp; omega⟩
  clear ha hb rd
  go_enter Try.func102, Try.ntmps102
  go_wp2_with fail
  go_loopw [8] (fun s8 wx => ∃ (k : Nat) (nq : Bool) (aq : Option Addr) (lq cq : Nat) (nr : Bool) (ar : Option Addr) (lr cr : Nat) (Q R : Int), s8 = .int .i64 ((k : Int) - 1) ∧ k ≤ la ∧ Hid (DivW w wx a la ca b lb cb nq aq lq cq nr ar lr cr Q R) ∧ Hid (QR m (val (xs.drop k)) Q R)) (fun s8 _ => (intOf s8 + 1).toNat)
  case atStart =>
    refine ⟨la, false, none, 0, 0, false, none, 0, 0, 0, 0, rfl, Nat.le_refl _, Lib.hid ?_, Lib.hid ⟨by rw [← lx, List.drop_length]; simp [val], by decide, m0, by decide⟩⟩
    have z0 : BigV (((((((w.alloc (.cells #[.bool false, .slice a la ca] 112)).alloc (.cells #[.bool false, .slice b lb cb] 112)).alloc (.cells #[.bool false, .slice none 0 0] 112)).alloc (.cells #[.bool false, .slice none 0 0] 112)).alloc (.cells #[.bool false, .slice none 0 0] 112)).alloc (.cells #[.bool false, .slice none 0 0] 112))) false none 0 0 0 := ⟨⟨[], Rd.nil _ _ _, ok_nil, .inl rfl, rfl⟩, rfl⟩
    have e1 := (((((BV.new w false a la ca 112).alloc (.cells #[.bool false, .slice b lb cb] 112)).alloc (.cells #[.bool false, .slice none 0 0] 112)).alloc (.cells #[.bool false, .slice none 0 0] 112)).alloc (.cells #[.bool false, .slice none 0 0] 112)).alloc (.cells #[.bool false, .slice none 0 0] 112)
    have e2 := ((((BV.new (w.alloc (.cells #[.bool false, .slice a la ca] 112)) false b lb cb 112).alloc (.cells #[.bool false, .slice none 0 0] 112)).alloc (.cells #[.bool false, .slice none 0 0] 112)).alloc (.cells #[.bool false, .slice none 0 0] 112)).alloc (.cells #[.bool false, .slice none 0 0] 112)
    have e3 := (((BV.new ((w.alloc (.cells #[.bool false, .slice a la ca] 112)).alloc (.cells #[.bool false, .slice b lb cb] 112)) false none 0 0 112).alloc (.cells #[.bool false, .slice none 0 0] 112)).alloc (.cells #[.bool false, .slice none 0 0] 112)).alloc (.cells #[.bool false, .slice none 0 0] 112)
    have e4 := ((BV.new (((w.alloc (.cells #[.bool false, .slice a la ca] 112)).alloc (.cells #[.bool false, .slice b lb cb] 112)).alloc (.cells #[.bool false, .slice none 0 0] 112)) false none 0 0 112).alloc (.cells #[.bool false, .slice none 0 0] 112)).alloc (.cells #[.bool false, .slice none 0 0] 112)
    have e5 := (BV.new ((((w.alloc (.cells #[.bool false, .slice a la ca] 112)).alloc (.cells #[.bool false, .slice b lb cb] 112)).alloc (.cells #[.bool false, .slice none 0 0] 112)).alloc (.cells #[.bool false, .slice none 0 0] 112)) false none 0 0 112).alloc (.cells #[.bool false, .slice none 0 0] 112)
    have e6 := BV.new (((((w.alloc (.cells #[.bool false, .slice a la ca] 112)).alloc (.cells #[.bool false, .slice b lb cb] 112)).alloc (.cells #[.bool false, .slice none 0 0] 112)).alloc (.cells #[.bool false, .slice none 0 0] 112)).alloc (.cells #[.bool false, .slice none 0 0] 112)) false none 0 0 112
    simp only [World.size_alloc] at e1 e2 e3 e4 e5 e6
    exact ⟨e1, e2, e3, e4, e5, e6, z0, z0, by go_grown⟩
  case round =>
    obtain ⟨k, nq, aq, lq, cq, nr, ar, lr, cr, Q, R, rfl, hk, hD, hQ⟩ := hrel
    cases k with
    | zero =>
      rw [show (((0 : Nat) : Int) - 1) = -1 from rfl]
      obtain ⟨p0, p1, p2, p3⟩ := hD.out.R1
      obtain ⟨q0, q1, q2, q3⟩ := hD.out.R2
      obtain ⟨u0, u1, _, _⟩ := hD.out.Qv
      obtain ⟨v0, v1, _, _⟩ := hD.out.Rv
      go_wp2_with fail
      go_region
      all_goals
        go_wp2_with fail
        refine bodyPost_ret (v := .tuple #[.agg #[.bool nq, .slice aq lq cq], .agg #[.bool nr, .slice ar lr cr]]) (by simp [results, Try.results102, go_sem, *]) rfl ?_
        have w1 := hD.out.Qn.setBV hD.out.R1 (.bool nq) (.slice aq lq cq)
        have w2 := hD.out.Rn.setBV hD.out.R1 (.bool nq) (.slice aq lq cq)
        have r2 := hD.out.R2.other (b' := w.heap.size + 1 + 1) (by omega) (.bool nq) (.slice aq lq cq)
        have dr : ∀ wx : World, Below wx.heap.size wx wx.drew := fun wx => Below.drew (Below.refl _ _)
        have fin : Q = n / m ∧ R = n % m := by
          have q := hQ.out
          rw [List.drop_zero, hv] at q
          have u := (Int.ediv_emod_unique (a := n) (r := R) (q := Q) m0).2 ⟨by rw [Int.mul_comm]; have := q.e; omega, q.r0, q.r1⟩
          exact ⟨u.1.symm, u.2.symm⟩
        rw [← fin.1, ← fin.2]
        exact ⟨nq, aq, lq, cq, nr, ar, lr, cr, rfl, (w1.setBV r2 _ _).later (dr _), (w2.setBV r2 _ _).later (dr _), Below.drew ((((hD.out.bel.setCell (by show w.heap.size ≤ w.heap.size + 1 + 1; omega) _).setCell (by show w.heap.size ≤ w.heap.size + 1 + 1; omega) _).setCell (by show w.heap.size ≤ w.heap.size + 1 + 1 + 1; omega) _).setCell (by show w.heap.size ≤ w.heap.size + 1 + 1 + 1; omega) _)⟩
    | succ k =>
      rw [show (((k + 1 : Nat) : Int) - 1) = (k : Int) from by omega]
      obtain ⟨x, hxk⟩ : ∃ x, xs.getD k 0 = x := ⟨_, rfl⟩
      have x0 := getD_ok ok k
      rw [hxk] at x0
      obtain ⟨x0, x1⟩ := x0
      obtain ⟨b1, o1, rfl, c1⟩ := RD.out.addr (by omega)
      have C1 : Hid (w.cell? ⟨b1, o1 + k, none⟩ = some (.int .u64 x)) := Lib.hid (by rw [← hxk]; exact c1 k (by omega))
      obtain ⟨T, hT⟩ : ∃ T, T = val (xs.drop k) := ⟨_, rfl⟩
      have TE : T = val (xs.drop (k + 1)) * 65536 + x := by rw [hT, val_drop xs k (by omega), hxk]
      have TB : Hid (T < P 99) := Lib.hid (by have := val_drop_le xs ok k; have : val xs = n := hv; omega)
      have BS := Lib.hid (bits_start x0 x1 TE)
      have HT := Lib.hid hT
      clear hxk c1 hT TE
      go_wp2_with fail
      obtain ⟨wo, hwo⟩ : ∃ wo : World, wo = wr := ⟨_, rfl⟩
      clear hwo
      go_loopw [9] (fun s9 wx => ∃ (j : Nat) (t D V : Int) (nq : Bool) (aq : Option Addr) (lq cq : Nat) (nr : Bool) (ar : Option Addr) (lr cr : Nat) (Q R : Int), s9 = .int .u64 t ∧ 0 ≤ t ∧ t ≤ 32768 ∧ Hid (Bits x T V D t j) ∧ Hid (DivW w wx (some ⟨b1, o1, none⟩) la ca b lb cb nq aq lq cq nr ar lr cr Q R) ∧ Hid (QR m V Q R)) (fun s9 _ => (intOf s9).toNat)
      case atStart => exact ⟨16, 32768, 65536, _, nq, aq, lq, cq, nr, ar, lr, cr, Q, R, rfl, by decide, by decide, BS, hD, hQ⟩
      case round =>
        clear hD hQ BS nq aq lq cq nr ar lr cr Q R
        obtain ⟨j, t, D, V, nq, aq, lq, cq, nr, ar, lr, cr, Q, R, rfl, t0, t1, hBt, hD, hQ⟩ := hrel
        have hcs := hBt.out.cases
        by_cases tz : t = 0
        · have VT : V = T := by omega
          have FQ : Hid (QR m (val (xs.drop k)) Q R) := Lib.hid (by rw [← HT.out, ← VT]; exact hQ.out)
          subst tz
          clear hcs VT
          go_wp2_with fail
          go_roundw
          case rel => exact ⟨k, nq, aq, lq, cq, nr, ar, lr, cr, Q, R, rfl, by omega, hD, FQ⟩
          case measure => first | (simp [intOf]; done) | (simp [intOf]; omega)
        · obtain ⟨t1', t2', Dt, j0⟩ : 1 ≤ t ∧ t ≤ 32768 ∧ D = 2 * t ∧ 0 < j := by omega
          have SB := Lib.hid (hBt.out.step x0 t1' Dt j0)
          obtain ⟨le1, le2⟩ := hQ.out.le
          have VT : V ≤ T := by
            have e := hBt.out.e
            have p := Int.emod_nonneg x (show D ≠ 0 by omega)
            have : V * 1 ≤ V * D := Int.mul_le_mul_of_nonneg_left (by omega) le2
            omega
          have QS := Lib.hid (sm50 hQ.out.q0 (by have := TB.out; omega))
          have RS := Lib.hid (sm50 hQ.out.r0 (by have := hQ.out.r1; omega))
          have MS := Lib.hid (sm50 (Int.le_of_lt m0) m1)
          have d0 := Int.emod_nonneg (x / t) (show (2 : Int) ≠ 0 by omega)
          have d1 := Int.emod_lt_of_pos (x / t) (show (0 : Int) < 2 by omega)
          obtain ⟨d, hd⟩ : ∃ d, x / t % 2 = d := ⟨_, rfl⟩
          rw [hd] at SB d0 d1
          have HD := Lib.hid hd
          have tzb : (t == 0) = false := by simpa using tz
          clear hcs le1 le2 VT Dt hd
          -- r = 2 r
          go_upto_region 8 with fail
          go_cut [] (fun wx => ∃ (nr : Bool) (ar : Option Addr) (lr cr : Nat), Hid (DivW w wx (some ⟨b1, o1, none⟩) la ca b lb cb nq aq lq cq nr ar lr cr Q (2 * R)))
          case first =>
            obtain ⟨k0, k1, k2, k3⟩ := hD.out.Rv
            go_region_with (first
              | (go_at_call 61; refine (ofu_any 2 (by decide) (by decide) _).mono ?_; rintro e w5 ⟨n5, a5, l5, c5, rfl, hv5, hb5⟩; have H5 := Lib.hid hv5; have B5 := Lib.hid (below_undrew hb5); obtain ⟨k0, k1, k2, k3⟩ := (hD.out.later (below_undrew hb5)).Rv; clear hv5 hb5)
              | (go_at_call 88; refine (times_any nr n5 ar a5 lr cr l5 c5 R 2 _ (hD.out.later B5.out).Rn H5.out (Nat.le_trans (Sm.le (hD.out.later B5.out).Rn RS.out.1) (by decide)) (Nat.le_trans (Sm.le H5.out (sm_of 2 (by decide) (by decide))) (by decide))).mono ?_; rintro e w6 ⟨n6, a6, l6, c6, rfl, hv6, hb6⟩; have H6 := Lib.hid hv6; have B6 := Lib.hid (B5.out.trans (hb6.mono B5.out.size)); obtain ⟨k0, k1, k2, k3⟩ := (hD.out.later (B5.out.trans (hb6.mono B5.out.size))).Rv; clear hv6 hb6))
            all_goals
              go_wp2_with fail
              go_meet
              exact ⟨n6, a6, l6, c6, Lib.hid (Int.mul_comm R 2 ▸ (hD.out.later B6.out).setR H6.out)⟩
          case rest =>
            obtain ⟨nr, ar, lr, cr, hD⟩ := hcut
            go_upto_region 9 with fail
            go_cut [] (fun wx => ∃ (nq : Bool) (aq : Option Addr) (lq cq : Nat), Hid (DivW w wx (some ⟨b1, o1, none⟩) la ca b lb cb nq aq lq cq nr ar lr cr (2 * Q) (2 * R)))
            case first =>
              obtain ⟨k0, k1, k2, k3⟩ := hD.out.Qv
              go_region_with (first
              | (go_at_call 61; refine (ofu_any 2 (by decide) (by decide) _).mono ?_; rintro e w5 ⟨n5, a5, l5, c5, rfl, hv5, hb5⟩; have H5 := Lib.hid hv5; have B5 := Lib.hid (below_undrew hb5); obtain ⟨k0, k1, k2, k3⟩ := (hD.out.later (below_undrew hb5)).Qv; clear hv5 hb5)
              | (go_at_call 88; refine (times_any nq n5 aq a5 lq cq l5 c5 Q 2 _ (hD.out.later B5.out).Qn H5.out (Nat.le_trans (Sm.le (hD.out.later B5.out).Qn QS.out.1) (by decide)) (Nat.le_trans (Sm.le H5.out (sm_of 2 (by decide) (by decide))) (by decide))).mono ?_; rintro e w6 ⟨n6, a6, l6, c6, rfl, hv6, hb6⟩; have H6 := Lib.hid hv6; have B6 := Lib.hid (B5.out.trans (hb6.mono B5.out.size)); obtain ⟨k0, k1, k2, k3⟩ := (hD.out.later (B5.out.trans (hb6.mono B5.out.size))).Qv; clear hv6 hb6))
              all_goals
                go_wp2_with fail
                go_meet
                exact ⟨n6, a6, l6, c6, Lib.hid (Int.mul_comm Q 2 ▸ (hD.out.later B6.out).setQ H6.out)⟩
            case rest =>
              obtain ⟨nq, aq, lq, cq, hD⟩ := hcut
              obtain ⟨p0, p1, _, _⟩ := hD.out.A
              have dx := cell_later hD.out.bel C1.out
              have kla : (k : Int) < (la : Int) := by omega
              have hdd := HD.out
              have xt0 : 0 ≤ x / t := Int.ediv_nonneg x0 (by omega)
              go_upto_if 36 with fail
              go_cut [] (fun wx => ∃ (nr : Bool) (ar : Option Addr) (lr cr : Nat), Hid (DivW w wx (some ⟨b1, o1, none⟩) la ca b lb cb nq aq lq cq nr ar lr cr (2 * Q) (2 * R + d)))
              case first =>
                by_cases d1' : d = 1
                · subst d1'
                  obtain ⟨k0, k1, k2, k3⟩ := hD.out.Rv
                  go_wp2_with fail
                  go_region_with (first
              | (go_at_call 61; refine (ofu_any 1 (by decide) (by decide) _).mono ?_; rintro e w5 ⟨n5, a5, l5, c5, rfl, hv5, hb5⟩; have H5 := Lib.hid hv5; have B5 := Lib.hid (below_undrew hb5); obtain ⟨k0, k1, k2, k3⟩ := (hD.out.later (below_undrew hb5)).Rv; clear hv5 hb5)
              | (go_at_call 57; refine (plus_any nr n5 ar a5 lr cr l5 c5 (2 * R) 1 _ (hD.out.later B5.out).Rn H5.out (Nat.le_trans (Sm.le (hD.out.later B5.out).Rn RS.out.2.1) (by decide)) (Nat.le_trans (Sm.le H5.out (sm_of 1 (by decide) (by decide))) (by decide))).mono ?_; rintro e w6 ⟨n6, a6, l6, c6, rfl, hv6, hb6⟩; have H6 := Lib.hid hv6; have B6 := Lib.hid (B5.out.trans (hb6.mono B5.out.size)); obtain ⟨k0, k1, k2, k3⟩ := (hD.out.later (B5.out.trans (hb6.mono B5.out.size))).Rv; clear hv6 hb6))
                  all_goals
                    go_wp2_with fail
                    go_meet
                    exact ⟨n6, a6, l6, c6, Lib.hid ((hD.out.later B6.out).setR H6.out)⟩
                · have dz : d = 0 := by omega
                  subst dz
                  go_wp2_with fail
                  go_meet
                  exact ⟨nr, ar, lr, cr, Lib.hid (by rw [Int.add_zero]; exact hD.out)⟩
              case rest =>
                obtain ⟨nr, ar, lr, cr, hD⟩ := hcut
                clear p0 p1 dx hdd xt0
                obtain ⟨k0, k1, k2, k3⟩ := hD.out.Rv
                obtain ⟨p0, p1, _, _⟩ := hD.out.B
                obtain ⟨rs, rr, ro, rc, rv⟩ := big_pos hD.out.Rn (by have := hQ.out.r0; omega)
                obtain ⟨ms, mr, mo, mc, mv⟩ := big_pos (HB.out.later hD.out.bel) (Int.le_of_lt m0)
                have R2S : Sm (2 * R + d) := by
                  have := RS.out
                  by_cases h : d = 1
                  · rw [h]; exact this.2.2.1
                  · rw [show d = 0 by omega, Int.add_zero]; exact this.2.1
                have R2H := Lib.hid R2S
                have lr1 : lr ≤ 100 := Sm.le hD.out.Rn R2S
                obtain ⟨r, hr⟩ : ∃ r, r = cmpI (2 * R + d) m := ⟨_, rfl⟩
                have SZ := Lib.hid (sizes_any ar b lr cr lb cb rs ms wc rr mr ro mo rc mc (by omega) (by omega) r (Lib.hid (by rw [rv, mv]; exact hr)))
                clear rr ro rc rv mr mo mc mv R2S
                by_cases ge : m ≤ 2 * R + d
                · have r0 : 0 ≤ r := by rw [hr]; unfold cmpI; repeat' split
                                        all_goals omega
                  have NQ := Lib.hid (hQ.out.hi d0 (by omega) ge)
                  clear hr
                  go_wp2_with fail
                  refine SZ.out.mono ?_
                  rintro e w7 ⟨rfl, nd, rfl⟩
                  go_wp2_with fail
                  have hD7 := Lib.hid (hD.out.later (below_drewN (Below.refl _ _) nd))
                  refine (plus_any nr true ar b lr cr lb cb (2 * R + d) (-m) _ hD7.out.Rn (NM.out.later hD7.out.bel) (by omega) (by omega)).mono ?_
                  rintro e w8 ⟨n8, a8, l8, c8, rfl, hv8, hb8⟩
                  have H8 := Lib.hid hv8
                  have hD8 := Lib.hid (hD7.out.later hb8)
                  clear hv8 hb8 k0 k1 k2 k3
                  obtain ⟨k0, k1, k2, k3⟩ := hD8.out.Rv
                  have hD9 := Lib.hid (hD8.out.setR H8.out)
                  go_upto_region 14 with fail
                  clear k0 k1 k2 k3
                  obtain ⟨k0, k1, k2, k3⟩ := hD9.out.Qv
                  clear hD hD7 hD8
                  have hD := hD9
                  go_region_with (first
              | (go_at_call 61; refine (ofu_any 1 (by decide) (by decide) _).mono ?_; rintro e w5 ⟨n5, a5, l5, c5, rfl, hv5, hb5⟩; have H5 := Lib.hid hv5; have B5 := Lib.hid (below_undrew hb5); obtain ⟨k0, k1, k2, k3⟩ := (hD.out.later (below_undrew hb5)).Qv; clear hv5 hb5)
              | (go_at_call 57; refine (plus_any nq n5 aq a5 lq cq l5 c5 (2 * Q) 1 _ (hD.out.later B5.out).Qn H5.out (Nat.le_trans (Sm.le (hD.out.later B5.out).Qn QS.out.2.1) (by decide)) (Nat.le_trans (Sm.le H5.out (sm_of 1 (by decide) (by decide))) (by decide))).mono ?_; rintro e w6 ⟨n6, a6, l6, c6, rfl, hv6, hb6⟩; have H6 := Lib.hid hv6; have B6 := Lib.hid (B5.out.trans (hb6.mono B5.out.size)); obtain ⟨k0, k1, k2, k3⟩ := (hD.out.later (B5.out.trans (hb6.mono B5.out.size))).Qv; clear hv6 hb6))
                  all_goals
                    go_wp2_with fail
                    go_roundw
                    case rel =>
                      exact ⟨j - 1, t / 2, t, 2 * V + d, n6, a6, l6, c6, n8, a8, l8, c8, 2 * Q + 1, 2 * R + d - m, rfl, by omega, by omega, SB, Lib.hid ((hD.out.later B6.out).setQ H6.out), NQ⟩
                    case measure => first | (simp [intOf]; done) | (simp [intOf]; omega)
                · have r0 : r < 0 := by rw [hr]; unfold cmpI; rw [if_neg (by omega), if_pos (by omega)]; decide
                  have NQ := Lib.hid (hQ.out.lo d0 (by omega) (by omega))
                  clear hr
                  go_wp2_with fail
                  refine SZ.out.mono ?_
                  rintro e w7 ⟨rfl, nd, rfl⟩
                  go_wp2_with fail
                  go_roundw
                  case rel =>
                    exact ⟨j - 1, t / 2, t, 2 * V + d, nq, aq, lq, cq, nr, ar, lr, cr, 2 * Q, 2 * R + d, rfl, by omega, by omega, SB, Lib.hid (hD.out.later (below_drewN (Below.refl _ _) nd)), NQ⟩
                  case measure => first | (simp [intOf]; done) | (simp [intOf]; omega)
end Go.Proofs.Ytbolifjkhoiphaa
/- The reference's big numbers: one of them in a box. -/
namespace Go.Proofs.Ytbolifjkhoiphaa
open Go.RowKit Go.Proofs.Big
set_option linter.unusedVariables false
set_option maxRecDepth 100000
set_option linter.unusedSimpArgs false
theorem power63 (w : World) : Calls Try.prog 74 #[.int .i64 63] w (RetBig w 9223372036854775808) := by
  have := power_any 63 (by decide) w
  rw [show (2 : Int) ^ 63 = 9223372036854775808 from by decide] at this
  exact this
theorem bel_trans {w w1 w2 : World} (h : Below w.heap.size w w1) (k : Below w1.heap.size w1 w2) : Below w.heap.size w w2 := h.trans (k.mono h.size)
/-- memory in the course of Fits and Int -/
structure OneW (w wr : World) (ng : Bool) (a : Option Addr) (la ca : Nat) (n : Int) : Prop where
  X : BV wr w.heap.size ng a la ca
  Xn : BigV wr ng a la ca n
  bel : Below w.heap.size w wr
theorem OneW.later {w wr wx : World} {ng : Bool} {a : Option Addr} {la ca : Nat} {n : Int} (h : OneW w wr ng a la ca n) (k : Below wr.heap.size wr wx) : OneW w wx ng a la ca n :=
  ⟨h.X.later k, h.Xn.later k, bel_trans h.bel k⟩
theorem OneW.new {w : World} {ng : Bool} {a : Option Addr} {la ca : Nat} {n : Int} (h : BigV w ng a la ca n) (t : TypeId) : OneW w (w.alloc (.cells #[.bool ng, .slice a la ca] t)) ng a la ca n :=
  ⟨BV.new w ng a la ca t, h.alloc _, (Below.refl _ _).alloc (Nat.le_refl _) _⟩
end Go.Proofs.Ytbolifjkhoiphaa
/- The reference's big numbers: Int. -/
namespace Go.Proofs.Ytbolifjkhoiphaa
open Go.RowKit Go.Proofs.Big
set_option linter.unusedVariables false
set_option maxRecDepth 100000
set_option linter.unusedSimpArgs false
set_option maxRecDepth 100000 in
set_option maxHeartbeats 4000000 in
theorem bint_any (ng : Bool) (a : Option Addr) (la ca : Nat) (n : Int) (w : World) (h : BigV w ng a la ca n) (sa : la ≤ 1000) (f : Bool) (m : Int) (hf : Hid (f = decide (-9223372036854775808 ≤ n ∧ n < 9223372036854775808))) (hm : Hid (m = if -9223372036854775808 ≤ n ∧ n < 9223372036854775808 then n else 0)) :
    Calls Try.prog 79 #[.agg #[.bool ng, .slice a la ca]] w fun e w' => e = .returned (.tuple #[.int .i64 m, .bool f]) ∧ Below w.heap.size w w' := by
  have hD := Lib.hid (OneW.new h 112)
  obtain ⟨xs, rd, ok, cn, hv⟩ := h.rd
  have NG := Lib.hid h.hng
  have RD := Lib.hid rd
  have OK := Lib.hid ok
  have HV := Lib.hid hv
  clear h rd ok cn hv
  obtain ⟨x0, x1, _, _⟩ := hD.out.X
  have S1 := Lib.hid (sm_of 9223372036854775808 (by decide) (by decide))
  have S2 := Lib.hid (sm_of (-9223372036854775808) (by decide) (by decide))
  obtain ⟨r, hr⟩ : ∃ r, r = cmpI n (-9223372036854775808) := ⟨_, rfl⟩
  obtain ⟨q, hq⟩ : ∃ q, q = cmpI n 9223372036854775808 := ⟨_, rfl⟩
  have HR := Lib.hid hr
  have HQ := Lib.hid hq
  have hrr : (r < 0 ∧ n < -9223372036854775808) ∨ (0 ≤ r ∧ -9223372036854775808 ≤ n) := by
    rw [hr]; unfold cmpI; repeat' split
    all_goals omega
  have hqq : (q < 0 ∧ n < 9223372036854775808) ∨ (0 ≤ q ∧ 9223372036854775808 ≤ n) := by
    rw [hq]; unfold cmpI; repeat' split
    all_goals omega
  clear hr hq
  go_enter Try.func79, Try.ntmps79
  go_wp2_with fail
  refine (power63 _).mono ?_
  rintro e w5 ⟨n5, a5, l5, c5, rfl, hv5, hb5⟩
  have H5 := Lib.hid hv5
  have D5 := Lib.hid (hD.out.later hb5)
  clear hv5 hb5 x0 x1
  obtain ⟨x0, x1, _, _⟩ := D5.out.X
  go_wp2_with fail
  refine (minus_any n5 a5 l5 c5 9223372036854775808 _ H5.out (Nat.le_trans (Sm.le H5.out S1.out) (by decide))).mono ?_
  rintro e w6 ⟨n6, a6, l6, c6, rfl, hv6, hb6⟩
  have H6 := Lib.hid hv6
  have D6 := Lib.hid (D5.out.later hb6)
  clear hv6 hb6 x0 x1
  obtain ⟨x0, x1, _, _⟩ := D6.out.X
  go_wp2_with fail
  have D6' := Lib.hid (D6.out.later ((Below.refl _ _).alloc (Nat.le_refl _) (.cells #[.bool n6, .slice a6 l6 c6] 112)))
  have H6' := Lib.hid (H6.out.alloc (.cells #[.bool n6, .slice a6 l6 c6] 112))
  obtain ⟨z0, z1, _, _⟩ := BV.new w6 n6 a6 l6 c6 112
  clear x0 x1
  obtain ⟨x0, x1, _, _⟩ := D6'.out.X
  have QQ := Lib.hid hqq
  clear hqq
  rcases hrr with ⟨r0, nr⟩ | ⟨r0, nr⟩
  · go_region_with (first
    | (go_at_call 73; refine (bcmp_any ng n8 a a8 la ca l8 c8 n 9223372036854775808 q _ D8.out.Xn H8.out (by omega) (Nat.le_trans (Sm.le H8.out S1.out) (by decide)) HQ).mono ?_; rintro e w9 ⟨rfl, hb9⟩; have D9 := Lib.hid (D8.out.later hb9); obtain ⟨x0, x1, _, _⟩ := D9.out.X; clear hb9)
    | (go_at_call 74; refine (power63 _).mono ?_; rintro e w8 ⟨n8, a8, l8, c8, rfl, hv8, hb8⟩; have H8 := Lib.hid hv8; have D8 := Lib.hid (D7.out.later hb8); obtain ⟨x0, x1, _, _⟩ := D8.out.X; clear hv8 hb8)
    | (go_at_call 73; refine (bcmp_any ng n6 a a6 la ca l6 c6 n (-9223372036854775808) r _ (D6'.out.later (below_undrew (Below.refl _ _))).Xn (H6'.out.later (below_undrew (Below.refl _ _))) (by omega) (Nat.le_trans (Sm.le H6.out S2.out) (by decide)) HR).mono ?_; rintro e w7 ⟨rfl, hb7⟩; have D7 := Lib.hid (D6'.out.later (below_undrew hb7)); obtain ⟨x0, x1, _, _⟩ := D7.out.X; clear hb7))
    all_goals
      go_wp2_with fail
      go_ret2
      refine ⟨?_, D7.out.bel⟩
      rw [hm.out, hf.out, if_neg (by omega), decide_eq_false (by omega)]
      first | rfl | (simp [go_sem]; done) | go_simp
  · have r0' : ¬ r < 0 := by omega
    have r0n : decide (r < 0) = false := decide_eq_false r0'
    go_region_with (first
    | (go_at_call 73; refine (bcmp_any ng n8 a a8 la ca l8 c8 n 9223372036854775808 q _ D8.out.Xn H8.out (by omega) (Nat.le_trans (Sm.le H8.out S1.out) (by decide)) HQ).mono ?_; rintro e w9 ⟨rfl, hb9⟩; have D9 := Lib.hid (D8.out.later hb9); obtain ⟨x0, x1, _, _⟩ := D9.out.X; clear hb9)
    | (go_at_call 74; refine (power63 _).mono ?_; rintro e w8 ⟨n8, a8, l8, c8, rfl, hv8, hb8⟩; have H8 := Lib.hid hv8; have D8 := Lib.hid (D7.out.later hb8); obtain ⟨x0, x1, _, _⟩ := D8.out.X; clear hv8 hb8)
    | (go_at_call 73; refine (bcmp_any ng n6 a a6 la ca l6 c6 n (-9223372036854775808) r _ (D6'.out.later (below_undrew (Below.refl _ _))).Xn (H6'.out.later (below_undrew (Below.refl _ _))) (by omega) (Nat.le_trans (Sm.le H6.out S2.out) (by decide)) HR).mono ?_; rintro e w7 ⟨rfl, hb7⟩; have D7 := Lib.hid (D6'.out.later (below_undrew hb7)); obtain ⟨x0, x1, _, _⟩ := D7.out.X; clear hb7))
    all_goals
      rcases QQ.out with ⟨q0, nq⟩ | ⟨q0, nq⟩
      · have q0' : ¬ 0 ≤ q := by omega
        go_wp2_with fail
        go_loopw [5, 6] (fun s5 s6 wx => ∃ (k : Nat) (acc : Int), s5 = .int .i64 acc ∧ s6 = .int .i64 ((k : Int) - 1) ∧ k ≤ la ∧ Hid (acc = if ng then -val (xs.drop k) else val (xs.drop k)) ∧ Hid (OneW w wx ng a la ca n)) (fun _ s6 _ => (intOf s6 + 1).toNat)
        case atStart =>
          refine ⟨la, 0, rfl, rfl, by omega, Lib.hid ?_, D9⟩
          rw [List.drop_eq_nil_of_le (by have := RD.out.hlen; omega)]
          cases ng <;> simp [val]
        case round =>
          obtain ⟨k, acc, rfl, rfl, hk, hacc, hD⟩ := hrel
          have hng := NG.out
          have hv := HV.out
          cases k with
          | zero =>
            rw [show (((0 : Nat) : Int) - 1) = -1 from rfl]
            go_wp2_with fail
            go_ret2
            refine ⟨?_, hD.out.bel⟩
            have e := hacc.out
            rw [List.drop_zero, hv] at e
            have e2 : acc = n := by
              rw [e, hng]
              by_cases c : n < 0
              · rw [decide_eq_true c, if_pos rfl, if_pos c]; omega
              · rw [decide_eq_false c, if_neg (by decide), if_neg c]
            rw [hm.out, hf.out, if_pos (by omega), decide_eq_true (by omega), e2]
            try first | rfl | (simp [go_sem]; done) | go_simp
          | succ k =>
            rw [show (((k + 1 : Nat) : Int) - 1) = (k : Int) from by omega]
            obtain ⟨k0, k1, _, _⟩ := hD.out.X
            have hlen := RD.out.hlen
            obtain ⟨x, hxk⟩ : ∃ x, xs.getD k 0 = x := ⟨_, rfl⟩
            have x0 := getD_ok OK.out k
            rw [hxk] at x0
            obtain ⟨x0, x1⟩ := x0
            obtain ⟨b1, o1, rfl, c1⟩ := RD.out.addr (by omega)
            have cx := cell_later hD.out.bel (by rw [← hxk]; exact c1 k (by omega) : w.cell? ⟨b1, o1 + k, none⟩ = some (.int .u64 x))
            obtain ⟨V, hV⟩ : ∃ V, V = val (xs.drop (k + 1)) := ⟨_, rfl⟩
            have TE : val (xs.drop k) = V * 65536 + x := by rw [hV, val_drop xs k (by omega), hxk]
            have TL := val_drop_le xs OK.out k
            have V0 : 0 ≤ V := by rw [hV]; exact (val_bd (xs := xs.drop (k + 1)) (fun y hy => OK.out y (List.mem_of_mem_drop hy))).1
            rw [TE, hv] at TL
            have TEH := Lib.hid TE
            have e := hacc.out
            rw [← hV] at e
            have kla : (k : Int) < (la : Int) := by omega
            clear c1 hxk hV TE
            cases ng
            · have n0 : ¬ n < 0 := of_decide_eq_false hng.symm
              rw [if_neg n0] at TL
              rw [if_neg (by decide)] at e
              subst e
              clear hv hng
              go_wp2_with fail
              go_roundw
              case rel => exact ⟨k, _, rfl, by go_num, by omega, Lib.hid (by first | (rw [if_neg (by decide), TEH.out]; omega) | (rw [TEH.out]; omega)), hD⟩
              case measure => first | (simp [intOf]; done) | (simp [intOf]; omega)
            · have n0 : n < 0 := of_decide_eq_true hng.symm
              rw [if_pos n0] at TL
              rw [if_pos rfl] at e
              subst e
              clear hv hng
              go_wp2_with fail
              go_roundw
              case rel => exact ⟨k, _, rfl, by go_num, by omega, Lib.hid (by first | (rw [if_pos rfl, TEH.out]; omega) | (rw [TEH.out]; omega)), hD⟩
              case measure => first | (simp [intOf]; done) | (simp [intOf]; omega)
      · go_wp2_with fail
        go_ret2
        refine ⟨?_, D9.out.bel⟩
        rw [hm.out, hf.out, if_neg (by omega), decide_eq_false (by omega)]
        try first | rfl | (simp [go_sem]; done) | go_simp
end Go.Proofs.Ytbolifjkhoiphaa
