/- Law 16: short, the document's sum, speaks, the laws. Made by gen/marb.py. -/
import Derived.Test.YtmelbgabiklojaaMarA
import Derived.Test.YtmelbgabiklojaaShareG
import Derived.WalkKit
import Derived.WalkSpells
import Derived.WalkLawsBesides
import Derived.Handy
import Derived.Lib.Hide
import Derived.Deep.QuietTactic
import Derived.BigQuiet
import Derived.LoopTactic
import Derived.RegionTactic
import Derived.BigRegion
import Derived.Outline
import Derived.Deep.DeepCutAuto
import Derived.Deep.CutBlock
namespace Go.Proofs.Ytmelbgabiklojaa
open Go.RowKit Go.Proofs.Reg Go.Proofs.Big Mar
set_option linter.unusedVariables false
set_option linter.unusedSimpArgs false
set_option maxRecDepth 100000
theorem rm44 (x : Int) (wy : World) : (binOp BinOp.rem 2 (.int .i64 x) (.int .i64 17592186044416)).run Try.prog wy = .ok (.int .i64 (x.tmod 17592186044416)) wy := by
  simp [go_sem]
/-- the margins as the law shortens them -/
def shF (xs : List Int) : List Int := (xs.take 30).map (fun x => x.tmod 17592186044416)
theorem shF_len (xs : List Int) : (shF xs).length = (xs.take 30).length := by simp [shF]
theorem shF_le (xs : List Int) : (shF xs).length ≤ 30 := by rw [shF_len, List.length_take]; omega
theorem shF_rng (xs : List Int) : ∀ x ∈ shF xs, -17592186044416 < x ∧ x < 17592186044416 := fun x hx => by
  obtain ⟨y, _, rfl⟩ := List.mem_map.1 hx
  exact ⟨Int.lt_tmod_of_pos y (by decide), Int.tmod_lt_of_pos y (by decide)⟩
def ShR (w : World) (xs : List Int) (e : Ending) (w' : World) : Prop :=
  (∃ a cap, e = .returned (.slice a (shF xs).length cap) ∧ Ri w' a (shF xs).length cap (shF xs)) ∧ Below w.heap.size w w'
set_option maxHeartbeats 2000000 in
theorem short16_any (a : Option Addr) (len cap : Nat) (xs : List Int) (w : World) (h : Ri w a len cap xs) :
    Calls Try.prog 27 #[.slice a len cap] w (ShR w xs) := by
  have hl := h.hlen
  have hm := h.hmax
  have H := Lib.hid h
  clear h
  obtain ⟨i0, hi, hz0, hz1, hz2⟩ : ∃ i, Try.prog.info? 2 = some i ∧ i.zero = some (.int .i64 0) ∧ i.size = 1 ∧ i.bytes = 8 := by
    have h := info_i64
    cases hq : Try.prog.info? 2 with
    | none => rw [hq] at h; simp at h
    | some i =>
      rw [hq] at h
      simp only [Option.map_some, Option.some.injEq, Prod.mk.injEq] at h
      exact ⟨i, rfl, h.1, h.2.1, h.2.2⟩
  go_enter Try.func27, Try.ntmps27
  go_wp2_with fail
  go_loopw [3, 4] (fun s4 s6 wr => ∃ (k : Nat) (b : Option Addr) (c : Nat), s6 = .int .i64 k ∧ s4 = .slice b k c ∧ k ≤ len ∧ k ≤ 30 ∧ wr.ownsRow w.heap.size 2 1 (.slice b k c) k (((xs.take k).map (fun x => x.tmod 17592186044416)).map (Value.int .i64)) ∧ w.heap.size ≤ wr.heap.size ∧ Hid (Below w.heap.size w wr)) (fun _ s6 _ => len - (intOf s6).toNat)
  case atStart => exact ⟨0, none, 0, rfl, rfl, by omega, by omega, World.ownsRow_nil _ _ _ _, Nat.le_refl _, Lib.hid (Below.refl _ _)⟩
  case round =>
    obtain ⟨k, b, c, rfl, rfl, hk, hk4, hown, hsz, KB⟩ := hrel
    by_cases hlt : k < len ∧ k < 30
    · obtain ⟨hl1, hl2⟩ := hlt
      have kl : (k : Int) < (len : Int) := by omega
      have k4 : (k : Int) < 30 := by omega
      have k0 : (0 : Int) ≤ (k : Int) := by omega
      have e1 : decide ((k : Int) < (len : Int)) = true := decide_eq_true kl
      obtain ⟨p, rfl, hc⟩ := H.out.addr (by omega)
      have HC := Lib.hid hc
      obtain ⟨x, hxk⟩ : ∃ x, xs.getD k 0 = x := ⟨_, rfl⟩
      have d1 := cell_later KB.out (hc k hl1)
      rw [hxk] at d1
      have gx : xs[k]? = some x := by rw [← hxk, List.getD_eq_getElem?_getD, List.getElem?_eq_getElem (by omega)]; rfl
      have TK : Hid (((xs.take (k + 1)).map (fun x => x.tmod 17592186044416)).map (Value.int .i64) = ((xs.take k).map (fun x => x.tmod 17592186044416)).map (Value.int .i64) ++ [.int .i64 (x.tmod 17592186044416)]) := Lib.hid (by rw [List.take_add_one, gx]; simp)
      have HXK := Lib.hid hxk
      have rm := rm44 x
      clear hc hxk gx
      go_wp2_with (at_builtin; refine wpList_append_own _ rfl _ _ 37 rfl w.heap.size 2 i0 (.int .i64 0) 1 8 Try.underlying37 hi hz0 hz1 hz2 rfl (by decide) _ _ _ rfl (hown.alloc _) ⟨wr.heap.size, 0, none⟩ 1 1 [.int .i64 (x.tmod 17592186044416)] rfl rfl ?c1 ?c2 ?c3 ?c4 ?c5 ?_)
      case c1 => exact cell_one_new _ _ _
      case c2 => simp [Value.oneCell']
      case c3 => unfold maxLen; omega
      case c4 => omega
      case c5 => simp; omega
      intro v1 w1 hown1 hgrow _
      have hown2 : w1.ownsRow w.heap.size 2 1 v1 (k + 1) (((xs.take (k + 1)).map (fun x => x.tmod 17592186044416)).map (Value.int .i64)) := by
        rw [TK.out]
        simpa using hown1
      obtain ⟨a1, cap1, rfl, _⟩ := ri_of_owns hown2 (by omega)
      have B1 := Lib.hid (grown_below (B := w.heap.size) hown hgrow (by omega) (by omega) KB.out)
      have HZ : w.heap.size ≤ w1.heap.size := B1.out.size
      clear hown hown1 hgrow d1
      go_wp2_with fail
      go_roundw
      case rel => exact ⟨k + 1, a1, cap1, by go_num, by go_num, by omega, by omega, hown2, HZ, B1⟩
      case measure => simp [intOf]; omega
    · have FIN : Hid (ShR w xs (.returned (.slice b k c)) wr) := Lib.hid (by
        have e2 : k = (shF xs).length := by rw [shF_len, List.length_take]; omega
        have t : (xs.take k).map (fun x => x.tmod 17592186044416) = shF xs := by
          unfold shF
          by_cases h : k = 30
          · rw [h]
          · rw [List.take_of_length_le (by omega), List.take_of_length_le (by omega)]
        have R := ri_of_owns2 hown (by omega)
        rw [t] at R
        refine ⟨⟨b, c, ?_, ?_⟩, KB.out⟩
        · rw [← e2]
        · rw [← e2]; exact R)
      by_cases h1 : k < len
      · have kl : (k : Int) < (len : Int) := by omega
        have k4 : ¬ (k : Int) < 30 := by omega
        have e1 : decide ((k : Int) < (len : Int)) = true := decide_eq_true kl
        have e3 : decide ((k : Int) < 30) = false := decide_eq_false k4
        go_wp2_with fail
        go_returns
        exact FIN.out
      · have kl : ¬ (k : Int) < (len : Int) := by omega
        have e1 : decide ((k : Int) < (len : Int)) = false := decide_eq_false kl
        go_wp2_with fail
        go_returns
        exact FIN.out
/-- the document's sum -/
theorem r16sum_any (a : Option Addr) (n c : Nat) (l : List Int) (hi : ∀ x ∈ l, -17592186044416 < x ∧ x < 17592186044416) (w : World) (h : Ri w a n c l) :
    Calls Try.prog 29 #[.slice a n c] w fun e w' => e = .returned (.int .i64 (upF l + dnF l)) ∧ w' = w := by
  have hn := h.hlen
  have hm := h.hmax
  have HK := Lib.hid h
  have HI := Lib.hid hi
  have HN := Lib.hid hn
  clear h hi hn
  go_enter Try.func29, Try.ntmps29
  go_wp2_with fail
  go_loop [3, 4, 5] (fun s3 s4 s5 => ∃ (j : Nat) (u d : Int), s5 = .int .i64 j ∧ s3 = .int .i64 u ∧ s4 = .int .i64 d ∧ j ≤ n ∧ Hid (upF (l.take j) = u) ∧ Hid (dnF (l.take j) = d)) (fun _ _ s5 => n - (intOf s5).toNat)
  case atStart => exact ⟨0, 0, 0, rfl, rfl, rfl, by omega, Lib.hid rfl, Lib.hid rfl⟩
  case round =>
    obtain ⟨j, u, d, rfl, rfl, rfl, jn, HU, HD⟩ := hrel
    have u0 : 0 ≤ u := by rw [← HU.out]; exact upF_nn _
    have d0 : d ≤ 0 := by rw [← HD.out]; exact dnF_np _
    by_cases lt : j < n
    · have lt' : (j : Int) < (n : Int) := by omega
      obtain ⟨p, rfl, hc⟩ := HK.out.addr (by omega)
      obtain ⟨x, hx⟩ : ∃ x, l.getD j 0 = x := ⟨_, rfl⟩
      have y0 := hc j lt
      rw [hx] at y0
      have hx2 : l[j]? = some x := by rw [← hx, List.getD_eq_getElem?_getD, List.getElem?_eq_getElem (by have := HN.out; omega)]; rfl
      have HU2 : Hid (upF (l.take (j + 1)) = max u (max x 0)) := Lib.hid (by rw [upF_take hx2, HU.out])
      have HD2 : Hid (dnF (l.take (j + 1)) = min d (min x 0)) := Lib.hid (by rw [dnF_take hx2, HD.out])
      have ix : ∀ wy : World, (Instr.indexAt 37 (.slice (some p) n c) (.int .i64 j)).run Try.prog wy = .ok (.pointer (some (p.add j))) wy := fun wy => by
        have k0 : (0 : Int) ≤ (j : Int) := by omega
        simp [go_sem, k0, lt']
        try omega
      clear hc hx hx2 HU HD
      by_cases c1 : u < x
      · by_cases c2 : x < d
        · omega
        · go_wp2_with fail
          go_round
          case rel => exact ⟨j + 1, x, d, by simp, rfl, rfl, by omega, Lib.hid (by rw [HU2.out]; omega), Lib.hid (by rw [HD2.out]; omega)⟩
          case measure => simp [intOf]; omega
      · by_cases c2 : x < d
        · go_wp2_with fail
          go_round
          case rel => exact ⟨j + 1, u, x, by simp, rfl, rfl, by omega, Lib.hid (by rw [HU2.out]; omega), Lib.hid (by rw [HD2.out]; omega)⟩
          case measure => simp [intOf]; omega
        · go_wp2_with fail
          go_round
          case rel => exact ⟨j + 1, u, d, by simp, rfl, rfl, by omega, Lib.hid (by rw [HU2.out]; omega), Lib.hid (by rw [HD2.out]; omega)⟩
          case measure => simp [intOf]; omega
    · have e : l.take j = l := List.take_of_length_le (by have := HN.out; omega)
      have HU2 : Hid (upF l = u) := Lib.hid (by have := HU.out; rw [e] at this; exact this)
      have HD2 : Hid (dnF l = d) := Lib.hid (by have := HD.out; rw [e] at this; exact this)
      have lt' : ¬ (j : Int) < (n : Int) := by omega
      have u1 : u < 17592186044416 := by rw [← HU2.out]; exact upF_lt (fun x hx => (HI.out x hx).2) (by decide)
      have d1 : -17592186044416 < d := by rw [← HD2.out]; exact dnF_gt (fun x hx => (HI.out x hx).1) (by decide)
      clear e HU HD
      go_wp2_with fail
      go_returns
      refine ⟨?_, rfl⟩
      rw [HU2.out, HD2.out]
      rfl
theorem eq_mar (a b : Int) (wy : World) : (binOp BinOp.eql 56 (.agg #[.int .i64 a, .int .i64 b]) (.agg #[.int .i64 a, .int .i64 b])).run Try.prog wy = .ok (.bool true) wy := by
  simp [go_sem]
theorem ri_lit3 (w : World) (x y z : Int) : Ri (w.alloc (.cells #[.int .i64 x, .int .i64 y, .int .i64 z] 2)) (some ⟨w.heap.size, 0, none⟩) 3 3 [x, y, z] :=
  ⟨rfl, by decide, fun _ => ⟨_, rfl, fun k hk => by
    have : k = 0 ∨ k = 1 ∨ k = 2 := by omega
    rcases this with rfl | rfl | rfl <;> simp [Addr.add, go_sem]⟩⟩
theorem ri_lit1 (w : World) (x : Int) : Ri (w.alloc (.cells #[.int .i64 x] 2)) (some ⟨w.heap.size, 0, none⟩) 1 1 [x] :=
  ⟨rfl, by decide, fun _ => ⟨_, rfl, fun k hk => by
    obtain rfl : k = 0 := by omega
    simp [Addr.add, go_sem]⟩⟩
theorem speaks16_any (w : World) : Calls Try.prog 26 #[] w fun e w' => e = .returned (.bool true) ∧ Below w.heap.size w w' := by
  have S := Lib.hid (fun w => sum16_any _ 3 3 [10, 20, -5] (some 15) (by intro x hx; simp at hx; rcases hx with rfl | rfl | rfl <;> exact ⟨by decide, by decide⟩) (by decide) _ (ri_lit3 w 10 20 (-5)))
  have MO := Lib.hid (mof_any (-3))
  have EQ := eq_mar 0 (-3)
  go_enter Try.func26, Try.ntmps26
  go_wp2_with fail
  refine (S.out _).mono ?_
  rintro e w1 ⟨rfl, hb⟩
  have KB : Hid (Below w.heap.size w w1) := Lib.hid (bel_tr0 (bel_newR _ _) hb)
  clear hb
  rw [show smV (some 15) = 15 from rfl, show smE (some 15) = 0 from rfl]
  go_wp2_with fail
  refine (MO.out _).mono ?_
  rintro e w2 ⟨rfl, hb⟩
  have KB := Lib.hid (bel_tr0 KB.out hb)
  clear hb
  rw [show max (-3 : Int) 0 = 0 by decide, show min (-3 : Int) 0 = -3 by decide]
  go_wp2_with fail
  go_returns
  exact ⟨rfl, KB.out⟩
theorem sum_ok {l : List Int} (h : ∀ x ∈ l, -17592186044416 < x ∧ x < 17592186044416) : addAll 0 [upF l, dnF l] = some (upF l + dnF l) := by
  have u0 := upF_nn l
  have d0 := dnF_np l
  have u1 := upF_lt (fun x hx => (h x hx).2) (by decide)
  have d1 := dnF_gt (fun x hx => (h x hx).1) (by decide)
  rw [addAll, if_pos (by omega), addAll, if_pos (by omega), addAll, Int.zero_add]
theorem far_sum (f : Int) : addAll 0 [upF [f], dnF [f]] = if -17592186044416 ≤ f ∧ f ≤ 17592186044416 then some f else none := by
  rw [upF_one, dnF_one]
  by_cases h : -17592186044416 ≤ f ∧ f ≤ 17592186044416
  · rw [if_pos h, addAll, if_pos (by omega), addAll, if_pos (by omega), addAll]; congr 1; omega
  · rw [if_neg h, addAll]
    by_cases p : 0 ≤ f
    · rw [if_neg (by omega)]
    · rw [if_pos (by omega), addAll, if_neg (by omega)]
set_option maxHeartbeats 4000000 in
theorem law_msums (a : Option Addr) (n c : Nat) (l : List Int) (f : Int) (hf : In64 f) (w : World) (h : Ri w a n c l) :
    Calls Try.prog 8 #[.slice a n c, .int .i64 f] w fun e w' => e = .returned (.bool true) ∧ Below w.heap.size w w' := by
  have SP := Lib.hid speaks16_any
  have H := Lib.hid h
  have hs := shF_rng l
  have hl := shF_le l
  have HS := Lib.hid hs
  have SUM := Lib.hid (fun a c w h => sum16_any a (shF l).length c (shF l) _ (fun x hx => ⟨by have := (hs x hx).1; omega, by have := (hs x hx).2; omega⟩) (sum_ok hs) w h)
  have FAR := Lib.hid (fun w => sum16_any _ 1 1 [f] _ (fun x hx => by obtain rfl := List.mem_singleton.1 hx; exact hf) (far_sum f) _ (ri_lit1 w f))
  have REF := Lib.hid (fun a c w h => r16sum_any a (shF l).length c (shF l) hs w h)
  obtain ⟨f0, f1⟩ := hf
  clear h hs
  go_enter Try.func8, Try.ntmps8
  go_wp2_with fail
  refine (SP.out _).mono ?_
  rintro e w1 ⟨rfl, hb⟩
  have KB := Lib.hid hb
  have H1 := Lib.hid (ri_later H.out hb)
  clear hb H
  go_wp2_with fail
  refine (short16_any a n c l w1 H1.out).mono ?_
  rintro e w2 ⟨⟨a2, c2, rfl, R2⟩, hb⟩
  have KB := Lib.hid (bel_tr0 KB.out hb)
  have R2 := Lib.hid R2
  clear hb
  generalize (shF l).length = m at *
  go_wp2_with fail
  refine (SUM.out a2 c2 _ R2.out).mono ?_
  rintro e w3 ⟨rfl, hb⟩
  have KB := Lib.hid (bel_tr0 KB.out hb)
  have R3 := Lib.hid (ri_later R2.out hb)
  clear hb
  rw [show smV (some (upF (shF l) + dnF (shF l))) = upF (shF l) + dnF (shF l) from rfl, show smE (some (upF (shF l) + dnF (shF l))) = 0 from rfl]
  generalize upF (shF l) + dnF (shF l) = s at *
  go_wp2_with fail
  refine (FAR.out _).mono ?_
  rintro e w4 ⟨rfl, hb⟩
  have hb2 := bel_tr0 (bel_newR w3 (.cells #[.int .i64 f] 2)) hb
  have KB := Lib.hid (bel_tr0 KB.out hb2)
  have R4 := Lib.hid (ri_later R3.out hb2)
  clear hb hb2
  have q : (-17592186044416 ≤ f ∧ f ≤ 17592186044416) ∨ (¬ -17592186044416 ≤ f) ∨ (-17592186044416 ≤ f ∧ ¬ f ≤ 17592186044416) := by omega
  rcases q with ⟨q1, q2⟩ | q1 | ⟨q1, q2⟩
  · rw [if_pos ⟨q1, q2⟩, show smE (some f) = 0 from rfl, show smV (some f) = f from rfl]
    go_wp2_with fail
    refine (REF.out a2 c2 _ R4.out).mono ?_
    rintro e w5 ⟨rfl, hw⟩
    obtain rfl := hw.symm
    clear hw
    go_wp2_with fail
    go_returns
    exact ⟨rfl, KB.out⟩
  · rw [if_neg (fun h => q1 h.1), show smE none = 2 from rfl, show smV none = 0 from rfl]
    go_wp2_with fail
    refine (REF.out a2 c2 _ R4.out).mono ?_
    rintro e w5 ⟨rfl, hw⟩
    obtain rfl := hw.symm
    clear hw
    go_wp2_with fail
    go_returns
    exact ⟨rfl, KB.out⟩
  · rw [if_neg (fun h => q2 h.2), show smE none = 2 from rfl, show smV none = 0 from rfl]
    have q3 : decide (f ≤ 17592186044416) = false := decide_eq_false q2
    go_wp2_with fail
    refine (REF.out a2 c2 _ R4.out).mono ?_
    rintro e w5 ⟨rfl, hw⟩
    obtain rfl := hw.symm
    clear hw
    go_wp2_with fail
    go_returns
    refine ⟨?_, KB.out⟩
    simp [Array.getD, q3]
end Go.Proofs.Ytmelbgabiklojaa
