/- Law 5: same, speaks. -/
import Derived.Test.YtlkpegfbnmecpaaShareD
import Derived.RegionTactic
import Derived.WalkKit
import Derived.WalkSpells
import Derived.WalkLawsBesides
import Derived.Handy
import Derived.Lib.Hide
import Derived.Deep.QuietTactic
import Derived.BigQuiet
import Derived.LoopTactic
import Derived.Outline
namespace Go.Proofs.Ytlkpegfbnmecpaa
open Go.RowKit Go.Proofs.Reg
set_option linter.unusedVariables false
set_option linter.unusedSimpArgs false
set_option maxRecDepth 100000
set_option maxHeartbeats 1000000 in
theorem same5_any (a b : Option Addr) (n1 c1 n2 c2 : Nat) (xs ys : List Int) (w : World) (h1 : Ri w a n1 c1 xs) (h2 : Ri w b n2 c2 ys) :
    Calls Try.prog 13 #[.slice a n1 c1, .slice b n2 c2] w fun e w' => e = .returned (.bool (decide (xs = ys))) ∧ Below w.heap.size w w' := by
  have l1 := h1.hlen
  have l2 := h2.hlen
  have m1 := h1.hmax
  have m2 := h2.hmax
  have H1 := Lib.hid h1
  have H2 := Lib.hid h2
  clear h1 h2
  by_cases hn : n1 = n2
  · subst hn
    go_enter Try.func13, Try.ntmps13
    go_wp2_with fail
    go_loopw [5] (fun s5 wr => ∃ k : Nat, s5 = .int .i64 k ∧ k ≤ n1 ∧ Hid (xs.take k = ys.take k) ∧ Hid (Below w.heap.size w wr)) (fun s5 _ => n1 - (intOf s5).toNat)
    case atStart => exact ⟨0, rfl, by omega, Lib.hid rfl, Lib.hid (Below.refl _ _)⟩
    case round =>
      obtain ⟨k, rfl, hk, HE, KB⟩ := hrel
      by_cases hlt : k < n1
      · have kl : (k : Int) < (n1 : Int) := by omega
        have k0 : (0 : Int) ≤ (k : Int) := by omega
        obtain ⟨p, rfl, hc⟩ := H1.out.addr (by omega)
        obtain ⟨q, rfl, hd⟩ := H2.out.addr (by omega)
        obtain ⟨x, hx⟩ : ∃ x, xs.getD k 0 = x := ⟨_, rfl⟩
        obtain ⟨y, hy⟩ : ∃ y, ys.getD k 0 = y := ⟨_, rfl⟩
        have d1 := cell_later KB.out (hc k hlt)
        have d2 := cell_later KB.out (hd k hlt)
        rw [hx] at d1
        rw [hy] at d2
        have gx : xs[k]? = some x := by rw [← hx, List.getD_eq_getElem?_getD, List.getElem?_eq_getElem (by omega)]; rfl
        have gy : ys[k]? = some y := by rw [← hy, List.getD_eq_getElem?_getD, List.getElem?_eq_getElem (by omega)]; rfl
        have GX := Lib.hid gx
        have GY := Lib.hid gy
        clear hc hd hx hy gx gy
        by_cases e : x = y
        · subst e
          have HE2 : Hid (xs.take (k + 1) = ys.take (k + 1)) := Lib.hid (by rw [List.take_add_one, List.take_add_one, HE.out, GX.out, GY.out])
          have nb : (x != x) = false := by simp
          go_wp2_with fail
          go_quiet (fail)
          go_wp2_with fail
          go_roundw
          case rel => exact ⟨k + 1, by go_num, by omega, HE2, Lib.hid (below_drewN KB.out _)⟩
          case measure => simp [intOf]; omega
        · have nb : (x != y) = true := by simpa using e
          have NE : Hid (decide (xs = ys) = false) := Lib.hid (decide_eq_false fun h => e (by
            have := GX.out
            rw [h, GY.out] at this
            exact (Option.some.inj this).symm))
          go_wp2_with fail
          go_quiet (fail)
          go_wp2_with fail
          go_ret
          exact ⟨by rw [NE.out]; rfl, below_drewN KB.out _⟩
      · have kl : ¬ (k : Int) < (n1 : Int) := by omega
        have NE : Hid (decide (xs = ys) = true) := Lib.hid (decide_eq_true (by
          have := HE.out
          rwa [List.take_of_length_le (by omega), List.take_of_length_le (by omega)] at this))
        go_wp2_with fail
        go_ret
        exact ⟨by rw [NE.out]; rfl, KB.out⟩
  · have NE : Hid (decide (xs = ys) = false) := Lib.hid (decide_eq_false fun h => hn (by rw [← l1, ← l2, h]))
    have nb : ((n1 : Int) != (n2 : Int)) = true := by simp; omega
    go_enter Try.func13, Try.ntmps13
    go_wp2_with fail
    go_returns
    exact ⟨by rw [NE.out]; rfl, Below.refl _ _⟩
theorem cells3_new (w : World) (x y z : Int) : Ri (w.alloc (.cells #[.int .i64 x, .int .i64 y, .int .i64 z] 2)) (some ⟨w.heap.size, 0, none⟩) 3 3 [x, y, z] :=
  ⟨rfl, by decide, fun _ => ⟨_, rfl, fun k hk => by
    match k, hk with
    | 0, _ => simp [go_sem, Addr.add]
    | 1, _ => simp [go_sem, Addr.add]
    | 2, _ => simp [go_sem, Addr.add]⟩⟩
theorem cells1_new (w : World) (x : Int) : Ri (w.alloc (.cells #[.int .i64 x] 2)) (some ⟨w.heap.size, 0, none⟩) 1 1 [x] :=
  ⟨rfl, by decide, fun _ => ⟨_, rfl, fun k hk => by
    match k, hk with
    | 0, _ => simp [go_sem, Addr.add]⟩⟩
set_option maxHeartbeats 1000000 in
theorem speaks5_any (w : World) : Calls Try.prog 10 #[] w fun e w' => e = .returned (.bool true) ∧ Below w.heap.size w w' := by
  have S1 := Lib.hid (ssplit_any _ 3 3 [1, 1, 1] 10 _ (cells3_new w 1 1 1) (by decide))
  have B1 := Lib.hid (bel_new w (.cells #[.int .i64 1, .int .i64 1, .int .i64 1] 2))
  go_enter Try.func10, Try.ntmps10
  go_wp2_with fail
  refine S1.out.mono ?_
  rintro e w1 ⟨hb, hr⟩
  have KB := Lib.hid (bel_tr0 B1.out hb)
  obtain ⟨b1, rfl, O1⟩ : ∃ b, e = .returned (.tuple #[.slice (some ⟨b, 0, none⟩) 3 3, .int .i64 0]) ∧ Hid (OwnI w1 b [3, 3, 4]) := by
    rcases hr with ⟨h, _⟩ | ⟨_, h, _⟩ | ⟨_, _, _, _, b, h, _, o⟩ | ⟨_, _, no, _⟩
    · omega
    · exact absurd h (by decide)
    · exact ⟨b, h, Lib.hid o⟩
    · exact absurd (by unfold okT okS; decide) no
  clear hb hr S1 B1
  go_wp2_with fail
  refine (seven_any (-10) 3 _).mono ?_
  rintro e w2 ⟨hb, hr⟩
  have KB := Lib.hid (bel_tr0 KB.out hb)
  have O1 := Lib.hid (O1.out.later hb)
  obtain ⟨b2, rfl, O2⟩ : ∃ b, e = .returned (.tuple #[.slice (some ⟨b, 0, none⟩) 3 3, .int .i64 0]) ∧ Hid (OwnI w2 b [-4, -3, -3]) := by
    rcases hr with ⟨h, _⟩ | ⟨h, _⟩ | ⟨m, hm, _, _, b, h, _, o⟩ | ⟨_, _, no, _⟩
    · omega
    · omega
    · obtain rfl : m = 3 := by omega
      exact ⟨b, h, Lib.hid o⟩
    · exact absurd (by unfold okT; decide) no
  clear hb hr
  have S3 := Lib.hid (ssplit_any _ 1 1 [-1] 1 _ (cells1_new w2 (-1)) (by decide))
  have B3 := Lib.hid (bel_new w2 (.cells #[.int .i64 (-1)] 2))
  go_wp2_with fail
  refine S3.out.mono ?_
  rintro e w3 ⟨hb, hr⟩
  have BB := Lib.hid (bel_tr0 B3.out hb)
  have KB := Lib.hid (bel_tr0 KB.out BB.out)
  have O1 := Lib.hid (O1.out.later BB.out)
  have O2 := Lib.hid (O2.out.later BB.out)
  obtain ⟨b3, rfl⟩ : ∃ v, e = .returned (.tuple #[v, .int .i64 1]) := by
    rcases hr with ⟨h, _⟩ | ⟨_, _, h⟩ | ⟨_, h, _⟩ | ⟨_, h, _⟩
    · omega
    · exact ⟨_, h⟩
    · exact absurd h (by decide)
    · exact absurd h (by decide)
  clear hb hr S3 B3 BB
  have B4 := Lib.hid (bel_new w3 (.cells #[.int .i64 3, .int .i64 3, .int .i64 4] 2))
  have S4 := Lib.hid (same5_any _ _ 3 3 3 3 _ _ _ (ri_later (O1.out.ri rfl (by decide)) B4.out) (cells3_new w3 3 3 4))
  go_wp2_with fail
  refine S4.out.mono ?_
  rintro e w4 ⟨rfl, hb⟩
  have BB := Lib.hid (bel_tr0 B4.out hb)
  have KB := Lib.hid (bel_tr0 KB.out BB.out)
  have O2 := Lib.hid (O2.out.later BB.out)
  clear hb S4 B4 BB
  have B5 := Lib.hid (bel_new w4 (.cells #[.int .i64 (-4), .int .i64 (-3), .int .i64 (-3)] 2))
  have S5 := Lib.hid (same5_any _ _ 3 3 3 3 _ _ _ (ri_later (O2.out.ri rfl (by decide)) B5.out) (cells3_new w4 (-4) (-3) (-3)))
  go_wp2_with fail
  refine S5.out.mono ?_
  rintro e w5 ⟨rfl, hb⟩
  have KB := Lib.hid (bel_tr0 KB.out (bel_tr0 B5.out hb))
  clear hb S5 B5
  go_wp2_with fail
  go_returns
  exact ⟨rfl, KB.out⟩
end Go.Proofs.Ytlkpegfbnmecpaa
