/- Package real: places of a grid. -/
import Derived.Test.YtbolifjkhoiphaaDoorHalf
import Derived.WalkKit
import Derived.WalkSpells
import Derived.WalkLawsBesides
import Derived.Handy
import Derived.Lib.Hide
import Derived.Deep.QuietTactic
import Derived.BigQuiet
import Derived.LoopTactic
import Derived.Outline
namespace Go.Proofs.YtbolifjkhoiphaaDoor
open Go.RowKit Go.Proofs.Flo Go.Proofs.Reg
set_option linter.unusedVariables false
set_option linter.unusedSimpArgs false
set_option maxRecDepth 100000
/-- the place of a number that is n halved h times, on a grid of so many parts -/
def gridOf (n den : Int) (h : Nat) : Int := if h = 0 then n * den else (n * den / 2 ^ (h - 1) + 1) / 2
theorem wmul_below (a b h l : Int) (h0 : -9223372036854775808 ≤ a) (h1 : a ≤ 9223372036854775807) (g0 : -9223372036854775808 ≤ b) (g1 : b ≤ 9223372036854775807)
    (p0 : -9223372036854775808 ≤ h) (p1 : h ≤ 9223372036854775807) (p2 : 0 ≤ l) (p3 : l < 18446744073709551616) (e : h * 18446744073709551616 + l = a * b) (w : World) :
    Calls Tryd.prog 89 #[.int .i64 a, .int .i64 b] w fun e w' => e = .returned (.agg #[.int .i64 h, .int .u64 l]) ∧ Below w.heap.size w w' :=
  (mul_any a b h l h0 h1 g0 g1 p0 p1 p2 p3 e w).mono fun e w' k => ⟨k.1, by rw [k.2]; go_grown⟩
set_option maxHeartbeats 1000000 in
theorem parts_any (x : Nat) (n den : Int) (h : Nat) (HS : ∀ w, Deb w → Calls Tryd.prog 88 #[.float .f64 x] w fun e w' => e = .returned (.tuple #[.int .i64 n, .int .i64 h]) ∧ Below w.heap.size w w')
    (n0 : -9223372036854775808 ≤ n) (n1 : n ≤ 9223372036854775807) (d0 : -9223372036854775808 ≤ den) (d1 : den ≤ 9223372036854775807) (hh : h ≤ 100000) (w : World) (hD : Deb w) :
    Calls Tryd.prog 69 #[.float .f64 x, .int .i64 den] w fun en w' => (∃ h' l : Int, en = .returned (.agg #[.int .i64 h', .int .u64 l]) ∧ h' * 18446744073709551616 + l = gridOf n den h ∧ -9223372036854775808 ≤ h' ∧ h' ≤ 9223372036854775807 ∧ 0 ≤ l ∧ l < 18446744073709551616) ∧ Below w.heap.size w w' := by
  have PR := prod_range n den n0 n1 d0 d1
  obtain ⟨mh, ml, c0, c1, c2, c3, ce⟩ := hl (n * den) (by omega) (by omega)
  have M := Lib.hid (wmul_below n den mh ml n0 n1 d0 d1 c0 c1 c2 c3 ce)
  have S := Lib.hid HS
  have HD := Lib.hid hD
  have HC := Lib.hid ce
  clear HS hD ce
  by_cases z : h = 0
  · subst z
    have G : Hid (gridOf n den 0 = n * den) := Lib.hid (if_pos rfl)
    clear PR
    go_enter Tryd.func69, Tryd.ntmps69
    go_wp2_with fail
    refine (S.out _ (HD.out.later (bel_new w _))).mono ?_
    rintro e w1 ⟨rfl, hb⟩
    have KT := Lib.hid (((Tab.nil w).new [.int .i64 0, .int .u64 0] 155).later hb)
    have KB : Hid (Below w.heap.size w w1) := Lib.hid (bel_tr0 (by go_grown) hb)
    clear hb
    go_wp2_with fail
    refine (M.out _).mono ?_
    rintro e w2 ⟨rfl, hb⟩
    have KB := Lib.hid (bel_tr0 KB.out hb)
    have KT := Lib.hid (KT.out.later hb)
    have z0 := KT.out.cell 0 0 rfl rfl
    have z1 := KT.out.cell 0 1 rfl rfl
    have zf0 := KT.out.froz 0 0 rfl rfl
    have zf1 := KT.out.froz 0 1 rfl rfl
    have lz := KT.out.lt 0 rfl
    have le := KB.out.size
    clear hb
    go_wp2_with fail
    refine bodyPost_ret (v := .agg #[.int .i64 mh, .int .u64 ml]) (by simp [results, Tryd.results69, go_sem, z0, z1, lz]) rfl ?_
    exact ⟨⟨mh, ml, rfl, by rw [G.out]; exact HC.out, c0, c1, c2, c3⟩, (by have hk := KB.out; repeat' (first | exact hk | (with_reducible refine Below.drew ?_) | (with_reducible refine Below.alloc ?_ ?_ _) | (with_reducible refine Below.setCell ?_ ?_ _) | (with_reducible refine below_drewN ?_ _) | go_size))⟩
  · have zb : ((h : Int) == 0) = false := by simpa using z
    have hm : ((h : Int) - 1) = ((h - 1 : Nat) : Int) := by omega
    have G : Hid (gridOf n den h = (n * den / 2 ^ (h - 1) + 1) / 2) := Lib.hid (if_neg z)
    have Q0 := halve_range (n * den) (2 ^ (h - 1)) (pow_ge _) (by omega) (by omega)
    have H1 := Lib.hid (halved_any mh ml (n * den) (h - 1) c0 c1 c2 c3 HC.out (by omega))
    have O1 := Lib.hid (of_below 1 0 1 (by decide) (by decide) (by decide) (by decide) (by decide))
    have QQ : Hid (-85070591730234615865843651857942052864 ≤ n * den / 2 ^ (h - 1) ∧ n * den / 2 ^ (h - 1) ≤ 85070591730234615865843651857942052864) := Lib.hid (by
      have p := pow_ge (h - 1)
      obtain ⟨q, hq⟩ : ∃ q, n * den / 2 ^ (h - 1) = q := ⟨_, rfl⟩
      rw [hq]
      constructor
      · rw [← hq, Int.le_ediv_iff_mul_le (by omega)]
        have : -85070591730234615865843651857942052864 * 2 ^ (h - 1) ≤ -85070591730234615865843651857942052864 * (1 : Int) := Int.mul_le_mul_of_nonpos_left (by decide) p
        omega
      · have : n * den / 2 ^ (h - 1) < 85070591730234615865843651857942052865 := by
          rw [Int.ediv_lt_iff_lt_mul (by omega)]
          have : 85070591730234615865843651857942052865 * (1 : Int) ≤ 85070591730234615865843651857942052865 * 2 ^ (h - 1) := Int.mul_le_mul_of_nonneg_left p (by decide)
          omega
        omega)
    clear PR Q0
    go_enter Tryd.func69, Tryd.ntmps69
    go_wp2_with fail
    refine (S.out _ (HD.out.later (bel_new w _))).mono ?_
    rintro e w1 ⟨rfl, hb⟩
    have KT := Lib.hid (((Tab.nil w).new [.int .i64 0, .int .u64 0] 155).later hb)
    have KB : Hid (Below w.heap.size w w1) := Lib.hid (bel_tr0 (by go_grown) hb)
    clear hb
    go_wp2_with fail
    refine (M.out _).mono ?_
    rintro e w2 ⟨rfl, hb⟩
    have KB := Lib.hid (bel_tr0 KB.out hb)
    have KT := Lib.hid (KT.out.later hb)
    have lz := KT.out.lt 0 rfl
    clear hb
    go_wp2_with fail
    refine (H1.out _).mono ?_
    rintro e w3 ⟨⟨ah, al, rfl, ae, a0, a1, a2, a3⟩, hb⟩
    obtain ⟨ok, sh, sl, s0, s1, s2, s3, se, so, _, SA⟩ := add_ex ah al 0 1 a0 a1 a2 a3 (by decide) (by decide) (by decide) (by decide)
    have okt : ok = true := by
      rw [so, ae]
      have := QQ.out
      exact decide_eq_true (by omega)
    subst okt
    have SE : Hid (sh * 18446744073709551616 + sl = n * den / 2 ^ (h - 1) + 1) := Lib.hid (by
      have := se rfl
      rw [ae] at this
      rw [this]
      omega)
    have SH := Lib.hid SA
    have KB : Hid (Below w.heap.size w w3) := Lib.hid (bel_tr0 (KB.out.alloc KB.out.size _) hb)
    have KT : Hid (Tab w3 [(w.heap.size, [.int .i64 0, .int .u64 0])]) := Lib.hid ((KT.out.alloc _).later hb)
    clear hb se so SA ae
    go_wp2_with fail
    refine (O1.out _).mono ?_
    rintro e w4 ⟨rfl, hb⟩
    have KB := Lib.hid (bel_tr0 KB.out hb)
    have KT := Lib.hid (KT.out.later hb)
    clear hb
    go_wp2_with fail
    refine (SH.out _).mono ?_
    rintro e w5 ⟨rfl, hb⟩
    have KB := Lib.hid (bel_tr0 KB.out hb)
    have KT := Lib.hid (KT.out.later hb)
    have lz := KT.out.lt 0 rfl
    clear hb
    have H2 := Lib.hid (halved_any sh sl (n * den / 2 ^ (h - 1) + 1) 1 s0 s1 s2 s3 SE.out (by decide))
    go_wp2_with fail
    refine (H2.out _).mono ?_
    rintro e w6 ⟨⟨bh, bl, rfl, be, b0, b1, b2, b3⟩, hb⟩
    have BE : Hid (bh * 18446744073709551616 + bl = (n * den / 2 ^ (h - 1) + 1) / 2) := Lib.hid (by rw [be]; rfl)
    have KB : Hid (Below w.heap.size w w6) := Lib.hid (bel_tr0 (KB.out.alloc KB.out.size _) hb)
    have KT : Hid (Tab w6 [(w.heap.size, [.int .i64 0, .int .u64 0])]) := Lib.hid ((KT.out.alloc _).later hb)
    have z0 := KT.out.cell 0 0 rfl rfl
    have z1 := KT.out.cell 0 1 rfl rfl
    have zf0 := KT.out.froz 0 0 rfl rfl
    have zf1 := KT.out.froz 0 1 rfl rfl
    have lz := KT.out.lt 0 rfl
    clear hb be
    go_wp2_with fail
    refine bodyPost_ret (v := .agg #[.int .i64 bh, .int .u64 bl]) (by simp [results, Tryd.results69, go_sem, z0, z1, lz]) rfl ?_
    exact ⟨⟨bh, bl, rfl, by rw [G.out]; exact BE.out, b0, b1, b2, b3⟩, (by have hk := KB.out; repeat' (first | exact hk | (with_reducible refine Below.drew ?_) | (with_reducible refine Below.alloc ?_ ?_ _) | (with_reducible refine Below.setCell ?_ ?_ _) | (with_reducible refine below_drewN ?_ _) | go_size))⟩
end Go.Proofs.YtbolifjkhoiphaaDoor
