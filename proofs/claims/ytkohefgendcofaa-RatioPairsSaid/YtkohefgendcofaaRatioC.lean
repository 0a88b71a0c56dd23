/- Package ratio: Down, Half; RatioScales: its walk. -/
import Derived.Test.YtkohefgendcofaaRatioB
import Derived.WalkKit
import Derived.WalkSpells
import Derived.WalkLawsBesides
import Derived.Handy
import Derived.Lib.Hide
import Derived.Deep.QuietTactic
import Derived.BigQuiet
import Derived.LoopTactic
import Derived.Deep.RegionHeld3
import Derived.Deep.RegionWith
import Derived.Outline
import Derived.Deep.DeepCutAuto
namespace Go.Proofs.Ytkohefgendcofaa
open Go.RowKit
set_option linter.unusedVariables false
set_option maxRecDepth 100000
set_option linter.unusedSimpArgs false



theorem lt2 (k : Nat) : k < k + 1 + 1 := by omega
theorem lt3 (k : Nat) : k < k + 1 + 1 + 1 := by omega
theorem down_bad (n d x : Int) (h0 : -9223372036854775808 ≤ n) (h1 : n ≤ 9223372036854775807) (g0 : -9223372036854775808 ≤ d) (g1 : d ≤ 9223372036854775807) (hg : goodB n d = false) (w : World) :
    Calls Try.prog 32 #[.agg #[.int .i64 n, .int .i64 d], .int .i64 x] w fun e w' => e = .returned (.tuple #[.int .i64 0, .int .i64 1]) ∧ Below w.heap.size w w' := by
  go_enter Try.func32, Try.ntmps32
  go_wp2_with fail
  refine (good_any n d h0 h1 g0 g1 _).mono ?_
  rintro e w1 ⟨rfl, hb1⟩
  have HB1 := Lib.hid (((Below.refl w.heap.size w).alloc (Nat.le_refl _) _).trans (hb1.mono (by simp)))
  clear hb1
  go_wp2_with fail
  go_returns
  exact ⟨rfl, HB1.out⟩
theorem down_ok (n d x q r : Int) (h0 : -9223372036854775808 ≤ n) (h1 : n ≤ 9223372036854775807) (g0 : 1 ≤ d) (g1 : d ≤ 9223372036854775807) (x0 : -9223372036854775808 ≤ x) (x1 : x ≤ 9223372036854775807) (hg : goodB n d = true)
    (e : Hid (x * n = q * d + r)) (r0 : 0 ≤ r) (r1 : r < d) (q0 : -9223372036854775808 ≤ q) (q1 : q ≤ 9223372036854775807) (w : World) :
    Calls Try.prog 32 #[.agg #[.int .i64 n, .int .i64 d], .int .i64 x] w fun e w' => e = .returned (.tuple #[.int .i64 q, .int .i64 0]) ∧ Below w.heap.size w w' := by
  go_enter Try.func32, Try.ntmps32
  go_wp2_with fail
  refine (good_any n d h0 h1 (by omega) g1 _).mono ?_
  rintro e w1 ⟨rfl, hb1⟩
  have c0 : w1.cell? ⟨w.heap.size, 0, none⟩ = some (.int .i64 n) := cell_later hb1 (by simp [go_sem])
  have c1 : w1.cell? ⟨w.heap.size, 1, none⟩ = some (.int .i64 d) := cell_later hb1 (by simp [go_sem])
  have HB1 := Lib.hid (((Below.refl w.heap.size w).alloc (Nat.le_refl _) _).trans (hb1.mono (by simp)))
  clear hb1
  go_wp2_with fail
  refine (muldiv_ok x n d q r x0 x1 h0 h1 (by omega) g1 (by omega) q0 q1 e.out (.inl ⟨r0, r1⟩) _).mono ?_
  rintro e w2 ⟨rfl, hb2⟩
  have HB2 := Lib.hid (HB1.out.trans (hb2.mono HB1.out.size))
  clear hb2
  go_wp2_with fail
  go_returns
  exact ⟨rfl, HB2.out⟩
theorem down_no (n d x q r : Int) (h0 : -9223372036854775808 ≤ n) (h1 : n ≤ 9223372036854775807) (g0 : 1 ≤ d) (g1 : d ≤ 9223372036854775807) (x0 : -9223372036854775808 ≤ x) (x1 : x ≤ 9223372036854775807) (hg : goodB n d = true)
    (e : Hid (x * n = q * d + r)) (r0 : 0 ≤ r) (r1 : r < d) (q0 : Hid (q < -9223372036854775808 ∨ 9223372036854775807 < q)) (w : World) :
    Calls Try.prog 32 #[.agg #[.int .i64 n, .int .i64 d], .int .i64 x] w fun e w' => e = .returned (.tuple #[.int .i64 0, .int .i64 2]) ∧ Below w.heap.size w w' := by
  go_enter Try.func32, Try.ntmps32
  go_wp2_with fail
  refine (good_any n d h0 h1 (by omega) g1 _).mono ?_
  rintro e w1 ⟨rfl, hb1⟩
  have c0 : w1.cell? ⟨w.heap.size, 0, none⟩ = some (.int .i64 n) := cell_later hb1 (by simp [go_sem])
  have c1 : w1.cell? ⟨w.heap.size, 1, none⟩ = some (.int .i64 d) := cell_later hb1 (by simp [go_sem])
  have HB1 := Lib.hid (((Below.refl w.heap.size w).alloc (Nat.le_refl _) _).trans (hb1.mono (by simp)))
  clear hb1
  go_wp2_with fail
  refine (muldiv_no x n d q r x0 x1 h0 h1 (by omega) g1 (by omega) q0.out e.out (.inl ⟨r0, r1⟩) _).mono ?_
  rintro e w2 ⟨rfl, hb2⟩
  have HB2 := Lib.hid (HB1.out.trans (hb2.mono HB1.out.size))
  clear hb2
  go_wp2_with fail
  go_returns
  exact ⟨rfl, HB2.out⟩
theorem half_bad (n d x : Int) (h0 : -9223372036854775808 ≤ n) (h1 : n ≤ 9223372036854775807) (g0 : -9223372036854775808 ≤ d) (g1 : d ≤ 9223372036854775807) (hg : goodB n d = false) (w : World) :
    Calls Try.prog 33 #[.agg #[.int .i64 n, .int .i64 d], .int .i64 x] w fun e w' => e = .returned (.tuple #[.int .i64 0, .int .i64 1]) ∧ Below w.heap.size w w' := by
  go_enter Try.func33, Try.ntmps33
  go_wp2_with fail
  refine (good_any n d h0 h1 g0 g1 _).mono ?_
  rintro e w1 ⟨rfl, hb1⟩
  have HB1 := Lib.hid (((Below.refl w.heap.size w).alloc (Nat.le_refl _) _).trans (hb1.mono (by simp)))
  clear hb1
  go_wp2_with fail
  go_returns
  exact ⟨rfl, HB1.out⟩
set_option maxRecDepth 100000 in
set_option maxHeartbeats 2000000 in
theorem half_mid (n d x q r ph pl qh ql hh hl' h : Int) (fits : Bool) (H er : Int) (h0 : -9223372036854775808 ≤ n) (h1 : n ≤ 9223372036854775807) (g0 : 1 ≤ d) (g1 : d ≤ 9223372036854775807) (x0 : -9223372036854775808 ≤ x) (x1 : x ≤ 9223372036854775807) (hg : goodB n d = true)
    (r0 : 0 ≤ r) (r1 : r < d)
    (MU : Hid (∀ w : World, Calls Try.prog 79 #[.int .i64 x, .int .i64 n] w fun e w' => e = .returned (.agg #[.int .i64 ph, .int .u64 pl]) ∧ w' = w.alloc (.cells #[.int .i64 ph, .int .u64 pl] 26)))
    (DI : Hid (∀ w : World, Calls Try.prog 63 #[.agg #[.int .i64 ph, .int .u64 pl], .int .i64 d] w fun e w' => e = .returned (.tuple #[.agg #[.int .i64 qh, .int .u64 ql], .int .i64 r, .bool true]) ∧ Below w.heap.size w w'))
    (AD0 : Hid (d - r ≤ r → ∀ w : World, Calls Try.prog 14 #[.agg #[.int .i64 qh, .int .u64 ql], .agg #[.int .i64 0, .int .u64 1]] w fun e w' => e = .returned (.tuple #[.agg #[.int .i64 hh, .int .u64 hl'], .bool true]) ∧ Below w.heap.size w w'))
    (IN1 : Hid (∀ w : World, Calls Try.prog 64 #[.agg #[.int .i64 hh, .int .u64 hl']] w fun e w' => e = .returned (.tuple #[.int .i64 h, .bool fits]) ∧ Below w.heap.size w w'))
    (SM : Hid (¬ d - r ≤ r → hh = qh ∧ hl' = ql)) (ER : Hid ((fits = true → H = h ∧ er = 0) ∧ (fits = false → H = 0 ∧ er = 2)))
    (w : World) :
    Calls Try.prog 33 #[.agg #[.int .i64 n, .int .i64 d], .int .i64 x] w fun e w' => e = .returned (.tuple #[.int .i64 H, .int .i64 er]) ∧ Below w.heap.size w w' := by
  go_enter Try.func33, Try.ntmps33
  go_wp2_with fail
  refine (good_any n d h0 h1 (by omega) g1 _).mono ?_
  rintro e w1 ⟨rfl, hb1⟩
  have c0 : w1.cell? ⟨w.heap.size, 0, none⟩ = some (.int .i64 n) := cell_later hb1 (by simp [go_sem])
  have c1 : w1.cell? ⟨w.heap.size, 1, none⟩ = some (.int .i64 d) := cell_later hb1 (by simp [go_sem])
  have HB1 := Lib.hid (((Below.refl w.heap.size w).alloc (Nat.le_refl _) _).trans (hb1.mono (by simp)))
  have z1 : w.heap.size < w1.heap.size := by have := hb1.size; simp only [World.size_alloc] at this; omega
  have z11 : w.heap.size < w1.heap.size + 1 := by omega
  have z12 : w.heap.size < w1.heap.size + 1 + 1 := by omega
  clear hb1
  go_upto_region 3 with fail
  go_cut [6, 7, 8] (fun s6 s7 s8 wx => ∃ g : Nat, s6 = .pointer (some ⟨g, 0, none⟩) ∧ s7 = .int .i64 r ∧ s8 = .bool true ∧ wx.cell? ⟨g, 0, none⟩ = some (.int .i64 qh) ∧ wx.cell? ⟨g, 1, none⟩ = some (.int .u64 ql) ∧ wx.frozen? ⟨g, 0, none⟩ = false ∧ wx.frozen? ⟨g, 1, none⟩ = false ∧ w.heap.size < g ∧ wx.cell? ⟨w.heap.size, 1, none⟩ = some (.int .i64 d) ∧ Hid (Below w.heap.size w wx))
  case first =>
    go_region_held3 (fun w' => w'.cell? ⟨w.heap.size, 0, none⟩ = some (.int .i64 n) ∧ w'.cell? ⟨w.heap.size, 1, none⟩ = some (.int .i64 d)) (first | (go_keep; done) | (simp [go_sem, World.cell?_alloc_past, *]; done) | (refine ⟨cell_later HB6.out ?_, cell_later HB6.out ?_⟩ <;> (simp [go_sem, *]; done)) | (refine ⟨keep_alloc (cell_later HB6.out ?_), keep_alloc (cell_later HB6.out ?_)⟩ <;> (simp [go_sem, *]; done))) (first
      | (go_at_call 79; refine (MU.out _).mono ?_; rintro e w' ⟨rfl, rfl⟩)
      | (go_at_call 63; refine (DI.out _).mono ?_; rintro e w6 ⟨rfl, hb6⟩; obtain ⟨hc6, hf6⟩ := bcell hb6; have HB6 := Lib.hid hb6; clear hb6))
    all_goals
      go_wp2_with fail
      go_meet
      have b6 : Below w.heap.size w w6 := below_step HB1.out (by go_grown) HB6.out
      have z6 := HB6.out.size
      simp only [World.size_alloc, World.size_drew] at z6
      have z61 : w.heap.size < w6.heap.size := by omega
      refine ⟨_, rfl, rfl, rfl, ?_, ?_, ?_, ?_, ?_, ?_, Lib.hid ?_⟩
      · simp [go_sem, hc6, lt2, lt3]
      · simp [go_sem, hc6, lt2, lt3]
      · simp [go_sem, hf6, lt2, lt3]
      · simp [go_sem, hf6, lt2, lt3]
      · omega
      · simp [go_sem, *]
      · repeat' (first | exact b6 | (with_reducible refine Below.drew ?_) | (with_reducible refine Below.alloc ?_ ?_ _) | (with_reducible refine Below.setCell ?_ ?_ _) | go_size)
  case rest =>
    obtain ⟨g, rfl, rfl, rfl, k0, k1, k2, k3, k4, k5, HB7⟩ := hcut
    clear HB1 c0 c1 z1 z11 z12
    by_cases up : d - r ≤ r
    · go_upto_region 5 with fail
      go_cut [8] (fun s8 wx => s8 = .bool true ∧ wx.cell? ⟨g, 0, none⟩ = some (.int .i64 hh) ∧ wx.cell? ⟨g, 1, none⟩ = some (.int .u64 hl') ∧ Hid (Below w.heap.size w wx))
      case first =>
        have AD := AD0.out up
        have z8 : g < wc.heap.size := by have := World.block_lt_of_cell? wc _ k0; exact this
        have z81 : g < wc.heap.size + 1 := by omega
        go_region_with (first
          | (go_at_call 62; refine (of_any 1 0 1 (by decide) (by decide) (by decide) (by decide) (by decide) _).mono ?_; rintro e w' ⟨rfl, rfl⟩)
          | (go_at_call 14; refine (AD _).mono ?_; rintro e w6 ⟨rfl, hb6⟩; obtain ⟨hc6, hf6⟩ := bcell hb6; have HB6 := Lib.hid hb6; clear hb6))
        all_goals
          have b6 : Below w.heap.size w w6 := below_step HB7.out (by go_grown) HB6.out
          have z9 : w.heap.size ≤ g := by omega
          have e0 : w6.cell? ⟨g, 0, none⟩ = some (.int .i64 qh) := by simp [go_sem, *]
          have e1 : w6.cell? ⟨g, 1, none⟩ = some (.int .u64 ql) := by simp [go_sem, *]
          have e2 : w6.frozen? ⟨g, 0, none⟩ = false := by simp [go_sem, *]
          have e3 : w6.frozen? ⟨g, 1, none⟩ = false := by simp [go_sem, *]
          clear hc6 hf6
          go_wp2_with fail
          go_meet
          refine ⟨rfl, ?_, ?_, Lib.hid ?_⟩
          · simp [go_sem, e0, e1]
          · simp [go_sem, e0, e1]
          · repeat' (first | exact b6 | (with_reducible refine Below.drew ?_) | (with_reducible refine Below.alloc ?_ ?_ _) | (with_reducible refine Below.setCell ?_ ?_ _) | go_size)
      case rest =>
        obtain ⟨rfl, m0, m1, HB8⟩ := hcut
        go_wp2_with fail
        refine (IN1.out _).mono ?_
        rintro e w9 ⟨rfl, hb9⟩
        have HB9 := Lib.hid (HB8.out.trans (hb9.mono HB8.out.size))
        clear hb9
        cases fits
        · obtain ⟨rfl, rfl⟩ := ER.out.2 rfl
          go_wp2_with fail
          go_returns
          exact ⟨rfl, HB9.out⟩
        · obtain ⟨rfl, rfl⟩ := ER.out.1 rfl
          go_wp2_with fail
          go_returns
          exact ⟨rfl, HB9.out⟩
    · obtain ⟨rfl, rfl⟩ := SM.out (by omega)
      have HB8 := HB7
      go_wp2_with fail
      refine (IN1.out _).mono ?_
      rintro e w9 ⟨rfl, hb9⟩
      have HB9 := Lib.hid (HB8.out.trans (hb9.mono HB8.out.size))
      clear hb9
      cases fits
      · obtain ⟨rfl, rfl⟩ := ER.out.2 rfl
        go_wp2_with fail
        go_returns
        exact ⟨rfl, HB9.out⟩
      · obtain ⟨rfl, rfl⟩ := ER.out.1 rfl
        go_wp2_with fail
        go_returns
        exact ⟨rfl, HB9.out⟩
theorem half_any (n d x q r h H er : Int) (h0 : -9223372036854775808 ≤ n) (h1 : n ≤ 9223372036854775807) (g0 : 1 ≤ d) (g1 : d ≤ 9223372036854775807) (x0 : -9223372036854775808 ≤ x) (x1 : x ≤ 9223372036854775807) (hg : goodB n d = true)
    (e : x * n = q * d + r) (r0 : 0 ≤ r) (r1 : r < d) (hh : h = if d - r ≤ r then q + 1 else q)
    (hr : (-9223372036854775808 ≤ h ∧ h ≤ 9223372036854775807 ∧ H = h ∧ er = 0) ∨ (¬ (-9223372036854775808 ≤ h ∧ h ≤ 9223372036854775807) ∧ H = 0 ∧ er = 2)) (w : World) :
    Calls Try.prog 33 #[.agg #[.int .i64 n, .int .i64 d], .int .i64 x] w fun e w' => e = .returned (.tuple #[.int .i64 H, .int .i64 er]) ∧ Below w.heap.size w w' := by
  obtain ⟨p0, p1⟩ := prod_range x n x0 x1 h0 h1
  obtain ⟨ph, pl, a0, a1, a2, a3, ae⟩ := hl (x * n) (by omega) (by omega)
  obtain ⟨s0, s1⟩ := quo_range p0 p1 (show d ≠ 0 by omega) e (.inl ⟨r0, r1⟩)
  obtain ⟨qh, ql, b0, b1, b2, b3, be⟩ := hl q (by omega) (by omega)
  have hb : -85070591730234615865843651857942052866 ≤ h ∧ h ≤ 85070591730234615865843651857942052866 := by rw [hh]; split <;> omega
  obtain ⟨hh', hl', c0, c1, c2, c3, ce⟩ := hl h (by omega) (by omega)
  obtain ⟨fits, hfit⟩ : ∃ fits : Bool, fits = decide (-9223372036854775808 ≤ h ∧ h ≤ 9223372036854775807) := ⟨_, rfl⟩
  have up : d - r ≤ r → h = q + 1 := fun u => by rw [hh, if_pos u]
  have dn : ¬ d - r ≤ r → h = q := fun u => by rw [hh, if_neg u]
  refine half_mid n d x q r ph pl qh ql hh' hl' (if fits then h else 0) fits H er h0 h1 g0 g1 x0 x1 hg r0 r1
    (Lib.hid (mul_any x n ph pl x0 x1 h0 h1 a0 a1 a2 a3 ae)) (Lib.hid (div_ok ph pl d qh ql r a0 a1 a2 a3 (by omega) g1 (by omega) b0 b1 b2 b3 (by rw [be, ae, e]) (.inl ⟨r0, r1⟩)))
    (Lib.hid fun u => add_mid qh ql 0 1 hh' hl' hh' hl' true b0 b1 b2 b3 (by decide) (by decide) (by decide) (by decide) c0 c1 c2 c3 (by have := up u; omega) (fun _ => ⟨rfl, rfl, by have := up u; omega⟩) (fun h => by cases h))
    (Lib.hid ?_) (Lib.hid fun u => by have := dn u; omega) (Lib.hid ⟨fun u => ?_, fun u => ?_⟩) w
  · by_cases hf : -9223372036854775808 ≤ h ∧ h ≤ 9223372036854775807
    · rw [hfit, decide_eq_true hf]
      exact int_ok hh' hl' h c0 c1 c2 c3 hf.1 hf.2 ce
    · rw [hfit, decide_eq_false hf]
      exact int_no hh' hl' c0 c1 c2 c3 (by omega)
  · rw [u] at hfit ⊢
    have := of_decide_eq_true hfit.symm
    rcases hr with k | k
    · exact ⟨k.2.2.1, k.2.2.2⟩
    · exact absurd this k.1
  · rw [u] at hfit
    have := of_decide_eq_false hfit.symm
    rcases hr with k | k
    · exact absurd ⟨k.1, k.2.1⟩ this
    · exact k.2
end Go.Proofs.Ytkohefgendcofaa
