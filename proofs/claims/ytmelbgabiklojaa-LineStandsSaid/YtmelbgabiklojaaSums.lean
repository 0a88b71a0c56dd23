/- Sub; the closures of FixedSums; the reference's Add. -/
import Derived.Test.YtmelbgabiklojaaParts
import Derived.Test.YtmelbgabiklojaaWideE
import Derived.WalkKit
import Derived.WalkSpells
import Derived.WalkLawsBesides
import Derived.Handy
import Derived.Lib.Hide
import Derived.Deep.QuietTactic
import Derived.BigQuiet
import Derived.LoopTactic
import Derived.RegionTactic
import Derived.BigRegion
import Derived.Deep.RegionHeld3
import Derived.Deep.RegionWith
import Derived.Outline
import Derived.Deep.DeepCutAuto
namespace Go.Proofs.Ytmelbgabiklojaa
open Go.RowKit Go.Proofs.Big Go.Proofs.Reg
set_option linter.unusedVariables false
set_option linter.unusedSimpArgs false
set_option maxRecDepth 100000
theorem length_ends (q v er f m : Int) (is : Bool) (w : World) (hf : is = decide (-9223372036854775808 ≤ q ∧ q < 9223372036854775808)) (hm : is = true → m = q) (ht : Tl q v er) :
    Calls Try.prog 53 #[.int .i64 m, .bool is] w fun e w' => Ends v er e ∧ w' = w := by
  cases is
  · rcases ht with ⟨hl, rfl, rfl⟩ | ⟨hl, rfl, rfl⟩
    · have := lenB_true hl
      rw [decide_eq_true ⟨by omega, by omega⟩] at hf
      cases hf
    · refine (length_no m w).mono ?_
      rintro e w' ⟨rfl, rfl⟩
      exact ⟨.inr ⟨by decide, rfl, rfl⟩, rfl⟩
  · obtain rfl := hm rfl
    rcases ht with ⟨hl, rfl, rfl⟩ | ⟨hl, rfl, rfl⟩
    · have := lenB_true hl
      refine (length_ok _ this.1 this.2 w).mono ?_
      rintro e w' ⟨rfl, rfl⟩
      exact ⟨.inl ⟨rfl, rfl⟩, rfl⟩
    · have := lenB_false hl
      refine (length_far _ (by omega) w).mono ?_
      rintro e w' ⟨rfl, rfl⟩
      exact ⟨.inr ⟨by decide, rfl, rfl⟩, rfl⟩
set_option maxHeartbeats 2000000 in
theorem fsub_ends (a b v er : Int) (a0 : -9223372036854775808 ≤ a) (a1 : a ≤ 9223372036854775807) (b0 : -9223372036854775808 ≤ b) (b1 : b ≤ 9223372036854775807) (ht : Tl (a - b) v er) (w : World) :
    Calls Try.prog 38 #[.int .i64 a, .int .i64 b] w fun e w' => Ends v er e ∧ Below w.heap.size w w' := by
  obtain ⟨ah, al, p0, p1, p2, p3, pe⟩ := hl a (by omega) (by omega)
  obtain ⟨bh, bl, q0, q1, q2, q3, qe⟩ := hl b (by omega) (by omega)
  obtain ⟨okn, nh, nl, r0, r1, r2, r3, ne, no, _, NE⟩ := wneg_ex bh bl q0 q1 q2 q3
  obtain rfl : okn = true := by rw [no]; exact decide_eq_true (by omega)
  obtain ⟨oks, sh, sl, s0, s1, s2, s3, se, so, _, AD⟩ := add_ex ah al nh nl p0 p1 p2 p3 r0 r1 r2 r3
  have ne' := ne rfl
  obtain rfl : oks = true := by rw [so]; exact decide_eq_true ⟨by omega, by omega⟩
  have se' := se rfl
  have sv : sh * 18446744073709551616 + sl = a - b := by omega
  obtain ⟨is, m, hf, hm, HI⟩ : ∃ (f : Bool) (m : Int), f = decide (-9223372036854775808 ≤ a - b ∧ a - b < 9223372036854775808) ∧ (f = true → m = a - b) ∧
      ∀ w : World, Calls Try.prog 54 #[.agg #[.int .i64 sh, .int .u64 sl]] w fun e w' => e = .returned (.tuple #[.int .i64 m, .bool f]) ∧ Below w.heap.size w w' := by
    by_cases c : -9223372036854775808 ≤ a - b ∧ a - b < 9223372036854775808
    · exact ⟨true, a - b, by rw [decide_eq_true c], fun _ => rfl, fun w => int_ok sh sl (a - b) s0 s1 s2 s3 (by omega) (by omega) sv w⟩
    · exact ⟨false, 0, by rw [decide_eq_false c], (fun h => absurd h (by decide)), fun w => int_no sh sl s0 s1 s2 s3 (by omega) w⟩
  have NEH := Lib.hid NE
  have ADH := Lib.hid AD
  have HIH := Lib.hid HI
  have LEN := Lib.hid (fun w => length_ends (a - b) v er 0 m is w hf hm ht)
  have PE := Lib.hid pe
  have QE := Lib.hid qe
  clear NE AD HI hf hm ht pe qe ne no se so ne' se' sv
  go_enter Try.func38, Try.ntmps38
  go_wp2_with fail
  refine (of_any b bh bl b0 b1 q2 q3 QE.out _).mono ?_
  rintro e w1 ⟨rfl, rfl⟩
  go_wp2_with fail
  refine (NEH.out _).mono ?_
  rintro e w2 ⟨rfl, hb2⟩
  have HB2 := Lib.hid (((Below.refl w.heap.size w).alloc (Nat.le_refl _) _).trans (hb2.mono (by simp)))
  have z2 := hb2.size
  simp only [World.size_alloc] at z2
  clear hb2
  go_upto_region 2 with fail
  go_cut [7, 8] (fun s7 s8 wx => ∃ g : Nat, s7 = .pointer (some ⟨g, 0, none⟩) ∧ s8 = .bool true ∧ wx.cell? ⟨g, 0, none⟩ = some (.int .i64 sh) ∧ wx.cell? ⟨g, 1, none⟩ = some (.int .u64 sl) ∧ Hid (Below w.heap.size w wx))
  case first =>
    go_region_with (first
      | (go_at_call 50; refine (of_any a ah al a0 a1 p2 p3 PE.out _).mono ?_; rintro e w' ⟨rfl, rfl⟩)
      | (go_at_call 52; refine (ADH.out _).mono ?_; rintro e w6 ⟨rfl, hb6⟩; obtain ⟨hc6, hf6⟩ := bcell hb6; have HB6 := Lib.hid hb6; clear hb6))
    all_goals
      go_wp2_with fail
      go_meet
      have b6 : Below w.heap.size w w6 := below_step HB2.out (by go_grown) HB6.out
      have z6 := HB6.out.size
      simp only [World.size_alloc, World.size_drew] at z6
      refine ⟨_, rfl, rfl, ?_, ?_, Lib.hid ?_⟩
      · simp [go_sem, hc6]
      · simp [go_sem, hc6]
      · repeat' (first | exact b6 | (with_reducible refine Below.drew ?_) | (with_reducible refine Below.alloc ?_ ?_ _) | (with_reducible refine Below.setCell ?_ ?_ _) | go_size)
  case rest =>
    obtain ⟨g, rfl, rfl, k0, k1, HB3⟩ := hcut
    clear HB2 z2
    go_wp2_with fail
    refine (HIH.out _).mono ?_
    rintro e w4 ⟨rfl, hb4⟩
    have HB4 := Lib.hid (HB3.out.trans (hb4.mono HB3.out.size))
    clear hb4 k0 k1
    go_wp2_with fail
    refine (LEN.out _).mono ?_
    rintro e w5 ⟨he, rfl⟩
    have HE := Lib.hid he
    rcases he with ⟨_, rfl⟩ | ⟨_, _, rfl⟩
    · go_wp2_with fail
      go_returns
      exact ⟨HE.out, HB4.out⟩
    · exact ⟨rfl, HE.out, HB4.out⟩
theorem fof_ends (a v er : Int) (ht : Tl a v er) (w : World) : Calls Try.prog 58 #[.int .i64 a] w fun e w' => Ends v er e ∧ Below w.heap.size w w' := by
  rcases ht with ⟨hl, rfl, rfl⟩ | ⟨hl, rfl, rfl⟩
  · have := lenB_true hl
    refine (fof_ok _ this.1 this.2 w).mono ?_
    rintro e w' ⟨rfl, rfl⟩
    exact ⟨.inl ⟨rfl, rfl⟩, Below.refl _ _⟩
  · have := lenB_false hl
    refine (fof_no _ (by omega) w).mono ?_
    rintro e w' ⟨rfl, rfl⟩
    exact ⟨.inr ⟨by decide, rfl, rfl⟩, Below.refl _ _⟩
/-- sums on the way, and the error's number -/
def Ts (o : Option Int) (v er : Int) : Prop := match o with
  | some s => v = s ∧ er = 0
  | none => v = 0 ∧ er = 2
theorem ts_ex (o : Option Int) : ∃ v er, Ts o v er := match o with
  | some s => ⟨s, 0, rfl, rfl⟩
  | none => ⟨0, 2, rfl, rfl⟩
theorem ends_ts {o : Option Int} {v er : Int} {e : Ending} (ht : Ts o v er) (h : Told o e) : Ends v er e := by
  cases o with
  | some s => obtain ⟨rfl, rfl⟩ := ht; exact .inl ⟨rfl, h⟩
  | none => obtain ⟨rfl, rfl⟩ := ht; exact .inr ⟨by decide, rfl, h⟩
end Go.Proofs.Ytmelbgabiklojaa
