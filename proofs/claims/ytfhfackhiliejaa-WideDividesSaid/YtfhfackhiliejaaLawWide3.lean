/- WideMuls: its walk. -/
import Derived.Test.YtfhfackhiliejaaLawWide2
import Derived.Test.YtfhfackhiliejaaBigK
import Derived.WalkKit
import Derived.WalkSpells
import Derived.WalkLawsBesides
import Derived.Handy
import Derived.Lib.Hide
import Derived.Deep.QuietTactic
import Derived.BigQuiet
import Derived.Deep.RegionHeld3
import Derived.Deep.RegionWith
import Derived.RegionTactic
import Derived.BigRegion
import Derived.Outline
import Derived.Deep.DeepCutAuto
namespace Go.Proofs.Ytfhfackhiliejaa
open Go.RowKit Go.Proofs.Big
set_option linter.unusedVariables false
set_option linter.unusedSimpArgs false
/-- a wide number in memory -/
structure WV (w : World) (b : Nat) (h l : Int) : Prop where
  c0 : w.cell? ⟨b, 0, none⟩ = some (.int .i64 h)
  c1 : w.cell? ⟨b, 1, none⟩ = some (.int .u64 l)
theorem WV.later {w w' : World} {b : Nat} {h l : Int} (k : WV w b h l) (hb : Below w.heap.size w w') : WV w' b h l := ⟨cell_later hb k.c0, cell_later hb k.c1⟩
theorem WV.new (w : World) (h l : Int) (t : TypeId) : WV (w.alloc (.cells #[.int .i64 h, .int .u64 l] t)) w.heap.size h l := ⟨by simp [go_sem], by simp [go_sem]⟩
theorem WV.lt {w : World} {b : Nat} {h l : Int} (k : WV w b h l) : b < w.heap.size := World.block_lt_of_cell? w _ k.c0
theorem below_alloc (w : World) (o : Obj) : Below w.heap.size w (w.alloc o) := (Below.refl _ _).alloc (Nat.le_refl _) o
/-- a wide number and a big one in memory, that say the same -/
structure XW (w wr : World) (x g : Nat) (h l : Int) (ng : Bool) (a : Option Addr) (la ca : Nat) (n : Int) : Prop where
  X : WV wr x h l
  G : BV wr g ng a la ca
  Gn : BigV wr ng a la ca n
  bel : Below w.heap.size w wr
theorem XW.later {w wr wx : World} {x g : Nat} {h l : Int} {ng : Bool} {a : Option Addr} {la ca : Nat} {n : Int} (k : XW w wr x g h l ng a la ca n) (hb : Below wr.heap.size wr wx) : XW w wx x g h l ng a la ca n :=
  ⟨k.X.later hb, k.G.later hb, k.Gn.later hb, bel_trans k.bel hb⟩
set_option maxRecDepth 100000 in
set_option maxHeartbeats 4000000 in
theorem law_muls (a b : Int) (A0 : -9223372036854775808 ≤ a) (A1 : a ≤ 9223372036854775807) (B0 : -9223372036854775808 ≤ b) (B1 : b ≤ 9223372036854775807) (w : World) :
    Calls Try.prog 3 #[.int .i64 a, .int .i64 b] w fun e w' => e = .returned (.bool true) ∧ Below w.heap.size w w' := by
  obtain ⟨R0, R1⟩ := prod_range a b A0 A1 B0 B1
  obtain ⟨h, l, h0, h1, l0, l1, he⟩ := hl (a * b) (by omega) (by omega)
  obtain ⟨ah, al, p0, p1, p2, p3, pe⟩ := hl a (by omega) (by omega)
  have SA := Lib.hid (sm_of a (by omega) (by omega))
  have SB := Lib.hid (sm_of b (by omega) (by omega))
  have SP := Lib.hid (sm_of (a * b) (by omega) (by omega))
  obtain ⟨f, m, hf, hm, HI⟩ : ∃ (f : Bool) (m : Int), f = decide (-9223372036854775808 ≤ a * b ∧ a * b < 9223372036854775808) ∧ (m = if -9223372036854775808 ≤ a * b ∧ a * b < 9223372036854775808 then a * b else 0) ∧
      ∀ w : World, Calls Try.prog 16 #[.agg #[.int .i64 h, .int .u64 l]] w fun e w' => e = .returned (.tuple #[.int .i64 m, .bool f]) ∧ Below w.heap.size w w' := by
    by_cases c : -9223372036854775808 ≤ a * b ∧ a * b < 9223372036854775808
    · exact ⟨true, a * b, by rw [decide_eq_true c], by rw [if_pos c], fun w => int_ok h l (a * b) h0 h1 l0 l1 (by omega) (by omega) he w⟩
    · exact ⟨false, 0, by rw [decide_eq_false c], by rw [if_neg c], fun w => int_no h l h0 h1 l0 l1 (by omega) w⟩
  have HIH := Lib.hid HI
  have HF := Lib.hid hf
  have HM := Lib.hid hm
  have HE := Lib.hid he
  have PE := Lib.hid pe
  clear HI hf hm he pe R0 R1
  go_enter Try.func3, Try.ntmps3
  go_wp2_with fail
  refine (speaks1_any _).mono ?_
  rintro e w1 ⟨rfl, hb1⟩
  have K1 := Lib.hid hb1
  clear hb1
  go_wp2_with fail
  refine (mul_any a b h l A0 A1 B0 B1 h0 h1 l0 l1 HE.out _).mono ?_
  rintro e w2 ⟨rfl, rfl⟩
  have X2 := Lib.hid (WV.new (w1.alloc (.cells #[.int .i64 h, .int .u64 l] 25)) h l 25)
  have K2 := Lib.hid (bel_trans (bel_trans (bel_trans ((((Below.refl w.heap.size w)))) K1.out) (below_alloc w1 (.cells #[.int .i64 h, .int .u64 l] 25))) (below_alloc _ (.cells #[.int .i64 h, .int .u64 l] 25)))
  go_wp2_with fail
  refine (bof_any a A0 A1 _).mono ?_
  rintro e w3 ⟨n3, a3, l3, c3, rfl, hv3, hb3⟩
  have H3 := Lib.hid hv3
  have X3 := Lib.hid (X2.out.later hb3)
  have K3 := Lib.hid (bel_trans K2.out hb3)
  clear hv3 hb3 X2 K2
  go_wp2_with fail
  refine (bof_any b B0 B1 _).mono ?_
  rintro e w4 ⟨n4, a4, l4, c4, rfl, hv4, hb4⟩
  have H4 := Lib.hid hv4
  have H3' := Lib.hid (H3.out.later hb4)
  have X4 := Lib.hid (X3.out.later hb4)
  have K4 := Lib.hid (bel_trans K3.out hb4)
  clear hv4 hb4 X3 K3
  go_wp2_with fail
  refine (times_any n3 n4 a3 a4 l3 c3 l4 c4 a b _ H3'.out H4.out (Nat.le_trans (Sm.le H3'.out SA.out) (by decide)) (Nat.le_trans (Sm.le H4.out SB.out) (by decide))).mono ?_
  rintro e w5 ⟨n5, a5, l5, c5, rfl, hv5, hb5⟩
  have X5 := X4.out.later hb5
  have D5 := Lib.hid (show XW w (w5.alloc (.cells #[.bool n5, .slice a5 l5 c5] 29)) (w1.alloc (.cells #[.int .i64 h, .int .u64 l] 25)).heap.size w5.heap.size h l n5 a5 l5 c5 (a * b) from
    ⟨X5.later (below_alloc _ _), BV.new w5 n5 a5 l5 c5 29, hv5.alloc _, bel_trans (bel_trans K4.out hb5) (below_alloc _ _)⟩)
  have lx := X5.lt
  have LA := Lib.hid (Sm.le hv5 SP.out)
  simp only [World.size_alloc] at lx D5
  clear hv5 hb5 X4 K4 X5 H3 H3' H4
  obtain ⟨x0, x1⟩ := D5.out.X
  obtain ⟨g0, g1, _, _⟩ := D5.out.G
  go_wp2_with fail
  refine (HIH.out _).mono ?_
  rintro e w6 ⟨rfl, hb6⟩
  have D6 := Lib.hid (D5.out.later hb6)
  clear hb6 x0 x1 g0 g1 D5
  obtain ⟨x0, x1⟩ := D6.out.X
  obtain ⟨g0, g1, _, _⟩ := D6.out.G
  go_wp2_with fail
  refine (bint_any n5 a5 l5 c5 (a * b) _ D6.out.Gn (by have := LA.out; omega) f m HF HM).mono ?_
  rintro e w7 ⟨rfl, hb7⟩
  have D7 := Lib.hid (D6.out.later hb7)
  clear hb7 x0 x1 g0 g1 D6
  obtain ⟨x0, x1⟩ := D7.out.X
  obtain ⟨g0, g1, _, _⟩ := D7.out.G
  have SAME1 := Lib.hid (fun (ng : Bool) (a' : Option Addr) (la ca : Nat) (w : World) (hy : BigV w ng a' la ca (a * b)) (sa : la ≤ 1000) => (same_any h l (a * b) 0 h0 h1 l0 l1 ng a' la ca w hy sa))
  have SAME2 := Lib.hid (fun (ng : Bool) (a' : Option Addr) (la ca : Nat) (w : World) (hy : BigV w ng a' la ca a) (sa : la ≤ 1000) => (same_any ah al a 0 p0 p1 p2 p3 ng a' la ca w hy sa))
  have E1 : (decide (h * 18446744073709551616 + l = a * b)) = true := decide_eq_true HE.out
  have E2 : (decide (ah * 18446744073709551616 + al = a)) = true := decide_eq_true PE.out
  rw [E1] at SAME1
  rw [E2] at SAME2
  clear E1 E2
  go_wp2_with fail
  go_region_held3 (fun w' => w'.cell? ⟨w1.heap.size + 1, 0, none⟩ = some (.int .i64 h) ∧ w'.cell? ⟨w1.heap.size + 1, 1, none⟩ = some (.int .u64 l) ∧ w'.cell? ⟨w5.heap.size, 0, none⟩ = some (.bool n5) ∧ w'.cell? ⟨w5.heap.size, 1, none⟩ = some (.slice a5 l5 c5)) (first | with_reducible exact HKm.out | with_reducible exact HKa.out | with_reducible exact HK9.out | with_reducible exact HKo.out | with_reducible exact HK8.out | (go_keep; done)) (first
    | (go_at_call 18; refine (SAME2.out n9 a9 l9 c9 _ H9.out (Nat.le_trans (Sm.le H9.out SA.out) (by decide))).mono ?_; rintro e wa ⟨rfl, hba⟩; have Da := Lib.hid (D9.out.later hba); have HKa := Lib.hid (And.intro Da.out.X.c0 (And.intro Da.out.X.c1 (And.intro Da.out.G.c0 Da.out.G.c1))); clear hba)
    | (go_at_call 18; refine (SAME1.out n5 a5 l5 c5 _ (D7.out.later (below_undrew (Below.refl _ _))).Gn (by have := LA.out; omega)).mono ?_; rintro e w8 ⟨rfl, hb8⟩; have D8 := Lib.hid (D7.out.later (below_undrew hb8)); have HK8 := Lib.hid (And.intro D8.out.X.c0 (And.intro D8.out.X.c1 (And.intro D8.out.G.c0 D8.out.G.c1))); clear hb8)
    | (go_at_call 19; refine (of_any a ah al A0 A1 p2 p3 PE.out _).mono ?_; rintro e wo ⟨rfl, rfl⟩; have Do := Lib.hid (D8.out.later (below_alloc _ (.cells #[.int .i64 ah, .int .u64 al] 25))); have HKo := Lib.hid (And.intro Do.out.X.c0 (And.intro Do.out.X.c1 (And.intro Do.out.G.c0 Do.out.G.c1))))
    | (go_at_call 15; refine (bof_any a A0 A1 _).mono ?_; rintro e w9 ⟨n9, a9, l9, c9, rfl, hv9, hb9⟩; have H9 := Lib.hid hv9; have D9 := Lib.hid (Do.out.later hb9); have HK9 := Lib.hid (And.intro D9.out.X.c0 (And.intro D9.out.X.c1 (And.intro D9.out.G.c0 D9.out.G.c1))); clear hv9 hb9)
    | (go_at_call 13; refine (mul_any b a h l B0 B1 A0 A1 h0 h1 l0 l1 (by rw [HE.out]; exact Int.mul_comm a b) _).mono ?_; rintro e wm ⟨rfl, rfl⟩; have Dm := Lib.hid (Da.out.later (below_alloc _ (.cells #[.int .i64 h, .int .u64 l] 25))); have HKm := Lib.hid (And.intro Dm.out.X.c0 (And.intro Dm.out.X.c1 (And.intro Dm.out.G.c0 Dm.out.G.c1)))))
  go_wp2_with fail
  go_returns
  exact ⟨rfl, Dm.out.bel⟩
end Go.Proofs.Ytfhfackhiliejaa
