/- Words: what the law speaks. -/
import Derived.Test.YtbolifjkhoiphaaDoorWordD
import Derived.Test.YtbolifjkhoiphaaDoorSpk3b
import Derived.WalkKit
import Derived.WalkSpells
import Derived.WalkLawsBesides
import Derived.Handy
import Derived.Lib.Hide
import Derived.Deep.QuietTactic
import Derived.BigQuiet
import Derived.LoopTactic
import Derived.Outline
namespace Go.Proofs.YtbolifjkhoiphaaDoor
open Go.RowKit Go.Proofs.Reg Go.Proofs.Big Go.Proofs.Flo
set_option linter.unusedVariables false
set_option linter.unusedSimpArgs false
set_option maxRecDepth 100000
theorem dc_one {r : F3} {out : List W3} {er : Int} (h : IsDc [r] out er) (e : dE r = 0) : out = [d1 r] ∧ er = 0 := by
  rcases h with ⟨h, _⟩ | ⟨_, ⟨rfl, _, rfl⟩ | ⟨hz, _, k, r', hk, he, _⟩⟩
  · simp at h
  · exact ⟨rfl, rfl⟩
  · have := (List.getElem?_eq_some_iff.1 hk).1
    simp at this
    subst this
    simp at hk
    subst hk
    exact absurd (he.symm.trans e) hz
theorem dc_bad {r : F3} {out : List W3} {er : Int} (h : IsDc [r] out er) (e : dE r ≠ 0) : out = [] ∧ er = dE r := by
  rcases h with ⟨h, _⟩ | ⟨_, ⟨rfl, h1, rfl⟩ | ⟨hz, rfl, k, r', hk, he, _⟩⟩
  · simp at h
  · exact absurd (h1 r (by simp)) e
  · have := (List.getElem?_eq_some_iff.1 hk).1
    simp at this
    subst this
    simp at hk
    subst hk
    exact ⟨rfl, he.symm⟩
theorem fs_one (w : World) (r : F3) : FS (w.alloc (.cells #[.float .f64 r.1, .float .f64 r.2.1, .bool r.2.2] 72)) (.slice (some ⟨w.heap.size, 0, none⟩) 1 1) [r] := by
  have h : (w.alloc (.cells #[.float .f64 r.1, .float .f64 r.2.1, .bool r.2.2] 72)).heap[w.heap.size]? = some (.cells #[.float .f64 r.1, .float .f64 r.2.1, .bool r.2.2] 72 (0, 0)) := heap_alloc_new _ _
  refine ⟨_, 1, 1, rfl, rfl, Nat.le_refl _, by decide, fun _ => ⟨_, 0, rfl, fun k r' hk => ?_⟩⟩
  have := (List.getElem?_eq_some_iff.1 hk).1
  simp at this
  subst this
  simp at hk
  subst hk
  exact ⟨cell_row3 h 0, cell_row3 h 1, cell_row3 h 2⟩
def ra : F3 := (4609434218613702656, 9223372036854775808, true)
def rb : F3 := (9221120237041090561, 0, false)
theorem ra_ok : dE ra = 0 ∧ d1 ra = (96, 0, true) := by decide +kernel
theorem rb_ok : dE rb = 4 := by decide +kernel
set_option maxHeartbeats 4000000 in
theorem speaks12_any (w : World) (hD : Deb w) : Calls Tryd.prog 15 #[] w fun e w' => e = .returned (.bool true) ∧ Below w.heap.size w w' := by
  have DB := Lib.hid hD
  clear hD
  have eq12 : ∀ w : World, (binOp BinOp.eql 81 (.agg #[.int .i64 96, .int .i64 0, .bool true]) (.agg #[.int .i64 96, .int .i64 0, .bool true])).run Tryd.prog w = .ok (.bool true) w := fun w => by simp [go_sem]
  have bs : ∀ (a b : Nat) (c : Bool) (w : World), (Instr.buildSlice 66 1 #[(0, .agg #[.float .f64 a, .float .f64 b, .bool c])]).run Tryd.prog w = .ok (.slice (some ⟨w.heap.size, 0, none⟩) 1 1) (w.alloc (.cells #[.float .f64 a, .float .f64 b, .bool c] 72)) := fun a b c w => by simp [go_sem]
  go_enter Tryd.func15, Tryd.ntmps15
  go_wp2_with fail
  refine (copysign_a _).mono ?_
  rintro _ w1 ⟨rfl, hw⟩
  obtain rfl := hw.symm
  go_wp2_with fail
  refine (wdecode_any _ [ra] _ (fs_one w ra) (fun r m => by rw [List.mem_singleton] at m; subst m; decide +kernel) (DB.out.later (bel_newR _ _))).mono ?_
  rintro _ w2 ⟨u, out, er, rfl, hws, hdc, hb⟩
  obtain ⟨rfl, rfl⟩ := dc_one hdc ra_ok.1
  rw [ra_ok.2] at hws
  have K2 : Hid (Below w.heap.size w w2) := Lib.hid (bel_tr0 (bel_newR _ _) hb)
  obtain ⟨a, n, c, rfl, hn, _, _, hk⟩ := hws
  obtain rfl : n = 1 := hn
  obtain ⟨g, o, rfl, hk2⟩ := hk (Nat.lt_of_lt_of_le Nat.zero_lt_one (Nat.le_refl 1))
  obtain ⟨x0, x1, x2⟩ := hk2 0 (96, 0, true) rfl
  dsimp only at x0 x1 x2
  rw [Nat.zero_mul, Nat.add_zero] at x0 x1 x2
  have XX := Lib.hid (And.intro x0 (And.intro x1 x2))
  clear hdc hb hk hk2 x0 x1 x2
  go_wp2_with fail
  refine (nan_any _).mono ?_
  rintro _ w3 ⟨rfl, hw⟩
  obtain rfl := hw.symm
  go_wp2_with fail
  refine (wdecode_any _ [rb] _ (fs_one w2 rb) (fun r m => by rw [List.mem_singleton] at m; subst m; decide +kernel) (DB.out.later (bel_tr0 K2.out (bel_newR _ _)))).mono ?_
  rintro _ w4 ⟨u, out, er, rfl, hws, hdc, hb⟩
  obtain ⟨rfl, rfl⟩ := dc_bad hdc (by rw [rb_ok]; decide)
  rw [rb_ok]
  have B4 : Below w2.heap.size w2 w4 := bel_tr0 (bel_newR _ _) hb
  have K4 : Hid (Below w.heap.size w w4) := Lib.hid (bel_tr0 K2.out B4)
  have x0 := cell_on B4 XX.out.1
  have x1 := cell_on B4 XX.out.2.1
  have x2 := cell_on B4 XX.out.2.2
  clear hdc hws hb B4 XX
  go_wp2_with fail
  go_returns
  exact ⟨rfl, K4.out⟩
end Go.Proofs.YtbolifjkhoiphaaDoor
