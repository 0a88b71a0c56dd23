/- Law 14: the walks. -/
import Derived.Test.YtbolifjkhoiphaaSizB
import Derived.WalkKit
import Derived.WalkSpells
import Derived.WalkLawsBesides
import Derived.Handy
import Derived.Lib.Hide
import Derived.Deep.QuietTactic
import Derived.BigQuiet
import Derived.Outline
namespace Go.Proofs.Ytbolifjkhoiphaa
open Go.RowKit Go.Proofs.Reg Go.Proofs.Big
set_option linter.unusedVariables false
set_option linter.unusedSimpArgs false
set_option maxRecDepth 100000
theorem of_540 (w : World) : Calls Try.prog 33 #[.agg #[.int .i64 3, .int .i64 640], .agg #[.int .i64 0, .bool false, .int .i64 1, .int .i64 1, .int .i64 2, .int .i64 100]] w fun e w' => e = .returned (.tuple #[.int .i64 540, .bool true]) ∧ Below w.heap.size w w' := by
  have Z : ZR 640 0 true 2 100 540 true 0 := ZR.less 540 rfl rfl rfl (.inl ⟨by decide, rfl, rfl⟩)
  refine (zof_any 3 640 0 1 1 2 100 640 0 540 0 true false true (by omega) (by omega) (.inl rfl) Z (fun w => (vin_fixed 640 0 1 1 640 0 (scale_ends 640 1 1 640 0 (by decide) (by decide) (by decide) (by decide) (by decide) (by decide) (by decide) (.inl ⟨by decide, by decide, rfl⟩)) w).mono (fun e w' h => ⟨h.1.ins, h.2⟩)) w).mono ?_
  rintro e w' ⟨h | h, hb⟩
  · exact ⟨h.2, hb⟩
  · exact absurd rfl h.1
def two14 (g1 g2 : Nat) (v : Int) (ok : Bool) : List (Addr × Value) := [(⟨g1, 0, none⟩, .int .i64 v), (⟨g2, 0, none⟩, .bool ok)]
theorem two14_of {w : World} {g1 g2 : Nat} {v : Int} {ok : Bool} (h : Var w ⟨g1, 0, none⟩ (.int .i64 v)) (k : Var w ⟨g2, 0, none⟩ (.bool ok)) : Vars w (two14 g1 g2 v ok) := fun x hx => by
  rcases List.mem_cons.1 hx with rfl | hx
  · exact h
  · obtain rfl : x = _ := List.mem_singleton.1 hx
    exact k
theorem two14_lt {w : World} {g1 g2 : Nat} (l1 : g1 < w.heap.size) (l2 : g2 < w.heap.size) (v : Int) (ok : Bool) : ∀ x ∈ two14 g1 g2 v ok, x.1.block < w.heap.size := fun x hx => by
  rcases List.mem_cons.1 hx with rfl | hx
  · exact l1
  · obtain rfl : x = _ := List.mem_singleton.1 hx
    exact l2
theorem two_lt {w : World} {g1 g2 : Nat} (l1 : g1 < w.heap.size) (l2 : g2 < w.heap.size) : ∀ i ∈ [g1, g2], i < w.heap.size := fun i hi => by
  rcases List.mem_cons.1 hi with rfl | hi
  · exact l1
  · obtain rfl := List.mem_singleton.1 hi; exact l2
set_option maxHeartbeats 1000000 in
theorem spk14_ret (g1 g2 : Nat) (w : World) (v1 : Var w ⟨g1, 0, none⟩ (.int .i64 0)) (v2 : Var w ⟨g2, 0, none⟩ (.bool false)) (ne : g1 ≠ g2) :
    Calls Try.prog 53 #[.pointer (some ⟨g1, 0, none⟩), .pointer (some ⟨g2, 0, none⟩)] w fun e w' => e = .returned (.tuple #[]) ∧ But [g1, g2] w w' ∧ Vars w' (two14 g1 g2 540 true) := by
  have V1 := Lib.hid v1
  have V2 := Lib.hid v2
  have OF := Lib.hid of_540
  clear v1 v2
  go_enter Try.func53, Try.ntmps53
  go_wp2_with fail
  refine (OF.out _).mono ?_
  rintro e w1 ⟨rfl, hb⟩
  have W1 := Lib.hid (V1.out.later hb)
  have W2 := Lib.hid (V2.out.later hb)
  have B1 := Lib.hid (But.of (bs := [g1, g2]) hb)
  obtain ⟨e0, z0⟩ := W1.out
  obtain ⟨e1, z1⟩ := W2.out
  clear hb V1 V2
  have ne' : ¬ g2 = g1 := fun h => ne h.symm
  go_wp2_with fail
  go_end0
  refine ⟨rfl, (B1.out.setCell (.inl (by simp)) _).setCell (.inl (by simp)) _, two14_of ?_ ?_⟩
  · exact (W1.out.set _).other (fun e => ne' (by injection e)) _
  · exact (W2.out.other (fun e => ne (by injection e)) _).set _
theorem zfit_any (a l m : Int) (w : World) : Calls Try.prog 39 #[.int .i64 a, .int .i64 l, .int .i64 m] w fun e w' => e = .returned (.int .i64 (max l (min a m))) ∧ w' = w := by
  go_enter Try.func39, Try.ntmps39
  go_wp2_with fail
  go_returns
  exact ⟨rfl, rfl⟩
/-- a size within limits -/
def within (n least most : Int) (bound : Bool) : Int := max (if bound then min n most else n) least
theorem zlof_any (n least most : Int) (bound : Bool) (w : World) : Calls Try.prog 37 #[.agg #[.int .i64 least, .int .i64 most, .bool bound], .int .i64 n] w fun e w' => e = .returned (.int .i64 (within n least most bound)) ∧ Below w.heap.size w w' := by
  cases bound
  all_goals
    go_enter Try.func37, Try.ntmps37
    go_wp2_with fail
    go_returns
    exact ⟨rfl, by go_grown⟩
theorem r14within_any (n least most : Int) (bound : Bool) (w : World) : Calls Try.prog 38 #[.int .i64 n, .int .i64 least, .int .i64 most, .bool bound] w fun e w' => e = .returned (.int .i64 (within n least most bound)) ∧ w' = w := by
  cases bound
  · by_cases c : n < least
    · go_enter Try.func38, Try.ntmps38
      go_wp2_with fail
      go_returns
      rw [show within n least most false = least by unfold within; simp; omega]; exact ⟨rfl, rfl⟩
    · go_enter Try.func38, Try.ntmps38
      go_wp2_with fail
      go_returns
      rw [show within n least most false = n by unfold within; simp; omega]; exact ⟨rfl, rfl⟩
  · by_cases d : most < n
    · by_cases c : most < least
      · go_enter Try.func38, Try.ntmps38
        go_wp2_with fail
        go_returns
        rw [show within n least most true = least by unfold within; simp; omega]; exact ⟨rfl, rfl⟩
      · go_enter Try.func38, Try.ntmps38
        go_wp2_with fail
        go_returns
        rw [show within n least most true = most by unfold within; simp; omega]; exact ⟨rfl, rfl⟩
    · by_cases c : n < least
      · go_enter Try.func38, Try.ntmps38
        go_wp2_with fail
        go_returns
        rw [show within n least most true = least by unfold within; simp; omega]; exact ⟨rfl, rfl⟩
      · go_enter Try.func38, Try.ntmps38
        go_wp2_with fail
        go_returns
        rw [show within n least most true = n by unfold within; simp; omega]; exact ⟨rfl, rfl⟩
set_option maxHeartbeats 2000000 in
theorem speaks14_any (w : World) : Calls Try.prog 30 #[] w fun e w' => e = .returned (.bool true) ∧ Below w.heap.size w w' := by
  have hmf : ∀ (fn : Fn) (first cap : Array Value) (w : World), (Instr.makeFunc fn first cap).run Try.prog w = .ok (.func fn first cap) w := fun _ _ _ _ => rfl
  go_enter Try.func30, Try.ntmps30
  go_wp2_with fail
  have ba : Below w.heap.size w ((w.alloc (.cells #[.int .i64 0] 2)).alloc (.cells #[.bool false] 4)) := by go_grown
  have vv1 : Var ((w.alloc (.cells #[.int .i64 0] 2)).alloc (.cells #[.bool false] 4)) ⟨w.heap.size, 0, none⟩ (.int .i64 0) := (Var.new w _ _).alloc _
  have vv2 : Var ((w.alloc (.cells #[.int .i64 0] 2)).alloc (.cells #[.bool false] 4)) ⟨w.heap.size + 1, 0, none⟩ (.bool false) := by
    have := Var.new (w.alloc (.cells #[.int .i64 0] 2)) (.bool false) 4
    simpa using this
  have l1 := vv1.lt
  have l2 := vv2.lt
  refine (tryB_ret 53 _ [w.heap.size, w.heap.size + 1] (two14 w.heap.size (w.heap.size + 1) 540 true) _ (two_lt l1 l2) (two14_lt l1 l2 540 true) (fun _ => by kernel_rfl) (spk14_ret w.heap.size (w.heap.size + 1) _ (vv1.alloc _) (vv2.alloc _) (by omega))).mono ?_
  rintro e w2 ⟨rfl, hbut, hv⟩
  have K2 : Hid (Below w.heap.size w w2) := Lib.hid (But.below ba hbut ba.size (fun i hi => by simp at hi; omega))
  obtain ⟨e0, _⟩ := hv (⟨w.heap.size, 0, none⟩, .int .i64 540) (by simp [two14])
  obtain ⟨e1, _⟩ := hv (⟨w.heap.size + 1, 0, none⟩, .bool true) (by simp [two14])
  clear hbut hv vv1 vv2 ba l1 l2
  dsimp only at e0 e1
  go_wp2_with fail
  refine (zfit_any 5 7 9 _).mono ?_
  rintro _ w3 ⟨rfl, hw⟩
  obtain rfl := hw.symm
  clear hw
  rw [show (max (7 : Int) (min 5 9)) = 7 by decide]
  go_wp2_with fail
  refine (zlof_any 9 3 2 true _).mono ?_
  rintro _ w3 ⟨rfl, hb⟩
  have K3 := Lib.hid (bel_tr0 K2.out hb)
  clear hb e0 e1
  rw [show within 9 3 2 true = 3 by decide]
  go_wp2_with fail
  go_returns
  exact ⟨rfl, K3.out⟩
end Go.Proofs.Ytbolifjkhoiphaa
