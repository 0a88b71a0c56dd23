/- speaks of layer 4. -/
import Derived.Test.YtkohefgendcofaaBut
import Derived.WalkKit
import Derived.WalkSpells
import Derived.WalkLawsBesides
import Derived.Handy
import Derived.Lib.Hide
import Derived.Deep.QuietTactic
import Derived.BigQuiet
import Derived.LoopTactic
import Derived.Defers
import Derived.Recover
import Derived.Deep.RegionHeld3
import Derived.Deep.RegionWith
import Derived.Outline
import Derived.Deep.DeepCutAuto
namespace Go.Proofs.Ytkohefgendcofaa
open Go.RowKit
set_option linter.unusedVariables false
set_option linter.unusedSimpArgs false
set_option maxRecDepth 100000
theorem ri_lit (w : World) (b cap : Nat) (xs : List Int) (hm : xs.length ≤ 1000) (h : ∀ k, k < xs.length → w.cell? ⟨b, 0 + k, none⟩ = some (.int .i64 (xs.getD k 0))) : Ri w (some ⟨b, 0, none⟩) xs.length cap xs :=
  ⟨rfl, by omega, fun _ => ⟨_, rfl, fun k hk => by
    cases k with
    | zero => exact h 0 hk
    | succ j => exact h (j + 1) hk⟩⟩
theorem sp4b (w : World) : Calls Try.prog 81 #[] w fun e w' => e = .panicked (gave 2) ∧ Below w.heap.size w w' := by
  go_enter Try.func81, Try.ntmps81
  go_wp2_with fail
  refine (fadd_any (some ⟨w.heap.size, 0, none⟩) 2 2 [17592186044416, 1] none _ (ri_lit _ _ 2 [17592186044416, 1] (by decide) ?_) (Lib.hid (by decide)) (Lib.hid (by decide))).mono ?_
  · intro k hk
    match k, hk with
    | 0, _ => simp [go_sem]
    | 1, _ => simp [go_sem]
  rintro x w1 ⟨hx, rfl⟩
  obtain rfl : x = _ := hx
  exact ⟨rfl, rfl, by go_grown⟩
theorem sp4a (b : Nat) (v : Value) (w : World) (h : Var w ⟨b, 0, none⟩ v) :
    Calls Try.prog 80 #[.pointer (some ⟨b, 0, none⟩)] w fun e w' => e = .returned (.tuple #[]) ∧ But [b] w w' ∧ Vars w' [(⟨b, 0, none⟩, .int .i64 71)] := by
  go_enter Try.func80, Try.ntmps80
  go_wp2_with fail
  refine (fpx_any 1 (by decide) (by decide) _).mono ?_
  rintro x w1 ⟨hx, hb⟩
  obtain rfl : x = _ := hx
  have V1 := Lib.hid (h.later hb)
  have HB := Lib.hid hb
  obtain ⟨c1, z1⟩ := h.later hb
  have n1 := (h.later hb).lt
  clear hb
  go_wp2_with fail
  refine (fadd_any (some ⟨w1.heap.size, 0, none⟩) 3 3 [3, 4, 64] (some 71) _ (ri_lit _ _ 3 [3, 4, 64] (by decide) ?_) (Lib.hid (by decide)) (Lib.hid (by decide))).mono ?_
  · intro k hk
    match k, hk with
    | 0, _ => simp [go_sem]
    | 1, _ => simp [go_sem]
    | 2, _ => simp [go_sem]
  rintro x w2 ⟨hx, rfl⟩
  obtain rfl : x = _ := hx
  go_wp2_with fail
  go_end0
  refine ⟨rfl, ((But.of HB.out).setCell (.inl (by simp)) _).alloc _, fun x hx => ?_⟩
  obtain rfl : x = _ := List.mem_singleton.1 hx
  exact (V1.out.set _).alloc _
set_option maxHeartbeats 1000000 in
theorem speaks4_any (w : World) : Calls Try.prog 37 #[] w fun e w' => e = .returned (.bool true) ∧ Below w.heap.size w w' := by
  have hmf : ∀ (fn : Fn) (first cap : Array Value) (w : World), (Instr.makeFunc fn first cap).run Try.prog w = .ok (.func fn first cap) w := fun _ _ _ _ => rfl
  go_enter Try.func37, Try.ntmps37
  go_wp2_with fail
  refine (tryB_ret 80 _ [w.heap.size] [(⟨w.heap.size, 0, none⟩, .int .i64 71)] _ (by simp) (by simp) (fun _ => by kernel_rfl) (sp4a w.heap.size (.int .i64 0) _ ((Var.new w (.int .i64 0) 2).alloc _))).mono ?_
  rintro e w1 ⟨rfl, hb1, hv1⟩
  have V1 := Lib.hid (hv1 _ (List.mem_singleton.2 rfl))
  have B1 := Lib.hid (But.below ((Below.refl _ _).alloc (Nat.le_refl _) (.cells #[.int .i64 0] 2)) hb1 (by simp) (by simp))
  clear hb1 hv1
  go_wp2_with fail
  refine (tryB_gave 81 #[] 2 [] [] _ (by simp) (by simp) (fun _ => by kernel_rfl) ((sp4b _).mono ?_)).mono ?_
  · rintro e w' ⟨rfl, hb⟩
    exact ⟨rfl, But.of hb, fun x hx => by cases hx⟩
  rintro e w2 ⟨rfl, hb2, _⟩
  have V2 := Lib.hid (V1.out.but hb2 (by simp))
  have B2 := Lib.hid (But.below B1.out hb2 B1.out.size (by simp))
  clear hb2
  obtain ⟨c2, z2⟩ := V2.out
  go_wp2_with fail
  refine (round_any 32 (by decide) (by decide) _).mono ?_
  rintro e w' ⟨rfl, rfl⟩
  rw [show near64 32 = 1 from by decide]
  go_wp2_with fail
  refine (round_any (-33) (by decide) (by decide) _).mono ?_
  rintro e w' ⟨rfl, rfl⟩
  rw [show near64 (-33) = -1 from by decide]
  go_wp2_with fail
  refine (floor_any (-1) (by decide) (by decide) _).mono ?_
  rintro e w' ⟨rfl, rfl⟩
  rw [show (-1 : Int) / 64 = -1 from by decide]
  go_wp2_with fail
  refine (ceil_any 1 (by decide) (by decide) _).mono ?_
  rintro e w' ⟨rfl, rfl⟩
  rw [show up64 1 = 1 from by decide]
  go_wp2_with fail
  go_returns
  exact ⟨rfl, B2.out⟩
end Go.Proofs.Ytkohefgendcofaa
