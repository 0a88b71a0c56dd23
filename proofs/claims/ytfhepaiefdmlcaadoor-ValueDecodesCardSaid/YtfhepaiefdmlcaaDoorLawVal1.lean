/- The walk of ValueDecodes. -/
import Derived.Test.YtfhepaiefdmlcaaDoorValS
import Derived.WalkKit
import Derived.WalkSpells
import Derived.WalkLawsBesides
import Derived.Handy
import Derived.Lib.Hide
import Derived.Outline
namespace Go.Proofs.YtfhepaiefdmlcaaDoor
open Go.RowKit Go.Proofs.Flo Go.Proofs.Reg
set_option linter.unusedVariables false
set_option linter.unusedSimpArgs false
set_option maxRecDepth 100000
set_option maxHeartbeats 2000000 in
theorem law_decodes (x : Nat) (hx : x < 18446744073709551616) (pct : Bool) (m : Nat) (hm : m < 256) (w : World) (hD : Deb w) :
    Calls Tryd.prog 3 #[.int .u64 (x : Int), .bool pct, .int .u8 (m : Int)] w fun e w' => e = .returned (.bool true) ∧ Below w.heap.size w w' := by
  have HS := Lib.hid (fun w h => speaks9_any w h)
  have D1 := Lib.hid (fun w h => vdecode_any x hx pct m hm w h)
  have D2 := Lib.hid (fun w => r9decode_any x hx pct (m : Int) (by omega) (by omega) w)
  have r1 : ∀ w : World, (callFunc 8 #[.int .u64 (x : Int)]).run Tryd.prog w = .ok (.value (.float .f64 x)) w := fun w => run_frombits x w
  obtain ⟨⟨k, n, er⟩, hr⟩ : ∃ r, decR x pct m = r := ⟨_, rfl⟩
  rw [hr] at D1 D2
  simp only [dec3] at D1 D2
  have HD := Lib.hid hD
  have m0 : (0 : Int) ≤ m := by omega
  have m1 : (m : Int) ≤ 255 := by omega
  clear hD hr hm
  go_enter Tryd.func3, Tryd.ntmps3
  go_wp2_with fail
  refine (HS.out _ (HD.out.later (by go_grown))).mono ?_
  rintro e w1 ⟨rfl, hb⟩
  have KB := Lib.hid (show Below w.heap.size w w1 from bel_tr0 (by go_grown) hb)
  clear hb
  go_wp2_with fail
  have hs := KB.out.size
  refine (D1.out _ (HD.out.later (by have := KB.out; go_grown))).mono ?_
  rintro e w2 ⟨rfl, hb⟩
  have K2 := Lib.hid (bel_tr0 KB.out hb)
  clear hb hs
  go_wp2_with fail
  refine (D2.out _).mono ?_
  rintro e w3 ⟨rfl, hb⟩
  have hs := K2.out.size
  have T3 := Lib.hid ((((Tab.nil w2).new [.int .i64 k, .int .i64 n] 25).later hb).new [.int .i64 k, .int .i64 n] 33)
  have K3 := Lib.hid (bel_tr0 (K2.out.alloc (by omega) _) hb)
  have hs3 := K3.out.size
  clear hb
  have c0 := T3.out.cell 0 0 rfl rfl
  have c1 := T3.out.cell 0 1 rfl rfl
  have d0 := T3.out.cell 1 0 rfl rfl
  have d1 := T3.out.cell 1 1 rfl rfl
  go_wp2_with fail
  go_returns
  exact ⟨rfl, K3.out.alloc (by omega) _⟩
end Go.Proofs.YtfhepaiefdmlcaaDoor
