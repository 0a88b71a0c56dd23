/- Package value and its reference: in device units. -/
import Derived.Test.YtfhepaiefdmlcaaDoorLawFix4
import Derived.Test.YtfhepaiefdmlcaaDoorParts
import Derived.Test.YtfhepaiefdmlcaaDoorRegM
import Derived.Test.YtfhepaiefdmlcaaDoorRegW
import Derived.Test.YtfhepaiefdmlcaaDoorValQ
import Derived.Test.YtfhepaiefdmlcaaDoorSpk3b
import Derived.WalkKit
import Derived.WalkSpells
import Derived.WalkLawsBesides
import Derived.Handy
import Derived.Lib.Hide
import Derived.Outline
namespace Go.Proofs.YtfhepaiefdmlcaaDoor
open Go.RowKit Go.Proofs.Reg
set_option linter.unusedVariables false
set_option linter.unusedSimpArgs false
set_option maxRecDepth 100000
/-- a length, or giving up -/
def InR (v er : Int) (e : Ending) : Prop := (er = 0 ∧ e = .returned (.tuple #[.int .i64 v, .bool true])) ∨ (er ≠ 0 ∧ v = 0 ∧ e = .panicked (gave er))
set_option maxHeartbeats 1000000 in
theorem vin_fixed (n base N D v er : Int) (h : ∀ w, Calls Tryd.prog 25 #[.int .i64 n, .agg #[.int .i64 N, .int .i64 D]] w fun e w' => Ends v er e ∧ Below w.heap.size w w') (w : World) :
    Calls Tryd.prog 12 #[.agg #[.int .i64 3, .int .i64 n], .int .i64 base, .agg #[.int .i64 N, .int .i64 D]] w fun e w' => InR v er e ∧ Below w.heap.size w w' := by
  have H := Lib.hid h
  clear h
  go_enter Tryd.func12, Tryd.ntmps12
  go_wp2_with fail
  refine (H.out _).mono ?_
  rintro e w1 ⟨he, hb⟩
  have KB := Lib.hid (show Below w.heap.size w w1 from bel_tr0 (by go_grown) hb)
  clear hb
  rcases he with ⟨rfl, rfl⟩ | ⟨hz, rfl, rfl⟩
  · go_wp2_with fail
    go_returns
    exact ⟨.inl ⟨rfl, rfl⟩, KB.out⟩
  · exact ⟨rfl, .inr ⟨hz, rfl, rfl⟩, KB.out⟩
set_option maxHeartbeats 1000000 in
theorem vin_pct (n base N D v er : Int) (h : ∀ w, Calls Tryd.prog 26 #[.int .i64 base, .int .i64 n, .int .i64 6400] w fun e w' => Ends v er e ∧ Below w.heap.size w w') (w : World) :
    Calls Tryd.prog 12 #[.agg #[.int .i64 4, .int .i64 n], .int .i64 base, .agg #[.int .i64 N, .int .i64 D]] w fun e w' => InR v er e ∧ Below w.heap.size w w' := by
  have H := Lib.hid h
  clear h
  go_enter Tryd.func12, Tryd.ntmps12
  go_wp2_with fail
  refine (H.out _).mono ?_
  rintro e w1 ⟨he, hb⟩
  have KB := Lib.hid (show Below w.heap.size w w1 from bel_tr0 (by go_grown) hb)
  clear hb
  rcases he with ⟨rfl, rfl⟩ | ⟨hz, rfl, rfl⟩
  · go_wp2_with fail
    go_returns
    exact ⟨.inl ⟨rfl, rfl⟩, KB.out⟩
  · exact ⟨rfl, .inr ⟨hz, rfl, rfl⟩, KB.out⟩
theorem vin_none (k n base N D : Int) (h3 : (k == 3) = false) (h4 : (k == 4) = false) (w : World) :
    Calls Tryd.prog 12 #[.agg #[.int .i64 k, .int .i64 n], .int .i64 base, .agg #[.int .i64 N, .int .i64 D]] w fun e w' => e = .returned (.tuple #[.int .i64 0, .bool false]) ∧ Below w.heap.size w w' := by
  go_enter Tryd.func12, Tryd.ntmps12
  go_wp2_with fail
  go_returns
  exact ⟨rfl, by go_grown⟩
set_option maxHeartbeats 1000000 in
theorem r9in_fixed (n base N D v er : Int) (f : Bool) (hg : ∀ w, Calls Tryd.prog 27 #[.int .i64 N, .int .i64 D] w fun e w' => e = .returned (.bool f) ∧ Below w.heap.size w w') (h : f = true → ∀ w, Calls Tryd.prog 28 #[.int .i64 n, .int .i64 N, .int .i64 D] w fun e w' => e = .returned (.tuple #[.int .i64 v, .int .i64 er]) ∧ Below w.heap.size w w') (hf : f = false → v = 0 ∧ er = 1) (w : World) :
    Calls Tryd.prog 13 #[.agg #[.int .i64 3, .int .i64 n], .int .i64 base, .int .i64 N, .int .i64 D] w fun e w' => e = .returned (.tuple #[.int .i64 v, .bool (er == 0), .int .i64 er]) ∧ Below w.heap.size w w' := by
  have HG := Lib.hid hg
  clear hg
  cases f
  · obtain ⟨rfl, rfl⟩ := hf rfl
    clear h hf
    go_enter Tryd.func13, Tryd.ntmps13
    go_wp2_with fail
    refine (HG.out _).mono ?_
    rintro e w1 ⟨rfl, hb⟩
    have KB := Lib.hid (show Below w.heap.size w w1 from bel_tr0 (by go_grown) hb)
    clear hb
    go_wp2_with fail
    go_returns
    exact ⟨rfl, KB.out⟩
  · have H := Lib.hid (h rfl)
    clear h hf
    go_enter Tryd.func13, Tryd.ntmps13
    go_wp2_with fail
    refine (HG.out _).mono ?_
    rintro e w1 ⟨rfl, hb⟩
    have KB := Lib.hid (show Below w.heap.size w w1 from bel_tr0 (by go_grown) hb)
    have KT := Lib.hid (((Tab.nil w).new [.int .i64 3, .int .i64 n] 33).later hb)
    clear hb
    have c0 := KT.out.cell 0 0 rfl rfl
    have c1 := KT.out.cell 0 1 rfl rfl
    go_wp2_with fail
    refine (H.out _).mono ?_
    rintro e w2 ⟨rfl, hb⟩
    have KC := Lib.hid (bel_tr0 KB.out hb)
    clear hb
    go_wp2_with fail
    go_returns
    exact ⟨rfl, KC.out⟩
set_option maxHeartbeats 1000000 in
theorem r9in_pct (n base N D v er : Int) (h : ∀ w, Calls Tryd.prog 28 #[.int .i64 base, .int .i64 n, .int .i64 6400] w fun e w' => e = .returned (.tuple #[.int .i64 v, .int .i64 er]) ∧ Below w.heap.size w w') (w : World) :
    Calls Tryd.prog 13 #[.agg #[.int .i64 4, .int .i64 n], .int .i64 base, .int .i64 N, .int .i64 D] w fun e w' => e = .returned (.tuple #[.int .i64 v, .bool (er == 0), .int .i64 er]) ∧ Below w.heap.size w w' := by
  have H := Lib.hid h
  clear h
  go_enter Tryd.func13, Tryd.ntmps13
  go_wp2_with fail
  refine (H.out _).mono ?_
  rintro e w1 ⟨rfl, hb⟩
  have KB := Lib.hid (show Below w.heap.size w w1 from bel_tr0 (by go_grown) hb)
  clear hb
  go_wp2_with fail
  go_returns
  exact ⟨rfl, KB.out⟩
theorem r9in_none (k n base N D : Int) (h3 : (k == 3) = false) (h4 : (k == 4) = false) (w : World) :
    Calls Tryd.prog 13 #[.agg #[.int .i64 k, .int .i64 n], .int .i64 base, .int .i64 N, .int .i64 D] w fun e w' => e = .returned (.tuple #[.int .i64 0, .bool false, .int .i64 0]) ∧ Below w.heap.size w w' := by
  go_enter Tryd.func13, Tryd.ntmps13
  go_wp2_with fail
  go_returns
  exact ⟨rfl, by go_grown⟩
end Go.Proofs.YtfhepaiefdmlcaaDoor
/- Law 9: what it asks of speaking. -/
namespace Go.Proofs.YtfhepaiefdmlcaaDoor
open Go.RowKit Go.Proofs.Flo Go.Proofs.Reg
set_option linter.unusedVariables false
set_option linter.unusedSimpArgs false
set_option maxRecDepth 100000
theorem dec_125 : decR 4623226492472524800 false 0 = (3, 800, 0) := by decide +kernel
theorem dec_nan1 : decR 9221120237041090561 false 1 = (1, 0, 0) := by decide +kernel
theorem dec_nan0 : decR 9221120237041090561 false 0 = (0, 0, 4) := by decide +kernel
theorem in_1200 (w : World) : Calls Tryd.prog 12 #[.agg #[.int .i64 3, .int .i64 800], .int .i64 0, .agg #[.int .i64 3, .int .i64 2]] w fun e w' => e = .returned (.tuple #[.int .i64 1200, .bool true]) ∧ Below w.heap.size w w' := by
  refine (vin_fixed 800 0 3 2 1200 0 (scale_ends 800 3 2 1200 0 (by decide) (by decide) (by decide) (by decide) (by decide) (by decide) (by decide) (.inl ⟨by decide, by decide, rfl⟩)) w).mono ?_
  rintro e w' ⟨h | h, hb⟩
  · exact ⟨h.2, hb⟩
  · exact absurd rfl h.1
set_option maxHeartbeats 2000000 in
theorem speaks9_any (w : World) (hD : Deb w) : Calls Tryd.prog 6 #[] w fun e w' => e = .returned (.bool true) ∧ Below w.heap.size w w' := by
  have D1 := Lib.hid (fun w h => vdecode_any 4623226492472524800 (by decide) false 0 (by decide) w h)
  have D2 := Lib.hid (fun w h => vdecode_any 9221120237041090561 (by decide) false 1 (by decide) w h)
  have D3 := Lib.hid (fun w h => vdecode_any 9221120237041090561 (by decide) false 0 (by decide) w h)
  simp only [Int.natCast_zero, Int.natCast_one, dec_125, dec_nan1, dec_nan0, dec3] at D1 D2 D3
  have HD := Lib.hid hD
  have I := Lib.hid in_1200
  clear hD
  go_enter Tryd.func6, Tryd.ntmps6
  go_wp2_with fail
  refine (D1.out _ (HD.out.later (by go_grown))).mono ?_
  rintro e w1 ⟨rfl, hb⟩
  have KB := Lib.hid (show Below w.heap.size w w1 from bel_tr0 (by go_grown) hb)
  clear hb
  go_wp2_with fail
  refine (nan_any _).mono ?_
  rintro e w2 ⟨rfl, hw⟩
  obtain rfl := hw.symm
  clear hw
  go_wp2_with fail
  have hs := KB.out.size
  refine (D2.out _ (HD.out.later (by have := KB.out; go_grown))).mono ?_
  rintro e w2 ⟨rfl, hb⟩
  have T2 := Lib.hid (((Tab.nil w1).new [.int .i64 3, .int .i64 800] 25).later hb)
  have K2 := Lib.hid (bel_tr0 (KB.out.alloc (by omega) _) hb)
  clear hb hs
  go_wp2_with fail
  refine (nan_any _).mono ?_
  rintro e w3 ⟨rfl, hw⟩
  obtain rfl := hw.symm
  clear hw
  go_wp2_with fail
  have hs := K2.out.size
  refine (D3.out _ (HD.out.later (by have := K2.out; go_grown))).mono ?_
  rintro e w3 ⟨rfl, hb⟩
  have T3 := Lib.hid ((T2.out.new [.int .i64 1, .int .i64 0] 25).later hb)
  have K3 := Lib.hid (bel_tr0 (K2.out.alloc (by omega) _) hb)
  clear hb hs T2
  have T4 := Lib.hid (T3.out.new [.int .i64 0, .int .i64 0] 25)
  have c0 := T4.out.cell 2 0 rfl rfl
  have c1 := T4.out.cell 2 1 rfl rfl
  go_wp2_with fail
  refine (I.out _).mono ?_
  rintro e w4 ⟨rfl, hb⟩
  have T5 := Lib.hid (T4.out.later hb)
  have K4 := Lib.hid (bel_tr0 (K3.out.alloc (by have := K3.out.size; omega) _) hb)
  clear hb c0 c1 T3 T4
  have c0 := T5.out.cell 2 0 rfl rfl
  have c1 := T5.out.cell 2 1 rfl rfl
  have d0 := T5.out.cell 1 0 rfl rfl
  have d1 := T5.out.cell 1 1 rfl rfl
  go_wp2_with fail
  go_returns
  exact ⟨rfl, K4.out⟩
end Go.Proofs.YtfhepaiefdmlcaaDoor
