/- Values in device units, the program and the reference, apart from floats (of ValS and LawVal2). -/
import Derived.Test.YtbolifjkhoiphaaHairM
import Derived.Test.YtbolifjkhoiphaaParts
import Derived.Test.YtbolifjkhoiphaaRegM
import Derived.Test.YtbolifjkhoiphaaRegW
import Derived.WalkKit
import Derived.WalkSpells
import Derived.WalkLawsBesides
import Derived.Handy
import Derived.Lib.Hide
import Derived.Outline
namespace Go.Proofs.Ytbolifjkhoiphaa
open Go.RowKit Go.Proofs.Reg
set_option linter.unusedVariables false
set_option linter.unusedSimpArgs false
set_option maxRecDepth 100000
/-- a length, or giving up -/
def VinR (v er : Int) (e : Ending) : Prop := (er = 0 ∧ e = .returned (.tuple #[.int .i64 v, .bool true])) ∨ (er ≠ 0 ∧ v = 0 ∧ e = .panicked (gave er))
set_option maxHeartbeats 1000000 in
theorem vin_fixed (n base N D v er : Int) (h : ∀ w, Calls Try.prog 76 #[.int .i64 n, .agg #[.int .i64 N, .int .i64 D]] w fun e w' => Ends v er e ∧ Below w.heap.size w w') (w : World) :
    Calls Try.prog 54 #[.agg #[.int .i64 3, .int .i64 n], .int .i64 base, .agg #[.int .i64 N, .int .i64 D]] w fun e w' => VinR v er e ∧ Below w.heap.size w w' := by
  have H := Lib.hid h
  clear h
  go_enter Try.func54, Try.ntmps54
  go_wp2_with fail
  refine (H.out _).mono ?_
  rintro e w1 ⟨he, hb⟩
  have KB := Lib.hid (show Below w.heap.size w w1 from bel_tr0 (by go_grown) hb)
  clear hb
  rcases he with ⟨rfl, rfl⟩ | ⟨hz, rfl, rfl⟩
  · go_wp2_with fail
    go_returns
    exact ⟨.inl ⟨rfl, rfl⟩, KB.out⟩
  · exact ⟨rfl, .inr ⟨hz, rfl, rfl⟩, KB.out⟩
set_option maxHeartbeats 1000000 in
theorem vin_pct (n base N D v er : Int) (h : ∀ w, Calls Try.prog 70 #[.int .i64 base, .int .i64 n, .int .i64 6400] w fun e w' => Ends v er e ∧ Below w.heap.size w w') (w : World) :
    Calls Try.prog 54 #[.agg #[.int .i64 4, .int .i64 n], .int .i64 base, .agg #[.int .i64 N, .int .i64 D]] w fun e w' => VinR v er e ∧ Below w.heap.size w w' := by
  have H := Lib.hid h
  clear h
  go_enter Try.func54, Try.ntmps54
  go_wp2_with fail
  refine (H.out _).mono ?_
  rintro e w1 ⟨he, hb⟩
  have KB := Lib.hid (show Below w.heap.size w w1 from bel_tr0 (by go_grown) hb)
  clear hb
  rcases he with ⟨rfl, rfl⟩ | ⟨hz, rfl, rfl⟩
  · go_wp2_with fail
    go_returns
    exact ⟨.inl ⟨rfl, rfl⟩, KB.out⟩
  · exact ⟨rfl, .inr ⟨hz, rfl, rfl⟩, KB.out⟩
theorem vin_none (k n base N D : Int) (h3 : (k == 3) = false) (h4 : (k == 4) = false) (w : World) :
    Calls Try.prog 54 #[.agg #[.int .i64 k, .int .i64 n], .int .i64 base, .agg #[.int .i64 N, .int .i64 D]] w fun e w' => e = .returned (.tuple #[.int .i64 0, .bool false]) ∧ Below w.heap.size w w' := by
  go_enter Try.func54, Try.ntmps54
  go_wp2_with fail
  go_returns
  exact ⟨rfl, by go_grown⟩
set_option maxHeartbeats 1000000 in
theorem r9in_fixed (n base N D v er : Int) (f : Bool) (hg : ∀ w, Calls Try.prog 77 #[.int .i64 N, .int .i64 D] w fun e w' => e = .returned (.bool f) ∧ Below w.heap.size w w') (h : f = true → ∀ w, Calls Try.prog 78 #[.int .i64 n, .int .i64 N, .int .i64 D] w fun e w' => e = .returned (.tuple #[.int .i64 v, .int .i64 er]) ∧ Below w.heap.size w w') (hf : f = false → v = 0 ∧ er = 1) (w : World) :
    Calls Try.prog 55 #[.agg #[.int .i64 3, .int .i64 n], .int .i64 base, .int .i64 N, .int .i64 D] w fun e w' => e = .returned (.tuple #[.int .i64 v, .bool (er == 0), .int .i64 er]) ∧ Below w.heap.size w w' := by
  have HG := Lib.hid hg
  clear hg
  cases f
  · obtain ⟨rfl, rfl⟩ := hf rfl
    clear h hf
    go_enter Try.func55, Try.ntmps55
    go_wp2_with fail
    refine (HG.out _).mono ?_
    rintro e w1 ⟨rfl, hb⟩
    have KB := Lib.hid (show Below w.heap.size w w1 from bel_tr0 (by go_grown) hb)
    clear hb
    go_wp2_with fail
    go_returns
    exact ⟨rfl, KB.out⟩
  · have H := Lib.hid (h rfl)
    clear h hf
    go_enter Try.func55, Try.ntmps55
    go_wp2_with fail
    refine (HG.out _).mono ?_
    rintro e w1 ⟨rfl, hb⟩
    have KB := Lib.hid (show Below w.heap.size w w1 from bel_tr0 (by go_grown) hb)
    have KT := Lib.hid (((Tab.nil w).new [.int .i64 3, .int .i64 n] 75).later hb)
    clear hb
    have c0 := KT.out.cell 0 0 rfl rfl
    have c1 := KT.out.cell 0 1 rfl rfl
    go_wp2_with fail
    refine (H.out _).mono ?_
    rintro e w2 ⟨rfl, hb⟩
    have KC := Lib.hid (bel_tr0 KB.out hb)
    clear hb
    go_wp2_with fail
    go_returns
    exact ⟨rfl, KC.out⟩
set_option maxHeartbeats 1000000 in
theorem r9in_pct (n base N D v er : Int) (h : ∀ w, Calls Try.prog 78 #[.int .i64 base, .int .i64 n, .int .i64 6400] w fun e w' => e = .returned (.tuple #[.int .i64 v, .int .i64 er]) ∧ Below w.heap.size w w') (w : World) :
    Calls Try.prog 55 #[.agg #[.int .i64 4, .int .i64 n], .int .i64 base, .int .i64 N, .int .i64 D] w fun e w' => e = .returned (.tuple #[.int .i64 v, .bool (er == 0), .int .i64 er]) ∧ Below w.heap.size w w' := by
  have H := Lib.hid h
  clear h
  go_enter Try.func55, Try.ntmps55
  go_wp2_with fail
  refine (H.out _).mono ?_
  rintro e w1 ⟨rfl, hb⟩
  have KB := Lib.hid (show Below w.heap.size w w1 from bel_tr0 (by go_grown) hb)
  clear hb
  go_wp2_with fail
  go_returns
  exact ⟨rfl, KB.out⟩
theorem r9in_none (k n base N D : Int) (h3 : (k == 3) = false) (h4 : (k == 4) = false) (w : World) :
    Calls Try.prog 55 #[.agg #[.int .i64 k, .int .i64 n], .int .i64 base, .int .i64 N, .int .i64 D] w fun e w' => e = .returned (.tuple #[.int .i64 0, .bool false, .int .i64 0]) ∧ Below w.heap.size w w' := by
  go_enter Try.func55, Try.ntmps55
  go_wp2_with fail
  go_returns
  exact ⟨rfl, by go_grown⟩
/-- a length, no length, or giving up -/
def InS (v : Int) (ok : Bool) (er : Int) (e : Ending) : Prop := (er = 0 ∧ e = .returned (.tuple #[.int .i64 v, .bool ok])) ∨ (er ≠ 0 ∧ v = 0 ∧ ok = false ∧ e = .panicked (gave er))
theorem VinR.ins {v er : Int} {e : Ending} (h : VinR v er e) : InS v (er == 0) er e := by
  rcases h with ⟨rfl, h⟩ | ⟨hz, hv, h⟩
  · exact .inl ⟨rfl, h⟩
  · exact .inr ⟨hz, hv, by simpa using hz, h⟩
structure InSame (k n base p q v : Int) (ok : Bool) (er : Int) : Prop where
  prog : ∀ w, Calls Try.prog 54 #[.agg #[.int .i64 k, .int .i64 n], .int .i64 base, .agg #[.int .i64 p, .int .i64 q]] w fun e w' => InS v ok er e ∧ Below w.heap.size w w'
  ref : ∀ w, Calls Try.prog 55 #[.agg #[.int .i64 k, .int .i64 n], .int .i64 base, .int .i64 p, .int .i64 q] w fun e w' => e = .returned (.tuple #[.int .i64 v, .bool ok, .int .i64 er]) ∧ Below w.heap.size w w'
  zero : er ≠ 0 → v = 0 ∧ ok = false
theorem insame_ex (k n base p q : Int) (kn : -9223372036854775808 ≤ n ∧ n ≤ 9223372036854775807) (kb : -9223372036854775808 ≤ base ∧ base ≤ 9223372036854775807) (kp : -9223372036854775808 ≤ p ∧ p ≤ 9223372036854775807) (kq : -9223372036854775808 ≤ q ∧ q ≤ 9223372036854775807) :
    ∃ v ok er, InSame k n base p q v ok er := by
  by_cases h3 : k = 3
  · subst h3
    have G : ∀ w, Calls Try.prog 77 #[.int .i64 p, .int .i64 q] w fun e w' => e = .returned (.bool (goodB p q)) ∧ Below w.heap.size w w' := fun w => good2_any p q kp.1 kp.2 kq.1 kq.2 w
    cases hg : goodB p q
    · refine ⟨0, false, 1, fun w => ?_, fun w => ?_, fun _ => ⟨rfl, rfl⟩⟩
      · refine (vin_fixed n base p q 0 1 (scale_bad n p q kp.1 kp.2 kq.1 kq.2 hg) w).mono ?_
        rintro e w' ⟨h, hb⟩
        exact ⟨h.ins, hb⟩
      · exact r9in_fixed n base p q 0 1 false (fun w => by have := G w; rwa [hg] at this) (fun h => by cases h) (fun _ => ⟨rfl, rfl⟩) w
    · obtain ⟨v, er, s1, s2, s3⟩ := scale_same n p q kn.1 kn.2 kp.1 kp.2 (goodB_pos hg) kq.2 hg
      refine ⟨v, er == 0, er, fun w => ?_, fun w => ?_, fun z => ⟨s3 z, by simpa using z⟩⟩
      · refine (vin_fixed n base p q v er s1 w).mono ?_
        rintro e w' ⟨h, hb⟩
        exact ⟨h.ins, hb⟩
      · exact r9in_fixed n base p q v er true (fun w => by have := G w; rwa [hg] at this) (fun _ => s2) (fun h => by cases h) w
  · by_cases h4 : k = 4
    · subst h4
      obtain ⟨v, er, s1, s2, s3⟩ := same3_ex base n 6400 kb.1 kb.2 kn.1 kn.2 (by decide) (by decide)
      refine ⟨v, er == 0, er, fun w => ?_, fun w => ?_, fun z => ⟨s3 z, by simpa using z⟩⟩
      · refine (vin_pct n base p q v er s1 w).mono ?_
        rintro e w' ⟨h, hb⟩
        exact ⟨h.ins, hb⟩
      · exact r9in_pct n base p q v er s2 w
    · refine ⟨0, false, 0, fun w => ?_, fun w => ?_, fun _ => ⟨rfl, rfl⟩⟩
      · refine (vin_none k n base p q (by simpa using h3) (by simpa using h4) w).mono ?_
        rintro e w' ⟨h, hb⟩
        exact ⟨.inl ⟨rfl, h⟩, hb⟩
      · exact r9in_none k n base p q (by simpa using h3) (by simpa using h4) w
end Go.Proofs.Ytbolifjkhoiphaa
