/- Law 14: SizingFits, SizingLimits. -/
import Derived.Test.YtbolifjkhoiphaaSizD
import Derived.WalkKit
import Derived.WalkSpells
import Derived.WalkLawsBesides
import Derived.Handy
import Derived.Lib.Hide
import Derived.Deep.QuietTactic
import Derived.BigQuiet
import Derived.Outline
namespace Go.Proofs.Ytbolifjkhoiphaa
open Go.RowKit Go.Proofs.Reg Go.Proofs.Big
set_option linter.unusedVariables false
set_option linter.unusedSimpArgs false
set_option maxRecDepth 100000
set_option maxHeartbeats 4000000 in
theorem law_fits (a d l m : Int) (ha : 0 ≤ a ∧ a ≤ 4294967295) (hd : 0 ≤ d ∧ d ≤ 4294967295) (hl : 0 ≤ l ∧ l ≤ 4294967295) (hm : 0 ≤ m ∧ m ≤ 4294967295) (w : World) :
    Calls Try.prog 9 #[.agg #[.int .u32 a, .int .u32 d, .int .u32 l, .int .u32 m]] w fun e w' => e = .returned (.bool true) ∧ Below w.heap.size w w' := by
  obtain ⟨a0, a1⟩ := ha
  obtain ⟨d0, d1⟩ := hd
  obtain ⟨l0, l1⟩ := hl
  obtain ⟨m0, m1⟩ := hm
  have SP := Lib.hid speaks14_any
  obtain ⟨n, hn⟩ : ∃ n, max l (min a m) = n := ⟨_, rfl⟩
  obtain ⟨x, hx⟩ : ∃ x, max l (min (a + d) m) = x := ⟨_, rfl⟩
  have HN := Lib.hid (show Calls Try.prog 39 #[.int .i64 a, .int .i64 l, .int .i64 m] = Calls Try.prog 39 #[.int .i64 a, .int .i64 l, .int .i64 m] from rfl)
  have FA := Lib.hid (fun w => zfit_any a l m w)
  have FB := Lib.hid (fun w => zfit_any (a + d) l m w)
  rw [hn] at FA
  rw [hx] at FB
  have q0 : l ≤ n := by omega
  have q1 : n ≤ max l m := by omega
  have q2 : n ≤ max l a := by omega
  have q3 : n ≤ x := by omega
  have q4 : (n == l) = true ∨ ((n == l) = false ∧ (n == m) = true) ∨ ((n == l) = false ∧ (n == m) = false ∧ (n == a) = true) := by
    by_cases c1 : n = l
    · exact .inl (by simpa using c1)
    · by_cases c2 : n = m
      · exact .inr (.inl ⟨by simpa using c1, by simpa using c2⟩)
      · exact .inr (.inr ⟨by simpa using c1, by simpa using c2, by simp; omega⟩)
  clear hn hx HN
  rcases q4 with r1 | ⟨r1, r2⟩ | ⟨r1, r2, r3⟩
  all_goals
    go_enter Try.func9, Try.ntmps9
    go_wp2_with fail
    refine (SP.out _).mono ?_
    rintro e w1 ⟨rfl, hb⟩
    have KB := Lib.hid (show Below w.heap.size w w1 from bel_tr0 (by go_grown) hb)
    have T1 := Lib.hid (((Tab.nil w).new [.int .u32 a, .int .u32 d, .int .u32 l, .int .u32 m] 86).later hb)
    clear hb
    have c0 := T1.out.cell 0 0 rfl rfl
    have c1 := T1.out.cell 0 1 rfl rfl
    have c2 := T1.out.cell 0 2 rfl rfl
    have c3 := T1.out.cell 0 3 rfl rfl
    go_wp2_with fail
    go_quiet (fail)
    go_wp2_with fail
    refine (FA.out _).mono ?_
    rintro _ w3 ⟨rfl, hw⟩
    obtain rfl := hw.symm
    clear hw
    go_wp2_with fail
    refine (FB.out _).mono ?_
    rintro _ w3 ⟨rfl, hw⟩
    obtain rfl := hw.symm
    clear hw
    go_wp2_with fail
    go_returns
    exact ⟨rfl, below_drewN KB.out _⟩
/-- limits, or giving up -/
def BtR (v1 v2 : Int) (ok2 : Bool) (e1 e2 : Int) (e : Ending) : Prop := (e1 = 0 ∧ e2 = 0 ∧ e = .returned (.agg #[.int .i64 v1, .int .i64 v2, .bool ok2])) ∨ (e1 ≠ 0 ∧ e = .panicked (gave e1)) ∨ (e1 = 0 ∧ e2 ≠ 0 ∧ e = .panicked (gave e2))
set_option maxHeartbeats 4000000 in
theorem zbetween_any (k1 n1 k2 n2 base p q sz ed v1 v2 e1 e2 : Int) (kn ok1 ok2 : Bool) (h1 : ∀ w, Calls Try.prog 33 #[.agg #[.int .i64 k1, .int .i64 n1], .agg #[.int .i64 base, .bool kn, .int .i64 p, .int .i64 q, .int .i64 sz, .int .i64 ed]] w fun e w' => InS v1 ok1 e1 e ∧ Below w.heap.size w w') (h2 : ∀ w, Calls Try.prog 33 #[.agg #[.int .i64 k2, .int .i64 n2], .agg #[.int .i64 base, .bool kn, .int .i64 p, .int .i64 q, .int .i64 sz, .int .i64 ed]] w fun e w' => InS v2 ok2 e2 e ∧ Below w.heap.size w w') (w : World) :
    Calls Try.prog 36 #[.agg #[.int .i64 k1, .int .i64 n1], .agg #[.int .i64 k2, .int .i64 n2], .agg #[.int .i64 base, .bool kn, .int .i64 p, .int .i64 q, .int .i64 sz, .int .i64 ed]] w fun e w' => BtR v1 v2 ok2 e1 e2 e ∧ Below w.heap.size w w' := by
  have H1 := Lib.hid h1
  have H2 := Lib.hid h2
  clear h1 h2
  go_enter Try.func36, Try.ntmps36
  go_wp2_with fail
  obtain ⟨w0, hw0⟩ : ∃ x, (((w.alloc (.cells #[.int .i64 k1, .int .i64 n1] 72)).alloc (.cells #[.int .i64 k2, .int .i64 n2] 72)).alloc (.cells #[.int .i64 base, .bool kn, .int .i64 p, .int .i64 q, .int .i64 sz, .int .i64 ed] 65)).alloc (.cells #[.int .i64 0, .int .i64 0, .bool false] 79) = x := ⟨_, rfl⟩
  rw [hw0]
  have K0 : Hid (Below w.heap.size w w0) := Lib.hid (by rw [← hw0]; exact bel_tr0 (bel_tr0 (bel_tr0 (bel_newR _ _) (bel_newR _ _)) (bel_newR _ _)) (bel_newR _ _))
  have T0 : Hid (Tab w0 [(w.heap.size + 3, [.int .i64 0, .int .i64 0, .bool false]), (w.heap.size + 2, [.int .i64 base, .bool kn, .int .i64 p, .int .i64 q, .int .i64 sz, .int .i64 ed]), (w.heap.size + 1, [.int .i64 k2, .int .i64 n2]), (w.heap.size, [.int .i64 k1, .int .i64 n1])]) := Lib.hid (by
    rw [← hw0]
    exact ((((Tab.nil w).new' _ _ rfl).new' _ _ (by simp)).new' _ _ (by simp)).new' _ _ (by simp))
  clear hw0
  refine (H1.out _).mono ?_
  rintro e w1 ⟨he, hb⟩
  have K1 := Lib.hid (bel_tr0 K0.out hb)
  have T1 := Lib.hid (T0.out.later hb)
  clear hb K0 T0
  rcases he with ⟨rfl, rfl⟩ | ⟨hz, _, _, rfl⟩
  · have a0 := T1.out.cell 2 0 rfl rfl
    have a1 := T1.out.cell 2 1 rfl rfl
    have c0 := T1.out.cell 1 0 rfl rfl
    have c1 := T1.out.cell 1 1 rfl rfl
    have c2 := T1.out.cell 1 2 rfl rfl
    have c3 := T1.out.cell 1 3 rfl rfl
    have c4 := T1.out.cell 1 4 rfl rfl
    have c5 := T1.out.cell 1 5 rfl rfl
    go_wp2_with fail
    refine (H2.out _).mono ?_
    rintro e w2 ⟨he, hb⟩
    have K2 := Lib.hid (bel_tr0 K1.out hb)
    have T2 := Lib.hid (T1.out.later hb)
    clear hb K1 T1 a0 a1 c0 c1 c2 c3 c4 c5
    rcases he with ⟨rfl, rfl⟩ | ⟨hz, _, _, rfl⟩
    · have c0 := T2.out.cell 0 0 rfl rfl
      have c1 := T2.out.cell 0 1 rfl rfl
      have c2 := T2.out.cell 0 2 rfl rfl
      have f0 := T2.out.froz 0 0 rfl rfl
      have f1 := T2.out.froz 0 1 rfl rfl
      have f2 := T2.out.froz 0 2 rfl rfl
      have FIN : Hid (∀ x y z, Below w.heap.size w (((w2.setCell ⟨w.heap.size + 3, 0, none⟩ x).setCell ⟨w.heap.size + 3, 1, none⟩ y).setCell ⟨w.heap.size + 3, 2, none⟩ z)) := Lib.hid (fun x y z => ((K2.out.setCell (by show w.heap.size ≤ w.heap.size + 3; omega) _).setCell (by show w.heap.size ≤ w.heap.size + 3; omega) _).setCell (by show w.heap.size ≤ w.heap.size + 3; omega) _)
      have lt := T2.out.lt 0 rfl
      go_wp2_with fail
      refine bodyPost_ret (v := .agg #[.int .i64 v1, .int .i64 v2, .bool ok2]) (by simp [results, Try.results36, go_sem, c0, c1, c2, lt]) rfl ?_
      exact ⟨.inl ⟨rfl, rfl, rfl⟩, FIN.out _ _ _⟩
    · exact ⟨rfl, .inr (.inr ⟨rfl, hz, rfl⟩), K2.out⟩
  · exact ⟨rfl, .inr (.inl ⟨hz, rfl⟩), K1.out⟩
end Go.Proofs.Ytbolifjkhoiphaa
