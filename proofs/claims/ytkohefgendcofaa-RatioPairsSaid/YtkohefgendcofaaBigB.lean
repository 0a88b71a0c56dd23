/- The reference's big numbers: Minus, Cmp, Plus. -/
import Derived.Test.YtkohefgendcofaaBigA
import Derived.WalkKit
import Derived.WalkSpells
import Derived.WalkLawsBesides
import Derived.Handy
import Derived.Lib.Hide
import Derived.Deep.QuietTactic
import Derived.BigQuiet
import Derived.LoopTactic
import Derived.Deep.LoopGhost
import Derived.Deep.RegionHeld3
import Derived.Deep.RegionWith
import Derived.Outline
import Derived.Deep.DeepCutAuto
namespace Go.Proofs.Ytkohefgendcofaa
open Go.RowKit Go.Proofs.Big
set_option linter.unusedVariables false
set_option maxRecDepth 100000
set_option linter.unusedSimpArgs false

theorem minus_any (ng : Bool) (a : Option Addr) (la ca : Nat) (n : Int) (w : World) (h : BigV w ng a la ca n) (sa : la ≤ 1000000) :
    Calls Try.prog 17 #[.agg #[.bool ng, .slice a la ca]] w (RetBig w (-n)) := by
  have H := Lib.hid h
  obtain ⟨xs, rd, ok, cn, hv⟩ := h.rd
  have hng := h.hng
  have HT := Lib.hid (fun (w1 : World) (hb : Below w.heap.size w w1) => trim_any (!ng) a la ca xs w1 (rd.later hb) ok sa (-n) (Lib.hid (by
    rw [hv, hng]
    by_cases c : n < 0
    · simp [c]
    · simp [c])))
  clear h rd ok cn hv hng
  go_enter Try.func17, Try.ntmps17
  go_wp2_with fail
  refine (HT.out _ (by go_grown)).mono ?_
  rintro e w1 ⟨ng1, a1, l1, c1, rfl, hv1, hb1⟩
  have bv := ((BV.new (w.alloc (.cells #[.bool ng, .slice a la ca] 29)) false none 0 0 29).later hb1)
  simp only [World.size_alloc] at bv
  have BVH := Lib.hid bv
  have HV1 := Lib.hid hv1
  have HB1 := Lib.hid hb1
  obtain ⟨k0, k1, k2, k3⟩ := bv
  clear hv1 hb1
  go_wp2_with fail
  refine bodyPost_ret (v := .agg #[.bool ng1, .slice a1 l1 c1]) (by simp [results, Try.results17, go_sem, k0, k1]) rfl ?_
  refine RetBig.mk (HV1.out.setBV BVH.out _ _) ?_
  refine Below.setCell (Below.setCell (Below.trans ?_ (HB1.out.mono ?_)) ?_ _) ?_ _
  · go_grown
  · simp; omega
  · show w.heap.size ≤ w.heap.size + 1; omega
  · show w.heap.size ≤ w.heap.size + 1; omega
theorem bcmp_any (ng mg : Bool) (a b : Option Addr) (la ca lb cb : Nat) (n m r : Int) (w : World) (h : BigV w ng a la ca n) (h' : BigV w mg b lb cb m) (sa : la ≤ 1000000) (sb : lb ≤ 1000000) (hr : Hid (r = cmpI n m)) :
    Calls Try.prog 21 #[.agg #[.bool ng, .slice a la ca], .agg #[.bool mg, .slice b lb cb]] w fun e w' => e = .returned (.int .i64 r) ∧ Below w.heap.size w w' := by
  obtain ⟨xs, rd, ok, cn, hv⟩ := h.rd
  obtain ⟨ys, rd', ok', cn', hv'⟩ := h'.rd
  have hng := h.hng
  have hmg := h'.hng
  by_cases c1 : n < 0 <;> by_cases c2 : m < 0
  · rw [decide_eq_true c1] at hng; rw [decide_eq_true c2] at hmg; subst hng; subst hmg
    rw [if_pos c1] at hv; rw [if_pos c2] at hv'
    have HT := Lib.hid (fun (w1 : World) (hb : Below w.heap.size w w1) => sizes_any b a lb cb la ca ys xs w1 (rd'.later hb) (rd.later hb) ok' ok cn' cn sb sa r (Lib.hid (by rw [hr.out, hv, hv']; unfold cmpI; repeat' split; all_goals omega)))
    clear h h' rd rd' ok ok' cn cn' hv hv'
    go_enter Try.func21, Try.ntmps21
    go_wp2_with fail
    refine (HT.out _ (by go_grown)).mono ?_
    rintro e w1 ⟨rfl, nd, rfl⟩
    go_wp2_with fail
    go_returns
    exact ⟨rfl, below_drewN (by go_grown) _⟩
  · rw [decide_eq_true c1] at hng; rw [decide_eq_false c2] at hmg; subst hng; subst hmg
    obtain rfl : r = -1 := by rw [hr.out]; unfold cmpI; rw [if_neg (by omega), if_pos (by omega)]
    clear h h' rd rd' ok ok' cn cn' hv hv'
    go_enter Try.func21, Try.ntmps21
    go_wp2_with fail
    go_returns
    exact ⟨rfl, by go_grown⟩
  · rw [decide_eq_false c1] at hng; rw [decide_eq_true c2] at hmg; subst hng; subst hmg
    obtain rfl : r = 1 := by rw [hr.out]; unfold cmpI; rw [if_neg (by omega), if_neg (by omega)]
    clear h h' rd rd' ok ok' cn cn' hv hv'
    go_enter Try.func21, Try.ntmps21
    go_wp2_with fail
    go_returns
    exact ⟨rfl, by go_grown⟩
  · rw [decide_eq_false c1] at hng; rw [decide_eq_false c2] at hmg; subst hng; subst hmg
    rw [if_neg c1] at hv; rw [if_neg c2] at hv'
    have HT := Lib.hid (fun (w1 : World) (hb : Below w.heap.size w w1) => sizes_any a b la ca lb cb xs ys w1 (rd.later hb) (rd'.later hb) ok ok' cn cn' sa sb r (Lib.hid (by rw [hr.out, hv, hv'])))
    clear h h' rd rd' ok ok' cn cn' hv hv'
    go_enter Try.func21, Try.ntmps21
    go_wp2_with fail
    refine (HT.out _ (by go_grown)).mono ?_
    rintro e w1 ⟨rfl, nd, rfl⟩
    go_wp2_with fail
    go_returns
    exact ⟨rfl, below_drewN (by go_grown) _⟩
end Go.Proofs.Ytkohefgendcofaa
