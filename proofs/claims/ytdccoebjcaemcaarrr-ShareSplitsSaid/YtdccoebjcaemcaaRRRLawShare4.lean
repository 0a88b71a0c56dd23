/- ShareSplits. -/
import Derived.Test.YtdccoebjcaemcaaRRRShareO
import Derived.WalkKit
import Derived.WalkSpells
import Derived.WalkLawsBesides
import Derived.Handy
import Derived.Lib.Hide
import Derived.Deep.QuietTactic
import Derived.BigQuiet
import Derived.LoopTactic
import Derived.Outline
namespace Go.Proofs.YtdccoebjcaemcaaRRR
open Go.RowKit Go.Proofs.Big Go.Proofs.Reg
set_option linter.unusedVariables false
set_option linter.unusedSimpArgs false
set_option maxRecDepth 100000
set_option maxHeartbeats 2000000 in
theorem law_splits (a : Option Addr) (len0 cap : Nat) (xs0 : List Int) (T : Int) (w : World) (h0 : Ri w a len0 cap xs0) (hlc : len0 ≤ cap) (hcm : cap ≤ 9223372036854775807) (hx0 : ∀ x ∈ xs0, -9223372036854775808 ≤ x ∧ x ≤ 9223372036854775807) (kT : -9223372036854775808 ≤ T ∧ T ≤ 9223372036854775807) :
    Calls Try.prog 3 #[.int .i64 T, .slice a len0 cap] w fun e w' => e = .returned (.bool true) ∧ Below w.heap.size w w' := by
  obtain ⟨t0, t1⟩ := kT
  obtain ⟨n, hn⟩ : ∃ n : Nat, n = min len0 30 := ⟨_, rfl⟩
  have hmn : (min (len0 : Int) 30).toNat = n := by omega
  have n30 : n ≤ 30 := by omega
  have nl : n ≤ len0 := by omega
  have nc : n ≤ cap := by omega
  have R0 : Hid (Ri w a n cap (xs0.take n)) := Lib.hid ⟨by rw [List.length_take, h0.hlen]; omega, by omega, fun p => by
    obtain ⟨q, e, c⟩ := h0.addr (by omega)
    exact ⟨q, e, fun k hk => by
      rw [List.getD_eq_getElem?_getD, List.getElem?_take_of_lt hk, ← List.getD_eq_getElem?_getD]
      exact c k (by omega)⟩⟩
  have HX : Hid (∀ x ∈ xs0.take n, -9223372036854775808 ≤ x ∧ x ≤ 9223372036854775807) := Lib.hid fun x m => hx0 x (List.mem_of_mem_take m)
  have lm := h0.hmax
  obtain ⟨xs, hxs⟩ : ∃ xs, xs0.take n = xs := ⟨_, rfl⟩
  rw [hxs] at R0 HX
  clear h0 hx0 hn hxs
  go_enter Try.func3, Try.ntmps3
  go_wp2_with fail
  refine (speaks5_any _).mono ?_
  rintro e w1 ⟨rfl, hb⟩
  have KB := Lib.hid hb
  have R1 := Lib.hid (ri_later R0.out hb)
  clear hb R0
  go_wp2_with fail
  refine (ssplit_any a n cap xs T w1 R1.out HX.out).mono ?_
  rintro e w2 ⟨hb, hr⟩
  have KB := Lib.hid (bel_tr0 KB.out hb)
  have R2 := Lib.hid (ri_later R1.out hb)
  clear hb R1
  have RS := Lib.hid (r5split_any a n cap xs T w2 R2.out n30 HX.out t0 t1)
  rcases hr with ⟨h, _⟩ | ⟨_, nb, rfl⟩ | ⟨_, nb, oT, oS, b, rfl, _, o⟩ | ⟨_, nb, no, rfl⟩
  · omega
  · go_wp2_with fail
    refine RS.out.mono ?_
    rintro e w3 ⟨hb, hr⟩
    have KB := Lib.hid (bel_tr0 KB.out hb)
    rcases hr with ⟨_, rfl⟩ | ⟨h, _⟩ | ⟨h, _⟩
    · clear hb RS
      have S := Lib.hid (same5_any none none 0 0 0 0 [] [] w3 ⟨rfl, by decide, fun h => absurd h (by decide)⟩ ⟨rfl, by decide, fun h => absurd h (by decide)⟩)
      go_wp2_with fail
      refine S.out.mono ?_
      rintro e w4 ⟨rfl, hb⟩
      have KB := Lib.hid (bel_tr0 KB.out hb)
      clear hb S
      go_wp2_with fail
      go_returns
      exact ⟨rfl, KB.out⟩
    · rw [nb] at h; cases h
    · rw [nb] at h; cases h
  · have O := Lib.hid o
    clear o
    go_wp2_with fail
    refine RS.out.mono ?_
    rintro e w3 ⟨hb, hr⟩
    have KB := Lib.hid (bel_tr0 KB.out hb)
    rcases hr with ⟨h, _⟩ | ⟨_, h, _⟩ | ⟨_, _, _, a5, c5, rfl, R5⟩
    · rw [nb] at h; cases h
    · exact absurd ⟨oT, oS⟩ h
    · have S := Lib.hid (same5_any _ _ n n n c5 _ _ w3 ((O.out.later hb).ri (by rw [parts_len]; exact R2.out.hlen) (by omega)) R5)
      rw [decide_eq_true rfl] at S
      clear hb RS R5 oT oS nb
      go_wp2_with fail
      refine S.out.mono ?_
      rintro e w4 ⟨rfl, hb⟩
      have KB := Lib.hid (bel_tr0 KB.out hb)
      clear hb S
      go_wp2_with fail
      go_returns
      exact ⟨rfl, KB.out⟩
  · go_wp2_with fail
    refine RS.out.mono ?_
    rintro e w3 ⟨hb, hr⟩
    have KB := Lib.hid (bel_tr0 KB.out hb)
    rcases hr with ⟨h, _⟩ | ⟨_, _, rfl⟩ | ⟨_, oT, oS, _⟩
    · rw [nb] at h; cases h
    · clear hb RS no nb
      have S := Lib.hid (same5_any none none 0 0 0 0 [] [] w3 ⟨rfl, by decide, fun h => absurd h (by decide)⟩ ⟨rfl, by decide, fun h => absurd h (by decide)⟩)
      go_wp2_with fail
      refine S.out.mono ?_
      rintro e w4 ⟨rfl, hb⟩
      have KB := Lib.hid (bel_tr0 KB.out hb)
      clear hb S
      go_wp2_with fail
      go_returns
      exact ⟨rfl, KB.out⟩
    · exact absurd ⟨oT, oS⟩ no
end Go.Proofs.YtdccoebjcaemcaaRRR
