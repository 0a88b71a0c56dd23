/- Package share: the parts of a total. -/
import Derived.Test.YtmelbgabiklojaaShare
import Derived.WalkKit
import Derived.WalkSpells
import Derived.WalkLawsBesides
import Derived.Handy
import Derived.Lib.Hide
import Derived.Deep.QuietTactic
import Derived.BigQuiet
import Derived.LoopTactic
import Derived.Defers
import Derived.Recover
import Derived.Outline
namespace Go.Proofs.Ytmelbgabiklojaa
open Go.RowKit Go.Proofs.Reg
set_option linter.unusedVariables false
set_option linter.unusedSimpArgs false
set_option maxRecDepth 100000
/-- a bound: the total times the first weights, by all, rounded down -/
def bnd (T : Int) (xs : List Int) (i : Nat) : Int := T * (xs.take i).sum / xs.sum
/-- a part -/
def part5 (T : Int) (xs : List Int) (i : Nat) : Int := if xs.sum = 0 then 0 else bnd T xs (i + 1) - bnd T xs i
/-- the parts -/
def parts5 (T : Int) (xs : List Int) : List Int := (List.range xs.length).map (part5 T xs)
/-- the first k parts, the others not yet -/
def upto5 (T : Int) (xs : List Int) (k : Nat) : List Int := (List.range xs.length).map fun j => if j < k then part5 T xs j else 0
theorem upto_len (T : Int) (xs : List Int) (k : Nat) : (upto5 T xs k).length = xs.length := by simp [upto5]
theorem upto_zero (T : Int) (xs : List Int) : upto5 T xs 0 = List.replicate xs.length 0 := by
  refine List.ext_getElem (by simp [upto5]) fun i h1 h2 => ?_
  simp [upto5]
theorem upto_succ (T : Int) (xs : List Int) (k : Nat) (hk : k < xs.length) : (upto5 T xs k).set k (part5 T xs k) = upto5 T xs (k + 1) := by
  refine List.ext_getElem (by simp [upto5]) fun i h1 h2 => ?_
  rw [List.getElem_set]
  simp only [upto5, List.getElem_map, List.getElem_range]
  by_cases e : k = i
  · subst e; simp
  · rw [if_neg e]
    by_cases l : i < k
    · rw [if_pos l, if_pos (by omega)]
    · rw [if_neg l, if_neg (by omega)]
theorem upto_all (T : Int) (xs : List Int) : upto5 T xs xs.length = parts5 T xs := by
  refine List.ext_getElem (by simp [upto5, parts5]) fun i h1 h2 => ?_
  have : i < xs.length := by simpa [upto5] using h1
  simp [upto5, parts5, this]
theorem bnd_range {T : Int} {xs : List Int} (h : ∀ x ∈ xs, 0 ≤ x) (p : 0 < xs.sum) (t0 : -17592186044416 ≤ T) (t1 : T ≤ 17592186044416) (i : Nat) : -17592186044416 ≤ bnd T xs i ∧ bnd T xs i ≤ 17592186044416 := by
  obtain ⟨a, b⟩ := sum_take_le h i
  unfold bnd
  obtain ⟨s, hs⟩ : ∃ s, (xs.take i).sum = s := ⟨_, rfl⟩
  rw [hs] at a b ⊢
  constructor
  · rw [Int.le_ediv_iff_mul_le p]
    by_cases c : 0 ≤ T
    · have := Int.mul_nonneg c a
      have : -17592186044416 * xs.sum ≤ 0 := by omega
      omega
    · have h1 : T * xs.sum ≤ T * s := Int.mul_le_mul_of_nonpos_left (by omega) b
      have h2 : -17592186044416 * xs.sum ≤ T * xs.sum := Int.mul_le_mul_of_nonneg_right t0 (by omega)
      omega
  · have : T * s / xs.sum < 17592186044417 := by
      rw [Int.ediv_lt_iff_lt_mul p]
      by_cases c : 0 ≤ T
      · have h1 : T * s ≤ T * xs.sum := Int.mul_le_mul_of_nonneg_left b c
        have h2 : T * xs.sum ≤ 17592186044416 * xs.sum := Int.mul_le_mul_of_nonneg_right t1 (by omega)
        omega
      · have := Int.mul_nonneg (show 0 ≤ -T by omega) a
        rw [Int.neg_mul] at this
        omega
    omega
theorem bnd_zero (T : Int) (xs : List Int) : bnd T xs 0 = 0 := by simp [bnd]
theorem info_i64 : (Try.prog.info? 2).map (fun i => (i.zero, i.size, i.bytes)) = some (some (.int .i64 0), 1, 8) := by kernel_rfl
theorem make_ints (n : Nat) (hn : n ≤ 1000000) (w : World) : (Instr.makeSlice 37 (.int .i64 n) (.int .i64 n)).run Try.prog w = .ok (.slice (some ⟨w.heap.size, 0, none⟩) n n) (w.alloc (.cells (madeCells #[.int .i64 0] n) 2)) := by
  obtain ⟨i0, hi, hz0, hz1, hz2⟩ : ∃ i, Try.prog.info? 2 = some i ∧ i.zero = some (.int .i64 0) ∧ i.size = 1 ∧ i.bytes = 8 := by
    have h := info_i64
    cases hq : Try.prog.info? 2 with
    | none => rw [hq] at h; simp at h
    | some i =>
      rw [hq] at h
      simp only [Option.map_some, Option.some.injEq, Prod.mk.injEq] at h
      exact ⟨i, rfl, h.1, h.2.1, h.2.2⟩
  have hmk := run_make (P := Try.prog) w 37 2 i0 (.int .i64 0) Try.underlying37 hi hz0 .i64 .i64 (n : Int) (n : Int) (by omega) (by omega) (by rw [hz2]; omega) (by omega)
  rw [hz1, Nat.mul_one, show ((n : Int)).toNat = n from by omega] at hmk
  exact hmk
set_option maxHeartbeats 2000000 in
theorem sparts_any (a : Option Addr) (len cap : Nat) (xs : List Int) (T : Int) (w : World) (h : Ri w a len cap xs) (hlen : len ≤ 1024) (hx : ∀ x ∈ xs, 0 ≤ x ∧ x ≤ 9223372036854775807) (hS : xs.sum ≤ 4611686018427387904) (t0 : -17592186044416 ≤ T) (t1 : T ≤ 17592186044416) :
    Calls Try.prog 72 #[.int .i64 T, .slice a len cap, .int .i64 xs.sum] w fun e w' => (∃ b, e = .returned (.slice (some ⟨b, 0, none⟩) len len) ∧ w.heap.size ≤ b ∧ OwnI w' b (parts5 T xs)) ∧ Below w.heap.size w w' := by
  have hl := h.hlen
  have HN : Hid (∀ x ∈ xs, 0 ≤ x) := Lib.hid fun x m => (hx x m).1
  have HX := Lib.hid hx
  have H := Lib.hid h
  have S0 := sum_nonneg HN.out
  have hmk := make_ints len (by omega)
  obtain ⟨S, hSS⟩ : ∃ S, xs.sum = S := ⟨_, rfl⟩
  have HSS := Lib.hid hSS
  rw [hSS] at hS S0 ⊢
  clear h hx hSS
  by_cases z : S = 0
  · subst z
    have HO : Hid (OwnI (w.alloc (.cells (madeCells #[.int .i64 0] len) 2)) w.heap.size (parts5 T xs)) := Lib.hid (by
      have := OwnI.new w len 2
      rw [show parts5 T xs = List.replicate len 0 by
        refine List.ext_getElem (by simp [parts5, hl]) fun i h1 h2 => ?_
        simp [parts5, part5, HSS.out]]
      exact this)
    go_enter Try.func72, Try.ntmps72
    go_wp2_with fail
    go_returns
    exact ⟨⟨w.heap.size, rfl, Nat.le_refl _, HO.out⟩, bel_new w _⟩
  · have SP : 0 < S := by omega
    have zb : (S == 0) = false := by simpa using z
    have HB := Lib.hid (fun i => bnd_range HN.out (show 0 < xs.sum by rw [HSS.out]; exact SP) t0 t1 i)
    have HO : Hid (OwnI (w.alloc (.cells (madeCells #[.int .i64 0] len) 2)) w.heap.size (upto5 T xs 0)) := Lib.hid (by
      have := OwnI.new w len 2
      rw [upto_zero, hl]
      exact this)
    go_enter Try.func72, Try.ntmps72
    go_wp2_with fail
    clear hmk
    go_loopw [8, 9, 21] (fun s8 s9 s21 wr => ∃ (k : Nat) (s b : Int), s21 = .int .i64 k ∧ s8 = .int .i64 s ∧ s9 = .int .i64 b ∧ k ≤ len ∧ 0 ≤ s ∧ s ≤ S ∧ Hid ((xs.take k).sum = s) ∧ Hid (bnd T xs k = b) ∧ -17592186044416 ≤ b ∧ b ≤ 17592186044416 ∧ Hid (OwnI wr w.heap.size (upto5 T xs k)) ∧ Hid (Below w.heap.size w wr)) (fun _ _ s21 _ => len - (intOf s21).toNat)
    case atStart => exact ⟨0, 0, 0, rfl, rfl, rfl, Nat.zero_le _, by decide, by omega, Lib.hid (by simp), Lib.hid (bnd_zero T xs), by decide, by decide, HO, Lib.hid (bel_new w _)⟩
    case round =>
      obtain ⟨k, s, b, rfl, rfl, rfl, hk, s0, s1, HS, HBK, b0, b1, HW, KB⟩ := hrel
      by_cases hlt : k < len
      · obtain ⟨p, rfl, hc⟩ := H.out.addr (by omega)
        obtain ⟨x, hxk⟩ : ∃ x, xs.getD k 0 = x := ⟨_, rfl⟩
        have d1 := cell_later KB.out (hc k hlt)
        have xb := HX.out _ (getD_mem (by omega : k < xs.length))
        have nx := sum_take_succ xs k (by omega)
        have le := (sum_take_le HN.out (k + 1)).2
        rw [hxk] at d1 xb nx
        rw [HS.out] at nx
        rw [HSS.out, nx] at le
        have kl : (k : Int) < (len : Int) := by omega
        obtain ⟨x0, x1⟩ := xb
        have bb := HB.out (k + 1)
        obtain ⟨q, hq⟩ : ∃ q, bnd T xs (k + 1) = q := ⟨_, rfl⟩
        rw [hq] at bb
        have PT := Lib.hid (fpart_any T (s + x) S q (T * (s + x) % S) (by omega) (by omega) (by omega) (by omega) (by omega) (by omega) (by omega) (by
          have e : bnd T xs (k + 1) = T * (s + x) / S := by unfold bnd; rw [nx, HSS.out]
          rw [← hq, e, Int.mul_comm (T * (s + x) / S)]
          exact (Int.mul_ediv_add_emod _ _).symm) (.inl ⟨Int.emod_nonneg _ (by omega), Int.emod_lt_of_pos _ SP⟩))
        rw [show asLen q = some q from if_pos bb] at PT
        have HP : Hid (part5 T xs k = q - b) := Lib.hid (by unfold part5; rw [if_neg (by rw [HSS.out]; exact z), hq, HBK.out])
        have HQ := Lib.hid hq
        have HS2 : Hid ((xs.take (k + 1)).sum = s + x) := Lib.hid nx
        have kx : k < xs.length := by omega
        obtain ⟨bb0, bb1⟩ := bb
        clear hc hxk nx hq HS HBK
        go_wp2_with fail
        refine (PT.out _).mono ?_
        rintro e w1 ⟨he, hb⟩
        obtain rfl : e = _ := he
        have HW1 := Lib.hid (HW.out.later hb)
        have KB := Lib.hid (bel_tr0 KB.out hb)
        have oc := HW1.out.cell k (by rw [upto_len]; exact kx)
        have oz := HW1.out.froz k (by rw [upto_len]; exact kx)
        have olt := HW1.out.lt
        clear hb HW
        go_wp2_with fail
        go_round
        case rel => exact ⟨k + 1, s + x, q, by go_num, rfl, rfl, by omega, by omega, by omega, HS2, HQ, bb0, bb1, Lib.hid (by
          have := HW1.out.set k (q - b) (by rw [upto_len]; exact kx)
          rw [← HP.out, upto_succ T xs k kx, HP.out] at this
          exact this), Lib.hid (KB.out.setCell (Nat.le_refl _) _)⟩
        case measure => simp [intOf]; omega
      · have kl : ¬ (k : Int) < (len : Int) := by omega
        have HE : Hid (OwnI wr w.heap.size (parts5 T xs)) := Lib.hid (by
          have := HW.out
          rwa [show k = xs.length by omega, upto_all] at this)
        clear HS HBK HW
        go_wp2_with fail
        go_ret
        exact ⟨⟨w.heap.size, rfl, Nat.le_refl _, HE.out⟩, KB.out⟩
end Go.Proofs.Ytmelbgabiklojaa
