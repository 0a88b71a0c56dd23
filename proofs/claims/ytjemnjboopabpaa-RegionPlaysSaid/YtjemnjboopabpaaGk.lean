/- Package region: two edges at a time (slices.Chunk), as an iterator's contract. -/
import Derived.Test.YtjemnjboopabpaaGa
import Derived.RangeFuncNested
import Derived.RangeFuncBound
import Derived.RangeFuncCalls
import Derived.RangeFuncLeaves
import Derived.RangeFuncBox
import Derived.Shelf.Abstract
import Derived.Shelf.RegionOpen
import Derived.WalkKit
import Derived.OwnWalkIn
import Derived.TacticsInMore
import Derived.LoopNIn
import Derived.LoopIn
import Derived.Maps.AppendAt
namespace Go.Proofs.Ytjemnjboopabpaa
open Go.RowKit Go.Shelf Go.Proofs.Reg Go.Proofs.Big Go.Proofs.Bands
set_option linter.unusedVariables false
set_option linter.unusedSimpArgs false
set_option maxRecDepth 100000
attribute [local go_sem] Oper.semAt_some
/-- the k-th two of a row -/
def two (b off k : Nat) : Value := .slice (some ⟨b, off + 2 * k, none⟩) 2 2
theorem run_two (b off n c k : Nat) (h : 2 * k + 2 ≤ n) (hc : n ≤ c) (w : World) : (Instr.sliceAt 69 (.slice (some ⟨b, off, none⟩) n c) (some (.int .i64 (2 * k : Nat))) (some (.int .i64 (2 * k + 2 : Nat))) (some (.int .i64 (2 * k + 2 : Nat)))).run Try.prog w = .ok (two b off k) w := by
  obtain ⟨x, hx⟩ : ∃ x : Nat, x = 2 * k := ⟨_, rfl⟩
  obtain ⟨y, hy⟩ : ∃ x : Nat, x = 2 * k + 2 := ⟨_, rfl⟩
  unfold two
  rw [← hy, ← hx]
  have k1 : (y : Int) ≤ (c : Int) := by omega
  have k0 : (0 : Int) ≤ (x : Int) := by omega
  have k2 : (x : Int) ≤ (y : Int) := by omega
  have k3 : (0 : Int) ≤ (y : Int) := by omega
  have k4 : y - x = 2 := by omega
  have k5 : ¬ y = x := by omega
  simp [go_sem, k0, k1, k2, k3, k4, k5, Addr.add]
  try (intro q; omega)
/-- the iterator's two boxes lie as they lay -/
def Kp2 (Bs Bn : Nat) (W W' : World) : Prop := W'.heap[Bs]? = W.heap[Bs]? ∧ W'.heap[Bn]? = W.heap[Bn]?
theorem Kp2.trans {Bs Bn : Nat} {A B C : World} (h : Kp2 Bs Bn A B) (k : Kp2 Bs Bn B C) : Kp2 Bs Bn A C := ⟨k.1.trans h.1, k.2.trans h.2⟩
theorem Kp2.c1 {Bs Bn : Nat} {A B : World} (h : Kp2 Bs Bn A B) : B.cell? ⟨Bs, 0, none⟩ = A.cell? ⟨Bs, 0, none⟩ := World.cell?_of_block h.1
theorem Kp2.c2 {Bs Bn : Nat} {A B : World} (h : Kp2 Bs Bn A B) : B.cell? ⟨Bn, 0, none⟩ = A.cell? ⟨Bn, 0, none⟩ := World.cell?_of_block h.2
set_option maxHeartbeats 2000000 in
theorem chunk1_in (F : Fence) (n : Nat) (h7 : F.fn 98) (hro : F.round = none) (hn : 1 ≤ n) (l Bs Bn b off len cap m : Nat) (hm : Hid (len = 2 * m)) (hlc : len ≤ cap) (hcm : len < 1000000000000) (J Jx : List Nat → World → Prop) (hD : ∀ s W, J s W → J s W.drew)
    (hY : ∀ pre x W, J pre W → pre.length < m → x < m → YieldAt F (n - 1) Try.prog l #[two b off x] W fun e W' =>
      (e = .returned (.bool true) ∧ J (pre ++ [x]) W' ∧ Kp2 Bs Bn W W') ∨ (e = .returned (.bool false) ∧ Jx (pre ++ [x]) W'))
    (W : World) (hBs : W.cell? ⟨Bs, 0, none⟩ = some (.slice (some ⟨b, off, none⟩) len cap)) (hBn : W.cell? ⟨Bn, 0, none⟩ = some (.int .i64 2)) (h0 : J [] W) :
    CallsIn F n Try.prog 98 #[.func (.yield l) #[] #[], .pointer (some ⟨Bs, 0, none⟩), .pointer (some ⟨Bn, 0, none⟩)] W fun e W' => (∃ v, e = .returned v) ∧
      ((∃ ys, ys = List.range m ∧ J ys W') ∨ (∃ pre, (∃ k, k ≤ m ∧ pre = List.range k) ∧ Jx pre W')) := by
  refine callsIn_of_wp Try.func98 rfl h7 ?_ hro
  simp only [Try.ntmps98, List.size_toArray, List.length_cons, List.length_nil, Nat.reduceAdd, Nat.reduceSub, Array.replicate_succ, Array.replicate_zero, List.push_toArray, List.append_toArray, List.nil_append, List.cons_append]
  gi_wp2
  gi_loopw [4] (fun i wr => ∃ k : Nat, k ≤ m ∧ i = .int .i64 (2 * k : Nat) ∧ J (List.range k) wr ∧ Kp2 Bs Bn W wr)
    (fun i _ => len - (intOf i).toNat)
  case atStart => exact ⟨0, Nat.zero_le _, rfl, h0, rfl, rfl⟩
  case round =>
    obtain ⟨k, hk, rfl, hJs, hnx⟩ := hrel
    have c1 := hnx.c1.trans hBs
    have c2 := hnx.c2.trans hBn
    have HM := hm.out
    obtain ⟨i, hi⟩ : ∃ i : Nat, i = 2 * k := ⟨_, rfl⟩
    have i2 : (i : Int) = 2 * (k : Int) := by omega
    rw [← hi]
    by_cases hlt : k < m
    · obtain ⟨fn, tmps, assign, body, hy, hR⟩ := hY _ k wr.drew (hD _ _ hJs) (by rw [List.length_range]; exact hlt) hlt
      have hlt' : (i : Int) < (len : Int) := by omega
      have em : min (2 : Int) ((len - i : Nat) : Int) = 2 := by omega
      have RT : ∀ w : World, (Instr.sliceAt 69 (.slice (some ⟨b, off, none⟩) len cap) (some (.int .i64 i)) (some (.int .i64 ((i : Int) + 2))) (some (.int .i64 ((i : Int) + 2)))).run Try.prog w = .ok (two b off k) w := fun w => by
        have := run_two b off len cap k (by omega) hlc w
        rw [← hi] at this
        rw [show ((i + 2 : Nat) : Int) = (i : Int) + 2 by omega] at this
        exact this
      have ik : Hid (i = 2 * k) := Lib.hid hi
      clear HM hi i2
      gi_wp2
      gi_region
      all_goals
        gi_wp2
        refine hR.mono ?_
        rintro e W3 (⟨rfl, hJ3, hk3⟩ | ⟨rfl, hJx3⟩)
        · have hk4 : Kp2 Bs Bn wr W3 := hk3
          have c2' := hk4.c2.trans c2
          have JS : Hid (J (List.range (k + 1)) W3) := Lib.hid (by rw [List.range_succ]; exact hJ3)
          have BS : Hid (Kp2 Bs Bn W W3) := Lib.hid (hnx.trans hk4)
          clear hk3 hk4 hJ3 hR hJs hnx
          gi_wp2
          go_roundw
          case rel => exact ⟨k + 1, by omega, by rw [ik.out]; go_num, JS.out, BS.out⟩
          case measure => simp [intOf]; omega
        · gi_wp2
          refine bodyPost_ret (results_none rfl _ _ _) rfl ?_
          exact ⟨⟨_, rfl⟩, .inr ⟨_, ⟨k + 1, by omega, (List.range_succ).symm⟩, hJx3⟩⟩
    · have hlt' : ¬ (i : Int) < (len : Int) := by omega
      obtain rfl : k = m := by omega
      clear HM hi i2
      gi_wp2
      go_end0
      exact ⟨⟨_, rfl⟩, .inl hJs⟩
end Go.Proofs.Ytjemnjboopabpaa
