/- Law 5: weights that are small. -/
import Derived.Test.YtlkpegfbnmecpaaShareF
import Derived.Test.YtlkpegfbnmecpaaBigA
import Derived.RegionTactic
import Derived.WalkKit
import Derived.WalkSpells
import Derived.WalkLawsBesides
import Derived.Handy
import Derived.Lib.Hide
import Derived.Deep.QuietTactic
import Derived.BigQuiet
import Derived.LoopTactic
import Derived.Outline
namespace Go.Proofs.Ytlkpegfbnmecpaa
open Go.RowKit Go.Proofs.Reg Go.Proofs.Big
set_option linter.unusedVariables false
set_option linter.unusedSimpArgs false
set_option maxRecDepth 100000
/-- a slice of numbers of a kind reads as a list -/
structure RiK (kd : IntKind) (w : World) (a : Option Addr) (len cap : Nat) (xs : List Int) : Prop where
  hlen : xs.length = len
  hmax : len ≤ 9223372036854775807
  addr : 0 < len → ∃ p : Addr, a = some p ∧ ∀ k, k < len → w.cell? (p.add k) = some (.int kd (xs.getD k 0))
theorem RiK.later {kd : IntKind} {w w' : World} {a : Option Addr} {len cap : Nat} {xs : List Int} (h : RiK kd w a len cap xs) (hb : Below w.heap.size w w') : RiK kd w' a len cap xs :=
  ⟨h.hlen, h.hmax, fun hp => by obtain ⟨p, e, c⟩ := h.addr hp; exact ⟨p, e, fun k hk => cell_later hb (c k hk)⟩⟩
theorem ri_of_owns {w : World} {base : Nat} {e : TypeId} {v : Value} {n : Nat} {xs : List Int} (h : w.ownsRow base e 1 v n (xs.map (Value.int .i64))) (hm : n ≤ 9223372036854775807) : ∃ a cap, v = .slice a n cap ∧ Ri w a n cap xs := by
  have hc := fun g hg => World.ownsRow.cells h (g := g) hg
  obtain ⟨h1, h2⟩ := h
  have hn : xs.length = n := by simpa using h1
  rcases h2 with ⟨hv, hx⟩ | ⟨g, cap, cur, hv, hg, hh, hcap, r⟩
  · subst hv
    subst hx
    have : xs = [] := List.length_eq_zero_iff.1 hn
    subst this
    exact ⟨none, 0, rfl, rfl, by decide, fun h => absurd h (by decide)⟩
  · subst hv
    refine ⟨_, _, rfl, hn, hm, fun _ => ⟨⟨g, 0, none⟩, rfl, fun k hk => ?_⟩⟩
    have := hc g rfl k (.int .i64 (xs.getD k 0)) (by
      rw [List.getElem?_map, List.getElem?_eq_getElem (by omega), List.getD_eq_getElem?_getD, List.getElem?_eq_getElem (by omega)]; rfl)
    by_cases k0 : k = 0
    · subst k0; simpa [Addr.add] using this
    · simpa [Addr.add, k0] using this
theorem cap_of_owns {w : World} {base : Nat} {e : TypeId} {a : Option Addr} {n cap : Nat} {xs : List Value} (h : w.ownsRow base e 1 (.slice a n cap) n xs) : n ≤ cap ∧ cap ≤ 9223372036854775807 := by
  rcases h.2 with ⟨hv, hx⟩ | ⟨g, cap', cur, hv, hg, hh, hcap, r, _⟩
  · simp only [Value.slice.injEq] at hv
    omega
  · simp only [Value.slice.injEq] at hv
    obtain ⟨_, _, rfl⟩ := hv
    unfold maxLen at r
    omega
theorem ri_of_owns2 {w : World} {base : Nat} {e : TypeId} {a : Option Addr} {n cap : Nat} {xs : List Int} (h : w.ownsRow base e 1 (.slice a n cap) n (xs.map (Value.int .i64))) (hm : n ≤ 9223372036854775807) : Ri w a n cap xs := by
  obtain ⟨a', cap', e1, r⟩ := ri_of_owns h hm
  simp only [Value.slice.injEq] at e1
  obtain ⟨rfl, _, rfl⟩ := e1
  exact r
/-- small weights: the first of them, as int64 -/
def SmallR (w : World) (xs : List Int) (e : Ending) (w' : World) : Prop :=
  (∃ a cap, e = .returned (.tuple #[.slice a (xs.take 40).length cap, .int .i64 (xs.take 40).sum]) ∧ Ri w' a (xs.take 40).length cap (xs.take 40) ∧ (xs.take 40).length ≤ cap ∧ cap ≤ 9223372036854775807) ∧ Below w.heap.size w w'
theorem sum_small {xs : List Int} (h : ∀ x ∈ xs, 0 ≤ x ∧ x ≤ 65535) (k : Nat) : 0 ≤ (xs.take k).sum ∧ (xs.take k).sum ≤ 65535 * k := by
  induction k generalizing xs with
  | zero => simp
  | succ k ih =>
    cases xs with
    | nil => simp; omega
    | cons x xs =>
      have := ih (xs := xs) (fun y m => h y (by simp [m]))
      have := h x (by simp)
      simp only [List.take_succ_cons, List.sum_cons]
      omega
set_option maxHeartbeats 2000000 in
theorem small5_any (a : Option Addr) (len cap : Nat) (xs : List Int) (w : World) (h : RiK .u16 w a len cap xs) (hx : ∀ x ∈ xs, 0 ≤ x ∧ x ≤ 65535) :
    Calls Try.prog 15 #[.slice a len cap] w (SmallR w xs) := by
  have hl := h.hlen
  have hm := h.hmax
  have H := Lib.hid h
  have HX := Lib.hid hx
  clear h hx
  obtain ⟨i0, hi, hz0, hz1, hz2⟩ : ∃ i, Try.prog.info? 2 = some i ∧ i.zero = some (.int .i64 0) ∧ i.size = 1 ∧ i.bytes = 8 := by
    have h := info_i64
    cases hq : Try.prog.info? 2 with
    | none => rw [hq] at h; simp at h
    | some i =>
      rw [hq] at h
      simp only [Option.map_some, Option.some.injEq, Prod.mk.injEq] at h
      exact ⟨i, rfl, h.1, h.2.1, h.2.2⟩
  go_enter Try.func15, Try.ntmps15
  go_wp2_with fail
  go_loopw [4, 5, 6] (fun s4 s5 s6 wr => ∃ (k : Nat) (s : Int) (b : Option Addr) (c : Nat), s6 = .int .i64 k ∧ s5 = .int .i64 s ∧ s4 = .slice b k c ∧ k ≤ len ∧ k ≤ 40 ∧ 0 ≤ s ∧ s ≤ 65535 * k ∧ Hid (s = (xs.take k).sum) ∧ wr.ownsRow w.heap.size 2 1 (.slice b k c) k ((xs.take k).map (Value.int .i64)) ∧ w.heap.size ≤ wr.heap.size ∧ Hid (Below w.heap.size w wr)) (fun _ _ s6 _ => len - (intOf s6).toNat)
  case atStart => exact ⟨0, 0, none, 0, rfl, rfl, rfl, by omega, by omega, by omega, by omega, Lib.hid (by simp), World.ownsRow_nil _ _ _ _, Nat.le_refl _, Lib.hid (Below.refl _ _)⟩
  case round =>
    obtain ⟨k, s, b, c, rfl, rfl, rfl, hk, hk4, s0, s1, HS, hown, hsz, KB⟩ := hrel
    by_cases hlt : k < len ∧ k < 40
    · obtain ⟨hl1, hl2⟩ := hlt
      have kl : (k : Int) < (len : Int) := by omega
      have k4 : (k : Int) < 40 := by omega
      have k0 : (0 : Int) ≤ (k : Int) := by omega
      have e1 : decide ((k : Int) < (len : Int)) = true := decide_eq_true kl
      obtain ⟨p, rfl, hc⟩ := H.out.addr (by omega)
      have HC := Lib.hid hc
      obtain ⟨x, hxk⟩ : ∃ x, xs.getD k 0 = x := ⟨_, rfl⟩
      have d1 := cell_later KB.out (hc k hl1)
      have xb := HX.out _ (getD_mem (by omega : k < xs.length))
      have nx := sum_take_succ xs k (by omega)
      rw [hxk] at d1 xb nx
      rw [← HS.out] at nx
      have gx : xs[k]? = some x := by rw [← hxk, List.getD_eq_getElem?_getD, List.getElem?_eq_getElem (by omega)]; rfl
      have TK : Hid (xs.take (k + 1) = xs.take k ++ [x]) := Lib.hid (by rw [List.take_add_one, gx]; rfl)
      have HXK := Lib.hid hxk
      obtain ⟨x0, x1⟩ := xb
      have HS1 := Lib.hid nx.symm
      have BO := Lib.hid hown
      clear hc hxk gx nx
      go_wp2_with (at_builtin; refine wpList_append_own _ rfl _ _ 22 rfl w.heap.size 2 i0 (.int .i64 0) 1 8 Try.underlying22 hi hz0 hz1 hz2 rfl (by decide) _ _ _ rfl (hown.alloc _) ⟨wr.heap.size, 0, none⟩ 1 1 [.int .i64 x] rfl rfl ?c1 ?c2 ?c3 ?c4 ?c5 ?_)
      case c1 => exact cell_one_new _ _ _
      case c2 => simp [Value.oneCell']
      case c3 => unfold maxLen; omega
      case c4 => omega
      case c5 => simp; omega
      intro v1 w1 hown1 hgrow _
      have hown2 : w1.ownsRow w.heap.size 2 1 v1 (k + 1) ((xs.take (k + 1)).map (Value.int .i64)) := by
        rw [TK.out]
        simpa using hown1
      obtain ⟨a1, cap1, rfl, _⟩ := ri_of_owns hown2 (by omega)
      have B1 := Lib.hid (grown_below (B := w.heap.size) hown hgrow (by omega) (by omega) KB.out)
      have HZ : w.heap.size ≤ w1.heap.size := B1.out.size
      have d2 := cell_later B1.out (HC.out k hl1)
      rw [HXK.out] at d2
      clear hown hown1 hgrow d1
      go_wp2_with fail
      go_roundw
      case rel => exact ⟨k + 1, s + x, a1, cap1, by go_num, rfl, by go_num, by omega, by omega, by omega, by omega, HS1, hown2, HZ, B1⟩
      case measure => simp [intOf]; omega
    · have FIN : Hid (SmallR w xs (.returned (.tuple #[.slice b k c, .int .i64 s])) wr) := Lib.hid (by
        have e2 : k = (xs.take 40).length := by rw [List.length_take]; omega
        have t : xs.take k = xs.take 40 := by
          by_cases h : k = 40
          · rw [h]
          · rw [List.take_of_length_le (by omega), List.take_of_length_le (by omega)]
        have R := ri_of_owns2 hown (by omega)
        rw [t] at R
        refine ⟨⟨b, c, ?_, ?_, ?_⟩, KB.out⟩
        · rw [← e2, HS.out, t]
        · rw [← e2]; exact R
        · rw [← e2]; exact cap_of_owns hown)
      by_cases h1 : k < len
      · have kl : (k : Int) < (len : Int) := by omega
        have k4 : ¬ (k : Int) < 40 := by omega
        have e1 : decide ((k : Int) < (len : Int)) = true := decide_eq_true kl
        have e3 : decide ((k : Int) < 40) = false := decide_eq_false k4
        go_wp2_with fail
        go_returns
        exact FIN.out
      · have kl : ¬ (k : Int) < (len : Int) := by omega
        have e1 : decide ((k : Int) < (len : Int)) = false := decide_eq_false kl
        go_wp2_with fail
        go_returns
        exact FIN.out
end Go.Proofs.Ytlkpegfbnmecpaa
