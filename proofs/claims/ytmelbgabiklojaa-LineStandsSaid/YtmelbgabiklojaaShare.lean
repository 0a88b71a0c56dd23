/- Package share: sums of weights, the look for a negative one, the parts. -/
import Derived.Test.YtmelbgabiklojaaBut
import Derived.Test.YtmelbgabiklojaaRegW
import Derived.WalkKit
import Derived.WalkSpells
import Derived.WalkLawsBesides
import Derived.Handy
import Derived.Lib.Hide
import Derived.Deep.QuietTactic
import Derived.BigQuiet
import Derived.LoopTactic
import Derived.Defers
import Derived.Recover
import Derived.Deep.RegionHeld3
import Derived.Deep.RegionWith
import Derived.Outline
import Derived.Deep.DeepCutAuto
namespace Go.Proofs.Ytmelbgabiklojaa
open Go.RowKit Go.Proofs.Reg
set_option linter.unusedVariables false
set_option linter.unusedSimpArgs false
set_option maxRecDepth 100000
theorem ri_later {w w' : World} {a : Option Addr} {len cap : Nat} {xs : List Int} (h : Ri w a len cap xs) (hb : Below w.heap.size w w') : Ri w' a len cap xs :=
  ⟨h.hlen, h.hmax, fun hp => by obtain ⟨p, e, c⟩ := h.addr hp; exact ⟨p, e, fun k hk => cell_later hb (c k hk)⟩⟩
theorem sum_take_succ (xs : List Int) (k : Nat) (hk : k < xs.length) : (xs.take (k + 1)).sum = (xs.take k).sum + xs.getD k 0 := by
  rw [List.take_add_one, List.getElem?_eq_getElem hk, List.sum_append, List.getD_eq_getElem?_getD, List.getElem?_eq_getElem hk]
  simp
theorem sum_nonneg {xs : List Int} (h : ∀ x ∈ xs, 0 ≤ x) : 0 ≤ xs.sum := by
  induction xs with
  | nil => simp
  | cons x xs ih =>
    have := ih (fun y m => h y (by simp [m]))
    have := h x (by simp)
    simp only [List.sum_cons]
    omega
theorem sum_take_le {xs : List Int} (h : ∀ x ∈ xs, 0 ≤ x) (k : Nat) : 0 ≤ (xs.take k).sum ∧ (xs.take k).sum ≤ xs.sum := by
  refine ⟨sum_nonneg fun x m => h x (List.mem_of_mem_take m), ?_⟩
  have := sum_nonneg (xs := xs.drop k) fun x m => h x (List.mem_of_mem_drop m)
  have e : xs.sum = (xs.take k).sum + (xs.drop k).sum := by rw [← List.sum_append, List.take_append_drop]
  omega
theorem getD_mem {xs : List Int} {k : Nat} (hk : k < xs.length) : xs.getD k 0 ∈ xs := by
  rw [List.getD_eq_getElem?_getD, List.getElem?_eq_getElem hk]
  exact List.getElem_mem _
/-- the sum of the weights, or giving up -/
def Sum62 (S : Int) (e : Ending) : Prop := (S ≤ 4611686018427387904 ∧ e = .returned (.int .i64 S)) ∨ (4611686018427387904 < S ∧ e = .panicked (gave 2))
set_option maxHeartbeats 1000000 in
theorem ssum_any (a : Option Addr) (len cap : Nat) (xs : List Int) (w : World) (h : Ri w a len cap xs) (hx : ∀ x ∈ xs, 0 ≤ x ∧ x ≤ 9223372036854775807) :
    Calls Try.prog 73 #[.slice a len cap] w fun e w' => Sum62 xs.sum e ∧ w' = w := by
  have hl := h.hlen
  have hm := h.hmax
  have H := Lib.hid h
  have HX := Lib.hid hx
  have HN : Hid (∀ x ∈ xs, 0 ≤ x) := Lib.hid fun x m => (hx x m).1
  clear h hx
  go_enter Try.func73, Try.ntmps73
  go_wp2
  go_loop [3, 8] (fun s i => ∃ (k : Nat) (t : Int), i = .int .i64 k ∧ s = .int .i64 t ∧ k ≤ len ∧ 0 ≤ t ∧ t ≤ 4611686018427387904 ∧ Hid ((xs.take k).sum = t)) (fun _ i => len - (intOf i).toNat)
  case atStart => exact ⟨0, 0, rfl, rfl, Nat.zero_le _, by decide, by decide, Lib.hid (by simp)⟩
  case round =>
    obtain ⟨k, t, rfl, rfl, hk, t0, t1, hs⟩ := hrel
    by_cases hlt : k < len
    · obtain ⟨p, rfl, hc⟩ := H.out.addr (by omega)
      obtain ⟨x, hxk⟩ : ∃ x, xs.getD k 0 = x := ⟨_, rfl⟩
      have d1 := hc k hlt
      have xb := HX.out _ (getD_mem (by omega : k < xs.length))
      have nx := sum_take_succ xs k (by omega)
      have le := (sum_take_le HN.out (k + 1)).2
      rw [hxk] at d1 xb nx
      rw [hs.out] at nx
      have kl : (k : Int) < (len : Int) := by omega
      obtain ⟨x0, x1⟩ := xb
      clear hc hs
      by_cases r : 4611686018427387904 - t < x
      · have HS : Hid (4611686018427387904 < xs.sum) := Lib.hid (by omega)
        clear nx le
        go_wp2_with fail
        refine (fail_no 2 (by decide) _).mono ?_
        rintro e w' ⟨rfl, rfl⟩
        exact ⟨rfl, .inr ⟨HS.out, rfl⟩, rfl⟩
      · have HS : Hid ((xs.take (k + 1)).sum = t + x) := Lib.hid nx
        clear nx le
        go_wp2_with fail
        go_round
        case rel => exact ⟨k + 1, t + x, by go_num, rfl, by omega, by omega, by omega, HS⟩
        case measure => simp [intOf]; omega
    · have kl : ¬ (k : Int) < (len : Int) := by omega
      have HS : Hid (xs.sum = t) := Lib.hid (by
        have := hs.out
        rwa [List.take_of_length_le (by omega)] at this)
      clear hs
      go_wp2
      go_ret
      exact ⟨.inl ⟨by rw [HS.out]; exact t1, by rw [HS.out]; rfl⟩, rfl⟩
theorem negative_any (n : Int) (w : World) : Calls Try.prog 70 #[.int .i64 n] w fun e w' => e = .returned (.bool (decide (n < 0))) ∧ w' = w := by
  go_enter Try.func70, Try.ntmps70
  go_wp2_with fail
  go_returns
  exact ⟨rfl, rfl⟩
/-- is one of them negative? -/
def negB (xs : List Int) : Bool := xs.any fun x => decide (x < 0)
set_option maxHeartbeats 1000000 in
theorem sindex_any (a : Option Addr) (len cap : Nat) (xs : List Int) (w : World) (h : Ri w a len cap xs) :
    Calls Try.prog 78 #[.slice a len cap, .func (.func 70) #[] #[]] w fun e w' => (∃ i : Int, e = .returned (.int .i64 i) ∧ (negB xs = decide (0 ≤ i)) ∧ -1 ≤ i) ∧ w' = w := by
  have hcf : ∀ (args : Array Value) (w : World), (callFunc 70 args).run Try.prog w = .ok (.enter 70 args) w := fun _ _ => by kernel_rfl
  have hl := h.hlen
  have hm := h.hmax
  have H := Lib.hid h
  clear h
  go_enter Try.func78, Try.ntmps78
  go_wp2
  go_loop [8] (fun i => ∃ k : Nat, i = .int .i64 k ∧ k ≤ len ∧ Hid (∀ j, j < k → 0 ≤ xs.getD j 0)) (fun i => len - (intOf i).toNat)
  case atStart => exact ⟨0, rfl, Nat.zero_le _, Lib.hid fun j hj => absurd hj (by omega)⟩
  case round =>
    obtain ⟨k, rfl, hk, hs⟩ := hrel
    by_cases hlt : k < len
    · obtain ⟨p, rfl, hc⟩ := H.out.addr (by omega)
      obtain ⟨x, hxk⟩ : ∃ x, xs.getD k 0 = x := ⟨_, rfl⟩
      have d1 := hc k hlt
      rw [hxk] at d1
      have kl : (k : Int) < (len : Int) := by omega
      have N := Lib.hid (negative_any x)
      have HM := Lib.hid (getD_mem (by omega : k < xs.length))
      rw [hxk] at HM
      have HK := Lib.hid hxk
      clear hc hxk
      by_cases r : x < 0
      · rw [decide_eq_true r] at N
        have HB : Hid (negB xs = true) := Lib.hid (List.any_eq_true.2 ⟨x, HM.out, decide_eq_true r⟩)
        clear r
        go_wp2_with fail
        refine (N.out _).mono ?_
        rintro e w1 ⟨rfl, rfl⟩
        go_wp2_with fail
        go_ret
        exact ⟨⟨k, rfl, by rw [HB.out]; exact (decide_eq_true (by omega)).symm, by omega⟩, rfl⟩
      · rw [decide_eq_false r] at N
        have HS : Hid (∀ j, j < k + 1 → 0 ≤ xs.getD j 0) := Lib.hid fun j hj => by
          by_cases c : j = k
          · subst c; rw [HK.out]; omega
          · exact hs.out j (by omega)
        clear r hs
        go_wp2_with fail
        refine (N.out _).mono ?_
        rintro e w1 ⟨rfl, rfl⟩
        go_wp2_with fail
        go_round
        case rel => exact ⟨k + 1, by go_num, by omega, HS⟩
        case measure => simp [intOf]; omega
    · have kl : ¬ (k : Int) < (len : Int) := by omega
      have HB : Hid (negB xs = false) := Lib.hid (by
        unfold negB
        rw [List.any_eq_false]
        intro x m
        obtain ⟨j, hj, e⟩ := List.mem_iff_getElem.1 m
        have := hs.out j (by omega)
        rw [List.getD_eq_getElem?_getD, List.getElem?_eq_getElem hj] at this
        simp only [Option.getD_some] at this
        rw [e] at this
        simpa using this)
      clear hs
      go_wp2
      go_ret
      exact ⟨⟨-1, rfl, by rw [HB.out]; rfl, by decide⟩, rfl⟩
theorem scontains_any (a : Option Addr) (len cap : Nat) (xs : List Int) (w : World) (h : Ri w a len cap xs) :
    Calls Try.prog 69 #[.slice a len cap, .func (.func 70) #[] #[]] w fun e w' => e = .returned (.bool (negB xs)) ∧ w' = w := by
  have H := Lib.hid h
  clear h
  go_enter Try.func69, Try.ntmps69
  go_wp2_with fail
  refine (sindex_any a len cap xs _ H.out).mono ?_
  rintro e w1 ⟨⟨i, rfl, hi, hl⟩, rfl⟩
  have HI := Lib.hid hi
  clear hi
  go_wp2_with fail
  go_returns
  exact ⟨by rw [HI.out]; rfl, rfl⟩
/-- a block that holds ints, that may be written -/
structure OwnI (w : World) (b : Nat) (os : List Int) : Prop where
  cell : ∀ k, k < os.length → w.cell? ⟨b, k, none⟩ = some (.int .i64 (os.getD k 0))
  froz : ∀ k, k < os.length → w.frozen? ⟨b, k, none⟩ = false
  lt : b < w.heap.size
theorem OwnI.later {w w' : World} {b : Nat} {os : List Int} (h : OwnI w b os) (hb : Below w.heap.size w w') : OwnI w' b os :=
  ⟨fun k hk => cell_later hb (h.cell k hk), fun k hk => (hb.frozen (p := ⟨b, k, none⟩) h.lt).trans (h.froz k hk), Nat.lt_of_lt_of_le h.lt hb.size⟩
theorem OwnI.set {w : World} {b : Nat} {os : List Int} (h : OwnI w b os) (j : Nat) (d : Int) (hj : j < os.length) : OwnI (w.setCell ⟨b, j, none⟩ (.int .i64 d)) b (os.set j d) := by
  refine ⟨fun k hk => ?_, fun k hk => ?_, by simpa using h.lt⟩
  · rw [List.length_set] at hk
    by_cases e : k = j
    · subst e
      rw [World.cell?_setCell_same (h := h.cell k hk), List.getD_eq_getElem?_getD, List.getElem?_set_self hk]
      rfl
    · rw [World.cell?_setCell_other (h := fun x => by injection x with _ x; omega), List.getD_eq_getElem?_getD, List.getElem?_set_ne (Ne.symm e), ← List.getD_eq_getElem?_getD]
      exact h.cell k hk
  · rw [List.length_set] at hk
    simpa [go_sem] using h.froz k hk
theorem OwnI.new (w : World) (n : Nat) (t : TypeId) : OwnI (w.alloc (.cells (madeCells #[.int .i64 0] n) t)) w.heap.size (List.replicate n 0) := by
  have g : ∀ k, (List.replicate n (0 : Int)).getD k 0 = 0 := fun k => by
    rw [List.getD_eq_getElem?_getD, List.getElem?_replicate]
    split <;> rfl
  refine ⟨fun k hk => ?_, fun k hk => ?_, by simp⟩
  · rw [g k]
    rw [List.length_replicate] at hk
    simp [go_sem, madeCells, hk, Nat.mod_one]
  · rw [List.length_replicate] at hk
    simp [go_sem, madeCells, hk]
theorem OwnI.ri {w : World} {b : Nat} {os : List Int} (h : OwnI w b os) {n : Nat} (hn : os.length = n) (hm : n ≤ 9223372036854775807) : Ri w (some ⟨b, 0, none⟩) n n os :=
  ⟨hn, hm, fun _ => ⟨⟨b, 0, none⟩, rfl, fun k hk => by
    have e : (⟨b, 0, none⟩ : Addr).add k = ⟨b, k, none⟩ := by
      by_cases z : k = 0
      · subst z; simp [Addr.add]
      · simp [Addr.add, z]
    rw [e]
    exact h.cell k (by omega)⟩⟩
end Go.Proofs.Ytmelbgabiklojaa
