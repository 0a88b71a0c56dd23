/- Package value and its reference: decoding a float. -/
import Derived.Test.YtjemnjboopabpaaDoorGrid3
import Derived.Test.YtjemnjboopabpaaDoorRegM
import Derived.Test.YtjemnjboopabpaaDoorRegW
import Derived.WalkKit
import Derived.WalkSpells
import Derived.WalkLawsBesides
import Derived.Handy
import Derived.Lib.Hide
import Derived.Outline
namespace Go.Proofs.YtjemnjboopabpaaDoor
open Go.RowKit Go.Proofs.Flo Go.Proofs.Reg
set_option linter.unusedVariables false
set_option linter.unusedSimpArgs false
set_option maxRecDepth 100000
/-- a bit of a number -/
def bitB (m : Int) (k : Int) : Bool := decide (m / k % 2 ≠ 0)
theorem bit_and (m : Nat) (h : m < 256) : (bits .and .i64 (m : Int) 1 != 0) = bitB m 1 ∧ (bits .and .i64 (m : Int) 2 != 0) = bitB m 2 ∧ (bits .and .i64 (m : Int) 4 != 0) = bitB m 4 ∧ (bits .and .i64 (m : Int) 8 != 0) = bitB m 8 := by
  revert h; revert m; decide +kernel
/-- what decoding answers: the kind, the number, the error -/
def decR (x : Nat) (pct : Bool) (m : Int) : Int × Int × Int :=
  if nanB x then (if bitB m 1 then (1, 0, 0) else (0, 0, 4))
  else if infB x then (if !sgn x && bitB m 2 then (2, 0, 0) else (0, 0, 5))
  else if pct && !bitB m 4 then (0, 0, 11)
  else if gridR (sval x) 64 < -1073741824 ∨ 1073741824 < gridR (sval x) 64 then (0, 0, 2)
  else if gridR (sval x) 64 < 0 ∧ bitB m 8 = false then (0, 0, 11)
  else (if pct then 4 else 3, gridR (sval x) 64, 0)
def dec3 (r : Int × Int × Int) : Value := .tuple #[.agg #[.int .i64 r.1, .int .i64 r.2.1], .int .i64 r.2.2]
theorem vunm_any (k e : Int) (b : Bool) (w : World) : Calls Tryd.prog 78 #[.int .i64 k, .bool b, .int .i64 e] w fun r w' => r = .returned (dec3 (if b then (k, 0, 0) else (0, 0, e))) ∧ Below w.heap.size w w' := by
  cases b
  all_goals
    go_enter Tryd.func78, Tryd.ntmps78
    go_wp2_with fail
    go_returns
    exact ⟨rfl, by go_grown⟩
theorem r9may_any (m k : Int) (m0 : 0 ≤ m) (m1 : m ≤ 255) (hk : k = 1 ∨ k = 2 ∨ k = 4 ∨ k = 8) (w : World) : Calls Tryd.prog 58 #[.int .i64 m, .int .i64 k] w fun r w' => r = .returned (.bool (bitB m k)) ∧ w' = w := by
  have q : Int.tdiv m k = m / k := Int.tdiv_eq_ediv_of_nonneg m0
  have n0 : 0 ≤ m / k := Int.ediv_nonneg m0 (by omega)
  have q2 : Int.tmod (m / k) 2 = m / k % 2 := Int.tmod_eq_emod_of_nonneg n0
  have kz : (k == 0) = false := by simpa using (show k ≠ 0 by omega)
  have e : bitB m k = (m / k % 2 != 0) := by unfold bitB; by_cases h : m / k % 2 = 0 <;> simp [h]
  have b1 : m / k ≤ 255 := by rcases hk with rfl | rfl | rfl | rfl <;> omega
  rcases hk with rfl | rfl | rfl | rfl
  all_goals
    go_enter Tryd.func58, Tryd.ntmps58
    go_wp2_with fail
    go_returns
    exact ⟨by first | (rw [e]; rfl) | (rw [e, Int.ediv_one]; rfl), rfl⟩
/-- what a finite float's value is -/
def measR (x : Nat) (pct p2 p3 : Bool) : Int × Int × Int :=
  if pct && !p2 then (0, 0, 11)
  else if gridR (sval x) 64 < -1073741824 ∨ 1073741824 < gridR (sval x) 64 then (0, 0, 2)
  else if gridR (sval x) 64 < 0 ∧ p3 = false then (0, 0, 11)
  else (if pct then 4 else 3, gridR (sval x) 64, 0)
theorem grid_lmt (x : Nat) (L : Int) (hL : 1073741824 < L) (nn : nanB x = false) (ni : infB x = false) :
    ∃ n, gridN x 64 (-L) L = n ∧ gridE x 64 (-L) L = 0 ∧ ((n < -1073741824) ↔ gridR (sval x) 64 < -1073741824) ∧ ((1073741824 < n) ↔ 1073741824 < gridR (sval x) 64) ∧ (-1073741824 ≤ n → n ≤ 1073741824 → n = gridR (sval x) 64) := by
  refine ⟨_, rfl, ?_, ?_⟩
  · unfold gridE
    rw [if_neg (by omega), nn]
    rfl
  · unfold gridN
    rw [if_neg (by omega), nn, ni]
    simp only [Bool.false_eq_true, if_false]
    generalize gridR (sval x) 64 = V
    unfold lmt
    split
    · omega
    · split <;> omega
set_option maxHeartbeats 4000000 in
theorem vmeas_any (x : Nat) (hx : x < 18446744073709551616) (nn : nanB x = false) (ni : infB x = false) (pct p2 p3 : Bool) (w : World) (hD : Deb w) :
    Calls Tryd.prog 79 #[.agg #[.float .f64 x, .bool pct], .bool p2, .bool p3] w fun r w' => r = .returned (dec3 (measR x pct p2 p3)) ∧ Below w.heap.size w w' := by
  obtain ⟨n, g1, g2, h1, h2, h3⟩ := grid_lmt x 1073741825 (by decide) nn ni
  have G := Lib.hid (fun w h => kgrid_any x 64 (-1073741825) 1073741825 hx (by decide) (by decide) w h)
  rw [g1, g2] at G
  have HD := Lib.hid hD
  clear hD g1 g2 nn ni
  obtain ⟨V, hV⟩ : ∃ V, gridR (sval x) 64 = V := ⟨_, rfl⟩
  unfold measR
  rw [hV] at h1 h2 h3 ⊢
  by_cases c0 : (pct && !p2) = true
  · rw [if_pos c0]
    clear h1 h2 h3 hV
    obtain ⟨rfl, rfl⟩ : pct = true ∧ p2 = false := by revert c0; cases pct <;> cases p2 <;> decide
    clear c0
    go_enter Tryd.func79, Tryd.ntmps79
    go_wp2_with fail
    go_returns
    exact ⟨rfl, by go_grown⟩
  rw [if_neg c0]
  have start : ∀ (Q : Ending → World → Prop), (pct = false ∨ p2 = true) → True := fun _ _ => trivial
  have cases2 : (pct = false ∧ p2 = false) ∨ (pct = false ∧ p2 = true) ∨ (pct = true ∧ p2 = true) := by revert c0; cases pct <;> cases p2 <;> decide
  clear c0 start
  have cs : (V < -1073741824 ∧ n < -1073741824) ∨ (1073741824 < V ∧ 1073741824 < n) ∨ (-1073741824 ≤ V ∧ V ≤ 1073741824 ∧ n = V) := by omega
  clear h1 h2 h3 hV
  have W : ∀ (w1 : World), Below w.heap.size w w1 → Deb w1 := fun w1 hb => HD.out.later hb
  have HW := Lib.hid W
  clear W
  rcases cs with ⟨a, b⟩ | ⟨a, b⟩ | ⟨a, b, rfl⟩
  · rw [if_pos (.inl a)]
    clear a
    rcases cases2 with ⟨rfl, rfl⟩ | ⟨rfl, rfl⟩ | ⟨rfl, rfl⟩
    · go_enter Tryd.func79, Tryd.ntmps79
      go_wp2_with fail
      refine (G.out _ (HW.out _ (by go_grown))).mono ?_
      rintro e w1 ⟨rfl, hb⟩
      have KB := Lib.hid (show Below w.heap.size w w1 from bel_tr0 (by go_grown) hb)
      have KT := Lib.hid ((((Tab.nil w).new [.float .f64 x, .bool false] 42).new' (b := w.heap.size + 1) [.int .i64 0, .int .i64 0] 32 (by simp)).later hb)
      clear hb
      have c0 := KT.out.cell 0 0 rfl rfl
      have c1 := KT.out.cell 0 1 rfl rfl
      have f0 := KT.out.froz 0 0 rfl rfl
      have f1 := KT.out.froz 0 1 rfl rfl
      have d0 := KT.out.cell 1 0 rfl rfl
      have d1 := KT.out.cell 1 1 rfl rfl
      go_wp2_with fail
      refine bodyPost_ret (v := dec3 (0, 0, 2)) (by simp [results, Tryd.results79, go_sem, c0, c1]; rfl) rfl ?_
      exact ⟨rfl, KB.out.setCell (by simp) _ |>.setCell (by simp) _⟩
    · go_enter Tryd.func79, Tryd.ntmps79
      go_wp2_with fail
      refine (G.out _ (HW.out _ (by go_grown))).mono ?_
      rintro e w1 ⟨rfl, hb⟩
      have KB := Lib.hid (show Below w.heap.size w w1 from bel_tr0 (by go_grown) hb)
      have KT := Lib.hid ((((Tab.nil w).new [.float .f64 x, .bool false] 42).new' (b := w.heap.size + 1) [.int .i64 0, .int .i64 0] 32 (by simp)).later hb)
      clear hb
      have c0 := KT.out.cell 0 0 rfl rfl
      have c1 := KT.out.cell 0 1 rfl rfl
      have f0 := KT.out.froz 0 0 rfl rfl
      have f1 := KT.out.froz 0 1 rfl rfl
      have d0 := KT.out.cell 1 0 rfl rfl
      have d1 := KT.out.cell 1 1 rfl rfl
      go_wp2_with fail
      refine bodyPost_ret (v := dec3 (0, 0, 2)) (by simp [results, Tryd.results79, go_sem, c0, c1]; rfl) rfl ?_
      exact ⟨rfl, KB.out.setCell (by simp) _ |>.setCell (by simp) _⟩
    · go_enter Tryd.func79, Tryd.ntmps79
      go_wp2_with fail
      refine (G.out _ (HW.out _ (by go_grown))).mono ?_
      rintro e w1 ⟨rfl, hb⟩
      have KB := Lib.hid (show Below w.heap.size w w1 from bel_tr0 (by go_grown) hb)
      have KT := Lib.hid ((((Tab.nil w).new [.float .f64 x, .bool true] 42).new' (b := w.heap.size + 1) [.int .i64 0, .int .i64 0] 32 (by simp)).later hb)
      clear hb
      have c0 := KT.out.cell 0 0 rfl rfl
      have c1 := KT.out.cell 0 1 rfl rfl
      have f0 := KT.out.froz 0 0 rfl rfl
      have f1 := KT.out.froz 0 1 rfl rfl
      have d0 := KT.out.cell 1 0 rfl rfl
      have d1 := KT.out.cell 1 1 rfl rfl
      go_wp2_with fail
      refine bodyPost_ret (v := dec3 (0, 0, 2)) (by simp [results, Tryd.results79, go_sem, c0, c1]; rfl) rfl ?_
      exact ⟨rfl, KB.out.setCell (by simp) _ |>.setCell (by simp) _⟩
  · rw [if_pos (.inr a)]
    clear a
    have b' : ¬ n < -1073741824 := by omega
    rcases cases2 with ⟨rfl, rfl⟩ | ⟨rfl, rfl⟩ | ⟨rfl, rfl⟩
    · go_enter Tryd.func79, Tryd.ntmps79
      go_wp2_with fail
      refine (G.out _ (HW.out _ (by go_grown))).mono ?_
      rintro e w1 ⟨rfl, hb⟩
      have KB := Lib.hid (show Below w.heap.size w w1 from bel_tr0 (by go_grown) hb)
      have KT := Lib.hid ((((Tab.nil w).new [.float .f64 x, .bool false] 42).new' (b := w.heap.size + 1) [.int .i64 0, .int .i64 0] 32 (by simp)).later hb)
      clear hb
      have c0 := KT.out.cell 0 0 rfl rfl
      have c1 := KT.out.cell 0 1 rfl rfl
      have f0 := KT.out.froz 0 0 rfl rfl
      have f1 := KT.out.froz 0 1 rfl rfl
      have d0 := KT.out.cell 1 0 rfl rfl
      have d1 := KT.out.cell 1 1 rfl rfl
      go_wp2_with fail
      refine bodyPost_ret (v := dec3 (0, 0, 2)) (by simp [results, Tryd.results79, go_sem, c0, c1]; rfl) rfl ?_
      exact ⟨rfl, KB.out.setCell (by simp) _ |>.setCell (by simp) _⟩
    · go_enter Tryd.func79, Tryd.ntmps79
      go_wp2_with fail
      refine (G.out _ (HW.out _ (by go_grown))).mono ?_
      rintro e w1 ⟨rfl, hb⟩
      have KB := Lib.hid (show Below w.heap.size w w1 from bel_tr0 (by go_grown) hb)
      have KT := Lib.hid ((((Tab.nil w).new [.float .f64 x, .bool false] 42).new' (b := w.heap.size + 1) [.int .i64 0, .int .i64 0] 32 (by simp)).later hb)
      clear hb
      have c0 := KT.out.cell 0 0 rfl rfl
      have c1 := KT.out.cell 0 1 rfl rfl
      have f0 := KT.out.froz 0 0 rfl rfl
      have f1 := KT.out.froz 0 1 rfl rfl
      have d0 := KT.out.cell 1 0 rfl rfl
      have d1 := KT.out.cell 1 1 rfl rfl
      go_wp2_with fail
      refine bodyPost_ret (v := dec3 (0, 0, 2)) (by simp [results, Tryd.results79, go_sem, c0, c1]; rfl) rfl ?_
      exact ⟨rfl, KB.out.setCell (by simp) _ |>.setCell (by simp) _⟩
    · go_enter Tryd.func79, Tryd.ntmps79
      go_wp2_with fail
      refine (G.out _ (HW.out _ (by go_grown))).mono ?_
      rintro e w1 ⟨rfl, hb⟩
      have KB := Lib.hid (show Below w.heap.size w w1 from bel_tr0 (by go_grown) hb)
      have KT := Lib.hid ((((Tab.nil w).new [.float .f64 x, .bool true] 42).new' (b := w.heap.size + 1) [.int .i64 0, .int .i64 0] 32 (by simp)).later hb)
      clear hb
      have c0 := KT.out.cell 0 0 rfl rfl
      have c1 := KT.out.cell 0 1 rfl rfl
      have f0 := KT.out.froz 0 0 rfl rfl
      have f1 := KT.out.froz 0 1 rfl rfl
      have d0 := KT.out.cell 1 0 rfl rfl
      have d1 := KT.out.cell 1 1 rfl rfl
      go_wp2_with fail
      refine bodyPost_ret (v := dec3 (0, 0, 2)) (by simp [results, Tryd.results79, go_sem, c0, c1]; rfl) rfl ?_
      exact ⟨rfl, KB.out.setCell (by simp) _ |>.setCell (by simp) _⟩
  · rw [if_neg (by omega)]
    have a' : ¬ n < -1073741824 := by omega
    have b' : ¬ 1073741824 < n := by omega
    by_cases d : n < 0
    · cases p3
      · rw [if_pos ⟨d, rfl⟩]
        rcases cases2 with ⟨rfl, rfl⟩ | ⟨rfl, rfl⟩ | ⟨rfl, rfl⟩
        · go_enter Tryd.func79, Tryd.ntmps79
          go_wp2_with fail
          refine (G.out _ (HW.out _ (by go_grown))).mono ?_
          rintro e w1 ⟨rfl, hb⟩
          have KB := Lib.hid (show Below w.heap.size w w1 from bel_tr0 (by go_grown) hb)
          have KT := Lib.hid ((((Tab.nil w).new [.float .f64 x, .bool false] 42).new' (b := w.heap.size + 1) [.int .i64 0, .int .i64 0] 32 (by simp)).later hb)
          clear hb
          have c0 := KT.out.cell 0 0 rfl rfl
          have c1 := KT.out.cell 0 1 rfl rfl
          have f0 := KT.out.froz 0 0 rfl rfl
          have f1 := KT.out.froz 0 1 rfl rfl
          have d0 := KT.out.cell 1 0 rfl rfl
          have d1 := KT.out.cell 1 1 rfl rfl
          go_wp2_with fail
          refine bodyPost_ret (v := dec3 (0, 0, 11)) (by simp [results, Tryd.results79, go_sem, c0, c1]; rfl) rfl ?_
          exact ⟨rfl, KB.out.setCell (by simp) _ |>.setCell (by simp) _⟩
        · go_enter Tryd.func79, Tryd.ntmps79
          go_wp2_with fail
          refine (G.out _ (HW.out _ (by go_grown))).mono ?_
          rintro e w1 ⟨rfl, hb⟩
          have KB := Lib.hid (show Below w.heap.size w w1 from bel_tr0 (by go_grown) hb)
          have KT := Lib.hid ((((Tab.nil w).new [.float .f64 x, .bool false] 42).new' (b := w.heap.size + 1) [.int .i64 0, .int .i64 0] 32 (by simp)).later hb)
          clear hb
          have c0 := KT.out.cell 0 0 rfl rfl
          have c1 := KT.out.cell 0 1 rfl rfl
          have f0 := KT.out.froz 0 0 rfl rfl
          have f1 := KT.out.froz 0 1 rfl rfl
          have d0 := KT.out.cell 1 0 rfl rfl
          have d1 := KT.out.cell 1 1 rfl rfl
          go_wp2_with fail
          refine bodyPost_ret (v := dec3 (0, 0, 11)) (by simp [results, Tryd.results79, go_sem, c0, c1]; rfl) rfl ?_
          exact ⟨rfl, KB.out.setCell (by simp) _ |>.setCell (by simp) _⟩
        · go_enter Tryd.func79, Tryd.ntmps79
          go_wp2_with fail
          refine (G.out _ (HW.out _ (by go_grown))).mono ?_
          rintro e w1 ⟨rfl, hb⟩
          have KB := Lib.hid (show Below w.heap.size w w1 from bel_tr0 (by go_grown) hb)
          have KT := Lib.hid ((((Tab.nil w).new [.float .f64 x, .bool true] 42).new' (b := w.heap.size + 1) [.int .i64 0, .int .i64 0] 32 (by simp)).later hb)
          clear hb
          have c0 := KT.out.cell 0 0 rfl rfl
          have c1 := KT.out.cell 0 1 rfl rfl
          have f0 := KT.out.froz 0 0 rfl rfl
          have f1 := KT.out.froz 0 1 rfl rfl
          have d0 := KT.out.cell 1 0 rfl rfl
          have d1 := KT.out.cell 1 1 rfl rfl
          go_wp2_with fail
          refine bodyPost_ret (v := dec3 (0, 0, 11)) (by simp [results, Tryd.results79, go_sem, c0, c1]; rfl) rfl ?_
          exact ⟨rfl, KB.out.setCell (by simp) _ |>.setCell (by simp) _⟩
      · rw [if_neg (by simp)]
        rcases cases2 with ⟨rfl, rfl⟩ | ⟨rfl, rfl⟩ | ⟨rfl, rfl⟩
        · go_enter Tryd.func79, Tryd.ntmps79
          go_wp2_with fail
          refine (G.out _ (HW.out _ (by go_grown))).mono ?_
          rintro e w1 ⟨rfl, hb⟩
          have KB := Lib.hid (show Below w.heap.size w w1 from bel_tr0 (by go_grown) hb)
          have KT := Lib.hid ((((Tab.nil w).new [.float .f64 x, .bool false] 42).new' (b := w.heap.size + 1) [.int .i64 0, .int .i64 0] 32 (by simp)).later hb)
          clear hb
          have c0 := KT.out.cell 0 0 rfl rfl
          have c1 := KT.out.cell 0 1 rfl rfl
          have f0 := KT.out.froz 0 0 rfl rfl
          have f1 := KT.out.froz 0 1 rfl rfl
          have d0 := KT.out.cell 1 0 rfl rfl
          have d1 := KT.out.cell 1 1 rfl rfl
          go_wp2_with fail
          refine bodyPost_ret (v := dec3 (3, n, 0)) (by simp [results, Tryd.results79, go_sem, c0, c1]; rfl) rfl ?_
          exact ⟨rfl, KB.out.setCell (by simp) _ |>.setCell (by simp) _⟩
        · go_enter Tryd.func79, Tryd.ntmps79
          go_wp2_with fail
          refine (G.out _ (HW.out _ (by go_grown))).mono ?_
          rintro e w1 ⟨rfl, hb⟩
          have KB := Lib.hid (show Below w.heap.size w w1 from bel_tr0 (by go_grown) hb)
          have KT := Lib.hid ((((Tab.nil w).new [.float .f64 x, .bool false] 42).new' (b := w.heap.size + 1) [.int .i64 0, .int .i64 0] 32 (by simp)).later hb)
          clear hb
          have c0 := KT.out.cell 0 0 rfl rfl
          have c1 := KT.out.cell 0 1 rfl rfl
          have f0 := KT.out.froz 0 0 rfl rfl
          have f1 := KT.out.froz 0 1 rfl rfl
          have d0 := KT.out.cell 1 0 rfl rfl
          have d1 := KT.out.cell 1 1 rfl rfl
          go_wp2_with fail
          refine bodyPost_ret (v := dec3 (3, n, 0)) (by simp [results, Tryd.results79, go_sem, c0, c1]; rfl) rfl ?_
          exact ⟨rfl, KB.out.setCell (by simp) _ |>.setCell (by simp) _⟩
        · go_enter Tryd.func79, Tryd.ntmps79
          go_wp2_with fail
          refine (G.out _ (HW.out _ (by go_grown))).mono ?_
          rintro e w1 ⟨rfl, hb⟩
          have KB := Lib.hid (show Below w.heap.size w w1 from bel_tr0 (by go_grown) hb)
          have KT := Lib.hid ((((Tab.nil w).new [.float .f64 x, .bool true] 42).new' (b := w.heap.size + 1) [.int .i64 0, .int .i64 0] 32 (by simp)).later hb)
          clear hb
          have c0 := KT.out.cell 0 0 rfl rfl
          have c1 := KT.out.cell 0 1 rfl rfl
          have f0 := KT.out.froz 0 0 rfl rfl
          have f1 := KT.out.froz 0 1 rfl rfl
          have d0 := KT.out.cell 1 0 rfl rfl
          have d1 := KT.out.cell 1 1 rfl rfl
          go_wp2_with fail
          refine bodyPost_ret (v := dec3 (4, n, 0)) (by simp [results, Tryd.results79, go_sem, c0, c1]; rfl) rfl ?_
          exact ⟨rfl, KB.out.setCell (by simp) _ |>.setCell (by simp) _⟩
    · rw [if_neg (by omega)]
      rcases cases2 with ⟨rfl, rfl⟩ | ⟨rfl, rfl⟩ | ⟨rfl, rfl⟩
      · go_enter Tryd.func79, Tryd.ntmps79
        go_wp2_with fail
        refine (G.out _ (HW.out _ (by go_grown))).mono ?_
        rintro e w1 ⟨rfl, hb⟩
        have KB := Lib.hid (show Below w.heap.size w w1 from bel_tr0 (by go_grown) hb)
        have KT := Lib.hid ((((Tab.nil w).new [.float .f64 x, .bool false] 42).new' (b := w.heap.size + 1) [.int .i64 0, .int .i64 0] 32 (by simp)).later hb)
        clear hb
        have c0 := KT.out.cell 0 0 rfl rfl
        have c1 := KT.out.cell 0 1 rfl rfl
        have f0 := KT.out.froz 0 0 rfl rfl
        have f1 := KT.out.froz 0 1 rfl rfl
        have d0 := KT.out.cell 1 0 rfl rfl
        have d1 := KT.out.cell 1 1 rfl rfl
        go_wp2_with fail
        refine bodyPost_ret (v := dec3 (3, n, 0)) (by simp [results, Tryd.results79, go_sem, c0, c1]; rfl) rfl ?_
        exact ⟨rfl, KB.out.setCell (by simp) _ |>.setCell (by simp) _⟩
      · go_enter Tryd.func79, Tryd.ntmps79
        go_wp2_with fail
        refine (G.out _ (HW.out _ (by go_grown))).mono ?_
        rintro e w1 ⟨rfl, hb⟩
        have KB := Lib.hid (show Below w.heap.size w w1 from bel_tr0 (by go_grown) hb)
        have KT := Lib.hid ((((Tab.nil w).new [.float .f64 x, .bool false] 42).new' (b := w.heap.size + 1) [.int .i64 0, .int .i64 0] 32 (by simp)).later hb)
        clear hb
        have c0 := KT.out.cell 0 0 rfl rfl
        have c1 := KT.out.cell 0 1 rfl rfl
        have f0 := KT.out.froz 0 0 rfl rfl
        have f1 := KT.out.froz 0 1 rfl rfl
        have d0 := KT.out.cell 1 0 rfl rfl
        have d1 := KT.out.cell 1 1 rfl rfl
        go_wp2_with fail
        refine bodyPost_ret (v := dec3 (3, n, 0)) (by simp [results, Tryd.results79, go_sem, c0, c1]; rfl) rfl ?_
        exact ⟨rfl, KB.out.setCell (by simp) _ |>.setCell (by simp) _⟩
      · go_enter Tryd.func79, Tryd.ntmps79
        go_wp2_with fail
        refine (G.out _ (HW.out _ (by go_grown))).mono ?_
        rintro e w1 ⟨rfl, hb⟩
        have KB := Lib.hid (show Below w.heap.size w w1 from bel_tr0 (by go_grown) hb)
        have KT := Lib.hid ((((Tab.nil w).new [.float .f64 x, .bool true] 42).new' (b := w.heap.size + 1) [.int .i64 0, .int .i64 0] 32 (by simp)).later hb)
        clear hb
        have c0 := KT.out.cell 0 0 rfl rfl
        have c1 := KT.out.cell 0 1 rfl rfl
        have f0 := KT.out.froz 0 0 rfl rfl
        have f1 := KT.out.froz 0 1 rfl rfl
        have d0 := KT.out.cell 1 0 rfl rfl
        have d1 := KT.out.cell 1 1 rfl rfl
        go_wp2_with fail
        refine bodyPost_ret (v := dec3 (4, n, 0)) (by simp [results, Tryd.results79, go_sem, c0, c1]; rfl) rfl ?_
        exact ⟨rfl, KB.out.setCell (by simp) _ |>.setCell (by simp) _⟩
end Go.Proofs.YtjemnjboopabpaaDoor
/- Package value and its reference: decoding a float, in general. Made by gen/valb.py. -/
namespace Go.Proofs.YtjemnjboopabpaaDoor
open Go.RowKit Go.Proofs.Flo Go.Proofs.Reg
set_option linter.unusedVariables false
set_option linter.unusedSimpArgs false
set_option maxRecDepth 100000
theorem vunm_t (k e : Int) (w : World) : Calls Tryd.prog 78 #[.int .i64 k, .bool true, .int .i64 e] w fun r w' => r = .returned (.tuple #[.agg #[.int .i64 k, .int .i64 0], .int .i64 0]) ∧ Below w.heap.size w w' := vunm_any k e true w
theorem vunm_f (k e : Int) (w : World) : Calls Tryd.prog 78 #[.int .i64 k, .bool false, .int .i64 e] w fun r w' => r = .returned (.tuple #[.agg #[.int .i64 0, .int .i64 0], .int .i64 e]) ∧ Below w.heap.size w w' := vunm_any k e false w
theorem kind_nan {x : Nat} (h : nanB x = true) : kindN x = 1 ∧ kindS x = false := by unfold kindN kindS; rw [h]; exact ⟨rfl, rfl⟩
theorem kind_inf {x : Nat} (h : nanB x = false) (g : infB x = true) : kindN x = 2 ∧ kindS x = sgn x := by unfold kindN kindS; rw [h, g]; exact ⟨rfl, rfl⟩
theorem kind_fin {x : Nat} (h : nanB x = false) (g : infB x = false) : (kindN x == 1) = false ∧ (kindN x == 2) = false := by
  unfold kindN
  rw [h, g]
  simp only [Bool.false_eq_true, if_false]
  split
  · exact ⟨rfl, rfl⟩
  · split <;> exact ⟨rfl, rfl⟩
theorem decR_nan {x : Nat} (h : nanB x = true) (pct : Bool) (m : Int) : decR x pct m = if bitB m 1 then (1, 0, 0) else (0, 0, 4) := by unfold decR; rw [h]; rfl
theorem decR_inf {x : Nat} (h : nanB x = false) (g : infB x = true) (pct : Bool) (m : Int) : decR x pct m = if !sgn x && bitB m 2 then (2, 0, 0) else (0, 0, 5) := by unfold decR; rw [h, g]; rfl
theorem decR_fin {x : Nat} (h : nanB x = false) (g : infB x = false) (pct : Bool) (m : Int) : decR x pct m = measR x pct (bitB m 4) (bitB m 8) := by unfold decR; rw [h, g]; rfl
set_option maxHeartbeats 4000000 in
theorem vdecode_any (x : Nat) (hx : x < 18446744073709551616) (pct : Bool) (m : Nat) (hm : m < 256) (w : World) (hD : Deb w) :
    Calls Tryd.prog 56 #[.agg #[.float .f64 x, .bool pct], .int .i64 (m : Int)] w fun r w' => r = .returned (dec3 (decR x pct m)) ∧ Below w.heap.size w w' := by
  have K := Lib.hid (kkind_any x hx)
  obtain ⟨a1, a2, a4, a8⟩ := bit_and m hm
  cases nn : nanB x
  · cases ni : infB x
    · rw [decR_fin nn ni]
      obtain ⟨k1, k2⟩ := kind_fin nn ni
      obtain ⟨p2, h2⟩ : ∃ b, bitB m 4 = b := ⟨_, rfl⟩
      obtain ⟨p3, h3⟩ : ∃ b, bitB m 8 = b := ⟨_, rfl⟩
      rw [h2] at a4 ⊢
      rw [h3] at a8 ⊢
      have M := Lib.hid (fun w h => vmeas_any x hx nn ni pct p2 p3 w h)
      have HD := Lib.hid hD
      obtain ⟨⟨k, n, er⟩, hr⟩ : ∃ r, measR x pct p2 p3 = r := ⟨_, rfl⟩
      rw [hr] at M ⊢
      obtain ⟨kk, hk⟩ : ∃ k, kindN x = k := ⟨_, rfl⟩
      obtain ⟨ks, hs⟩ : ∃ k, kindS x = k := ⟨_, rfl⟩
      rw [hk] at K k1 k2
      rw [hs] at K
      clear hD nn ni a1 a2 h2 h3 hr hk hs
      simp only [dec3] at M ⊢
      go_enter Tryd.func56, Tryd.ntmps56
      go_wp2_with fail
      refine (K.out _).mono ?_
      rintro e w1 ⟨rfl, hw⟩
      obtain rfl := hw.symm
      clear hw
      go_wp2_with fail
      refine (M.out _ (HD.out.later (by go_grown))).mono ?_
      rintro e w2 ⟨rfl, hb⟩
      have KB := Lib.hid (show Below w.heap.size w w2 from bel_tr0 (by go_grown) hb)
      have KT := Lib.hid ((((Tab.nil w).new [.float .f64 x, .bool pct] 42).new' (b := w.heap.size + 1) [.int .i64 0, .int .i64 0] 32 (by simp)).later hb)
      clear hb
      have c0 := KT.out.cell 0 0 rfl rfl
      have c1 := KT.out.cell 0 1 rfl rfl
      have f0 := KT.out.froz 0 0 rfl rfl
      have f1 := KT.out.froz 0 1 rfl rfl
      have d0 := KT.out.cell 1 0 rfl rfl
      have d1 := KT.out.cell 1 1 rfl rfl
      go_wp2_with fail
      refine bodyPost_ret (v := .tuple #[.agg #[.int .i64 k, .int .i64 n], .int .i64 er]) (by simp [results, Tryd.results56, go_sem, c0, c1]) rfl ?_
      exact ⟨rfl, KB.out.setCell (by simp) _ |>.setCell (by simp) _⟩
    · rw [decR_inf nn ni]
      obtain ⟨k1, k2⟩ := kind_inf nn ni
      obtain ⟨p2, h2⟩ : ∃ b, bitB m 2 = b := ⟨_, rfl⟩
      obtain ⟨s, hs⟩ : ∃ b, sgn x = b := ⟨_, rfl⟩
      rw [h2] at a2 ⊢
      rw [hs] at k2 ⊢
      rw [k1, k2] at K
      clear hD nn ni a1 a4 a8 h2 hs k1 k2
      cases s <;> cases p2
      · simp only [Bool.not_true, Bool.not_false, Bool.true_and, Bool.false_and, Bool.and_true, Bool.and_false, if_true, Bool.false_eq_true, if_false, dec3]
        go_enter Tryd.func56, Tryd.ntmps56
        go_wp2_with fail
        refine (K.out _).mono ?_
        rintro e w1 ⟨rfl, hw⟩
        obtain rfl := hw.symm
        clear hw
        go_wp2_with fail
        refine (vunm_f 2 5 _).mono ?_
        rintro e w2 ⟨rfl, hb⟩
        have KB := Lib.hid (show Below w.heap.size w w2 from bel_tr0 (by go_grown) hb)
        have KT := Lib.hid ((((Tab.nil w).new [.float .f64 x, .bool pct] 42).new' (b := w.heap.size + 1) [.int .i64 0, .int .i64 0] 32 (by simp)).later hb)
        clear hb
        have c0 := KT.out.cell 0 0 rfl rfl
        have c1 := KT.out.cell 0 1 rfl rfl
        have f0 := KT.out.froz 0 0 rfl rfl
        have f1 := KT.out.froz 0 1 rfl rfl
        have d0 := KT.out.cell 1 0 rfl rfl
        have d1 := KT.out.cell 1 1 rfl rfl
        go_wp2_with fail
        refine bodyPost_ret (v := .tuple #[.agg #[.int .i64 0, .int .i64 0], .int .i64 5]) (by simp [results, Tryd.results56, go_sem, c0, c1]) rfl ?_
        exact ⟨rfl, KB.out.setCell (by simp) _ |>.setCell (by simp) _⟩
      · simp only [Bool.not_true, Bool.not_false, Bool.true_and, Bool.false_and, Bool.and_true, Bool.and_false, if_true, Bool.false_eq_true, if_false, dec3]
        go_enter Tryd.func56, Tryd.ntmps56
        go_wp2_with fail
        refine (K.out _).mono ?_
        rintro e w1 ⟨rfl, hw⟩
        obtain rfl := hw.symm
        clear hw
        go_wp2_with fail
        refine (vunm_t 2 5 _).mono ?_
        rintro e w2 ⟨rfl, hb⟩
        have KB := Lib.hid (show Below w.heap.size w w2 from bel_tr0 (by go_grown) hb)
        have KT := Lib.hid ((((Tab.nil w).new [.float .f64 x, .bool pct] 42).new' (b := w.heap.size + 1) [.int .i64 0, .int .i64 0] 32 (by simp)).later hb)
        clear hb
        have c0 := KT.out.cell 0 0 rfl rfl
        have c1 := KT.out.cell 0 1 rfl rfl
        have f0 := KT.out.froz 0 0 rfl rfl
        have f1 := KT.out.froz 0 1 rfl rfl
        have d0 := KT.out.cell 1 0 rfl rfl
        have d1 := KT.out.cell 1 1 rfl rfl
        go_wp2_with fail
        refine bodyPost_ret (v := .tuple #[.agg #[.int .i64 2, .int .i64 0], .int .i64 0]) (by simp [results, Tryd.results56, go_sem, c0, c1]) rfl ?_
        exact ⟨rfl, KB.out.setCell (by simp) _ |>.setCell (by simp) _⟩
      · simp only [Bool.not_true, Bool.not_false, Bool.true_and, Bool.false_and, Bool.and_true, Bool.and_false, if_true, Bool.false_eq_true, if_false, dec3]
        go_enter Tryd.func56, Tryd.ntmps56
        go_wp2_with fail
        refine (K.out _).mono ?_
        rintro e w1 ⟨rfl, hw⟩
        obtain rfl := hw.symm
        clear hw
        go_wp2_with fail
        refine (vunm_f 2 5 _).mono ?_
        rintro e w2 ⟨rfl, hb⟩
        have KB := Lib.hid (show Below w.heap.size w w2 from bel_tr0 (by go_grown) hb)
        have KT := Lib.hid ((((Tab.nil w).new [.float .f64 x, .bool pct] 42).new' (b := w.heap.size + 1) [.int .i64 0, .int .i64 0] 32 (by simp)).later hb)
        clear hb
        have c0 := KT.out.cell 0 0 rfl rfl
        have c1 := KT.out.cell 0 1 rfl rfl
        have f0 := KT.out.froz 0 0 rfl rfl
        have f1 := KT.out.froz 0 1 rfl rfl
        have d0 := KT.out.cell 1 0 rfl rfl
        have d1 := KT.out.cell 1 1 rfl rfl
        go_wp2_with fail
        refine bodyPost_ret (v := .tuple #[.agg #[.int .i64 0, .int .i64 0], .int .i64 5]) (by simp [results, Tryd.results56, go_sem, c0, c1]) rfl ?_
        exact ⟨rfl, KB.out.setCell (by simp) _ |>.setCell (by simp) _⟩
      · simp only [Bool.not_true, Bool.not_false, Bool.true_and, Bool.false_and, Bool.and_true, Bool.and_false, if_true, Bool.false_eq_true, if_false, dec3]
        go_enter Tryd.func56, Tryd.ntmps56
        go_wp2_with fail
        refine (K.out _).mono ?_
        rintro e w1 ⟨rfl, hw⟩
        obtain rfl := hw.symm
        clear hw
        go_wp2_with fail
        refine (vunm_f 2 5 _).mono ?_
        rintro e w2 ⟨rfl, hb⟩
        have KB := Lib.hid (show Below w.heap.size w w2 from bel_tr0 (by go_grown) hb)
        have KT := Lib.hid ((((Tab.nil w).new [.float .f64 x, .bool pct] 42).new' (b := w.heap.size + 1) [.int .i64 0, .int .i64 0] 32 (by simp)).later hb)
        clear hb
        have c0 := KT.out.cell 0 0 rfl rfl
        have c1 := KT.out.cell 0 1 rfl rfl
        have f0 := KT.out.froz 0 0 rfl rfl
        have f1 := KT.out.froz 0 1 rfl rfl
        have d0 := KT.out.cell 1 0 rfl rfl
        have d1 := KT.out.cell 1 1 rfl rfl
        go_wp2_with fail
        refine bodyPost_ret (v := .tuple #[.agg #[.int .i64 0, .int .i64 0], .int .i64 5]) (by simp [results, Tryd.results56, go_sem, c0, c1]) rfl ?_
        exact ⟨rfl, KB.out.setCell (by simp) _ |>.setCell (by simp) _⟩
  · rw [decR_nan nn]
    obtain ⟨k1, k2⟩ := kind_nan nn
    obtain ⟨p1, h1⟩ : ∃ b, bitB m 1 = b := ⟨_, rfl⟩
    rw [h1] at a1 ⊢
    rw [k1, k2] at K
    clear hD nn a2 a4 a8 h1 k1 k2
    cases p1
    · simp only [if_true, Bool.false_eq_true, if_false, dec3]
      go_enter Tryd.func56, Tryd.ntmps56
      go_wp2_with fail
      refine (K.out _).mono ?_
      rintro e w1 ⟨rfl, hw⟩
      obtain rfl := hw.symm
      clear hw
      go_wp2_with fail
      refine (vunm_f 1 4 _).mono ?_
      rintro e w2 ⟨rfl, hb⟩
      have KB := Lib.hid (show Below w.heap.size w w2 from bel_tr0 (by go_grown) hb)
      have KT := Lib.hid ((((Tab.nil w).new [.float .f64 x, .bool pct] 42).new' (b := w.heap.size + 1) [.int .i64 0, .int .i64 0] 32 (by simp)).later hb)
      clear hb
      have c0 := KT.out.cell 0 0 rfl rfl
      have c1 := KT.out.cell 0 1 rfl rfl
      have f0 := KT.out.froz 0 0 rfl rfl
      have f1 := KT.out.froz 0 1 rfl rfl
      have d0 := KT.out.cell 1 0 rfl rfl
      have d1 := KT.out.cell 1 1 rfl rfl
      go_wp2_with fail
      refine bodyPost_ret (v := .tuple #[.agg #[.int .i64 0, .int .i64 0], .int .i64 4]) (by simp [results, Tryd.results56, go_sem, c0, c1]) rfl ?_
      exact ⟨rfl, KB.out.setCell (by simp) _ |>.setCell (by simp) _⟩
    · simp only [if_true, Bool.false_eq_true, if_false, dec3]
      go_enter Tryd.func56, Tryd.ntmps56
      go_wp2_with fail
      refine (K.out _).mono ?_
      rintro e w1 ⟨rfl, hw⟩
      obtain rfl := hw.symm
      clear hw
      go_wp2_with fail
      refine (vunm_t 1 4 _).mono ?_
      rintro e w2 ⟨rfl, hb⟩
      have KB := Lib.hid (show Below w.heap.size w w2 from bel_tr0 (by go_grown) hb)
      have KT := Lib.hid ((((Tab.nil w).new [.float .f64 x, .bool pct] 42).new' (b := w.heap.size + 1) [.int .i64 0, .int .i64 0] 32 (by simp)).later hb)
      clear hb
      have c0 := KT.out.cell 0 0 rfl rfl
      have c1 := KT.out.cell 0 1 rfl rfl
      have f0 := KT.out.froz 0 0 rfl rfl
      have f1 := KT.out.froz 0 1 rfl rfl
      have d0 := KT.out.cell 1 0 rfl rfl
      have d1 := KT.out.cell 1 1 rfl rfl
      go_wp2_with fail
      refine bodyPost_ret (v := .tuple #[.agg #[.int .i64 1, .int .i64 0], .int .i64 0]) (by simp [results, Tryd.results56, go_sem, c0, c1]) rfl ?_
      exact ⟨rfl, KB.out.setCell (by simp) _ |>.setCell (by simp) _⟩
end Go.Proofs.YtjemnjboopabpaaDoor
/- The reference of law 9: decoding a float. Made by gen/valc.py. -/
namespace Go.Proofs.YtjemnjboopabpaaDoor
open Go.RowKit Go.Proofs.Flo Go.Proofs.Reg
set_option linter.unusedVariables false
set_option linter.unusedSimpArgs false
set_option maxRecDepth 100000
set_option maxHeartbeats 4000000 in
theorem r9fin (x : Nat) (hx : x < 18446744073709551616) (pct : Bool) (m : Int) (m0 : 0 ≤ m) (m1 : m ≤ 255) (nn : nanB x = false) (ni : infB x = false) (w : World) :
    Calls Tryd.prog 36 #[.int .u64 (x : Int), .bool pct, .int .i64 m] w fun r w' => r = .returned (dec3 (measR x pct (bitB m 4) (bitB m 8))) ∧ Below w.heap.size w w' := by
  have K := Lib.hid (kind3_any x hx)
  obtain ⟨k1, k2⟩ := kind_fin nn ni
  obtain ⟨n, g1, g2, h1, h2, h3⟩ := grid_lmt x 2000000000 (by decide) nn ni
  have G := Lib.hid (fun w => r3grid_any x 64 (-2000000000) 2000000000 hx (by decide) (by decide) (by decide) (by decide) w)
  rw [g1, g2] at G
  have M4 := Lib.hid (fun w => r9may_any m 4 m0 m1 (by decide) w)
  have M8 := Lib.hid (fun w => r9may_any m 8 m0 m1 (by decide) w)
  obtain ⟨p2, q2⟩ : ∃ b, bitB m 4 = b := ⟨_, rfl⟩
  obtain ⟨p3, q3⟩ : ∃ b, bitB m 8 = b := ⟨_, rfl⟩
  rw [q2] at M4 ⊢
  rw [q3] at M8 ⊢
  obtain ⟨kk, hk⟩ : ∃ k, kindN x = k := ⟨_, rfl⟩
  obtain ⟨ks, hs⟩ : ∃ k, kindS x = k := ⟨_, rfl⟩
  rw [hk] at K k1 k2
  rw [hs] at K
  obtain ⟨V, hV⟩ : ∃ V, gridR (sval x) 64 = V := ⟨_, rfl⟩
  unfold measR
  rw [hV] at h1 h2 h3 ⊢
  have cs : (V < -1073741824 ∧ n < -1073741824) ∨ (1073741824 < V ∧ 1073741824 < n) ∨ (-1073741824 ≤ V ∧ V ≤ 1073741824 ∧ n = V) := by omega
  have cases2 : (pct = true ∧ p2 = false) ∨ pct = false ∨ (pct = true ∧ p2 = true) := by cases pct <;> cases p2 <;> decide
  clear g1 g2 nn ni q2 q3 hk hs hV h1 h2 h3 m0 m1
  rcases cases2 with ⟨rfl, rfl⟩ | h
  · rw [if_pos rfl]
    go_enter Tryd.func36, Tryd.ntmps36
    go_wp2_with fail
    refine (K.out _).mono ?_
    rintro e w1 ⟨rfl, hw⟩
    obtain rfl := hw.symm
    clear hw
    go_wp2_with fail
    refine (M4.out _).mono ?_
    rintro e w1 ⟨rfl, hw⟩
    obtain rfl := hw.symm
    clear hw
    go_wp2_with fail
    refine bodyPost_ret (v := .tuple #[.agg #[.int .i64 0, .int .i64 0], .int .i64 11]) (by simp [results, Tryd.results36, go_sem]) rfl ?_
    exact ⟨rfl, by go_grown⟩
  rw [if_neg (by rcases h with rfl | ⟨rfl, rfl⟩ <;> simp)]
  rcases cs with ⟨a, b⟩ | ⟨a, b⟩ | ⟨a, b, rfl⟩
  · rw [if_pos (.inl a)]
    clear a
    rcases h with rfl | ⟨rfl, rfl⟩
    · go_enter Tryd.func36, Tryd.ntmps36
      go_wp2_with fail
      refine (K.out _).mono ?_
      rintro e w1 ⟨rfl, hw⟩
      obtain rfl := hw.symm
      clear hw
      go_wp2_with fail
      refine (G.out _).mono ?_
      rintro e w2 ⟨rfl, hb⟩
      have KB := Lib.hid (show Below w.heap.size w w2 from bel_tr0 (by go_grown) hb)
      have KT := Lib.hid (((Tab.nil w).new [.int .i64 0, .int .i64 0] 48).later hb)
      clear hb
      have c0 := KT.out.cell 0 0 rfl rfl
      have c1 := KT.out.cell 0 1 rfl rfl
      have f0 := KT.out.froz 0 0 rfl rfl
      have f1 := KT.out.froz 0 1 rfl rfl
      go_wp2_with fail
      refine bodyPost_ret (v := .tuple #[.agg #[.int .i64 0, .int .i64 0], .int .i64 2]) (by simp [results, Tryd.results36, go_sem, c0, c1]) rfl ?_
      exact ⟨rfl, KB.out.setCell (by simp) _ |>.setCell (by simp) _⟩
    · go_enter Tryd.func36, Tryd.ntmps36
      go_wp2_with fail
      refine (K.out _).mono ?_
      rintro e w1 ⟨rfl, hw⟩
      obtain rfl := hw.symm
      clear hw
      go_wp2_with fail
      refine (M4.out _).mono ?_
      rintro e w1 ⟨rfl, hw⟩
      obtain rfl := hw.symm
      clear hw
      go_wp2_with fail
      refine (G.out _).mono ?_
      rintro e w2 ⟨rfl, hb⟩
      have KB := Lib.hid (show Below w.heap.size w w2 from bel_tr0 (by go_grown) hb)
      have KT := Lib.hid (((Tab.nil w).new [.int .i64 0, .int .i64 0] 48).later hb)
      clear hb
      have c0 := KT.out.cell 0 0 rfl rfl
      have c1 := KT.out.cell 0 1 rfl rfl
      have f0 := KT.out.froz 0 0 rfl rfl
      have f1 := KT.out.froz 0 1 rfl rfl
      go_wp2_with fail
      refine bodyPost_ret (v := .tuple #[.agg #[.int .i64 0, .int .i64 0], .int .i64 2]) (by simp [results, Tryd.results36, go_sem, c0, c1]) rfl ?_
      exact ⟨rfl, KB.out.setCell (by simp) _ |>.setCell (by simp) _⟩
  · rw [if_pos (.inr a)]
    clear a
    have b' : ¬ n < -1073741824 := by omega
    rcases h with rfl | ⟨rfl, rfl⟩
    · go_enter Tryd.func36, Tryd.ntmps36
      go_wp2_with fail
      refine (K.out _).mono ?_
      rintro e w1 ⟨rfl, hw⟩
      obtain rfl := hw.symm
      clear hw
      go_wp2_with fail
      refine (G.out _).mono ?_
      rintro e w2 ⟨rfl, hb⟩
      have KB := Lib.hid (show Below w.heap.size w w2 from bel_tr0 (by go_grown) hb)
      have KT := Lib.hid (((Tab.nil w).new [.int .i64 0, .int .i64 0] 48).later hb)
      clear hb
      have c0 := KT.out.cell 0 0 rfl rfl
      have c1 := KT.out.cell 0 1 rfl rfl
      have f0 := KT.out.froz 0 0 rfl rfl
      have f1 := KT.out.froz 0 1 rfl rfl
      go_wp2_with fail
      refine bodyPost_ret (v := .tuple #[.agg #[.int .i64 0, .int .i64 0], .int .i64 2]) (by simp [results, Tryd.results36, go_sem, c0, c1]) rfl ?_
      exact ⟨rfl, KB.out.setCell (by simp) _ |>.setCell (by simp) _⟩
    · go_enter Tryd.func36, Tryd.ntmps36
      go_wp2_with fail
      refine (K.out _).mono ?_
      rintro e w1 ⟨rfl, hw⟩
      obtain rfl := hw.symm
      clear hw
      go_wp2_with fail
      refine (M4.out _).mono ?_
      rintro e w1 ⟨rfl, hw⟩
      obtain rfl := hw.symm
      clear hw
      go_wp2_with fail
      refine (G.out _).mono ?_
      rintro e w2 ⟨rfl, hb⟩
      have KB := Lib.hid (show Below w.heap.size w w2 from bel_tr0 (by go_grown) hb)
      have KT := Lib.hid (((Tab.nil w).new [.int .i64 0, .int .i64 0] 48).later hb)
      clear hb
      have c0 := KT.out.cell 0 0 rfl rfl
      have c1 := KT.out.cell 0 1 rfl rfl
      have f0 := KT.out.froz 0 0 rfl rfl
      have f1 := KT.out.froz 0 1 rfl rfl
      go_wp2_with fail
      refine bodyPost_ret (v := .tuple #[.agg #[.int .i64 0, .int .i64 0], .int .i64 2]) (by simp [results, Tryd.results36, go_sem, c0, c1]) rfl ?_
      exact ⟨rfl, KB.out.setCell (by simp) _ |>.setCell (by simp) _⟩
  · rw [if_neg (by omega)]
    have a' : ¬ n < -1073741824 := by omega
    have b' : ¬ 1073741824 < n := by omega
    by_cases d : n < 0
    · cases p3
      · rw [if_pos ⟨d, rfl⟩]
        rcases h with rfl | ⟨rfl, rfl⟩
        · go_enter Tryd.func36, Tryd.ntmps36
          go_wp2_with fail
          refine (K.out _).mono ?_
          rintro e w1 ⟨rfl, hw⟩
          obtain rfl := hw.symm
          clear hw
          go_wp2_with fail
          refine (G.out _).mono ?_
          rintro e w2 ⟨rfl, hb⟩
          have KB := Lib.hid (show Below w.heap.size w w2 from bel_tr0 (by go_grown) hb)
          have KT := Lib.hid (((Tab.nil w).new [.int .i64 0, .int .i64 0] 48).later hb)
          clear hb
          have c0 := KT.out.cell 0 0 rfl rfl
          have c1 := KT.out.cell 0 1 rfl rfl
          have f0 := KT.out.froz 0 0 rfl rfl
          have f1 := KT.out.froz 0 1 rfl rfl
          go_wp2_with fail
          refine (M8.out _).mono ?_
          rintro e w1 ⟨rfl, hw⟩
          obtain rfl := hw.symm
          clear hw
          go_wp2_with fail
          refine bodyPost_ret (v := .tuple #[.agg #[.int .i64 0, .int .i64 0], .int .i64 11]) (by simp [results, Tryd.results36, go_sem, c0, c1]) rfl ?_
          exact ⟨rfl, KB.out.setCell (by simp) _ |>.setCell (by simp) _⟩
        · go_enter Tryd.func36, Tryd.ntmps36
          go_wp2_with fail
          refine (K.out _).mono ?_
          rintro e w1 ⟨rfl, hw⟩
          obtain rfl := hw.symm
          clear hw
          go_wp2_with fail
          refine (M4.out _).mono ?_
          rintro e w1 ⟨rfl, hw⟩
          obtain rfl := hw.symm
          clear hw
          go_wp2_with fail
          refine (G.out _).mono ?_
          rintro e w2 ⟨rfl, hb⟩
          have KB := Lib.hid (show Below w.heap.size w w2 from bel_tr0 (by go_grown) hb)
          have KT := Lib.hid (((Tab.nil w).new [.int .i64 0, .int .i64 0] 48).later hb)
          clear hb
          have c0 := KT.out.cell 0 0 rfl rfl
          have c1 := KT.out.cell 0 1 rfl rfl
          have f0 := KT.out.froz 0 0 rfl rfl
          have f1 := KT.out.froz 0 1 rfl rfl
          go_wp2_with fail
          refine (M8.out _).mono ?_
          rintro e w1 ⟨rfl, hw⟩
          obtain rfl := hw.symm
          clear hw
          go_wp2_with fail
          refine bodyPost_ret (v := .tuple #[.agg #[.int .i64 0, .int .i64 0], .int .i64 11]) (by simp [results, Tryd.results36, go_sem, c0, c1]) rfl ?_
          exact ⟨rfl, KB.out.setCell (by simp) _ |>.setCell (by simp) _⟩
      · rw [if_neg (by simp)]
        rcases h with rfl | ⟨rfl, rfl⟩
        · go_enter Tryd.func36, Tryd.ntmps36
          go_wp2_with fail
          refine (K.out _).mono ?_
          rintro e w1 ⟨rfl, hw⟩
          obtain rfl := hw.symm
          clear hw
          go_wp2_with fail
          refine (G.out _).mono ?_
          rintro e w2 ⟨rfl, hb⟩
          have KB := Lib.hid (show Below w.heap.size w w2 from bel_tr0 (by go_grown) hb)
          have KT := Lib.hid (((Tab.nil w).new [.int .i64 0, .int .i64 0] 48).later hb)
          clear hb
          have c0 := KT.out.cell 0 0 rfl rfl
          have c1 := KT.out.cell 0 1 rfl rfl
          have f0 := KT.out.froz 0 0 rfl rfl
          have f1 := KT.out.froz 0 1 rfl rfl
          go_wp2_with fail
          refine (M8.out _).mono ?_
          rintro e w1 ⟨rfl, hw⟩
          obtain rfl := hw.symm
          clear hw
          go_wp2_with fail
          refine bodyPost_ret (v := .tuple #[.agg #[.int .i64 3, .int .i64 n], .int .i64 0]) (by simp [results, Tryd.results36, go_sem, c0, c1]) rfl ?_
          exact ⟨rfl, KB.out.setCell (by simp) _ |>.setCell (by simp) _⟩
        · go_enter Tryd.func36, Tryd.ntmps36
          go_wp2_with fail
          refine (K.out _).mono ?_
          rintro e w1 ⟨rfl, hw⟩
          obtain rfl := hw.symm
          clear hw
          go_wp2_with fail
          refine (M4.out _).mono ?_
          rintro e w1 ⟨rfl, hw⟩
          obtain rfl := hw.symm
          clear hw
          go_wp2_with fail
          refine (G.out _).mono ?_
          rintro e w2 ⟨rfl, hb⟩
          have KB := Lib.hid (show Below w.heap.size w w2 from bel_tr0 (by go_grown) hb)
          have KT := Lib.hid (((Tab.nil w).new [.int .i64 0, .int .i64 0] 48).later hb)
          clear hb
          have c0 := KT.out.cell 0 0 rfl rfl
          have c1 := KT.out.cell 0 1 rfl rfl
          have f0 := KT.out.froz 0 0 rfl rfl
          have f1 := KT.out.froz 0 1 rfl rfl
          go_wp2_with fail
          refine (M8.out _).mono ?_
          rintro e w1 ⟨rfl, hw⟩
          obtain rfl := hw.symm
          clear hw
          go_wp2_with fail
          refine bodyPost_ret (v := .tuple #[.agg #[.int .i64 4, .int .i64 n], .int .i64 0]) (by simp [results, Tryd.results36, go_sem, c0, c1]) rfl ?_
          exact ⟨rfl, KB.out.setCell (by simp) _ |>.setCell (by simp) _⟩
    · rw [if_neg (by omega)]
      rcases h with rfl | ⟨rfl, rfl⟩
      · go_enter Tryd.func36, Tryd.ntmps36
        go_wp2_with fail
        refine (K.out _).mono ?_
        rintro e w1 ⟨rfl, hw⟩
        obtain rfl := hw.symm
        clear hw
        go_wp2_with fail
        refine (G.out _).mono ?_
        rintro e w2 ⟨rfl, hb⟩
        have KB := Lib.hid (show Below w.heap.size w w2 from bel_tr0 (by go_grown) hb)
        have KT := Lib.hid (((Tab.nil w).new [.int .i64 0, .int .i64 0] 48).later hb)
        clear hb
        have c0 := KT.out.cell 0 0 rfl rfl
        have c1 := KT.out.cell 0 1 rfl rfl
        have f0 := KT.out.froz 0 0 rfl rfl
        have f1 := KT.out.froz 0 1 rfl rfl
        go_wp2_with fail
        refine bodyPost_ret (v := .tuple #[.agg #[.int .i64 3, .int .i64 n], .int .i64 0]) (by simp [results, Tryd.results36, go_sem, c0, c1]) rfl ?_
        exact ⟨rfl, KB.out.setCell (by simp) _ |>.setCell (by simp) _⟩
      · go_enter Tryd.func36, Tryd.ntmps36
        go_wp2_with fail
        refine (K.out _).mono ?_
        rintro e w1 ⟨rfl, hw⟩
        obtain rfl := hw.symm
        clear hw
        go_wp2_with fail
        refine (M4.out _).mono ?_
        rintro e w1 ⟨rfl, hw⟩
        obtain rfl := hw.symm
        clear hw
        go_wp2_with fail
        refine (G.out _).mono ?_
        rintro e w2 ⟨rfl, hb⟩
        have KB := Lib.hid (show Below w.heap.size w w2 from bel_tr0 (by go_grown) hb)
        have KT := Lib.hid (((Tab.nil w).new [.int .i64 0, .int .i64 0] 48).later hb)
        clear hb
        have c0 := KT.out.cell 0 0 rfl rfl
        have c1 := KT.out.cell 0 1 rfl rfl
        have f0 := KT.out.froz 0 0 rfl rfl
        have f1 := KT.out.froz 0 1 rfl rfl
        go_wp2_with fail
        refine bodyPost_ret (v := .tuple #[.agg #[.int .i64 4, .int .i64 n], .int .i64 0]) (by simp [results, Tryd.results36, go_sem, c0, c1]) rfl ?_
        exact ⟨rfl, KB.out.setCell (by simp) _ |>.setCell (by simp) _⟩
set_option maxHeartbeats 4000000 in
theorem r9decode_any (x : Nat) (hx : x < 18446744073709551616) (pct : Bool) (m : Int) (m0 : 0 ≤ m) (m1 : m ≤ 255) (w : World) :
    Calls Tryd.prog 36 #[.int .u64 (x : Int), .bool pct, .int .i64 m] w fun r w' => r = .returned (dec3 (decR x pct m)) ∧ Below w.heap.size w w' := by
  cases nn : nanB x
  · cases ni : infB x
    · rw [decR_fin nn ni]
      exact r9fin x hx pct m m0 m1 nn ni w
    · rw [decR_inf nn ni]
      have K := Lib.hid (kind3_any x hx)
      have M2 := Lib.hid (fun w => r9may_any m 2 m0 m1 (by decide) w)
      obtain ⟨k1, k2⟩ := kind_inf nn ni
      obtain ⟨p2, h2⟩ : ∃ b, bitB m 2 = b := ⟨_, rfl⟩
      obtain ⟨s, hs⟩ : ∃ b, sgn x = b := ⟨_, rfl⟩
      rw [h2] at M2 ⊢
      rw [hs] at k2 ⊢
      rw [k1, k2] at K
      clear nn ni h2 hs k1 k2
      cases s <;> cases p2
      · simp only [Bool.not_true, Bool.not_false, Bool.true_and, Bool.false_and, Bool.and_true, Bool.and_false, if_true, Bool.false_eq_true, if_false, dec3]
        go_enter Tryd.func36, Tryd.ntmps36
        go_wp2_with fail
        refine (K.out _).mono ?_
        rintro e w1 ⟨rfl, hw⟩
        obtain rfl := hw.symm
        clear hw
        go_wp2_with fail
        refine (M2.out _).mono ?_
        rintro e w1 ⟨rfl, hw⟩
        obtain rfl := hw.symm
        clear hw
        go_wp2_with fail
        refine bodyPost_ret (v := .tuple #[.agg #[.int .i64 0, .int .i64 0], .int .i64 5]) (by simp [results, Tryd.results36, go_sem]) rfl ?_
        exact ⟨rfl, by go_grown⟩
      · simp only [Bool.not_true, Bool.not_false, Bool.true_and, Bool.false_and, Bool.and_true, Bool.and_false, if_true, Bool.false_eq_true, if_false, dec3]
        go_enter Tryd.func36, Tryd.ntmps36
        go_wp2_with fail
        refine (K.out _).mono ?_
        rintro e w1 ⟨rfl, hw⟩
        obtain rfl := hw.symm
        clear hw
        go_wp2_with fail
        refine (M2.out _).mono ?_
        rintro e w1 ⟨rfl, hw⟩
        obtain rfl := hw.symm
        clear hw
        go_wp2_with fail
        refine bodyPost_ret (v := .tuple #[.agg #[.int .i64 2, .int .i64 0], .int .i64 0]) (by simp [results, Tryd.results36, go_sem]) rfl ?_
        exact ⟨rfl, by go_grown⟩
      · simp only [Bool.not_true, Bool.not_false, Bool.true_and, Bool.false_and, Bool.and_true, Bool.and_false, if_true, Bool.false_eq_true, if_false, dec3]
        go_enter Tryd.func36, Tryd.ntmps36
        go_wp2_with fail
        refine (K.out _).mono ?_
        rintro e w1 ⟨rfl, hw⟩
        obtain rfl := hw.symm
        clear hw
        go_wp2_with fail
        refine bodyPost_ret (v := .tuple #[.agg #[.int .i64 0, .int .i64 0], .int .i64 5]) (by simp [results, Tryd.results36, go_sem]) rfl ?_
        exact ⟨rfl, by go_grown⟩
      · simp only [Bool.not_true, Bool.not_false, Bool.true_and, Bool.false_and, Bool.and_true, Bool.and_false, if_true, Bool.false_eq_true, if_false, dec3]
        go_enter Tryd.func36, Tryd.ntmps36
        go_wp2_with fail
        refine (K.out _).mono ?_
        rintro e w1 ⟨rfl, hw⟩
        obtain rfl := hw.symm
        clear hw
        go_wp2_with fail
        refine bodyPost_ret (v := .tuple #[.agg #[.int .i64 0, .int .i64 0], .int .i64 5]) (by simp [results, Tryd.results36, go_sem]) rfl ?_
        exact ⟨rfl, by go_grown⟩
  · rw [decR_nan nn]
    have K := Lib.hid (kind3_any x hx)
    have M1 := Lib.hid (fun w => r9may_any m 1 m0 m1 (by decide) w)
    obtain ⟨k1, k2⟩ := kind_nan nn
    obtain ⟨p1, h1⟩ : ∃ b, bitB m 1 = b := ⟨_, rfl⟩
    rw [h1] at M1 ⊢
    rw [k1, k2] at K
    clear nn h1 k1 k2
    cases p1
    · simp only [if_true, Bool.false_eq_true, if_false, dec3]
      go_enter Tryd.func36, Tryd.ntmps36
      go_wp2_with fail
      refine (K.out _).mono ?_
      rintro e w1 ⟨rfl, hw⟩
      obtain rfl := hw.symm
      clear hw
      go_wp2_with fail
      refine (M1.out _).mono ?_
      rintro e w1 ⟨rfl, hw⟩
      obtain rfl := hw.symm
      clear hw
      go_wp2_with fail
      refine bodyPost_ret (v := .tuple #[.agg #[.int .i64 0, .int .i64 0], .int .i64 4]) (by simp [results, Tryd.results36, go_sem]) rfl ?_
      exact ⟨rfl, by go_grown⟩
    · simp only [if_true, Bool.false_eq_true, if_false, dec3]
      go_enter Tryd.func36, Tryd.ntmps36
      go_wp2_with fail
      refine (K.out _).mono ?_
      rintro e w1 ⟨rfl, hw⟩
      obtain rfl := hw.symm
      clear hw
      go_wp2_with fail
      refine (M1.out _).mono ?_
      rintro e w1 ⟨rfl, hw⟩
      obtain rfl := hw.symm
      clear hw
      go_wp2_with fail
      refine bodyPost_ret (v := .tuple #[.agg #[.int .i64 1, .int .i64 0], .int .i64 0]) (by simp [results, Tryd.results36, go_sem]) rfl ?_
      exact ⟨rfl, by go_grown⟩
end Go.Proofs.YtjemnjboopabpaaDoor
