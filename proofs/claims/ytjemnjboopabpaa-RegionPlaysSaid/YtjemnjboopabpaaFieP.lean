/- The reference's field (ref07): what an array of 40 rows of 40 truths reads as. -/
import Derived.Test.YtjemnjboopabpaaRectB
import Derived.WalkKit
import Derived.WalkSpells
import Derived.WalkLawsBesides
import Derived.Handy
import Derived.Lib.Hide
import Derived.Deep.QuietTactic
import Derived.BigQuiet
import Derived.LoopTactic
import Derived.Deep.RegionHeld3
import Derived.Deep.RegionWith
import Derived.Outline
import Derived.Deep.DeepCutAuto
import Derived.Laws.Rows
import Derived.Laws.CopyOwn
import Derived.ChangeKeysEq
import Derived.Deep.MidRow
namespace Go.Proofs.Ytjemnjboopabpaa
open Go.RowKit Go.Proofs.Reg
set_option linter.unusedVariables false
set_option linter.unusedSimpArgs false
set_option maxRecDepth 100000
/-- 1600 cells read as a field -/
structure Fv (c : Array Value) (F : Int → Int → Bool) : Prop where
  size : c.size = 1600
  get : ∀ x y : Nat, x < 40 → y < 40 → c[40 * y + x]? = some (.bool (F x y))
theorem Fv.congr {c : Array Value} {F G : Int → Int → Bool} (h : Fv c F) (e : ∀ x y : Nat, x < 40 → y < 40 → F x y = G x y) : Fv c G :=
  ⟨h.size, fun x y hx hy => by rw [← e x y hx hy]; exact h.get x y hx hy⟩
theorem Fv.ext {c d : Array Value} {F : Int → Int → Bool} (h : Fv c F) (k : Fv d F) : c = d := by
  refine Array.ext (by rw [h.size, k.size]) fun i hi hj => ?_
  have i1 : i < 1600 := by rw [← h.size]; exact hi
  have a := h.get (i % 40) (i / 40) (by omega) (by omega)
  have b := k.get (i % 40) (i / 40) (by omega) (by omega)
  have e : 40 * (i / 40) + i % 40 = i := by omega
  rw [e] at a b
  rw [← b] at a
  rw [Array.getElem?_eq_getElem hi, Array.getElem?_eq_getElem hj] at a
  exact Option.some.inj a
theorem Fv.inj {c : Array Value} {F G : Int → Int → Bool} (h : Fv c F) (k : Fv c G) : ∀ x y : Nat, x < 40 → y < 40 → F x y = G x y := by
  intro x y hx hy
  have a := h.get x y hx hy
  rw [k.get x y hx hy] at a
  simpa using a.symm
theorem Fv.bools {c : Array Value} {F : Int → Int → Bool} (h : Fv c F) : c.all (·.oneCell') = true := by
  rw [Array.all_eq_true]
  intro i hi
  have i1 : i < 1600 := by rw [← h.size]; exact hi
  have a := h.get (i % 40) (i / 40) (by omega) (by omega)
  have e : 40 * (i / 40) + i % 40 = i := by omega
  rw [e, Array.getElem?_eq_getElem hi] at a
  rw [Option.some.inj a]
  rfl
/-- the places before the k-th are done -/
def mixF (F G : Int → Int → Bool) (k : Int) (x y : Int) : Bool := if 40 * y + x < k then G x y else F x y
theorem Fv.mix0 {c : Array Value} {F : Int → Int → Bool} (G : Int → Int → Bool) (h : Fv c F) : Fv c (mixF F G 0) :=
  h.congr fun x y hx hy => by unfold mixF; rw [if_neg (by omega)]
theorem Fv.mixAll {c : Array Value} {F G : Int → Int → Bool} (h : Fv c (mixF F G 1600)) : Fv c G :=
  h.congr fun x y hx hy => by unfold mixF; rw [if_pos (by omega)]
theorem mixF_at (F G : Int → Int → Bool) (x y : Nat) : mixF F G (40 * (y : Int) + x) x y = F x y := by
  unfold mixF; rw [if_neg (by omega)]
theorem Fv.set {c : Array Value} {F G : Int → Int → Bool} {x y : Nat} (h : Fv c (mixF F G (40 * (y : Int) + x))) (hx : x < 40) (hy : y < 40) {b : Bool} (e : b = G x y) : Fv (c.setIfInBounds (40 * y + x) (.bool b)) (mixF F G (40 * (y : Int) + (x + 1 : Nat))) := by
  refine ⟨by rw [Array.size_setIfInBounds]; exact h.size, fun u v hu hv => ?_⟩
  rw [Array.getElem?_setIfInBounds]
  by_cases q : 40 * y + x = 40 * v + u
  · have h1 : v = y := by omega
    have h2 : u = x := by omega
    subst h1 h2
    rw [if_pos rfl, if_pos (by rw [h.size]; omega)]
    unfold mixF
    rw [if_pos (by omega), e]
  · rw [if_neg q, h.get u v hu hv]
    unfold mixF
    by_cases p : 40 * (v : Int) + u < 40 * (y : Int) + x
    · rw [if_pos p, if_pos (by omega)]
    · rw [if_neg p, if_neg (by omega)]
theorem cell_row {w : World} {b : Nat} {c : Array Value} {t : TypeId} (h : w.heap[b]? = some (.cells c t (0, 0))) (k : Nat) : w.cell? ⟨b, k, none⟩ = c[k]? ∧ w.frozen? ⟨b, k, none⟩ = false := by
  constructor
  · simp [World.cell?, h]
  · simp [World.frozen?, h]
theorem row_set {w : World} {b : Nat} {c : Array Value} {t : TypeId} (h : w.heap[b]? = some (.cells c t (0, 0))) (k : Nat) (v : Value) : (w.setCell ⟨b, k, none⟩ v).heap[b]? = some (.cells (c.setIfInBounds k v) t (0, 0)) := by
  simp [World.setCell, Array.getElem?_modify, h]
theorem run_cells_row (w : World) (g : Nat) (t : TypeId) (old cells : Array Value) (hg : w.heap[g]? = some (.cells old t (0, 0))) (ho : old.size = cells.size) (h1 : cells.all (·.oneCell') = true) :
    (storeCells ⟨g, 0, none⟩ cells.toList).run Try.prog w = .ok () (w.setRow g cells) := by
  have := run_storeCells_from (P := Try.prog) g t cells.toList 0 old w hg (by simp; omega) (fun v hv => (Array.all_eq_true_iff_forall_mem.1 h1) v (by simpa using hv))
  simpa using this
/-- what With's loops keep -/
structure WiM (w wr : World) (a b c d : Int) (F G : Int → Int → Bool) (k : Int) : Prop where
  R : B4 wr (w.heap.size + 1) a b c d
  f : ∃ fc, wr.heap[w.heap.size]? = some (.cells fc 29 (0, 0)) ∧ Fv fc (mixF F G k)
  z : ∃ fc, wr.heap[w.heap.size + 2]? = some (.cells fc 29 (0, 0)) ∧ fc.size = 1600
  bel : Below w.heap.size w wr
theorem B4.setOther {w : World} {b g k : Nat} {A B C D : Int} (h : B4 w b A B C D) (hg : g ≠ b) (v : Value) : B4 (w.setCell ⟨g, k, none⟩ v).drew b A B C D := by
  obtain ⟨c0, c1, c2, c3, f0, f1, f2, f3⟩ := h
  have e : (w.setCell ⟨g, k, none⟩ v).drew.heap[b]? = w.heap[b]? := by
    show (w.setCell ⟨g, k, none⟩ v).heap[b]? = _
    simp [World.setCell, Array.getElem?_modify, hg]
  unfold World.cell? at c0 c1 c2 c3
  unfold World.frozen? at f0 f1 f2 f3
  dsimp only at c0 c1 c2 c3 f0 f1 f2 f3
  refine ⟨?_, ?_, ?_, ?_, ?_, ?_, ?_, ?_⟩
  all_goals
    first | unfold World.cell? | unfold World.frozen?
    dsimp only
    rw [e]
    assumption
theorem WiM.step {w wr : World} {a b c d : Int} {F G : Int → Int → Bool} {x y : Nat} (h : WiM w wr a b c d F G (40 * (y : Int) + x)) (hx : x < 40) (hy : y < 40) {v : Bool} (e : v = G x y) :
    WiM w (wr.setCell ⟨w.heap.size, y * 40 + x, none⟩ (.bool v)).drew a b c d F G (40 * (y : Int) + (x + 1 : Nat)) := by
  obtain ⟨R, ⟨fc, hf, hv⟩, ⟨zc, hz, sz⟩, bel⟩ := h
  refine ⟨R.setOther (by omega) _, ⟨_, row_set hf _ _, ?_⟩, ⟨zc, ?_, sz⟩, Below.drew (bel.setCell (Nat.le_refl _) _)⟩
  · have := hv.set hx hy e
    rwa [show 40 * y + x = y * 40 + x by omega] at this
  · show (wr.setCell ⟨w.heap.size, y * 40 + x, none⟩ (.bool v)).heap[w.heap.size + 2]? = _
    rw [← hz]
    simp [World.setCell, Array.getElem?_modify]
/-- what With makes of a pixel -/
def wiB (how : Int) (a b c d : Int) (F : Int → Int → Bool) (x y : Int) : Bool := if how = 0 then F x y || hasB a b c d x y else if how = 1 then F x y && !hasB a b c d x y else F x y && hasB a b c d x y
set_option maxHeartbeats 4000000 in
theorem with_any (how a b c d : Int) (fc : Array Value) (F : Int → Int → Bool) (hf : Fv fc F) (w : World) :
    Calls Try.prog 11 #[.agg fc, .agg #[.int .i64 a, .int .i64 b, .int .i64 c, .int .i64 d], .int .i64 how] w fun e w' => ∃ gc, e = .returned (.agg gc) ∧ Fv gc (wiB how a b c d F) ∧ Below w.heap.size w w' := by
  have HF := Lib.hid hf
  obtain ⟨G, hG⟩ : ∃ G, wiB how a b c d F = G := ⟨_, rfl⟩
  rw [hG]
  have HG := Lib.hid hG
  clear hf hG
  go_enter Try.func11, Try.ntmps11
  go_wp2_with fail
  go_loopw [7] (fun s7 wx => ∃ y : Nat, s7 = .int .i64 y ∧ y ≤ 40 ∧ Hid (WiM w wx a b c d F G (40 * (y : Int)))) (fun s7 _ => 40 - (intOf s7).toNat)
  case atStart =>
    refine ⟨0, rfl, by decide, Lib.hid ⟨by simpa only [World.size_alloc] using (B4.new (w.alloc (.cells fc 29)) a b c d 31).alloc (.cells Try.zeroCells29 29), ⟨fc, ?_, HF.out.mix0 G⟩, ⟨Try.zeroCells29, ?_, by decide +kernel⟩, by go_grown⟩⟩
    · show (((w.heap.push _).push _).push _)[w.heap.size]? = _
      simp [Array.getElem?_push]
      omega
    · show (((w.heap.push _).push _).push _)[w.heap.size + 2]? = _
      simp [Array.getElem?_push, Array.getElem_push]
  case round =>
    obtain ⟨y, rfl, hy, hW⟩ := hrel
    by_cases y40 : y = 40
    · subst y40
      obtain ⟨R, ⟨gc, hg, hv⟩, ⟨zc, hz, sz⟩, bel⟩ := hW.out
      have sg := hv.size
      clear hW
      go_wp2_with fail
      refine wp_load_row 29 (.tmp 3) rfl w.heap.size rfl 29 gc (0, 0) (.array 40 27) hg (by kernel_rfl) rfl (by rw [sg]; kernel_rfl) ?_
      go_wp2_with fail
      rw [run_cells_row wr (w.heap.size + 1 + 1) 29 zc gc hz (by rw [sz, sg]) hv.bools]
      go_wp2_with fail
      refine bodyPost_ret (results_cell_row (p := 6) rfl _ _ (w.heap.size + 2) 29 gc (0, 0) (.array 40 27) rfl (setRow_heap _ _ zc gc _ _ hz) (by kernel_rfl) rfl (by rw [sg]; kernel_rfl)) rfl ?_
      exact ⟨gc, rfl, hv.mixAll, below_setRow bel (by omega) gc⟩
    · have yl : y < 40 := by omega
      have yi : (y : Int) < 40 := by omega
      go_wp2_with fail
      go_loopw [8] (fun s8 wx => ∃ x : Nat, s8 = .int .i64 x ∧ x ≤ 40 ∧ Hid (WiM w wx a b c d F G (40 * (y : Int) + x))) (fun s8 _ => 40 - (intOf s8).toNat)
      case atStart => exact ⟨0, rfl, by decide, hW⟩
      case round =>
        clear hW
        obtain ⟨x, rfl, hx, hW⟩ := hrel
        by_cases x40 : x = 40
        · subst x40
          go_wp2_with fail
          go_roundw
          case rel => exact ⟨y + 1, by simp, by omega, by have := hW.out; rw [show 40 * (((y + 1 : Nat)) : Int) = 40 * (y : Int) + ((40 : Nat) : Int) by omega]; exact hW⟩
          case measure => simp [intOf]; omega
        · have xl : x < 40 := by omega
          have xi : (x : Int) < 40 := by omega
          obtain ⟨⟨k0, k1, k2, k3, f0, f1, f2, f3⟩, ⟨gc, hg, hv⟩, hz, bel⟩ := hW.out
          have cs : (a ≤ (x : Int) ∧ (x : Int) < c ∧ b ≤ (y : Int) ∧ (y : Int) < d ∧ hasB a b c d x y = true) ∨ ((x : Int) < a ∧ hasB a b c d x y = false) ∨ (a ≤ (x : Int) ∧ c ≤ (x : Int) ∧ hasB a b c d x y = false) ∨ (a ≤ (x : Int) ∧ (x : Int) < c ∧ (y : Int) < b ∧ hasB a b c d x y = false) ∨ (a ≤ (x : Int) ∧ (x : Int) < c ∧ b ≤ (y : Int) ∧ d ≤ (y : Int) ∧ hasB a b c d x y = false) := by
            unfold hasB
            by_cases p1 : a ≤ (x : Int) <;> by_cases p2 : (x : Int) < c <;> by_cases p3 : b ≤ (y : Int) <;> by_cases p4 : (y : Int) < d <;> simp [p1, p2, p3, p4] <;> omega
          have g1 := hv.get x y xl yl
          rw [mixF_at] at g1
          obtain ⟨f, hfe⟩ : ∃ f, hasB a b c d x y = f := ⟨_, rfl⟩
          obtain ⟨p, hp⟩ : ∃ p, F x y = p := ⟨_, rfl⟩
          rw [hp, show 40 * y + x = y * 40 + x by omega] at g1
          have GE : Hid (G x y = if how = 0 then p || f else if how = 1 then p && !f else p && f) := Lib.hid (by rw [← HG.out, wiB, hfe, hp])
          rw [hfe] at cs
          have HV := Lib.hid hv
          have BL := Lib.hid bel
          have HZ := Lib.hid hz
          obtain ⟨q1, q2⟩ := cell_row hg (y * 40 + x)
          rw [g1] at q1
          clear hfe hp hv bel hz g1 HG HF
          go_upto_region 7 with fail
          go_cut [9] (fun s9 wx => s9 = .bool f ∧ wx = wr)
          case first =>
            rcases cs with ⟨h1, h2, h3, h4, rfl⟩ | ⟨h1, rfl⟩ | ⟨h1, h2, rfl⟩ | ⟨h1, h2, h3, rfl⟩ | ⟨h1, h2, h3, h4, rfl⟩
            all_goals
              go_wp2_with fail
              go_meet
              exact ⟨by first | rfl | (simp; done) | (simp; omega), rfl⟩
          case rest =>
            clear cs
            obtain ⟨rfl, rfl⟩ := hcut
            by_cases hw0 : how = 0
            · subst hw0
              cases p
              all_goals
                go_wp2_with fail
                go_region
                all_goals
                  go_wp2_with fail
                  go_roundw
                  case rel => exact ⟨x + 1, by simp, by omega, Lib.hid (hW.out.step xl yl (by rw [GE.out]; simp))⟩
                  case measure => simp [intOf]; omega
            · by_cases hw1 : how = 1
              · subst hw1
                cases p
                all_goals
                  go_wp2_with fail
                  go_region
                  all_goals
                    go_wp2_with fail
                    go_roundw
                    case rel => exact ⟨x + 1, by simp, by omega, Lib.hid (hW.out.step xl yl (by rw [GE.out]; simp))⟩
                    case measure => simp [intOf]; omega
              · cases p
                all_goals
                  go_wp2_with fail
                  go_region
                  all_goals
                    go_wp2_with fail
                    go_roundw
                    case rel => exact ⟨x + 1, by simp, by omega, Lib.hid (hW.out.step xl yl (by rw [GE.out]; simp [hw0, hw1]))⟩
                    case measure => simp [intOf]; omega
end Go.Proofs.Ytjemnjboopabpaa
/- The reference's field: empty rows, how many pixels, moved. -/
namespace Go.Proofs.Ytjemnjboopabpaa
open Go.RowKit Go.Proofs.Reg
set_option linter.unusedVariables false
set_option linter.unusedSimpArgs false
set_option maxRecDepth 100000
/-- 40 cells read as a row -/
structure Fr (c : Array Value) (P : Int → Bool) : Prop where
  size : c.size = 40
  get : ∀ x : Nat, x < 40 → c[x]? = some (.bool (P x))
/-- what none's loop keeps -/
structure NoM (w wr : World) (c : Array Value) (P : Int → Bool) (k : Nat) : Prop where
  f : wr.heap[w.heap.size]? = some (.cells c 27 (0, 0))
  n : ∀ x : Nat, x < k → P x = false
  bel : Below w.heap.size w wr
theorem none_any (c : Array Value) (P : Int → Bool) (hc : Fr c P) (w : World) :
    Calls Try.prog 78 #[.agg c] w fun e w' => ∃ b : Bool, e = .returned (.bool b) ∧ (b = true ↔ ∀ x : Nat, x < 40 → P x = false) ∧ Below w.heap.size w w' := by
  have HC := Lib.hid hc
  clear hc
  go_enter Try.func78, Try.ntmps78
  go_wp2_with fail
  go_loopw [3] (fun s3 wx => ∃ x : Nat, s3 = .int .i64 x ∧ x ≤ 40 ∧ Hid (NoM w wx c P x)) (fun s3 _ => 40 - (intOf s3).toNat)
  case atStart =>
    refine ⟨0, rfl, by decide, Lib.hid ⟨?_, fun x h => absurd h (by omega), by go_grown⟩⟩
    show (w.heap.push _)[w.heap.size]? = _
    simp [Array.getElem?_push]
  case round =>
    obtain ⟨x, rfl, hx, hW⟩ := hrel
    by_cases x40 : x = 40
    · subst x40
      go_wp2_with fail
      go_returns
      exact ⟨true, rfl, by simpa using hW.out.n, hW.out.bel⟩
    · have xl : x < 40 := by omega
      have xi : (x : Int) < 40 := by omega
      have g1 := (cell_row hW.out.f x).1
      rw [HC.out.get x xl] at g1
      obtain ⟨p, hp⟩ : ∃ p, P x = p := ⟨_, rfl⟩
      rw [hp] at g1
      have HP := Lib.hid hp
      clear hp
      cases p
      · go_wp2_with fail
        go_roundw
        case rel => exact ⟨x + 1, by simp, by omega, Lib.hid ⟨hW.out.f, fun z hz => by
          rcases Nat.lt_succ_iff_lt_or_eq.1 hz with h | h
          · exact hW.out.n z h
          · subst h; exact HP.out, hW.out.bel⟩⟩
        case measure => simp [intOf]; omega
      · go_wp2_with fail
        go_returns
        exact ⟨false, rfl, ⟨fun h => absurd h (by decide), fun h => by have := h x xl; rw [HP.out] at this; exact absurd this (by decide)⟩, hW.out.bel⟩
/-- how many places before the k-th are pixels -/
def cntF (F : Int → Int → Bool) : Nat → Nat
  | 0 => 0
  | k + 1 => cntF F k + if F ((k % 40 : Nat) : Int) ((k / 40 : Nat) : Int) then 1 else 0
theorem cntF_le (F : Int → Int → Bool) (k : Nat) : cntF F k ≤ k := by
  induction k with
  | zero => exact Nat.le_refl _
  | succ k ih => unfold cntF; split <;> omega
theorem cntF_step (F : Int → Int → Bool) {x y : Nat} (hx : x < 40) : cntF F (40 * y + (x + 1)) = cntF F (40 * y + x) + if F x y then 1 else 0 := by
  show cntF F (40 * y + x) + (if F (((40 * y + x) % 40 : Nat) : Int) (((40 * y + x) / 40 : Nat) : Int) then 1 else 0) = _
  rw [show (40 * y + x) % 40 = x by omega, show (40 * y + x) / 40 = y by omega]
structure CoM (w wr : World) (c : Array Value) : Prop where
  f : wr.heap[w.heap.size]? = some (.cells c 29 (0, 0))
  bel : Below w.heap.size w wr
theorem count_any (c : Array Value) (F : Int → Int → Bool) (hc : Fv c F) (w : World) :
    Calls Try.prog 47 #[.agg c] w fun e w' => e = .returned (.int .i64 (cntF F 1600)) ∧ Below w.heap.size w w' := by
  have HC := Lib.hid hc
  clear hc
  go_enter Try.func47, Try.ntmps47
  go_wp2_with fail
  go_loopw [3, 4] (fun s3 s4 wx => ∃ y : Nat, s3 = .int .i64 (cntF F (40 * y)) ∧ s4 = .int .i64 y ∧ y ≤ 40 ∧ Hid (CoM w wx c)) (fun _ s4 _ => 40 - (intOf s4).toNat)
  case atStart =>
    refine ⟨0, rfl, rfl, by decide, Lib.hid ⟨?_, by go_grown⟩⟩
    show (w.heap.push _)[w.heap.size]? = _
    simp [Array.getElem?_push]
  case round =>
    obtain ⟨y, rfl, rfl, hy, hW⟩ := hrel
    by_cases y40 : y = 40
    · subst y40
      go_wp2_with fail
      go_returns
      exact ⟨rfl, hW.out.bel⟩
    · have yl : y < 40 := by omega
      have yi : (y : Int) < 40 := by omega
      go_wp2_with fail
      go_loopw [3, 5] (fun s3 s5 wx => ∃ x n : Nat, s3 = .int .i64 n ∧ s5 = .int .i64 x ∧ x ≤ 40 ∧ Hid (n = cntF F (40 * y + x)) ∧ Hid (CoM w wx c)) (fun _ s5 _ => 40 - (intOf s5).toNat)
      case atStart => exact ⟨0, _, rfl, rfl, by decide, Lib.hid rfl, hW⟩
      case round =>
        clear hW
        obtain ⟨x, n, rfl, rfl, hx, hn, hW⟩ := hrel
        by_cases x40 : x = 40
        · subst x40
          go_wp2_with fail
          go_roundw
          case rel => exact ⟨y + 1, by rw [hn.out, show 40 * (y + 1) = 40 * y + 40 by omega], by simp, by omega, hW⟩
          case measure => simp [intOf]; omega
        · have xl : x < 40 := by omega
          have xi : (x : Int) < 40 := by omega
          have nl : (n : Int) ≤ 1600 := by have := cntF_le F (40 * y + x); rw [← hn.out] at this; omega
          have g1 := (cell_row hW.out.f (y * 40 + x)).1
          have g2 := HC.out.get x y xl yl
          rw [show 40 * y + x = y * 40 + x by omega] at g2
          rw [g2] at g1
          clear g2
          have st := cntF_step F (y := y) xl
          rw [← hn.out] at st
          obtain ⟨p, hp⟩ : ∃ p, F x y = p := ⟨_, rfl⟩
          rw [hp] at g1 st
          have ST := Lib.hid st
          clear hp st
          cases p
          · go_wp2_with fail
            go_roundw
            case rel => exact ⟨x + 1, n, by simp, by simp, by omega, Lib.hid (by rw [ST.out]; simp), hW⟩
            case measure => simp [intOf]; omega
          · go_wp2_with fail
            go_roundw
            case rel => exact ⟨x + 1, n + 1, by simp, by simp, by omega, Lib.hid (by rw [ST.out]; simp), hW⟩
            case measure => simp [intOf]; omega
end Go.Proofs.Ytjemnjboopabpaa
/- The reference's field: moved. -/
namespace Go.Proofs.Ytjemnjboopabpaa
open Go.RowKit Go.Proofs.Reg
set_option linter.unusedVariables false
set_option linter.unusedSimpArgs false
set_option maxRecDepth 100000
theorem Fv.skip {c : Array Value} {F G : Int → Int → Bool} {x y : Nat} (h : Fv c (mixF F G (40 * (y : Int) + x))) (hx : x < 40) (hy : y < 40) (e : F x y = G x y) : Fv c (mixF F G (40 * (y : Int) + (x + 1 : Nat))) :=
  h.congr fun u v hu hv => by
    unfold mixF
    by_cases q : 40 * (v : Int) + u < 40 * (y : Int) + x
    · rw [if_pos q, if_pos (by omega)]
    · rw [if_neg q]
      by_cases p : 40 * (v : Int) + u < 40 * (y : Int) + (x + 1 : Nat)
      · have h1 : v = y := by omega
        have h2 : u = x := by omega
        subst h1 h2
        rw [if_pos p, e]
      · rw [if_neg p]
theorem zero_field : Fv Try.zeroCells29 (fun _ _ => false) := by
  have e : Try.zeroCells29 = Array.replicate 1600 (Value.bool false) := by kernel_rfl
  rw [e]
  refine ⟨by simp, fun x y hx hy => ?_⟩
  rw [Array.getElem?_replicate, if_pos (by omega)]
/-- a field moved -/
def mvF (dx dy : Int) (F : Int → Int → Bool) (x y : Int) : Bool := decide (0 ≤ x - dx) && decide (x - dx < 40) && decide (0 ≤ y - dy) && decide (y - dy < 40) && F (x - dx) (y - dy)
/-- what Moved's loops keep -/
structure MvM (w wr : World) (c : Array Value) (G : Int → Int → Bool) (k : Int) : Prop where
  f : wr.heap[w.heap.size]? = some (.cells c 29 (0, 0))
  z : ∃ fc, wr.heap[w.heap.size + 1]? = some (.cells fc 29 (0, 0)) ∧ fc.size = 1600
  g : ∃ fc, wr.heap[w.heap.size + 2]? = some (.cells fc 29 (0, 0)) ∧ Fv fc (mixF (fun _ _ => false) G k)
  bel : Below w.heap.size w wr
theorem MvM.step {w wr : World} {c : Array Value} {G : Int → Int → Bool} {x y : Nat} (h : MvM w wr c G (40 * (y : Int) + x)) (hx : x < 40) (hy : y < 40) {v : Bool} (e : v = G x y) :
    MvM w (wr.setCell ⟨w.heap.size + 1 + 1, y * 40 + x, none⟩ (.bool v)).drew c G (40 * (y : Int) + (x + 1 : Nat)) := by
  obtain ⟨hf, ⟨zc, hz, sz⟩, ⟨gc, hg, hv⟩, bel⟩ := h
  refine ⟨?_, ⟨zc, ?_, sz⟩, ⟨_, row_set hg _ _, ?_⟩, Below.drew (bel.setCell (by show w.heap.size ≤ w.heap.size + 1 + 1; omega) _)⟩
  · show (wr.setCell ⟨w.heap.size + 1 + 1, y * 40 + x, none⟩ (.bool v)).heap[w.heap.size]? = _
    rw [← hf]
    simp [World.setCell, Array.getElem?_modify]
    omega
  · show (wr.setCell ⟨w.heap.size + 1 + 1, y * 40 + x, none⟩ (.bool v)).heap[w.heap.size + 1]? = _
    rw [← hz]
    simp [World.setCell, Array.getElem?_modify]
  · have := hv.set hx hy e
    rwa [show 40 * y + x = y * 40 + x by omega] at this
theorem MvM.skip {w wr : World} {c : Array Value} {G : Int → Int → Bool} {x y : Nat} (h : MvM w wr c G (40 * (y : Int) + x)) (hx : x < 40) (hy : y < 40) (e : false = G x y) :
    MvM w wr c G (40 * (y : Int) + (x + 1 : Nat)) := by
  obtain ⟨hf, hz, ⟨gc, hg, hv⟩, bel⟩ := h
  exact ⟨hf, hz, ⟨gc, hg, hv.skip hx hy e⟩, bel⟩
set_option maxHeartbeats 4000000 in
theorem moved7_any (dx dy : Int) (x0 : -1000 ≤ dx) (x1 : dx ≤ 1000) (y0 : -1000 ≤ dy) (y1 : dy ≤ 1000) (fc : Array Value) (F : Int → Int → Bool) (hf : Fv fc F) (w : World) :
    Calls Try.prog 14 #[.agg fc, .int .i64 dx, .int .i64 dy] w fun e w' => ∃ gc, e = .returned (.agg gc) ∧ Fv gc (mvF dx dy F) ∧ Below w.heap.size w w' := by
  have HF := Lib.hid hf
  obtain ⟨G, hG⟩ : ∃ G, mvF dx dy F = G := ⟨_, rfl⟩
  rw [hG]
  have HG := Lib.hid hG
  clear hf hG
  go_enter Try.func14, Try.ntmps14
  go_wp2_with fail
  go_loopw [8] (fun s8 wx => ∃ y : Nat, s8 = .int .i64 y ∧ y ≤ 40 ∧ Hid (MvM w wx fc G (40 * (y : Int)))) (fun s8 _ => 40 - (intOf s8).toNat)
  case atStart =>
    refine ⟨0, rfl, by decide, Lib.hid ⟨?_, ⟨Try.zeroCells29, ?_, by decide +kernel⟩, ⟨Try.zeroCells29, ?_, zero_field.mix0 G⟩, by go_grown⟩⟩
    · show (((w.heap.push _).push _).push _)[w.heap.size]? = _
      simp [Array.getElem?_push]
      omega
    · show (((w.heap.push _).push _).push _)[w.heap.size + 1]? = _
      simp [Array.getElem?_push, Array.getElem_push]
    · show (((w.heap.push _).push _).push _)[w.heap.size + 2]? = _
      simp [Array.getElem?_push, Array.getElem_push]
  case round =>
    obtain ⟨y, rfl, hy, hW⟩ := hrel
    by_cases y40 : y = 40
    · subst y40
      obtain ⟨hs, ⟨zc, hz, sz⟩, ⟨gc, hg, hv⟩, bel⟩ := hW.out
      have sg := hv.size
      clear hW
      go_wp2_with fail
      refine wp_load_row 29 (.tmp 7) rfl (w.heap.size + 1 + 1) rfl 29 gc (0, 0) (.array 40 27) hg (by kernel_rfl) rfl (by rw [sg]; kernel_rfl) ?_
      go_wp2_with fail
      rw [run_cells_row wr (w.heap.size + 1) 29 zc gc hz (by rw [sz, sg]) hv.bools]
      go_wp2_with fail
      refine bodyPost_ret (results_cell_row (p := 6) rfl _ _ (w.heap.size + 1) 29 gc (0, 0) (.array 40 27) rfl (setRow_heap _ _ zc gc _ _ hz) (by kernel_rfl) rfl (by rw [sg]; kernel_rfl)) rfl ?_
      exact ⟨gc, rfl, hv.mixAll, below_setRow bel (by omega) gc⟩
    · have yl : y < 40 := by omega
      have yi : (y : Int) < 40 := by omega
      go_wp2_with fail
      go_loopw [9] (fun s9 wx => ∃ x : Nat, s9 = .int .i64 x ∧ x ≤ 40 ∧ Hid (MvM w wx fc G (40 * (y : Int) + x))) (fun s9 _ => 40 - (intOf s9).toNat)
      case atStart => exact ⟨0, rfl, by decide, hW⟩
      case round =>
        clear hW
        obtain ⟨x, rfl, hx, hW⟩ := hrel
        by_cases x40 : x = 40
        · subst x40
          go_wp2_with fail
          go_roundw
          case rel => exact ⟨y + 1, by simp, by omega, by have := hW.out; rw [show 40 * (((y + 1 : Nat)) : Int) = 40 * (y : Int) + ((40 : Nat) : Int) by omega]; exact hW⟩
          case measure => simp [intOf]; omega
        · have xl : x < 40 := by omega
          have xi : (x : Int) < 40 := by omega
          have ge : mvF dx dy F x y = G x y := by rw [HG.out]
          obtain ⟨p, hp⟩ : ∃ p : Int, (x : Int) - dx = p := ⟨_, rfl⟩
          obtain ⟨q, hq⟩ : ∃ q : Int, (y : Int) - dy = q := ⟨_, rfl⟩
          unfold mvF at ge
          rw [hp, hq] at ge
          have cs : (0 ≤ p ∧ p < 40 ∧ 0 ≤ q ∧ q < 40 ∧ F p q = G x y) ∨ (p < 0 ∧ false = G x y) ∨ (0 ≤ p ∧ 40 ≤ p ∧ false = G x y) ∨ (0 ≤ p ∧ p < 40 ∧ q < 0 ∧ false = G x y) ∨ (0 ≤ p ∧ p < 40 ∧ 0 ≤ q ∧ 40 ≤ q ∧ false = G x y) := by
            rw [← ge]
            by_cases p1 : 0 ≤ p <;> by_cases p2 : p < 40 <;> by_cases p3 : 0 ≤ q <;> by_cases p4 : q < 40 <;> simp [p1, p2, p3, p4] <;> omega
          clear ge
          rcases cs with ⟨h1, h2, h3, h4, h5⟩ | ⟨h1, h5⟩ | ⟨h1, h2, h5⟩ | ⟨h1, h2, h3, h5⟩ | ⟨h1, h2, h3, h4, h5⟩
          · obtain ⟨pn, rfl⟩ := Int.eq_ofNat_of_zero_le h1
            obtain ⟨qn, rfl⟩ := Int.eq_ofNat_of_zero_le h3
            have g1 := (cell_row hW.out.f (qn * 40 + pn)).1
            have g2 := HF.out.get pn qn (by omega) (by omega)
            rw [show 40 * qn + pn = qn * 40 + pn by omega, h5] at g2
            rw [g2] at g1
            obtain ⟨gc, hg, hv⟩ := hW.out.g
            have g3 := (cell_row hg (y * 40 + x)).1
            have q3 := (cell_row hg (y * 40 + x)).2
            have g4 := hv.get x y xl yl
            rw [show 40 * y + x = y * 40 + x by omega] at g4
            rw [g4] at g3
            clear g2 g4 h5 hg hv
            go_wp2_with fail
            go_region
            all_goals
              go_wp2_with fail
              go_roundw
              case rel => exact ⟨x + 1, by simp, by omega, Lib.hid (hW.out.step xl yl rfl)⟩
              case measure => simp [intOf]; omega
          all_goals
            have H5 := Lib.hid h5
            clear h5
            go_wp2_with fail
            go_roundw
            case rel => exact ⟨x + 1, by simp, by omega, Lib.hid (hW.out.skip xl yl H5.out)⟩
            case measure => simp [intOf]; omega
end Go.Proofs.Ytjemnjboopabpaa
/- The reference's field: rows loaded and compared. -/
namespace Go.Proofs.Ytjemnjboopabpaa
open Go.RowKit Go.Proofs.Reg
set_option linter.unusedVariables false
set_option linter.unusedSimpArgs false
set_option maxRecDepth 100000
/-- a row of a field -/
def rowC (c : Array Value) (y : Nat) : Array Value := c.extract (y * 40) (y * 40 + 40)
theorem Fv.row {c : Array Value} {F : Int → Int → Bool} (h : Fv c F) {y : Nat} (hy : y < 40) : Fr (rowC c y) (fun x => F x y) := by
  have s := h.size
  refine ⟨by unfold rowC; rw [Array.size_extract]; omega, fun x hx => ?_⟩
  unfold rowC
  rw [Array.getElem?_extract, if_pos (by omega), ← show 40 * y + x = y * 40 + x by omega]
  exact h.get x y hx hy
theorem run_row {w : World} {b : Nat} {c : Array Value} {t : TypeId} {F : Int → Int → Bool} (hb : w.heap[b]? = some (.cells c t (0, 0))) (h : Fv c F) {y : Nat} (hy : y < 40) :
    (loadCells ⟨b, y * 40, none⟩ 40).run Try.prog w = .ok (rowC c y) w := by
  have r := h.row hy
  have e := run_loadCells_list (P := Try.prog) w ⟨b, y * 40, none⟩ (rowC c y).toList (fun j v hv => by
    rw [Addr.add_mid, (cell_row hb _).1]
    rw [Array.getElem?_toList] at hv
    have hj : j < 40 := by rw [← r.size]; exact (Array.getElem?_eq_some_iff.1 hv).1
    rw [← hv]
    unfold rowC
    rw [Array.getElem?_extract, if_pos (by have := h.size; omega)])
  rw [Array.length_toList, r.size] at e
  simpa using e
theorem row_held {w : World} {b : Nat} {c : Array Value} {t : TypeId} {F : Int → Int → Bool} (hb : w.heap[b]? = some (.cells c t (0, 0))) (h : Fv c F) {y : Nat} (hy : y < 40) : w.rangeAt b (y * 40) (rowC c y).toList ∧ (Try.prog.info? 27).map (·.size) = some (rowC c y).toList.length := by
  have r := h.row hy
  refine ⟨fun j v hv => ?_, by rw [Array.length_toList, r.size]; kernel_rfl⟩
  rw [(cell_row hb _).1]
  rw [Array.getElem?_toList] at hv
  have hj : j < 40 := by rw [← r.size]; exact (Array.getElem?_eq_some_iff.1 hv).1
  rw [← hv]
  unfold rowC
  rw [Array.getElem?_extract, if_pos (by have := h.size; omega)]
theorem run_row_var {w : World} {b : Nat} {c : Array Value} {t : TypeId} {F : Int → Int → Bool} (hb : w.heap[b]? = some (.cells c t (0, 0))) (h : Fv c F) {y : Nat} (hy : y < 40) :
    (loadVar 27 ⟨b, y * 40, none⟩).run Try.prog w = .ok (.agg (rowC c y)) w := by
  have r := h.row hy
  have := run_loadVar_mid (P := Try.prog) w b (y * 40) 27 (rowC c y).toList (.array 40 4) (fun j v hv => by
    rw [(cell_row hb _).1]
    rw [Array.getElem?_toList] at hv
    have hj : j < 40 := by rw [← r.size]; exact (Array.getElem?_eq_some_iff.1 hv).1
    rw [← hv]
    unfold rowC
    rw [Array.getElem?_extract, if_pos (by have := h.size; omega)]) (by kernel_rfl) rfl (by rw [Array.length_toList, r.size]; kernel_rfl)
  simpa using this
theorem load_row7 {w : World} {b : Nat} {c : Array Value} {t : TypeId} {F : Int → Int → Bool} (hb : w.heap[b]? = some (.cells c t (0, 0))) (h : Fv c F) {y : Nat} (hy : y < 40) :
    (Instr.loadAt 27 (.pointer (some ⟨b, y * 40, none⟩))).run Try.prog w = .ok (.agg (rowC c y)) w := by
  have := run_row_var hb h hy
  simp [Instr.loadAt, Instr.sureAddr, this]
theorem index_row7 (b : Nat) {y : Nat} (hy : y < 40) (w : World) : (Instr.indexAt 29 (.pointer (some ⟨b, 0, none⟩)) (.int .i64 (y : Int))).run Try.prog w = .ok (.pointer (some ⟨b, y * 40, none⟩)) w := by
  have yi : (y : Int) < 40 := by omega
  simp [go_sem, yi, Addr.add]
  exact fun h => h.symm
theorem eqItems_bools (d : Nat) (xs ys : Array Value) (P Q : Int → Bool) (w : World) : ∀ is : List Nat, (∀ i ∈ is, xs[i]? = some (.bool (P i)) ∧ ys[i]? = some (.bool (Q i))) →
    (Op.eqItems (d + 1) 4 1 xs ys is).run Try.prog w = .ok (is.all fun i => P i == Q i) w
  | [], _ => by simp [Op.eqItems]
  | i :: is, h => by
    have ih := eqItems_bools d xs ys P Q w is fun j m => h j (by simp [m])
    obtain ⟨h1, h2⟩ := h i (by simp)
    have hu : Try.prog.underlying 4 = some .bool := by kernel_rfl
    have pa : ∀ (zs : Array Value) (p : Bool), zs[i]? = some (.bool p) → (part 4 zs (i * 1)).run Try.prog w = .ok (.bool p) w := fun zs p hz => by
      have ia : (isAgg 4).run Try.prog w = .ok false w := by
        unfold isAgg
        rw [Sem.run_bind, run_underlying hu w]
        simp
      unfold part
      rw [Sem.run_bind, ia]
      simp [hz]
    simp only [Op.eqItems, Sem.run_bind, pa xs _ h1, pa ys _ h2, Result.andThen_ok, run_equalIn_bool w d _ _ _ hu]
    rw [List.all_cons]
    cases (P i == Q i)
    · simp
    · simpa using ih
theorem rows_eql {c d : Array Value} {P Q : Int → Bool} (hc : Fr c P) (hd : Fr d Q) (w : World) :
    (binOp BinOp.eql 27 (.agg c) (.agg d)).run Try.prog w = .ok (.bool ((List.range 40).all fun i => P i == Q i)) w := by
  obtain ⟨i, hi, hk⟩ : ∃ i, Try.prog.info? 4 = some i ∧ Try.prog.cellsOf 4 = 1 := by
    cases h : Try.prog.info? 4 with
    | none =>
      have : (Try.prog.info? 4).isSome = true := by kernel_rfl
      rw [h] at this
      cases this
    | some i => exact ⟨i, rfl, by kernel_rfl⟩
  rw [run_eql_struct, run_equalIn_array w 9999 _ _ (P := Try.prog) (t := 27) (e := 4) (n := 40) (by kernel_rfl) hi, hk, eqItems_bools 9998 c d P Q w (List.range 40) (fun i m => by
    have := List.mem_range.1 m
    exact ⟨hc.get i this, hd.get i this⟩)]
  rfl
theorem all40 {P Q : Int → Bool} : ((List.range 40).all fun i => P i == Q i) = true ↔ ∀ x : Nat, x < 40 → P x = Q x := by
  rw [List.all_eq_true]
  simp
end Go.Proofs.Ytjemnjboopabpaa
