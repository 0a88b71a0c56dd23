/- The walk of WordsScale. Made by gen/wordm.py. -/
import Derived.Test.YtbolifjkhoiphaaDoorWordL
import Derived.Test.YtbolifjkhoiphaaDoorWordK
import Derived.Test.YtbolifjkhoiphaaDoorAppB
import Derived.WalkKit
import Derived.WalkSpells
import Derived.WalkLawsBesides
import Derived.Handy
import Derived.Lib.Hide
import Derived.Deep.QuietTactic
import Derived.BigQuiet
import Derived.LoopTactic
import Derived.Outline
namespace Go.Proofs.YtbolifjkhoiphaaDoor
open Go.RowKit Go.Proofs.Reg Go.Proofs.Big Go.Proofs.Flo
set_option linter.unusedVariables false
set_option linter.unusedSimpArgs false
set_option maxRecDepth 100000
def WK : Rk W3 := ⟨3, fun r => [.int .i64 r.1, .int .i64 r.2.1, .bool r.2.2], fun _ => rfl, fun r u hu => by simp at hu; rcases hu with rfl | rfl | rfl <;> rfl⟩
theorem WK.ws {w : World} {v : Value} {rs : List W3} (h : KS WK w v rs) : WS w v rs := by
  obtain ⟨a, n, c, rfl, hn, hc, hm, h5⟩ := h
  refine ⟨a, n, c, rfl, hn, hc, hm, fun q => ?_⟩
  obtain ⟨g, o, rfl, hk⟩ := h5 q
  exact ⟨g, o, rfl, fun k r hr => ⟨hk k r hr 0 _ rfl, hk k r hr 1 _ rfl, hk k r hr 2 _ rfl⟩⟩
theorem ws_len {w : World} {a : Option Addr} {n c : Nat} {l : List W3} (h : WS w (.slice a n c) l) : n = l.length ∧ n ≤ c ∧ c ≤ 9223372036854775807 := by
  obtain ⟨a', n', c', e, hn, hc, hm, h5⟩ := h
  simp only [Value.slice.injEq] at e
  obtain ⟨rfl, rfl, rfl⟩ := e
  exact ⟨hn, hc, hm⟩
theorem ws_at {w : World} {a : Option Addr} {n c : Nat} {l : List W3} (h : WS w (.slice a n c) l) {k : Nat} (lt : k < n) : ∃ g o x y z, a = some ⟨g, o, none⟩ ∧ l[k]? = some (x, y, z) ∧ w.cell? ⟨g, o + k * 3, none⟩ = some (.int .i64 x) ∧ w.cell? ⟨g, o + k * 3 + 1, none⟩ = some (.int .i64 y) ∧ w.cell? ⟨g, o + k * 3 + 2, none⟩ = some (.bool z) := by
  obtain ⟨a', n', c', e, hn, hc, hm, h5⟩ := h
  simp only [Value.slice.injEq] at e
  obtain ⟨rfl, rfl, rfl⟩ := e
  obtain ⟨g, o, rfl, hk⟩ := h5 (by omega)
  obtain ⟨⟨x, y, z⟩, hr⟩ : ∃ r, l[k]? = some r := ⟨_, List.getElem?_eq_getElem (by omega)⟩
  obtain ⟨x0, x1, x2⟩ := hk k _ hr
  exact ⟨g, o, x, y, z, rfl, hr, x0, x1, x2⟩
def In3 (r : W3) : Prop := (-9223372036854775808 ≤ r.1 ∧ r.1 ≤ 9223372036854775807) ∧ (-9223372036854775808 ≤ r.2.1 ∧ r.2.1 ≤ 9223372036854775807)
/-- Try of the law's closure -/
theorem try_scale12 (bi bp bq bg : Nat) (p q : Int) (p0 : -9223372036854775808 ≤ p) (p1 : p ≤ 9223372036854775807) (q0 : -9223372036854775808 ≤ q) (q1 : q ≤ 9223372036854775807) (v : Value) (ws out : List W3) (er : Int) (w : World) (hv : w.cell? ⟨bi, 0, none⟩ = some v) (hp : w.cell? ⟨bp, 0, none⟩ = some (.int .i64 p)) (hq : w.cell? ⟨bq, 0, none⟩ = some (.int .i64 q)) (hg : Var w ⟨bg, 0, none⟩ (.slice none 0 0)) (h : WS w v ws)
    (hi : ∀ r ∈ ws, In3 r) (hl : ws.length ≤ 1000) (hs : IsSc p q ws out er) :
    Calls Tryd.prog 18 #[.func (.func 19) #[] #[.pointer (some ⟨bi, 0, none⟩), .pointer (some ⟨bp, 0, none⟩), .pointer (some ⟨bq, 0, none⟩), .pointer (some ⟨bg, 0, none⟩)]] w fun e w' => e = .returned (.int .i64 er) ∧ But [bg] w w' ∧ ∃ u, w'.cell? ⟨bg, 0, none⟩ = some u ∧ WS w' u out := by
  have ba : Below w.heap.size w (w.alloc (.cells #[.int .i64 0] 37)) := (Below.refl _ _).alloc (Nat.le_refl _) _
  have lg : bg < w.heap.size := hg.lt
  have C := scale12_in bi bp bq bg p q p0 p1 q0 q1 v ws out er _ (cell_on ba hv) (cell_on ba hp) (cell_on ba hq) (hg.later ba) (h.later ba) hi hl hs
  have ns : w.heap.size ∉ [bg] := fun m => by simp at m; omega
  have ne : (⟨w.heap.size, 0, none⟩ : Addr) ≠ ⟨bg, 0, none⟩ := fun e => by injection e with e; omega
  have E : ∀ w', But [bg] (w.alloc (.cells #[.int .i64 0] 37)) w' → w'.cell? ⟨w.heap.size, 0, none⟩ = some (.int .i64 0) ∧ w'.frozen? ⟨w.heap.size, 0, none⟩ = false := fun w' hb => by
    have := (Var.new w (.int .i64 0) 37).but hb ns
    exact ⟨this.c, this.z⟩
  have FI : ∀ (w2 : World) (x : Value), ScQ bg (w.alloc (.cells #[.int .i64 0] 37)).heap.size (w.alloc (.cells #[.int .i64 0] 37)) out w2 → But [bg] w (w2.setCell ⟨w.heap.size, 0, none⟩ x) ∧ ∃ u, (w2.setCell ⟨w.heap.size, 0, none⟩ x).cell? ⟨bg, 0, none⟩ = some u ∧ WS (w2.setCell ⟨w.heap.size, 0, none⟩ x) u out := fun w2 x hq => by
    obtain ⟨hb, u, hu, hw, hbl⟩ := hq
    have h1 : But [bg] w (w.alloc (.cells #[.int .i64 0] 37)) := (But.refl [bg] w).alloc _
    exact ⟨(h1.trans hb).setCell (.inr (Nat.le_refl _)) _, u, by rw [World.cell?_setCell_other _ _ _ _ ne]; exact hu, WS.aside hw (fun p n c e => by have := hbl p n c e; rw [World.size_alloc] at this; omega) _⟩
  by_cases z : er = 0
  · subst z
    refine (try_ret 19 _ w (ScQ bg (w.alloc (.cells #[.int .i64 0] 37)).heap.size (w.alloc (.cells #[.int .i64 0] 37)) out) (fun _ => by kernel_rfl) (C.mono ?_)).mono ?_
    · rintro e w' ⟨h | h, hq⟩
      · exact ⟨h.2, hq, E w' hq.1⟩
      · exact absurd rfl h.1
    · rintro e w' ⟨rfl, w2, hq, rfl⟩
      exact ⟨rfl, FI w2 _ hq⟩
  · refine (try_gave 19 _ er w (ScQ bg (w.alloc (.cells #[.int .i64 0] 37)).heap.size (w.alloc (.cells #[.int .i64 0] 37)) out) (fun _ => by kernel_rfl) (C.mono ?_)).mono ?_
    · rintro e w' ⟨h | h, hq⟩
      · exact absurd h.1 z
      · exact ⟨h.2, hq, E w' hq.1⟩
    · rintro e w' ⟨rfl, w2, hq, rfl⟩
      obtain ⟨x1, u, x2, x3⟩ := FI w2 (.int .i64 er) hq
      exact ⟨rfl, x1.alloc _, u, cell_on (bel_newR _ _) x2, x3.later (bel_newR _ _)⟩
/-- what the law's first loop keeps -/
structure WmL (w1 : World) (ws : List W3) (j : Nat) (pe1 : Option Addr) (ce1 : Nat) (pe2 : Option Addr) (ce2 : Nat) (wr : World) : Prop where
  k1 : KM WK 81 w1.heap.size w1 wr pe1 j ce1 (ws.take j)
  k2 : KM WK 80 w1.heap.size w1 wr pe2 j ce2 (ws.take j)
  box : wr.heap[w1.heap.size]? = some (.cells #[.slice pe1 j ce1] 73 (0, 0))
theorem slt_ww : SlT 73 81 3 (.agg #[.int .i64 0, .int .i64 0, .bool false]) 24 := ⟨Tryd.underlying73, by kernel_rfl, rfl, by decide, by decide⟩
theorem slt_w12 : SlT 76 80 3 (.agg #[.int .i64 0, .int .i64 0, .bool false]) 24 := ⟨Tryd.underlying76, by kernel_rfl, rfl, by decide, by decide⟩
theorem word_eq (x y : Int) (z : Bool) (w : World) : (binOp BinOp.neq 80 (.agg #[.int .i64 x, .int .i64 y, .bool z]) (.agg #[.int .i64 x, .int .i64 y, .bool z])).run Tryd.prog w = .ok (.bool false) w := by simp [go_sem]
set_option maxHeartbeats 8000000 in
theorem law_wscale (a0 : Option Addr) (n0 c0 : Nat) (ws : List W3) (p q : Int) (hp : -9223372036854775808 ≤ p ∧ p ≤ 9223372036854775807) (hq : -9223372036854775808 ≤ q ∧ q ≤ 9223372036854775807) (w : World) (hW : WS w (.slice a0 n0 c0) ws) (hi : ∀ r ∈ ws, In3 r) (hD : Deb w) :
    Calls Tryd.prog 6 #[.slice a0 n0 c0, .int .i64 p, .int .i64 q] w fun e w' => e = .returned (.bool true) ∧ Below w.heap.size w w' := by
  have hmf : ∀ (fn : Fn) (first cap : Array Value) (w : World), (Instr.makeFunc fn first cap).run Tryd.prog w = .ok (.func fn first cap) w := fun _ _ _ _ => rfl
  obtain ⟨hn0, hc0, hm0⟩ := ws_len hW
  have SP := Lib.hid (fun w h => speaks12_any w h)
  have HD := Lib.hid hD
  have HW := Lib.hid hW
  have HI := Lib.hid hi
  have HN := Lib.hid hn0
  have HP := Lib.hid hp
  have HQ := Lib.hid hq
  clear hD hW hi hn0 hp hq
  go_enter Tryd.func6, Tryd.ntmps6
  go_wp2_with fail
  refine (SP.out _ (HD.out.later (by go_grown))).mono ?_
  rintro e w1 ⟨rfl, hb⟩
  have KB := Lib.hid (show Below w.heap.size w w1 from bel_tr0 (by go_grown) hb)
  have T1 : Hid (Tab w1 [(w.heap.size + 1, [.int .i64 q]), (w.heap.size, [.int .i64 p])]) := Lib.hid ((((Tab.nil w).new' _ _ rfl).new' _ _ (by simp)).later hb)
  have lt1 : w.heap.size + 1 < w1.heap.size := T1.out.lt 0 rfl
  clear hb
  go_wp2_with fail
  have M0 : Hid (WmL w1 ws 0 none 0 none 0 (w1.alloc (.cells #[.slice none 0 0] 73))) := Lib.hid ⟨by rw [List.take_zero]; exact KM.start WK _ (by simp) (bel_newR _ _), by rw [List.take_zero]; exact KM.start WK _ (by simp) (bel_newR _ _), heap_alloc_new _ _⟩
  go_loopw [8, 9] (fun s8 s9 wr => ∃ (j : Nat) (pe1 : Option Addr) (ce1 : Nat) (pe2 : Option Addr) (ce2 : Nat), s8 = .slice pe2 j ce2 ∧ s9 = .int .i64 j ∧ j ≤ n0 ∧ j ≤ 20 ∧ Hid (WmL w1 ws j pe1 ce1 pe2 ce2 wr)) (fun _ s9 _ => 20 - (intOf s9).toNat)
  case atStart => exact ⟨0, none, 0, none, 0, rfl, rfl, by omega, by omega, M0⟩
  case round =>
    clear M0
    obtain ⟨j, pe1, ce1, pe2, ce2, rfl, rfl, jn, j20, HM⟩ := hrel
    by_cases lt : j < n0 ∧ j < 20
    · obtain ⟨l1, l2⟩ := lt
      have l1' : (j : Int) < (n0 : Int) := by omega
      have l2' : (j : Int) < 20 := by omega
      obtain ⟨g, o, a, b, c, rfl, hr, y0, y1, y2⟩ := ws_at HW.out l1
      have HR := Lib.hid hr
      have CL : Hid (∀ wy, Below w.heap.size w wy → wy.cell? ⟨g, o + j * 3, none⟩ = some (.int .i64 a) ∧ wy.cell? ⟨g, o + j * 3 + 1, none⟩ = some (.int .i64 b) ∧ wy.cell? ⟨g, o + j * 3 + 2, none⟩ = some (.bool c)) := Lib.hid (fun wy hb => ⟨cell_on hb y0, cell_on hb y1, cell_on hb y2⟩)
      have ix : ∀ wy : World, (Instr.indexAt 83 (.slice (some ⟨g, o, none⟩) n0 c0) (.int .i64 j)).run Tryd.prog wy = .ok (.pointer (some ⟨g, o + j * 3, none⟩)) wy := fun wy => by
        have k0 : (0 : Int) ≤ (j : Int) := by omega
        simp [go_sem, k0, l1', Addr.add]
        try omega
      clear hr y0 y1 y2
      have D : ApartB (⟨5, 6, 73, 81, 3, .agg #[.int .i64 0, .int .i64 0, .bool false], 24, .slice pe1 j ce1, j, WK.flat (ws.take j), [.int .i64 a, .int .i64 b, .bool c]⟩ : Jb) (⟨12, 13, 76, 80, 3, .agg #[.int .i64 0, .int .i64 0, .bool false], 24, .slice pe2 j ce2, j, WK.flat (ws.take j), [.int .i64 a, .int .i64 b, .bool c]⟩ : Jb) 73 14 := ⟨⟨⟨slt_ww, rfl, fun u hu => (by simp at hu; rcases hu with rfl | rfl | rfl <;> rfl), (by show j + 1 ≤ 1000000; omega), (show (5 : Nat) ≠ 6 by decide)⟩, ⟨slt_w12, rfl, fun u hu => (by simp at hu; rcases hu with rfl | rfl | rfl <;> rfl), (by show j + 1 ≤ 1000000; omega), (show (12 : Nat) ≠ 13 by decide)⟩, (show 81 ≠ 80 by decide), (show (5 : Nat) ≠ 12 by decide), (show (5 : Nat) ≠ 13 by decide), (show (6 : Nat) ≠ 12 by decide), (show (6 : Nat) ≠ 13 by decide)⟩, (show 73 ≠ 81 by decide), (show 73 ≠ 80 by decide), (show (5 : Nat) ≠ 14 by decide), (show (6 : Nat) ≠ 14 by decide), (show (12 : Nat) ≠ 14 by decide), (show (13 : Nat) ≠ 14 by decide)⟩
      have MB : Hid (Ap2B w1.heap.size w1 (⟨5, 6, 73, 81, 3, .agg #[.int .i64 0, .int .i64 0, .bool false], 24, .slice pe1 j ce1, j, WK.flat (ws.take j), [.int .i64 a, .int .i64 b, .bool c]⟩ : Jb) (⟨12, 13, 76, 80, 3, .agg #[.int .i64 0, .int .i64 0, .bool false], 24, .slice pe2 j ce2, j, WK.flat (ws.take j), [.int .i64 a, .int .i64 b, .bool c]⟩ : Jb) w1.heap.size 73 14 (fun _ => false) (fun _ => undef) wr.drew) := Lib.hid ⟨⟨HM.out.k1.bel.drew, HM.out.k1.lt, ⟨fun _ => HM.out.k1.own, fun h => (by cases h), fun h => (by cases h)⟩, ⟨fun _ => HM.out.k2.own, fun h => (by cases h), fun h => (by cases h)⟩⟩, Nat.le_refl _, fun _ => HM.out.box, fun h => (by cases h)⟩
      go_wp2_with fail
      refine wp_region_vals [some (.slice pe1 j ce1), some (.slice (some ⟨g, o, none⟩) n0 c0), some (.int .i64 (j : Int)), some (.pointer (some ⟨g, o + j * 3, none⟩)), some (.agg #[.int .i64 a, .int .i64 b, .bool c]), none, none, some (.slice pe2 j ce2), some (.slice (some ⟨g, o, none⟩) n0 c0), some (.int .i64 (j : Int)), some (.pointer (some ⟨g, o + j * 3, none⟩)), some (.agg #[.int .i64 a, .int .i64 b, .bool c]), none, none, some (undef), none] (fun Lz vz wy => Ap2B w1.heap.size w1 (⟨5, 6, 73, 81, 3, .agg #[.int .i64 0, .int .i64 0, .bool false], 24, .slice pe1 j ce1, j, WK.flat (ws.take j), [.int .i64 a, .int .i64 b, .bool c]⟩ : Jb) (⟨12, 13, 76, 80, 3, .agg #[.int .i64 0, .int .i64 0, .bool false], 24, .slice pe2 j ce2, j, WK.flat (ws.take j), [.int .i64 a, .int .i64 b, .bool c]⟩ : Jb) w1.heap.size 73 14 Lz vz wy ∧ Asn 15 13 Lz vz)
        [some 27, some 28, some 29, some 30, some 31, some 32, some 33, some 34, some 35, some 36, some 37, some 38, some 39, some 40, none, some 8] (by kernel_rfl) (by kernel_rfl) (by kernel_rfl) (by kernel_rfl) (by kernel_rfl) (by kernel_rfl) ⟨MB.out, Asn.start 15 13 _⟩ (fun i o ho => ?_) (fun Lz vz wz hL hB => ?_)
      · match i, ho with
        | 0, ho =>
          obtain rfl := Option.some.inj ho
          intro Az Lz vz wy Kz Ez hB k
          have e7 : Az.eval (.tmp 7) = .pointer (some ⟨w1.heap.size, 0, none⟩) := Ez.out 7 (by kernel_rfl)
          exact wpo_val (v := .slice pe1 j ce1) (run_load e7 (by simp [go_sem, World.cell?, hB.1.box0 (Ez.late 14 _ rfl (by kernel_rfl))])) (k _ _ rfl (⟨hB.1.pure 0 _ (show (5 : Nat) ≠ 0 by decide) (show (6 : Nat) ≠ 0 by decide) (show (12 : Nat) ≠ 0 by decide) (show (13 : Nat) ≠ 0 by decide) (show (14 : Nat) ≠ 0 by decide) (Below.refl _ _), hB.2.add 0 _ (by decide) (.inl (by decide))⟩))
        | 1, ho =>
          obtain rfl := Option.some.inj ho
          intro Az Lz vz wy Kz Ez hB k
          have e0 : Az.eval (.tmp 0) = .slice (some ⟨g, o, none⟩) n0 c0 := Ez.out 0 (by kernel_rfl)
          exact wpo_val (v := .slice (some ⟨g, o, none⟩) n0 c0) (run_move e0) (k _ _ rfl (⟨hB.1.pure 1 _ (show (5 : Nat) ≠ 1 by decide) (show (6 : Nat) ≠ 1 by decide) (show (12 : Nat) ≠ 1 by decide) (show (13 : Nat) ≠ 1 by decide) (show (14 : Nat) ≠ 1 by decide) (Below.refl _ _), hB.2.add 1 _ (by decide) (.inl (by decide))⟩))
        | 2, ho =>
          obtain rfl := Option.some.inj ho
          intro Az Lz vz wy Kz Ez hB k
          have e9 : Az.eval (.tmp 9) = .int .i64 (j : Int) := Ez.out 9 (by kernel_rfl)
          exact wpo_val (v := .int .i64 (j : Int)) (run_move e9) (k _ _ rfl (⟨hB.1.pure 2 _ (show (5 : Nat) ≠ 2 by decide) (show (6 : Nat) ≠ 2 by decide) (show (12 : Nat) ≠ 2 by decide) (show (13 : Nat) ≠ 2 by decide) (show (14 : Nat) ≠ 2 by decide) (Below.refl _ _), hB.2.add 2 _ (by decide) (.inl (by decide))⟩))
        | 3, ho =>
          obtain rfl := Option.some.inj ho
          intro Az Lz vz wy Kz Ez hB k
          have e28 : Az.eval (.tmp 28) = .slice (some ⟨g, o, none⟩) n0 c0 := Ez.dep 1 28 (by kernel_rfl) rfl
          have e29 : Az.eval (.tmp 29) = .int .i64 (j : Int) := Ez.dep 2 29 (by kernel_rfl) rfl
          exact wpo_val (v := .pointer (some ⟨g, o + j * 3, none⟩)) (run_index e28 e29 (ix wy)) (k _ _ rfl (⟨hB.1.pure 3 _ (show (5 : Nat) ≠ 3 by decide) (show (6 : Nat) ≠ 3 by decide) (show (12 : Nat) ≠ 3 by decide) (show (13 : Nat) ≠ 3 by decide) (show (14 : Nat) ≠ 3 by decide) (Below.refl _ _), hB.2.add 3 _ (by decide) (.inl (by decide))⟩))
        | 4, ho =>
          obtain rfl := Option.some.inj ho
          intro Az Lz vz wy Kz Ez hB k
          have e30 : Az.eval (.tmp 30) = .pointer (some ⟨g, o + j * 3, none⟩) := Ez.dep 3 30 (by kernel_rfl) rfl
          have q0 := (CL.out wy (bel_tr0 KB.out hB.1.ap.bel)).1
          have q1 := (CL.out wy (bel_tr0 KB.out hB.1.ap.bel)).2.1
          have q2 := (CL.out wy (bel_tr0 KB.out hB.1.ap.bel)).2.2
          exact wpo_val (v := .agg #[.int .i64 a, .int .i64 b, .bool c]) (run_load e30 (by simp [go_sem, q0, q1, q2])) (k _ _ rfl (⟨hB.1.pure 4 _ (show (5 : Nat) ≠ 4 by decide) (show (6 : Nat) ≠ 4 by decide) (show (12 : Nat) ≠ 4 by decide) (show (13 : Nat) ≠ 4 by decide) (show (14 : Nat) ≠ 4 by decide) (Below.refl _ _), hB.2.add 4 _ (by decide) (.inl (by decide))⟩))
        | 5, ho =>
          obtain rfl := Option.some.inj ho
          intro Az Lz vz wy Kz Ez hB k
          have e31 : Az.eval (.tmp 31) = .agg #[.int .i64 a, .int .i64 b, .bool c] := Ez.dep 4 31 (by kernel_rfl) rfl
          exact wpo_val (run_bsl1 e31 (by simp [go_sem])) (k _ _ trivial ⟨hB.1.build D (Ez.late 6 _ rfl (by kernel_rfl)) (Ez.late 14 _ rfl (by kernel_rfl)), hB.2.add 5 _ (by decide) (.inl (by decide))⟩)
        | 6, ho =>
          obtain rfl := Option.some.inj ho
          intro Az Lz vz wy Kz Ez hB k
          have e27 : Az.eval (.tmp 27) = .slice pe1 j ce1 := Ez.dep 0 27 (by kernel_rfl) rfl
          have e32 : Az.eval (.tmp 32) = vz 5 := Ez.dep 5 32 (by kernel_rfl) rfl
          obtain ⟨x, v', w', hx, r, hB'⟩ := hB.1.app D Ez.not (Ez.late 14 _ rfl (by kernel_rfl)) (Ez.had 5 (by kernel_rfl)) 73
          exact wpo_val (run_app2 e27 (e32.trans hx) r) (k _ _ trivial ⟨hB', hB.2.add 6 _ (by decide) (.inl (by decide))⟩)
        | 7, ho =>
          obtain rfl := Option.some.inj ho
          intro Az Lz vz wy Kz Ez hB k
          have e8 : Az.eval (.tmp 8) = .slice pe2 j ce2 := Ez.keep1 8 15 (Ez.late 15 _ rfl (by kernel_rfl)) (by kernel_rfl)
          exact wpo_val (v := .slice pe2 j ce2) (run_move e8) (k _ _ rfl (⟨hB.1.pure 7 _ (show (5 : Nat) ≠ 7 by decide) (show (6 : Nat) ≠ 7 by decide) (show (12 : Nat) ≠ 7 by decide) (show (13 : Nat) ≠ 7 by decide) (show (14 : Nat) ≠ 7 by decide) (Below.refl _ _), hB.2.add 7 _ (by decide) (.inl (by decide))⟩))
        | 8, ho =>
          obtain rfl := Option.some.inj ho
          intro Az Lz vz wy Kz Ez hB k
          have e0 : Az.eval (.tmp 0) = .slice (some ⟨g, o, none⟩) n0 c0 := Ez.out 0 (by kernel_rfl)
          exact wpo_val (v := .slice (some ⟨g, o, none⟩) n0 c0) (run_move e0) (k _ _ rfl (⟨hB.1.pure 8 _ (show (5 : Nat) ≠ 8 by decide) (show (6 : Nat) ≠ 8 by decide) (show (12 : Nat) ≠ 8 by decide) (show (13 : Nat) ≠ 8 by decide) (show (14 : Nat) ≠ 8 by decide) (Below.refl _ _), hB.2.add 8 _ (by decide) (.inl (by decide))⟩))
        | 9, ho =>
          obtain rfl := Option.some.inj ho
          intro Az Lz vz wy Kz Ez hB k
          have e9 : Az.eval (.tmp 9) = .int .i64 (j : Int) := Ez.out 9 (by kernel_rfl)
          exact wpo_val (v := .int .i64 (j : Int)) (run_move e9) (k _ _ rfl (⟨hB.1.pure 9 _ (show (5 : Nat) ≠ 9 by decide) (show (6 : Nat) ≠ 9 by decide) (show (12 : Nat) ≠ 9 by decide) (show (13 : Nat) ≠ 9 by decide) (show (14 : Nat) ≠ 9 by decide) (Below.refl _ _), hB.2.add 9 _ (by decide) (.inl (by decide))⟩))
        | 10, ho =>
          obtain rfl := Option.some.inj ho
          intro Az Lz vz wy Kz Ez hB k
          have e35 : Az.eval (.tmp 35) = .slice (some ⟨g, o, none⟩) n0 c0 := Ez.dep 8 35 (by kernel_rfl) rfl
          have e36 : Az.eval (.tmp 36) = .int .i64 (j : Int) := Ez.dep 9 36 (by kernel_rfl) rfl
          exact wpo_val (v := .pointer (some ⟨g, o + j * 3, none⟩)) (run_index e35 e36 (ix wy)) (k _ _ rfl (⟨hB.1.pure 10 _ (show (5 : Nat) ≠ 10 by decide) (show (6 : Nat) ≠ 10 by decide) (show (12 : Nat) ≠ 10 by decide) (show (13 : Nat) ≠ 10 by decide) (show (14 : Nat) ≠ 10 by decide) (Below.refl _ _), hB.2.add 10 _ (by decide) (.inl (by decide))⟩))
        | 11, ho =>
          obtain rfl := Option.some.inj ho
          intro Az Lz vz wy Kz Ez hB k
          have e37 : Az.eval (.tmp 37) = .pointer (some ⟨g, o + j * 3, none⟩) := Ez.dep 10 37 (by kernel_rfl) rfl
          have q0 := (CL.out wy (bel_tr0 KB.out hB.1.ap.bel)).1
          have q1 := (CL.out wy (bel_tr0 KB.out hB.1.ap.bel)).2.1
          have q2 := (CL.out wy (bel_tr0 KB.out hB.1.ap.bel)).2.2
          exact wpo_val (v := .agg #[.int .i64 a, .int .i64 b, .bool c]) (run_load e37 (by simp [go_sem, q0, q1, q2])) (k _ _ rfl (⟨hB.1.pure 11 _ (show (5 : Nat) ≠ 11 by decide) (show (6 : Nat) ≠ 11 by decide) (show (12 : Nat) ≠ 11 by decide) (show (13 : Nat) ≠ 11 by decide) (show (14 : Nat) ≠ 11 by decide) (Below.refl _ _), hB.2.add 11 _ (by decide) (.inl (by decide))⟩))
        | 12, ho =>
          obtain rfl := Option.some.inj ho
          intro Az Lz vz wy Kz Ez hB k
          have e38 : Az.eval (.tmp 38) = .agg #[.int .i64 a, .int .i64 b, .bool c] := Ez.dep 11 38 (by kernel_rfl) rfl
          exact wpo_val (run_bsl1 e38 (by simp [go_sem])) (k _ _ trivial ⟨hB.1.build' D (Ez.late 13 _ rfl (by kernel_rfl)), hB.2.add 12 _ (by decide) (.inl (by decide))⟩)
        | 13, ho =>
          obtain rfl := Option.some.inj ho
          intro Az Lz vz wy Kz Ez hB k
          have e34 : Az.eval (.tmp 34) = .slice pe2 j ce2 := Ez.dep 7 34 (by kernel_rfl) rfl
          have e39 : Az.eval (.tmp 39) = vz 12 := Ez.dep 12 39 (by kernel_rfl) rfl
          obtain ⟨x, v', w', hx, r, hB'⟩ := hB.1.app' D Ez.not (Ez.had 12 (by kernel_rfl)) 76
          exact wpo_val (run_app2 e34 (e39.trans hx) r) (k _ _ trivial ⟨hB', hB.2.add 13 _ (by decide) (.inr Ez.not)⟩)
        | 14, ho =>
          obtain rfl := Option.some.inj ho
          intro Az Lz vz wy Kz Ez hB k
          have e7 : Az.eval (.tmp 7) = .pointer (some ⟨w1.heap.size, 0, none⟩) := Ez.out 7 (by kernel_rfl)
          have e33 : Az.eval (.tmp 33) = vz 6 := Ez.dep 6 33 (by kernel_rfl) rfl
          obtain ⟨a6, c6, h6, _⟩ := hB.1.ap.j.2.1 (Ez.had 6 (by kernel_rfl))
          have hb0 := hB.1.box0 Ez.not
          refine wpo_skip (run_store e7 e33 (w' := wy.setCell ⟨w1.heap.size, 0, none⟩ (vz 6)) ?_) (k _ _ rfl ⟨hB.1.put D Ez.not (Ez.had 6 (by kernel_rfl)) _, hB.2.add 14 _ (by decide) (.inl (by decide))⟩)
          have h6' : vz 6 = .slice a6 (j + 1) c6 := h6
          rw [h6']
          simp [go_sem, World.cell?, World.frozen?, hb0]
        | 15, ho =>
          obtain rfl := Option.some.inj ho
          intro Az Lz vz wy Kz Ez hB k
          have e40 : Az.eval (.tmp 40) = vz 13 := Ez.dep 13 40 (by kernel_rfl) rfl
          exact wpo_val (run_assign e40) (k _ _ trivial ⟨hB.1.pure 15 _ (show (5 : Nat) ≠ 15 by decide) (show (6 : Nat) ≠ 15 by decide) (show (12 : Nat) ≠ 15 by decide) (show (13 : Nat) ≠ 15 by decide) (show (14 : Nat) ≠ 15 by decide) (Below.refl _ _), Asn.put (by decide) (Ez.had 13 (by kernel_rfl))⟩)
        | n + 16, ho => simp at ho
      obtain ⟨x1, d1, hv6, o1⟩ := hB.1.ap.j.2.1 (hL 6 (by decide))
      obtain ⟨x2, d2, hv13, o2⟩ := hB.1.ap.j'.2.1 (hL 13 (by decide))
      have hv15 := (hB.2 (hL 15 (by decide))).2
      have bx := (hB.1.box1 (hL 14 (by decide))).2
      rw [hv13] at hv15
      rw [hv6] at bx
      have TK : ws.take (j + 1) = ws.take j ++ [(a, b, c)] := by rw [List.take_add_one, HR.out]; rfl
      have M2 : Hid (WmL w1 ws (j + 1) x1 d1 x2 d2 wz) := Lib.hid ⟨⟨by rw [TK, WK.flat_append, WK.flat_one1]; exact o1, hB.1.ap.lt, by rw [List.length_take]; have := HN.out; omega, hB.1.ap.bel⟩, ⟨by rw [TK, WK.flat_append, WK.flat_one1]; exact o2, hB.1.ap.lt, by rw [List.length_take]; have := HN.out; omega, hB.1.ap.bel⟩, bx⟩
      simp only [puts2, mix, Act.put, List.setIfInBounds_toArray, List.set_cons_zero, List.set_cons_succ, Nat.zero_add, Nat.reduceAdd, List.getElem?_cons_zero, List.getElem?_cons_succ, hv15]
      clear hL hB hv6 hv13 hv15 o1 o2 bx TK MB D HM ix
      go_wp2_with fail
      go_roundw
      case rel => exact ⟨j + 1, x1, d1, x2, d2, rfl, by simp, by omega, by omega, M2⟩
      case measure => simp [intOf]; omega
    · obtain ⟨vs, hvs⟩ : ∃ vs, ws.take j = vs := ⟨_, rfl⟩
      have HM1 : Hid (WS wr (.slice pe1 j ce1) vs ∧ WS wr (.slice pe2 j ce2) vs) := Lib.hid (by rw [← hvs]; exact ⟨WK.ws (HM.out.k1.ks (by decide)), WK.ws (HM.out.k2.ks (by decide))⟩)
      have KR : Hid (Below w.heap.size w wr) := Lib.hid (bel_tr0 KB.out HM.out.k1.bel)
      have TR := Lib.hid (T1.out.later HM.out.k1.bel)
      have BX := HM.out.box
      have lb : w1.heap.size < wr.heap.size := (Array.getElem?_eq_some_iff.1 BX).1
      have bc : wr.cell? ⟨w1.heap.size, 0, none⟩ = some (.slice pe1 j ce1) := by simp [World.cell?, BX]
      have BC := Lib.hid bc
      have VI : Hid (∀ r ∈ vs, In3 r) := Lib.hid (fun r m => HI.out r (by rw [← hvs] at m; exact List.mem_of_mem_take m))
      have VL : Hid (vs.length ≤ 20) := Lib.hid (by rw [← hvs, List.length_take]; omega)
      obtain ⟨out, er, hsc⟩ := IsSc.ex p q vs
      have SC := Lib.hid hsc
      have q1 : (j : Int) < (n0 : Int) ∧ (j : Int) < 20 ↔ False := ⟨fun h => lt ⟨by omega, by omega⟩, False.elim⟩
      have CC : Hid (∀ wy : World, True) := Lib.hid (fun _ => trivial)
      have q2 : (¬ (j : Int) < (n0 : Int)) ∨ ((j : Int) < (n0 : Int) ∧ ¬ (j : Int) < 20) := by
        by_cases e : j < n0
        · exact .inr ⟨by omega, by omega⟩
        · exact .inl (by omega)
      clear HM BX bc hvs hsc lt q1 CC
      rcases q2 with q2 | ⟨q2, q3⟩
      all_goals
        go_wp2_with fail
        have ba := bel_newR wr (.cells #[.slice none 0 0] 73)
        refine (try_scale12 w1.heap.size w.heap.size (w.heap.size + 1) wr.heap.size p q HP.out.1 HP.out.2 HQ.out.1 HQ.out.2 (.slice pe1 j ce1) vs out er _ (cell_on ba BC.out) (cell_on ba (TR.out.cell 1 0 rfl rfl)) (cell_on ba (TR.out.cell 0 0 rfl rfl)) (Var.new _ _ _) (HM1.out.1.later ba) VI.out (by have := VL.out; omega) SC.out).mono ?_
        rintro e w4 ⟨rfl, hbut, u, hu, hw⟩
        have K4 : Hid (Below w.heap.size w w4) := Lib.hid (But.below (bel_tr0 KR.out ba) hbut (by simp; omega) (fun i hi => by simp at hi; omega))
        have b4 : But [wr.heap.size] wr w4 := ((But.refl _ _).alloc _).trans hbut
        have B4 : Hid (Below wr.heap.size wr w4) := Lib.hid (But.below (bel_newR wr _) hbut (by simp) (fun i hi => by simp at hi; omega))
        have U4 := Lib.hid hu
        have W4 := Lib.hid hw
        have S4 := Lib.hid (HM1.out.2.later B4.out)
        have T4 := Lib.hid (TR.out.later B4.out)
        clear hbut hu hw ba b4
        have x0 := T4.out.cell 1 0 rfl rfl
        have x1 := T4.out.cell 0 0 rfl rfl
        go_wp2_with fail
        refine (r12scale_any p q HP.out.1 HP.out.2 HQ.out.1 HQ.out.2 (.slice pe2 j ce2) vs _ S4.out VI.out (by have := VL.out; omega)).mono ?_
        rintro e w5 ⟨u2, out2, er2, rfl, hw2, hsc2, hb⟩
        obtain ⟨rfl, rfl⟩ := hsc2.uniq SC.out
        have K5 := Lib.hid (bel_tr0 K4.out hb)
        have U5 := Lib.hid (cell_on hb U4.out)
        have W5 := Lib.hid (W4.out.later hb)
        obtain ⟨ga, gn, gc, rfl, hgn, _, _, _⟩ := id W5.out
        obtain ⟨ha, hn, hc, rfl, hhn, _, _, _⟩ := id hw2
        have X5 := Lib.hid hw2
        obtain rfl : hn = gn := by omega
        have gl : hn ≤ 20 := by
          rcases SC.out with ⟨_, _, e⟩ | ⟨_, e, _⟩
          · rw [hgn, e, List.length_map]; exact VL.out
          · rw [hgn, e]; exact Nat.zero_le _
        clear hb hw2 hsc2 x0 x1 hgn hhn
        have uc := U5.out
        go_wp2_with fail
        go_loopw [14] (fun s14 wr => ∃ (i : Nat), s14 = .int .i64 i ∧ i ≤ hn ∧ ∃ nq, wr = w5.drewN nq) (fun s14 _ => hn - (intOf s14).toNat)
        case atStart => exact ⟨0, rfl, by omega, 0, rfl⟩
        case round =>
          obtain ⟨i, rfl, hin, nq0, rfl⟩ := hrel
          by_cases lt : i < hn
          · have lt' : (i : Int) < (hn : Int) := by omega
            obtain ⟨g1, o1, x, y, z, rfl, r1, y0, y1, y2⟩ := ws_at W5.out lt
            obtain ⟨g2, o2, x', y', z', rfl, r2, z0, z1, z2⟩ := ws_at X5.out lt
            rw [r1] at r2
            injection r2 with r2
            injection r2 with e1 r2
            injection r2 with e2 e3
            subst e1 e2 e3
            have ix1 : ∀ wy : World, (Instr.indexAt 73 (.slice (some ⟨g1, o1, none⟩) hn gc) (.int .i64 i)).run Tryd.prog wy = .ok (.pointer (some ⟨g1, o1 + i * 3, none⟩)) wy := fun wy => by
              have k0 : (0 : Int) ≤ (i : Int) := by omega
              simp [go_sem, k0, lt', Addr.add]
              try omega
            have ix2 : ∀ wy : World, (Instr.indexAt 76 (.slice (some ⟨g2, o2, none⟩) hn hc) (.int .i64 i)).run Tryd.prog wy = .ok (.pointer (some ⟨g2, o2 + i * 3, none⟩)) wy := fun wy => by
              have k0 : (0 : Int) ≤ (i : Int) := by omega
              simp [go_sem, k0, lt', Addr.add]
              try omega
            clear r1
            go_wp2_with fail
            go_quiet (fail)
            go_wp2_with fail
            go_roundw
            case rel => exact ⟨i + 1, by simp, by omega, _, rfl⟩
            case measure => simp [intOf]; omega
          · obtain rfl : i = hn := by omega
            go_wp2_with fail
            go_returns
            exact ⟨rfl, below_drewN K5.out _⟩
end Go.Proofs.YtbolifjkhoiphaaDoor
