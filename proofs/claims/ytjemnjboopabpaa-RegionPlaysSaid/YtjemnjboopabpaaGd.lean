/- Package region: a band more below. Made by gen/stacked.py. -/
import Derived.Test.YtjemnjboopabpaaGc
import Derived.WalkKit
import Derived.WalkSpells
import Derived.WalkLawsBesides
import Derived.Handy
import Derived.Lib.Hide
import Derived.Deep.QuietTactic
import Derived.BigQuiet
import Derived.LoopTactic
import Derived.Deep.RegionHeld3
import Derived.Deep.RegionWith
import Derived.Outline
import Derived.Deep.DeepCutAuto
namespace Go.Proofs.Ytjemnjboopabpaa
open Go.RowKit Go.Proofs.Reg Go.Proofs.Big Go.Proofs.Bands
set_option linter.unusedVariables false
set_option linter.unusedSimpArgs false
set_option maxRecDepth 100000
theorem band_cells (w : World) (x y z : Value) (t : TypeId) : ∀ j u, [x, y, z][j]? = some u → (w.alloc (.cells #[x, y, z] t)).cell? ((⟨w.heap.size, 0, none⟩ : Addr).add j) = some u := by
  intro j u h
  match j, h with
  | 0, h => simp at h; subst h; simp [go_sem, Addr.add]
  | 1, h => simp at h; subst h; simp [go_sem, Addr.add]
  | 2, h => simp at h; subst h; simp [go_sem, Addr.add]
  | j + 3, h => simp at h
set_option maxHeartbeats 4000000 in
theorem stacked_first (base : Nat) (v : Value) (n : Nat) (xs : List Value) (l : List Bd) (t b : Int) (ev : Value) (es : List Int) (w : World) (hown : w.ownsRow base 86 3 v n xs) (hl : BL w [] xs) (hn : n = ([] : List Bd).length) (hb : base ≤ w.heap.size) (he : EV w ev es) (ne : es ≠ []) (nb : n < 1000000000000) :
    Calls Try.prog 43 #[v, .agg #[.int .i64 t, .int .i64 b, ev]] w (StkR w base ([]) ⟨t, b, es⟩) := by
  have he' := he
  obtain ⟨ea, m, ec, rfl, E, _⟩ := he'
  have lm := E.r.hlen
  have p1 := List.length_pos_iff.2 ne
  have mz : ((m : Int) == 0) = false := by simpa using (show (m : Int) ≠ 0 by omega)
  clear E lm p1
  obtain ⟨i0, hi, hz0, hz1, hz2⟩ := band_parts
  have HE := Lib.hid he
  have HO := Lib.hid hown
  have HL := Lib.hid hl
  have HN := Lib.hid hn
  obtain ⟨L, wL⟩ : ∃ L, IntKind.i64.wrap ((n : Int) - 1) = L := ⟨_, rfl⟩
  have lL : L = (n : Int) - 1 := by rw [← wL, IntKind.wrap_i64]; omega
  have n0 : n = 0 := hn
  have lneg : ¬ (0 : Int) ≤ L := by omega
  obtain ⟨pe, ce, rfl⟩ : ∃ pe ce, v = .slice pe n ce := by
    rcases Joins.ownsRow_forms hown with ⟨rfl, h⟩ | ⟨g, cap, rfl⟩
    · exact ⟨none, 0, by rw [h]⟩
    · exact ⟨_, cap, rfl⟩
  have N0 := Lib.hid n0
  clear n0 hn lL hown hl he
  · skip
    go_enter Try.func43, Try.ntmps43
    go_wp2_with fail
    have KB : Hid (Below w.heap.size w (w.alloc (.cells #[.int .i64 t, .int .i64 b, .slice ea m ec] 86))) := Lib.hid ((Below.refl _ _).alloc (Nat.le_refl _) _)
    have KT : Hid (Tab (w.alloc (.cells #[.int .i64 t, .int .i64 b, .slice ea m ec] 86)) [(w.heap.size, [.int .i64 t, .int .i64 b, .slice ea m ec])]) := Lib.hid ((Tab.nil w).new' [.int .i64 t, .int .i64 b, .slice ea m ec] 86 rfl)
    refine wp_region_vals [some (.int .i64 L), some (.bool false), some (.bool false), some (undef), some (undef), some (undef), some (undef), some (undef), some (undef), some (undef), some (undef), some (.bool false), some (.bool false), some (undef), some (undef), some (undef), some (undef), some (undef), some (undef), some (undef), some (undef), some (.bool false)] (fun Lz _ wy => Below w.heap.size w wy ∧ Tab wy [(w.heap.size, [.int .i64 t, .int .i64 b, .slice ea m ec])])
      [some 14, some 15, some 16, some 17, some 18, some 19, some 20, some 21, some 22, some 23, some 24, some 25, some 26, some 27, some 28, some 29, some 30, some 31, some 32, some 33, some 34, some 35] (by kernel_rfl) (by kernel_rfl) (by kernel_rfl) (by kernel_rfl) (by kernel_rfl) (by kernel_rfl) ⟨KB.out.drew, KT.out.later ((Below.refl _ _).drew)⟩ (fun i o ho => ?_) (fun Lz vz wz hL hB => ?_)
    · match i, ho with
      | 0, ho =>
        obtain rfl := Option.some.inj ho
        intro Az Lz vz wy Kz Ez hB k
        have e5 : Az.eval (.tmp 5) = .int .i64 L := Ez.out 5 (by kernel_rfl)
        exact wpo_val (v := .int .i64 L) (run_move e5) (k _ _ rfl hB)
      | 1, ho =>
        obtain rfl := Option.some.inj ho
        intro Az Lz vz wy Kz Ez hB k
        have e14 : Az.eval (.tmp 14) = .int .i64 L := Ez.dep 0 14 (by kernel_rfl) rfl
        exact wpo_val (v := .bool false) (run_bin e14 rfl (by simp [go_sem]) (by simp [go_sem, lneg])) (k _ _ rfl hB)
      | 2, ho =>
        obtain rfl := Option.some.inj ho
        intro Az Lz vz wy Kz Ez hB k
        have e15 : Az.eval (.tmp 15) = .bool false := Ez.dep 1 15 (by kernel_rfl) rfl
        exact wpo_val (v := .bool false) (run_move e15) (k _ _ rfl hB)
      | 3, ho =>
        obtain rfl := Option.some.inj ho
        exact ⟨rfl, fun Lz vz wy h => h⟩
      | 4, ho =>
        obtain rfl := Option.some.inj ho
        exact ⟨rfl, fun Lz vz wy h => h⟩
      | 5, ho =>
        obtain rfl := Option.some.inj ho
        exact ⟨rfl, fun Lz vz wy h => h⟩
      | 6, ho =>
        obtain rfl := Option.some.inj ho
        exact ⟨rfl, fun Lz vz wy h => h⟩
      | 7, ho =>
        obtain rfl := Option.some.inj ho
        exact ⟨rfl, fun Lz vz wy h => h⟩
      | 8, ho =>
        obtain rfl := Option.some.inj ho
        exact ⟨rfl, fun Lz vz wy h => h⟩
      | 9, ho =>
        obtain rfl := Option.some.inj ho
        exact ⟨rfl, fun Lz vz wy h => h⟩
      | 10, ho =>
        obtain rfl := Option.some.inj ho
        exact ⟨rfl, fun Lz vz wy h => h⟩
      | 11, ho =>
        obtain rfl := Option.some.inj ho
        intro Az Lz vz wy Kz Ez hB k
        have e16 : Az.eval (.tmp 16) = .bool false := Ez.dep 2 16 (by kernel_rfl) rfl
        have e24 : Az.eval (.tmp 24) = undef := Ez.dep 10 24 (by kernel_rfl) rfl
        exact wpo_val (v := .bool false) (run_pickF e16 rfl) (k _ _ rfl hB)
      | 12, ho =>
        obtain rfl := Option.some.inj ho
        intro Az Lz vz wy Kz Ez hB k
        have e25 : Az.eval (.tmp 25) = .bool false := Ez.dep 11 25 (by kernel_rfl) rfl
        exact wpo_val (v := .bool false) (run_move e25) (k _ _ rfl hB)
      | 13, ho =>
        obtain rfl := Option.some.inj ho
        exact ⟨rfl, fun Lz vz wy h => h⟩
      | 14, ho =>
        obtain rfl := Option.some.inj ho
        exact ⟨rfl, fun Lz vz wy h => h⟩
      | 15, ho =>
        obtain rfl := Option.some.inj ho
        exact ⟨rfl, fun Lz vz wy h => h⟩
      | 16, ho =>
        obtain rfl := Option.some.inj ho
        exact ⟨rfl, fun Lz vz wy h => h⟩
      | 17, ho =>
        obtain rfl := Option.some.inj ho
        exact ⟨rfl, fun Lz vz wy h => h⟩
      | 18, ho =>
        obtain rfl := Option.some.inj ho
        exact ⟨rfl, fun Lz vz wy h => h⟩
      | 19, ho =>
        obtain rfl := Option.some.inj ho
        exact ⟨rfl, fun Lz vz wy h => h⟩
      | 20, ho =>
        obtain rfl := Option.some.inj ho
        exact ⟨rfl, fun Lz vz wy h => h⟩
      | 21, ho =>
        obtain rfl := Option.some.inj ho
        intro Az Lz vz wy Kz Ez hB k
        have e26 : Az.eval (.tmp 26) = .bool false := Ez.dep 12 26 (by kernel_rfl) rfl
        have e34 : Az.eval (.tmp 34) = undef := Ez.dep 20 34 (by kernel_rfl) rfl
        exact wpo_val (v := .bool false) (run_pickF e26 rfl) (k _ _ rfl hB)
      | n + 22, ho => simp at ho
    · obtain ⟨hk, hT⟩ := hB
      have KB := Lib.hid hk
      have KT := Lib.hid hT
      clear hk hT hL
      simp only [puts2, mix, Act.put, List.setIfInBounds_toArray, List.set_cons_zero, List.set_cons_succ, Nat.zero_add, Nat.reduceAdd, List.getElem?_cons_zero, List.getElem?_cons_succ]
      have z0 := KT.out.cell 0 0 rfl rfl
      have z1 := KT.out.cell 0 1 rfl rfl
      have z2 := KT.out.cell 0 2 rfl rfl
      have lz := KT.out.lt 0 rfl
      go_wp2_with (at_builtin; refine wpList_append_own _ rfl _ _ 24 rfl base 86 i0 (.agg #[.int .i64 0, .int .i64 0, .slice none 0 0]) 3 40 Try.underlying24 hi hz0 hz1 hz2 rfl (by decide) _ _ _ rfl ((owns_later HO.out KB.out).alloc _) ⟨wz.heap.size, 0, none⟩ 1 1 [.int .i64 t, .int .i64 b, .slice ea m ec] rfl rfl ?c1 ?c2 ?c3 ?c4 ?c5 ?_)
      case c1 => exact band_cells _ _ _ _ _
      case c2 => intro u hu; simp at hu; rcases hu with rfl | rfl | rfl <;> rfl
      case c3 => unfold maxLen; omega
      case c4 => omega
      case c5 => have := KB.out.size; simp; omega
      intro v1 w1 hown1 hgrow _
      have FIN := Lib.hid (stk_app HO.out HL.out HN.out hb HE.out KB.out hgrow (by simpa [bcs] using hown1) (by simp [stk, ne]))
      clear hown1 hgrow
      go_wp2_with fail
      go_returns
      exact FIN.out

set_option maxHeartbeats 4000000 in
theorem stacked_top (base : Nat) (v : Value) (n : Nat) (xs : List Value) (l : List Bd) (d : Bd) (t b : Int) (ev : Value) (es : List Int) (w : World) (hown : w.ownsRow base 86 3 v n xs) (hl : BL w (l ++ [d]) xs) (hn : n = (l ++ [d]).length) (hb : base ≤ w.heap.size) (he : EV w ev es) (ne : es ≠ []) (nb : n < 1000000000000) (h : d.b ≠ t) :
    Calls Try.prog 43 #[v, .agg #[.int .i64 t, .int .i64 b, ev]] w (StkR w base (l ++ [d]) ⟨t, b, es⟩) := by
  have he' := he
  obtain ⟨ea, m, ec, rfl, E, _⟩ := he'
  have lm := E.r.hlen
  have p1 := List.length_pos_iff.2 ne
  have mz : ((m : Int) == 0) = false := by simpa using (show (m : Int) ≠ 0 by omega)
  clear E lm p1
  obtain ⟨i0, hi, hz0, hz1, hz2⟩ := band_parts
  have HE := Lib.hid he
  have HO := Lib.hid hown
  have HL := Lib.hid hl
  have HN := Lib.hid hn
  obtain ⟨L, wL⟩ : ∃ L, IntKind.i64.wrap ((n : Int) - 1) = L := ⟨_, rfl⟩
  have lL : L = (n : Int) - 1 := by rw [← wL, IntKind.wrap_i64]; omega
  obtain ⟨dv, ys, rfl, hd, hy⟩ := hl.last
  have hd' := hd
  obtain ⟨da, dm, dc, rfl, D, _⟩ := hd'
  have lk : n = l.length + 1 := by rw [hn, List.length_append]; rfl
  obtain ⟨g, ce, rfl⟩ := Joins.ownsRow_form hown (by omega)
  obtain ⟨kk, hk⟩ : ∃ k, k = l.length := ⟨_, rfl⟩
  have ly : ys.length = 3 * kk := by rw [hy.len, hk]
  have lpos : (0 : Int) ≤ L := by omega
  have Lk : L = (kk : Int) := by omega
  have C1 : Hid (w.cell? ⟨g, 3 * kk + 1, none⟩ = some (.int .i64 d.b)) := Lib.hid (by
    rw [hown.cellAt _ (by omega), List.getElem?_append_right (by omega), ly, show 3 * kk + 1 - 3 * kk = 1 by omega]; rfl)
  have C2 : Hid (w.cell? ⟨g, 3 * kk + 2, none⟩ = some (.slice da dm dc)) := Lib.hid (by
    rw [hown.cellAt _ (by omega), List.getElem?_append_right (by omega), ly, show 3 * kk + 2 - 3 * kk = 2 by omega]; rfl)
  have ix : ∀ wy : World, (Instr.indexAt 24 (.slice (some ⟨g, 0, none⟩) n ce) (.int .i64 L)).run Try.prog wy = .ok (.pointer (some ⟨g, 3 * kk, none⟩)) wy := fun wy => by
    have h1 : (kk : Int) < (n : Int) := by omega
    have h0 : (0 : Int) ≤ (kk : Int) := by omega
    rw [Lk]
    simp [go_sem, h0, h1, Addr.add, Nat.mul_comm]
    try (intro h; omega)
  have HD := Lib.hid hd
  have HY := Lib.hid hy
  obtain ⟨db, hdb⟩ : ∃ x, d.b = x := ⟨_, rfl⟩
  rw [hdb] at C1
  have bt : (db == t) = false := by rw [← hdb]; simpa using h
  have SN := Lib.hid (show stk (l ++ [d]) ⟨t, b, es⟩ = l ++ [d] ++ [⟨t, b, es⟩] by rw [stk_snoc, if_neg ne, if_neg (fun q => h q.1)]; simp)
  clear lL hown hl he D hd hy lk ly Lk hk hn h hdb
  · skip
    go_enter Try.func43, Try.ntmps43
    go_wp2_with fail
    have KB : Hid (Below w.heap.size w (w.alloc (.cells #[.int .i64 t, .int .i64 b, .slice ea m ec] 86))) := Lib.hid ((Below.refl _ _).alloc (Nat.le_refl _) _)
    have KT : Hid (Tab (w.alloc (.cells #[.int .i64 t, .int .i64 b, .slice ea m ec] 86)) [(w.heap.size, [.int .i64 t, .int .i64 b, .slice ea m ec])]) := Lib.hid ((Tab.nil w).new' [.int .i64 t, .int .i64 b, .slice ea m ec] 86 rfl)
    refine wp_region_vals [some (.int .i64 L), some (.bool true), some (.bool true), some (.slice (some ⟨g, 0, none⟩) n ce), some (.int .i64 L), some (.pointer (some ⟨g, 3 * kk, none⟩)), some (.pointer (some ⟨g, 3 * kk + 1, none⟩)), some (.int .i64 db), some (.pointer (some ⟨w.heap.size, 0, none⟩)), some (.int .i64 t), some (.bool false), some (.bool false), some (.bool false), some (undef), some (undef), some (undef), some (undef), some (undef), some (undef), some (undef), some (undef), some (.bool false)] (fun Lz _ wy => Below w.heap.size w wy ∧ Tab wy [(w.heap.size, [.int .i64 t, .int .i64 b, .slice ea m ec])])
      [some 14, some 15, some 16, some 17, some 18, some 19, some 20, some 21, some 22, some 23, some 24, some 25, some 26, some 27, some 28, some 29, some 30, some 31, some 32, some 33, some 34, some 35] (by kernel_rfl) (by kernel_rfl) (by kernel_rfl) (by kernel_rfl) (by kernel_rfl) (by kernel_rfl) ⟨KB.out.drew, KT.out.later ((Below.refl _ _).drew)⟩ (fun i o ho => ?_) (fun Lz vz wz hL hB => ?_)
    · match i, ho with
      | 0, ho =>
        obtain rfl := Option.some.inj ho
        intro Az Lz vz wy Kz Ez hB k
        have e5 : Az.eval (.tmp 5) = .int .i64 L := Ez.out 5 (by kernel_rfl)
        exact wpo_val (v := .int .i64 L) (run_move e5) (k _ _ rfl hB)
      | 1, ho =>
        obtain rfl := Option.some.inj ho
        intro Az Lz vz wy Kz Ez hB k
        have e14 : Az.eval (.tmp 14) = .int .i64 L := Ez.dep 0 14 (by kernel_rfl) rfl
        exact wpo_val (v := .bool true) (run_bin e14 rfl (by simp [go_sem]) (by simp [go_sem, lpos])) (k _ _ rfl hB)
      | 2, ho =>
        obtain rfl := Option.some.inj ho
        intro Az Lz vz wy Kz Ez hB k
        have e15 : Az.eval (.tmp 15) = .bool true := Ez.dep 1 15 (by kernel_rfl) rfl
        exact wpo_val (v := .bool true) (run_move e15) (k _ _ rfl hB)
      | 3, ho =>
        obtain rfl := Option.some.inj ho
        intro Az Lz vz wy Kz Ez hB k
        have e0 : Az.eval (.tmp 0) = .slice (some ⟨g, 0, none⟩) n ce := Ez.out 0 (by kernel_rfl)
        exact wpo_val (v := .slice (some ⟨g, 0, none⟩) n ce) (run_move e0) (k _ _ rfl hB)
      | 4, ho =>
        obtain rfl := Option.some.inj ho
        intro Az Lz vz wy Kz Ez hB k
        have e5 : Az.eval (.tmp 5) = .int .i64 L := Ez.out 5 (by kernel_rfl)
        exact wpo_val (v := .int .i64 L) (run_move e5) (k _ _ rfl hB)
      | 5, ho =>
        obtain rfl := Option.some.inj ho
        intro Az Lz vz wy Kz Ez hB k
        have e17 : Az.eval (.tmp 17) = .slice (some ⟨g, 0, none⟩) n ce := Ez.dep 3 17 (by kernel_rfl) rfl
        have e18 : Az.eval (.tmp 18) = .int .i64 L := Ez.dep 4 18 (by kernel_rfl) rfl
        exact wpo_val (v := .pointer (some ⟨g, 3 * kk, none⟩)) (run_index e17 e18 (ix wy)) (k _ _ rfl hB)
      | 6, ho =>
        obtain rfl := Option.some.inj ho
        intro Az Lz vz wy Kz Ez hB k
        have e19 : Az.eval (.tmp 19) = .pointer (some ⟨g, 3 * kk, none⟩) := Ez.dep 5 19 (by kernel_rfl) rfl
        exact wpo_val (v := .pointer (some ⟨g, 3 * kk + 1, none⟩)) (run_field e19 (by simp [go_sem])) (k _ _ rfl hB)
      | 7, ho =>
        obtain rfl := Option.some.inj ho
        intro Az Lz vz wy Kz Ez hB k
        have e20 : Az.eval (.tmp 20) = .pointer (some ⟨g, 3 * kk + 1, none⟩) := Ez.dep 6 20 (by kernel_rfl) rfl
        exact wpo_val (v := .int .i64 db) (run_load e20 (by have c := cell_later hB.1 C1.out; simp [go_sem, c])) (k _ _ rfl hB)
      | 8, ho =>
        obtain rfl := Option.some.inj ho
        intro Az Lz vz wy Kz Ez hB k
        have e3 : Az.eval (.tmp 3) = .pointer (some ⟨w.heap.size, 0, none⟩) := Ez.out 3 (by kernel_rfl)
        exact wpo_val (v := .pointer (some ⟨w.heap.size, 0, none⟩)) (run_field e3 (by simp [go_sem])) (k _ _ rfl hB)
      | 9, ho =>
        obtain rfl := Option.some.inj ho
        intro Az Lz vz wy Kz Ez hB k
        have e22 : Az.eval (.tmp 22) = .pointer (some ⟨w.heap.size, 0, none⟩) := Ez.dep 8 22 (by kernel_rfl) rfl
        have c0_0 := hB.2.cell 0 0 rfl rfl
        exact wpo_val (v := .int .i64 t) (run_load e22 (by simp [go_sem, c0_0])) (k _ _ rfl hB)
      | 10, ho =>
        obtain rfl := Option.some.inj ho
        intro Az Lz vz wy Kz Ez hB k
        have e21 : Az.eval (.tmp 21) = .int .i64 db := Ez.dep 7 21 (by kernel_rfl) rfl
        have e23 : Az.eval (.tmp 23) = .int .i64 t := Ez.dep 9 23 (by kernel_rfl) rfl
        exact wpo_val (v := .bool false) (run_bin e21 e23 (by simp [go_sem]) (by simp [go_sem, bt])) (k _ _ rfl hB)
      | 11, ho =>
        obtain rfl := Option.some.inj ho
        intro Az Lz vz wy Kz Ez hB k
        have e16 : Az.eval (.tmp 16) = .bool true := Ez.dep 2 16 (by kernel_rfl) rfl
        have e24 : Az.eval (.tmp 24) = .bool false := Ez.dep 10 24 (by kernel_rfl) rfl
        exact wpo_val (v := .bool false) (run_pickT e16 e24) (k _ _ rfl hB)
      | 12, ho =>
        obtain rfl := Option.some.inj ho
        intro Az Lz vz wy Kz Ez hB k
        have e25 : Az.eval (.tmp 25) = .bool false := Ez.dep 11 25 (by kernel_rfl) rfl
        exact wpo_val (v := .bool false) (run_move e25) (k _ _ rfl hB)
      | 13, ho =>
        obtain rfl := Option.some.inj ho
        exact ⟨rfl, fun Lz vz wy h => h⟩
      | 14, ho =>
        obtain rfl := Option.some.inj ho
        exact ⟨rfl, fun Lz vz wy h => h⟩
      | 15, ho =>
        obtain rfl := Option.some.inj ho
        exact ⟨rfl, fun Lz vz wy h => h⟩
      | 16, ho =>
        obtain rfl := Option.some.inj ho
        exact ⟨rfl, fun Lz vz wy h => h⟩
      | 17, ho =>
        obtain rfl := Option.some.inj ho
        exact ⟨rfl, fun Lz vz wy h => h⟩
      | 18, ho =>
        obtain rfl := Option.some.inj ho
        exact ⟨rfl, fun Lz vz wy h => h⟩
      | 19, ho =>
        obtain rfl := Option.some.inj ho
        exact ⟨rfl, fun Lz vz wy h => h⟩
      | 20, ho =>
        obtain rfl := Option.some.inj ho
        exact ⟨rfl, fun Lz vz wy h => h⟩
      | 21, ho =>
        obtain rfl := Option.some.inj ho
        intro Az Lz vz wy Kz Ez hB k
        have e26 : Az.eval (.tmp 26) = .bool false := Ez.dep 12 26 (by kernel_rfl) rfl
        have e34 : Az.eval (.tmp 34) = undef := Ez.dep 20 34 (by kernel_rfl) rfl
        exact wpo_val (v := .bool false) (run_pickF e26 rfl) (k _ _ rfl hB)
      | n + 22, ho => simp at ho
    · obtain ⟨hk, hT⟩ := hB
      have KB := Lib.hid hk
      have KT := Lib.hid hT
      clear hk hT hL
      simp only [puts2, mix, Act.put, List.setIfInBounds_toArray, List.set_cons_zero, List.set_cons_succ, Nat.zero_add, Nat.reduceAdd, List.getElem?_cons_zero, List.getElem?_cons_succ]
      have z0 := KT.out.cell 0 0 rfl rfl
      have z1 := KT.out.cell 0 1 rfl rfl
      have z2 := KT.out.cell 0 2 rfl rfl
      have lz := KT.out.lt 0 rfl
      go_wp2_with (at_builtin; refine wpList_append_own _ rfl _ _ 24 rfl base 86 i0 (.agg #[.int .i64 0, .int .i64 0, .slice none 0 0]) 3 40 Try.underlying24 hi hz0 hz1 hz2 rfl (by decide) _ _ _ rfl ((owns_later HO.out KB.out).alloc _) ⟨wz.heap.size, 0, none⟩ 1 1 [.int .i64 t, .int .i64 b, .slice ea m ec] rfl rfl ?c1 ?c2 ?c3 ?c4 ?c5 ?_)
      case c1 => exact band_cells _ _ _ _ _
      case c2 => intro u hu; simp at hu; rcases hu with rfl | rfl | rfl <;> rfl
      case c3 => unfold maxLen; omega
      case c4 => omega
      case c5 => have := KB.out.size; simp; omega
      intro v1 w1 hown1 hgrow _
      have FIN := Lib.hid (stk_app HO.out HL.out HN.out hb HE.out KB.out hgrow (by simpa [bcs] using hown1) SN.out)
      clear hown1 hgrow
      go_wp2_with fail
      go_returns
      exact FIN.out

set_option maxHeartbeats 4000000 in
theorem stacked_other (base : Nat) (v : Value) (n : Nat) (xs : List Value) (l : List Bd) (d : Bd) (t b : Int) (ev : Value) (es : List Int) (w : World) (hown : w.ownsRow base 86 3 v n xs) (hl : BL w (l ++ [d]) xs) (hn : n = (l ++ [d]).length) (hb : base ≤ w.heap.size) (he : EV w ev es) (ne : es ≠ []) (nb : n < 1000000000000) (h : d.b = t) (dn : d.es ≠ []) (h2 : d.es ≠ es) :
    Calls Try.prog 43 #[v, .agg #[.int .i64 t, .int .i64 b, ev]] w (StkR w base (l ++ [d]) ⟨t, b, es⟩) := by
  have he' := he
  obtain ⟨ea, m, ec, rfl, E, _⟩ := he'
  have lm := E.r.hlen
  have p1 := List.length_pos_iff.2 ne
  have mz : ((m : Int) == 0) = false := by simpa using (show (m : Int) ≠ 0 by omega)
  clear E lm p1
  obtain ⟨i0, hi, hz0, hz1, hz2⟩ := band_parts
  have HE := Lib.hid he
  have HO := Lib.hid hown
  have HL := Lib.hid hl
  have HN := Lib.hid hn
  obtain ⟨L, wL⟩ : ∃ L, IntKind.i64.wrap ((n : Int) - 1) = L := ⟨_, rfl⟩
  have lL : L = (n : Int) - 1 := by rw [← wL, IntKind.wrap_i64]; omega
  obtain ⟨dv, ys, rfl, hd, hy⟩ := hl.last
  have hd' := hd
  obtain ⟨da, dm, dc, rfl, D, _⟩ := hd'
  have lk : n = l.length + 1 := by rw [hn, List.length_append]; rfl
  obtain ⟨g, ce, rfl⟩ := Joins.ownsRow_form hown (by omega)
  obtain ⟨kk, hk⟩ : ∃ k, k = l.length := ⟨_, rfl⟩
  have ly : ys.length = 3 * kk := by rw [hy.len, hk]
  have lpos : (0 : Int) ≤ L := by omega
  have Lk : L = (kk : Int) := by omega
  have C1 : Hid (w.cell? ⟨g, 3 * kk + 1, none⟩ = some (.int .i64 d.b)) := Lib.hid (by
    rw [hown.cellAt _ (by omega), List.getElem?_append_right (by omega), ly, show 3 * kk + 1 - 3 * kk = 1 by omega]; rfl)
  have C2 : Hid (w.cell? ⟨g, 3 * kk + 2, none⟩ = some (.slice da dm dc)) := Lib.hid (by
    rw [hown.cellAt _ (by omega), List.getElem?_append_right (by omega), ly, show 3 * kk + 2 - 3 * kk = 2 by omega]; rfl)
  have ix : ∀ wy : World, (Instr.indexAt 24 (.slice (some ⟨g, 0, none⟩) n ce) (.int .i64 L)).run Try.prog wy = .ok (.pointer (some ⟨g, 3 * kk, none⟩)) wy := fun wy => by
    have h1 : (kk : Int) < (n : Int) := by omega
    have h0 : (0 : Int) ≤ (kk : Int) := by omega
    rw [Lk]
    simp [go_sem, h0, h1, Addr.add, Nat.mul_comm]
    try (intro h; omega)
  have HD := Lib.hid hd
  have HY := Lib.hid hy
  obtain ⟨db, hdb⟩ : ∃ x, d.b = x := ⟨_, rfl⟩
  rw [hdb] at C1
  have EQ : Hid (∀ wy, Below w.heap.size w wy → Calls Try.prog 76 #[.slice da dm dc, .slice ea m ec] wy fun e w' => e = .returned (.bool (decide (d.es = es))) ∧ Below wy.heap.size wy w') := Lib.hid (fun wy kb => gequal_any _ _ _ _ wy (hd.later kb) (he.later kb) dn ne)
  have bt : (db == t) = true := by rw [← hdb]; simpa using h
  rw [decide_eq_false h2] at EQ
  have SN := Lib.hid (show stk (l ++ [d]) ⟨t, b, es⟩ = l ++ [d] ++ [⟨t, b, es⟩] by rw [stk_snoc, if_neg ne, if_neg (fun q => h2 q.2)]; simp)
  clear lL hown hl he D hd hy lk ly Lk hk hn h hdb h2
  · skip
    go_enter Try.func43, Try.ntmps43
    go_wp2_with fail
    have KB : Hid (Below w.heap.size w (w.alloc (.cells #[.int .i64 t, .int .i64 b, .slice ea m ec] 86))) := Lib.hid ((Below.refl _ _).alloc (Nat.le_refl _) _)
    have KT : Hid (Tab (w.alloc (.cells #[.int .i64 t, .int .i64 b, .slice ea m ec] 86)) [(w.heap.size, [.int .i64 t, .int .i64 b, .slice ea m ec])]) := Lib.hid ((Tab.nil w).new' [.int .i64 t, .int .i64 b, .slice ea m ec] 86 rfl)
    refine wp_region_vals [some (.int .i64 L), some (.bool true), some (.bool true), some (.slice (some ⟨g, 0, none⟩) n ce), some (.int .i64 L), some (.pointer (some ⟨g, 3 * kk, none⟩)), some (.pointer (some ⟨g, 3 * kk + 1, none⟩)), some (.int .i64 db), some (.pointer (some ⟨w.heap.size, 0, none⟩)), some (.int .i64 t), some (.bool true), some (.bool true), some (.bool true), some (.slice (some ⟨g, 0, none⟩) n ce), some (.int .i64 L), some (.pointer (some ⟨g, 3 * kk, none⟩)), some (.pointer (some ⟨g, 3 * kk + 2, none⟩)), some (.slice da dm dc), some (.pointer (some ⟨w.heap.size, 2, none⟩)), some (.slice ea m ec), some (.bool false), some (.bool false)] (fun Lz _ wy => Below w.heap.size w wy ∧ Tab wy [(w.heap.size, [.int .i64 t, .int .i64 b, .slice ea m ec])])
      [some 14, some 15, some 16, some 17, some 18, some 19, some 20, some 21, some 22, some 23, some 24, some 25, some 26, some 27, some 28, some 29, some 30, some 31, some 32, some 33, some 34, some 35] (by kernel_rfl) (by kernel_rfl) (by kernel_rfl) (by kernel_rfl) (by kernel_rfl) (by kernel_rfl) ⟨KB.out.drew, KT.out.later ((Below.refl _ _).drew)⟩ (fun i o ho => ?_) (fun Lz vz wz hL hB => ?_)
    · match i, ho with
      | 0, ho =>
        obtain rfl := Option.some.inj ho
        intro Az Lz vz wy Kz Ez hB k
        have e5 : Az.eval (.tmp 5) = .int .i64 L := Ez.out 5 (by kernel_rfl)
        exact wpo_val (v := .int .i64 L) (run_move e5) (k _ _ rfl hB)
      | 1, ho =>
        obtain rfl := Option.some.inj ho
        intro Az Lz vz wy Kz Ez hB k
        have e14 : Az.eval (.tmp 14) = .int .i64 L := Ez.dep 0 14 (by kernel_rfl) rfl
        exact wpo_val (v := .bool true) (run_bin e14 rfl (by simp [go_sem]) (by simp [go_sem, lpos])) (k _ _ rfl hB)
      | 2, ho =>
        obtain rfl := Option.some.inj ho
        intro Az Lz vz wy Kz Ez hB k
        have e15 : Az.eval (.tmp 15) = .bool true := Ez.dep 1 15 (by kernel_rfl) rfl
        exact wpo_val (v := .bool true) (run_move e15) (k _ _ rfl hB)
      | 3, ho =>
        obtain rfl := Option.some.inj ho
        intro Az Lz vz wy Kz Ez hB k
        have e0 : Az.eval (.tmp 0) = .slice (some ⟨g, 0, none⟩) n ce := Ez.out 0 (by kernel_rfl)
        exact wpo_val (v := .slice (some ⟨g, 0, none⟩) n ce) (run_move e0) (k _ _ rfl hB)
      | 4, ho =>
        obtain rfl := Option.some.inj ho
        intro Az Lz vz wy Kz Ez hB k
        have e5 : Az.eval (.tmp 5) = .int .i64 L := Ez.out 5 (by kernel_rfl)
        exact wpo_val (v := .int .i64 L) (run_move e5) (k _ _ rfl hB)
      | 5, ho =>
        obtain rfl := Option.some.inj ho
        intro Az Lz vz wy Kz Ez hB k
        have e17 : Az.eval (.tmp 17) = .slice (some ⟨g, 0, none⟩) n ce := Ez.dep 3 17 (by kernel_rfl) rfl
        have e18 : Az.eval (.tmp 18) = .int .i64 L := Ez.dep 4 18 (by kernel_rfl) rfl
        exact wpo_val (v := .pointer (some ⟨g, 3 * kk, none⟩)) (run_index e17 e18 (ix wy)) (k _ _ rfl hB)
      | 6, ho =>
        obtain rfl := Option.some.inj ho
        intro Az Lz vz wy Kz Ez hB k
        have e19 : Az.eval (.tmp 19) = .pointer (some ⟨g, 3 * kk, none⟩) := Ez.dep 5 19 (by kernel_rfl) rfl
        exact wpo_val (v := .pointer (some ⟨g, 3 * kk + 1, none⟩)) (run_field e19 (by simp [go_sem])) (k _ _ rfl hB)
      | 7, ho =>
        obtain rfl := Option.some.inj ho
        intro Az Lz vz wy Kz Ez hB k
        have e20 : Az.eval (.tmp 20) = .pointer (some ⟨g, 3 * kk + 1, none⟩) := Ez.dep 6 20 (by kernel_rfl) rfl
        exact wpo_val (v := .int .i64 db) (run_load e20 (by have c := cell_later hB.1 C1.out; simp [go_sem, c])) (k _ _ rfl hB)
      | 8, ho =>
        obtain rfl := Option.some.inj ho
        intro Az Lz vz wy Kz Ez hB k
        have e3 : Az.eval (.tmp 3) = .pointer (some ⟨w.heap.size, 0, none⟩) := Ez.out 3 (by kernel_rfl)
        exact wpo_val (v := .pointer (some ⟨w.heap.size, 0, none⟩)) (run_field e3 (by simp [go_sem])) (k _ _ rfl hB)
      | 9, ho =>
        obtain rfl := Option.some.inj ho
        intro Az Lz vz wy Kz Ez hB k
        have e22 : Az.eval (.tmp 22) = .pointer (some ⟨w.heap.size, 0, none⟩) := Ez.dep 8 22 (by kernel_rfl) rfl
        have c0_0 := hB.2.cell 0 0 rfl rfl
        exact wpo_val (v := .int .i64 t) (run_load e22 (by simp [go_sem, c0_0])) (k _ _ rfl hB)
      | 10, ho =>
        obtain rfl := Option.some.inj ho
        intro Az Lz vz wy Kz Ez hB k
        have e21 : Az.eval (.tmp 21) = .int .i64 db := Ez.dep 7 21 (by kernel_rfl) rfl
        have e23 : Az.eval (.tmp 23) = .int .i64 t := Ez.dep 9 23 (by kernel_rfl) rfl
        exact wpo_val (v := .bool true) (run_bin e21 e23 (by simp [go_sem]) (by simp [go_sem, bt])) (k _ _ rfl hB)
      | 11, ho =>
        obtain rfl := Option.some.inj ho
        intro Az Lz vz wy Kz Ez hB k
        have e16 : Az.eval (.tmp 16) = .bool true := Ez.dep 2 16 (by kernel_rfl) rfl
        have e24 : Az.eval (.tmp 24) = .bool true := Ez.dep 10 24 (by kernel_rfl) rfl
        exact wpo_val (v := .bool true) (run_pickT e16 e24) (k _ _ rfl hB)
      | 12, ho =>
        obtain rfl := Option.some.inj ho
        intro Az Lz vz wy Kz Ez hB k
        have e25 : Az.eval (.tmp 25) = .bool true := Ez.dep 11 25 (by kernel_rfl) rfl
        exact wpo_val (v := .bool true) (run_move e25) (k _ _ rfl hB)
      | 13, ho =>
        obtain rfl := Option.some.inj ho
        intro Az Lz vz wy Kz Ez hB k
        have e0 : Az.eval (.tmp 0) = .slice (some ⟨g, 0, none⟩) n ce := Ez.out 0 (by kernel_rfl)
        exact wpo_val (v := .slice (some ⟨g, 0, none⟩) n ce) (run_move e0) (k _ _ rfl hB)
      | 14, ho =>
        obtain rfl := Option.some.inj ho
        intro Az Lz vz wy Kz Ez hB k
        have e5 : Az.eval (.tmp 5) = .int .i64 L := Ez.out 5 (by kernel_rfl)
        exact wpo_val (v := .int .i64 L) (run_move e5) (k _ _ rfl hB)
      | 15, ho =>
        obtain rfl := Option.some.inj ho
        intro Az Lz vz wy Kz Ez hB k
        have e27 : Az.eval (.tmp 27) = .slice (some ⟨g, 0, none⟩) n ce := Ez.dep 13 27 (by kernel_rfl) rfl
        have e28 : Az.eval (.tmp 28) = .int .i64 L := Ez.dep 14 28 (by kernel_rfl) rfl
        exact wpo_val (v := .pointer (some ⟨g, 3 * kk, none⟩)) (run_index e27 e28 (ix wy)) (k _ _ rfl hB)
      | 16, ho =>
        obtain rfl := Option.some.inj ho
        intro Az Lz vz wy Kz Ez hB k
        have e29 : Az.eval (.tmp 29) = .pointer (some ⟨g, 3 * kk, none⟩) := Ez.dep 15 29 (by kernel_rfl) rfl
        exact wpo_val (v := .pointer (some ⟨g, 3 * kk + 2, none⟩)) (run_field e29 (by simp [go_sem])) (k _ _ rfl hB)
      | 17, ho =>
        obtain rfl := Option.some.inj ho
        intro Az Lz vz wy Kz Ez hB k
        have e30 : Az.eval (.tmp 30) = .pointer (some ⟨g, 3 * kk + 2, none⟩) := Ez.dep 16 30 (by kernel_rfl) rfl
        exact wpo_val (v := .slice da dm dc) (run_load e30 (by have c := cell_later hB.1 C2.out; simp [go_sem, c])) (k _ _ rfl hB)
      | 18, ho =>
        obtain rfl := Option.some.inj ho
        intro Az Lz vz wy Kz Ez hB k
        have e3 : Az.eval (.tmp 3) = .pointer (some ⟨w.heap.size, 0, none⟩) := Ez.out 3 (by kernel_rfl)
        exact wpo_val (v := .pointer (some ⟨w.heap.size, 2, none⟩)) (run_field e3 (by simp [go_sem])) (k _ _ rfl hB)
      | 19, ho =>
        obtain rfl := Option.some.inj ho
        intro Az Lz vz wy Kz Ez hB k
        have e32 : Az.eval (.tmp 32) = .pointer (some ⟨w.heap.size, 2, none⟩) := Ez.dep 18 32 (by kernel_rfl) rfl
        have c0_2 := hB.2.cell 0 2 rfl rfl
        exact wpo_val (v := .slice ea m ec) (run_load e32 (by simp [go_sem, c0_2])) (k _ _ rfl hB)
      | 20, ho =>
        obtain rfl := Option.some.inj ho
        intro Az Lz vz wy Kz Ez hB k
        have e31 : Az.eval (.tmp 31) = .slice da dm dc := Ez.dep 17 31 (by kernel_rfl) rfl
        have e33 : Az.eval (.tmp 33) = .slice ea m ec := Ez.dep 19 33 (by kernel_rfl) rfl
        refine wpo_call (run_callW (fun _ _ => by kernel_rfl)) (R := fun ez w' => ez = .returned (.bool false) ∧ Below wy.heap.size wy w') ?_ ?_
        · simp only [List.map_toArray, List.map_cons, List.map_nil, eval_const, e31, e33]
          exact EQ.out wy hB.1
        · rintro ez w' ⟨rfl, hb⟩
          exact ⟨_, rfl, k _ _ rfl ⟨bel_tr0 hB.1 hb, hB.2.later hb⟩⟩
      | 21, ho =>
        obtain rfl := Option.some.inj ho
        intro Az Lz vz wy Kz Ez hB k
        have e26 : Az.eval (.tmp 26) = .bool true := Ez.dep 12 26 (by kernel_rfl) rfl
        have e34 : Az.eval (.tmp 34) = .bool false := Ez.dep 20 34 (by kernel_rfl) rfl
        exact wpo_val (v := .bool false) (run_pickT e26 e34) (k _ _ rfl hB)
      | n + 22, ho => simp at ho
    · obtain ⟨hk, hT⟩ := hB
      have KB := Lib.hid hk
      have KT := Lib.hid hT
      clear hk hT hL
      simp only [puts2, mix, Act.put, List.setIfInBounds_toArray, List.set_cons_zero, List.set_cons_succ, Nat.zero_add, Nat.reduceAdd, List.getElem?_cons_zero, List.getElem?_cons_succ]
      have z0 := KT.out.cell 0 0 rfl rfl
      have z1 := KT.out.cell 0 1 rfl rfl
      have z2 := KT.out.cell 0 2 rfl rfl
      have lz := KT.out.lt 0 rfl
      go_wp2_with (at_builtin; refine wpList_append_own _ rfl _ _ 24 rfl base 86 i0 (.agg #[.int .i64 0, .int .i64 0, .slice none 0 0]) 3 40 Try.underlying24 hi hz0 hz1 hz2 rfl (by decide) _ _ _ rfl ((owns_later HO.out KB.out).alloc _) ⟨wz.heap.size, 0, none⟩ 1 1 [.int .i64 t, .int .i64 b, .slice ea m ec] rfl rfl ?c1 ?c2 ?c3 ?c4 ?c5 ?_)
      case c1 => exact band_cells _ _ _ _ _
      case c2 => intro u hu; simp at hu; rcases hu with rfl | rfl | rfl <;> rfl
      case c3 => unfold maxLen; omega
      case c4 => omega
      case c5 => have := KB.out.size; simp; omega
      intro v1 w1 hown1 hgrow _
      have FIN := Lib.hid (stk_app HO.out HL.out HN.out hb HE.out KB.out hgrow (by simpa [bcs] using hown1) SN.out)
      clear hown1 hgrow
      go_wp2_with fail
      go_returns
      exact FIN.out

set_option maxHeartbeats 4000000 in
theorem stacked_on (base : Nat) (v : Value) (n : Nat) (xs : List Value) (l : List Bd) (d : Bd) (t b : Int) (ev : Value) (es : List Int) (w : World) (hown : w.ownsRow base 86 3 v n xs) (hl : BL w (l ++ [d]) xs) (hn : n = (l ++ [d]).length) (hb : base ≤ w.heap.size) (he : EV w ev es) (ne : es ≠ []) (nb : n < 1000000000000) (h : d.b = t) (dn : d.es ≠ []) (h2 : d.es = es) :
    Calls Try.prog 43 #[v, .agg #[.int .i64 t, .int .i64 b, ev]] w (StkR w base (l ++ [d]) ⟨t, b, es⟩) := by
  have he' := he
  obtain ⟨ea, m, ec, rfl, E, _⟩ := he'
  have lm := E.r.hlen
  have p1 := List.length_pos_iff.2 ne
  have mz : ((m : Int) == 0) = false := by simpa using (show (m : Int) ≠ 0 by omega)
  clear E lm p1
  obtain ⟨i0, hi, hz0, hz1, hz2⟩ := band_parts
  have HE := Lib.hid he
  have HO := Lib.hid hown
  have HL := Lib.hid hl
  have HN := Lib.hid hn
  obtain ⟨L, wL⟩ : ∃ L, IntKind.i64.wrap ((n : Int) - 1) = L := ⟨_, rfl⟩
  have lL : L = (n : Int) - 1 := by rw [← wL, IntKind.wrap_i64]; omega
  obtain ⟨dv, ys, rfl, hd, hy⟩ := hl.last
  have hd' := hd
  obtain ⟨da, dm, dc, rfl, D, _⟩ := hd'
  have lk : n = l.length + 1 := by rw [hn, List.length_append]; rfl
  obtain ⟨g, ce, rfl⟩ := Joins.ownsRow_form hown (by omega)
  obtain ⟨kk, hk⟩ : ∃ k, k = l.length := ⟨_, rfl⟩
  have ly : ys.length = 3 * kk := by rw [hy.len, hk]
  have lpos : (0 : Int) ≤ L := by omega
  have Lk : L = (kk : Int) := by omega
  have C1 : Hid (w.cell? ⟨g, 3 * kk + 1, none⟩ = some (.int .i64 d.b)) := Lib.hid (by
    rw [hown.cellAt _ (by omega), List.getElem?_append_right (by omega), ly, show 3 * kk + 1 - 3 * kk = 1 by omega]; rfl)
  have C2 : Hid (w.cell? ⟨g, 3 * kk + 2, none⟩ = some (.slice da dm dc)) := Lib.hid (by
    rw [hown.cellAt _ (by omega), List.getElem?_append_right (by omega), ly, show 3 * kk + 2 - 3 * kk = 2 by omega]; rfl)
  have ix : ∀ wy : World, (Instr.indexAt 24 (.slice (some ⟨g, 0, none⟩) n ce) (.int .i64 L)).run Try.prog wy = .ok (.pointer (some ⟨g, 3 * kk, none⟩)) wy := fun wy => by
    have h1 : (kk : Int) < (n : Int) := by omega
    have h0 : (0 : Int) ≤ (kk : Int) := by omega
    rw [Lk]
    simp [go_sem, h0, h1, Addr.add, Nat.mul_comm]
    try (intro h; omega)
  have HD := Lib.hid hd
  have HY := Lib.hid hy
  obtain ⟨db, hdb⟩ : ∃ x, d.b = x := ⟨_, rfl⟩
  rw [hdb] at C1
  have EQ : Hid (∀ wy, Below w.heap.size w wy → Calls Try.prog 76 #[.slice da dm dc, .slice ea m ec] wy fun e w' => e = .returned (.bool (decide (d.es = es))) ∧ Below wy.heap.size wy w') := Lib.hid (fun wy kb => gequal_any _ _ _ _ wy (hd.later kb) (he.later kb) dn ne)
  have bt : (db == t) = true := by rw [← hdb]; simpa using h
  rw [decide_eq_true h2] at EQ
  have FIN : Hid (∀ wz, Below w.heap.size w wz → StkR w base (l ++ [d]) ⟨t, b, es⟩ (.returned (.slice (some ⟨g, 0, none⟩) n ce)) (wz.setCell ⟨g, 3 * kk + 1, none⟩ (.int .i64 b))) := Lib.hid (fun wz kb => stk_in hown hy hd lk hk hb kb ne h h2)
  clear lL hown hl he D hd hy lk ly Lk hk hn h hdb h2
  · skip
    go_enter Try.func43, Try.ntmps43
    go_wp2_with fail
    have KB : Hid (Below w.heap.size w (w.alloc (.cells #[.int .i64 t, .int .i64 b, .slice ea m ec] 86))) := Lib.hid ((Below.refl _ _).alloc (Nat.le_refl _) _)
    have KT : Hid (Tab (w.alloc (.cells #[.int .i64 t, .int .i64 b, .slice ea m ec] 86)) [(w.heap.size, [.int .i64 t, .int .i64 b, .slice ea m ec])]) := Lib.hid ((Tab.nil w).new' [.int .i64 t, .int .i64 b, .slice ea m ec] 86 rfl)
    refine wp_region_vals [some (.int .i64 L), some (.bool true), some (.bool true), some (.slice (some ⟨g, 0, none⟩) n ce), some (.int .i64 L), some (.pointer (some ⟨g, 3 * kk, none⟩)), some (.pointer (some ⟨g, 3 * kk + 1, none⟩)), some (.int .i64 db), some (.pointer (some ⟨w.heap.size, 0, none⟩)), some (.int .i64 t), some (.bool true), some (.bool true), some (.bool true), some (.slice (some ⟨g, 0, none⟩) n ce), some (.int .i64 L), some (.pointer (some ⟨g, 3 * kk, none⟩)), some (.pointer (some ⟨g, 3 * kk + 2, none⟩)), some (.slice da dm dc), some (.pointer (some ⟨w.heap.size, 2, none⟩)), some (.slice ea m ec), some (.bool true), some (.bool true)] (fun Lz _ wy => Below w.heap.size w wy ∧ Tab wy [(w.heap.size, [.int .i64 t, .int .i64 b, .slice ea m ec])])
      [some 14, some 15, some 16, some 17, some 18, some 19, some 20, some 21, some 22, some 23, some 24, some 25, some 26, some 27, some 28, some 29, some 30, some 31, some 32, some 33, some 34, some 35] (by kernel_rfl) (by kernel_rfl) (by kernel_rfl) (by kernel_rfl) (by kernel_rfl) (by kernel_rfl) ⟨KB.out.drew, KT.out.later ((Below.refl _ _).drew)⟩ (fun i o ho => ?_) (fun Lz vz wz hL hB => ?_)
    · match i, ho with
      | 0, ho =>
        obtain rfl := Option.some.inj ho
        intro Az Lz vz wy Kz Ez hB k
        have e5 : Az.eval (.tmp 5) = .int .i64 L := Ez.out 5 (by kernel_rfl)
        exact wpo_val (v := .int .i64 L) (run_move e5) (k _ _ rfl hB)
      | 1, ho =>
        obtain rfl := Option.some.inj ho
        intro Az Lz vz wy Kz Ez hB k
        have e14 : Az.eval (.tmp 14) = .int .i64 L := Ez.dep 0 14 (by kernel_rfl) rfl
        exact wpo_val (v := .bool true) (run_bin e14 rfl (by simp [go_sem]) (by simp [go_sem, lpos])) (k _ _ rfl hB)
      | 2, ho =>
        obtain rfl := Option.some.inj ho
        intro Az Lz vz wy Kz Ez hB k
        have e15 : Az.eval (.tmp 15) = .bool true := Ez.dep 1 15 (by kernel_rfl) rfl
        exact wpo_val (v := .bool true) (run_move e15) (k _ _ rfl hB)
      | 3, ho =>
        obtain rfl := Option.some.inj ho
        intro Az Lz vz wy Kz Ez hB k
        have e0 : Az.eval (.tmp 0) = .slice (some ⟨g, 0, none⟩) n ce := Ez.out 0 (by kernel_rfl)
        exact wpo_val (v := .slice (some ⟨g, 0, none⟩) n ce) (run_move e0) (k _ _ rfl hB)
      | 4, ho =>
        obtain rfl := Option.some.inj ho
        intro Az Lz vz wy Kz Ez hB k
        have e5 : Az.eval (.tmp 5) = .int .i64 L := Ez.out 5 (by kernel_rfl)
        exact wpo_val (v := .int .i64 L) (run_move e5) (k _ _ rfl hB)
      | 5, ho =>
        obtain rfl := Option.some.inj ho
        intro Az Lz vz wy Kz Ez hB k
        have e17 : Az.eval (.tmp 17) = .slice (some ⟨g, 0, none⟩) n ce := Ez.dep 3 17 (by kernel_rfl) rfl
        have e18 : Az.eval (.tmp 18) = .int .i64 L := Ez.dep 4 18 (by kernel_rfl) rfl
        exact wpo_val (v := .pointer (some ⟨g, 3 * kk, none⟩)) (run_index e17 e18 (ix wy)) (k _ _ rfl hB)
      | 6, ho =>
        obtain rfl := Option.some.inj ho
        intro Az Lz vz wy Kz Ez hB k
        have e19 : Az.eval (.tmp 19) = .pointer (some ⟨g, 3 * kk, none⟩) := Ez.dep 5 19 (by kernel_rfl) rfl
        exact wpo_val (v := .pointer (some ⟨g, 3 * kk + 1, none⟩)) (run_field e19 (by simp [go_sem])) (k _ _ rfl hB)
      | 7, ho =>
        obtain rfl := Option.some.inj ho
        intro Az Lz vz wy Kz Ez hB k
        have e20 : Az.eval (.tmp 20) = .pointer (some ⟨g, 3 * kk + 1, none⟩) := Ez.dep 6 20 (by kernel_rfl) rfl
        exact wpo_val (v := .int .i64 db) (run_load e20 (by have c := cell_later hB.1 C1.out; simp [go_sem, c])) (k _ _ rfl hB)
      | 8, ho =>
        obtain rfl := Option.some.inj ho
        intro Az Lz vz wy Kz Ez hB k
        have e3 : Az.eval (.tmp 3) = .pointer (some ⟨w.heap.size, 0, none⟩) := Ez.out 3 (by kernel_rfl)
        exact wpo_val (v := .pointer (some ⟨w.heap.size, 0, none⟩)) (run_field e3 (by simp [go_sem])) (k _ _ rfl hB)
      | 9, ho =>
        obtain rfl := Option.some.inj ho
        intro Az Lz vz wy Kz Ez hB k
        have e22 : Az.eval (.tmp 22) = .pointer (some ⟨w.heap.size, 0, none⟩) := Ez.dep 8 22 (by kernel_rfl) rfl
        have c0_0 := hB.2.cell 0 0 rfl rfl
        exact wpo_val (v := .int .i64 t) (run_load e22 (by simp [go_sem, c0_0])) (k _ _ rfl hB)
      | 10, ho =>
        obtain rfl := Option.some.inj ho
        intro Az Lz vz wy Kz Ez hB k
        have e21 : Az.eval (.tmp 21) = .int .i64 db := Ez.dep 7 21 (by kernel_rfl) rfl
        have e23 : Az.eval (.tmp 23) = .int .i64 t := Ez.dep 9 23 (by kernel_rfl) rfl
        exact wpo_val (v := .bool true) (run_bin e21 e23 (by simp [go_sem]) (by simp [go_sem, bt])) (k _ _ rfl hB)
      | 11, ho =>
        obtain rfl := Option.some.inj ho
        intro Az Lz vz wy Kz Ez hB k
        have e16 : Az.eval (.tmp 16) = .bool true := Ez.dep 2 16 (by kernel_rfl) rfl
        have e24 : Az.eval (.tmp 24) = .bool true := Ez.dep 10 24 (by kernel_rfl) rfl
        exact wpo_val (v := .bool true) (run_pickT e16 e24) (k _ _ rfl hB)
      | 12, ho =>
        obtain rfl := Option.some.inj ho
        intro Az Lz vz wy Kz Ez hB k
        have e25 : Az.eval (.tmp 25) = .bool true := Ez.dep 11 25 (by kernel_rfl) rfl
        exact wpo_val (v := .bool true) (run_move e25) (k _ _ rfl hB)
      | 13, ho =>
        obtain rfl := Option.some.inj ho
        intro Az Lz vz wy Kz Ez hB k
        have e0 : Az.eval (.tmp 0) = .slice (some ⟨g, 0, none⟩) n ce := Ez.out 0 (by kernel_rfl)
        exact wpo_val (v := .slice (some ⟨g, 0, none⟩) n ce) (run_move e0) (k _ _ rfl hB)
      | 14, ho =>
        obtain rfl := Option.some.inj ho
        intro Az Lz vz wy Kz Ez hB k
        have e5 : Az.eval (.tmp 5) = .int .i64 L := Ez.out 5 (by kernel_rfl)
        exact wpo_val (v := .int .i64 L) (run_move e5) (k _ _ rfl hB)
      | 15, ho =>
        obtain rfl := Option.some.inj ho
        intro Az Lz vz wy Kz Ez hB k
        have e27 : Az.eval (.tmp 27) = .slice (some ⟨g, 0, none⟩) n ce := Ez.dep 13 27 (by kernel_rfl) rfl
        have e28 : Az.eval (.tmp 28) = .int .i64 L := Ez.dep 14 28 (by kernel_rfl) rfl
        exact wpo_val (v := .pointer (some ⟨g, 3 * kk, none⟩)) (run_index e27 e28 (ix wy)) (k _ _ rfl hB)
      | 16, ho =>
        obtain rfl := Option.some.inj ho
        intro Az Lz vz wy Kz Ez hB k
        have e29 : Az.eval (.tmp 29) = .pointer (some ⟨g, 3 * kk, none⟩) := Ez.dep 15 29 (by kernel_rfl) rfl
        exact wpo_val (v := .pointer (some ⟨g, 3 * kk + 2, none⟩)) (run_field e29 (by simp [go_sem])) (k _ _ rfl hB)
      | 17, ho =>
        obtain rfl := Option.some.inj ho
        intro Az Lz vz wy Kz Ez hB k
        have e30 : Az.eval (.tmp 30) = .pointer (some ⟨g, 3 * kk + 2, none⟩) := Ez.dep 16 30 (by kernel_rfl) rfl
        exact wpo_val (v := .slice da dm dc) (run_load e30 (by have c := cell_later hB.1 C2.out; simp [go_sem, c])) (k _ _ rfl hB)
      | 18, ho =>
        obtain rfl := Option.some.inj ho
        intro Az Lz vz wy Kz Ez hB k
        have e3 : Az.eval (.tmp 3) = .pointer (some ⟨w.heap.size, 0, none⟩) := Ez.out 3 (by kernel_rfl)
        exact wpo_val (v := .pointer (some ⟨w.heap.size, 2, none⟩)) (run_field e3 (by simp [go_sem])) (k _ _ rfl hB)
      | 19, ho =>
        obtain rfl := Option.some.inj ho
        intro Az Lz vz wy Kz Ez hB k
        have e32 : Az.eval (.tmp 32) = .pointer (some ⟨w.heap.size, 2, none⟩) := Ez.dep 18 32 (by kernel_rfl) rfl
        have c0_2 := hB.2.cell 0 2 rfl rfl
        exact wpo_val (v := .slice ea m ec) (run_load e32 (by simp [go_sem, c0_2])) (k _ _ rfl hB)
      | 20, ho =>
        obtain rfl := Option.some.inj ho
        intro Az Lz vz wy Kz Ez hB k
        have e31 : Az.eval (.tmp 31) = .slice da dm dc := Ez.dep 17 31 (by kernel_rfl) rfl
        have e33 : Az.eval (.tmp 33) = .slice ea m ec := Ez.dep 19 33 (by kernel_rfl) rfl
        refine wpo_call (run_callW (fun _ _ => by kernel_rfl)) (R := fun ez w' => ez = .returned (.bool true) ∧ Below wy.heap.size wy w') ?_ ?_
        · simp only [List.map_toArray, List.map_cons, List.map_nil, eval_const, e31, e33]
          exact EQ.out wy hB.1
        · rintro ez w' ⟨rfl, hb⟩
          exact ⟨_, rfl, k _ _ rfl ⟨bel_tr0 hB.1 hb, hB.2.later hb⟩⟩
      | 21, ho =>
        obtain rfl := Option.some.inj ho
        intro Az Lz vz wy Kz Ez hB k
        have e26 : Az.eval (.tmp 26) = .bool true := Ez.dep 12 26 (by kernel_rfl) rfl
        have e34 : Az.eval (.tmp 34) = .bool true := Ez.dep 20 34 (by kernel_rfl) rfl
        exact wpo_val (v := .bool true) (run_pickT e26 e34) (k _ _ rfl hB)
      | n + 22, ho => simp at ho
    · obtain ⟨hk, hT⟩ := hB
      have KB := Lib.hid hk
      have KT := Lib.hid hT
      clear hk hT hL
      simp only [puts2, mix, Act.put, List.setIfInBounds_toArray, List.set_cons_zero, List.set_cons_succ, Nat.zero_add, Nat.reduceAdd, List.getElem?_cons_zero, List.getElem?_cons_succ]
      have z0 := KT.out.cell 0 0 rfl rfl
      have z1 := KT.out.cell 0 1 rfl rfl
      have z2 := KT.out.cell 0 2 rfl rfl
      have lz := KT.out.lt 0 rfl
      have j0 := ix wz
      have c1 := cell_later KB.out C1.out
      have f1 : wz.frozen? ⟨g, 3 * kk + 1, none⟩ = false := (owns_later HO.out KB.out).frozenAt _
      go_wp2_with fail
      go_returns
      exact FIN.out _ KB.out

theorem stacked_any (base : Nat) (v : Value) (n : Nat) (xs : List Value) (l : List Bd) (t b : Int) (ev : Value) (es : List Int) (w : World) (hown : w.ownsRow base 86 3 v n xs) (hl : BL w l xs) (hn : n = l.length) (hb : base ≤ w.heap.size) (he : EV w ev es) (nb : n < 1000000000000) (nz : ∀ d ∈ l, d.es ≠ []) :
    Calls Try.prog 43 #[v, .agg #[.int .i64 t, .int .i64 b, ev]] w (StkR w base l ⟨t, b, es⟩) := by
  by_cases ne : es = []
  · subst ne
    exact stacked_none base v n xs l t b ev w hown hl hn hb he
  · rcases List.eq_nil_or_concat l with rfl | ⟨l, d, rfl⟩
    · exact stacked_first base v n xs [] t b ev es w hown hl hn hb he ne nb
    · rw [List.concat_eq_append] at *
      have dn := nz d (by simp)
      by_cases h : d.b = t
      · by_cases h2 : d.es = es
        · exact stacked_on base v n xs l d t b ev es w hown hl hn hb he ne nb h dn h2
        · exact stacked_other base v n xs l d t b ev es w hown hl hn hb he ne nb h dn h2
      · exact stacked_top base v n xs l d t b ev es w hown hl hn hb he ne nb h
end Go.Proofs.Ytjemnjboopabpaa
