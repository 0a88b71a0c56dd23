/- The reference's field: its rectangles. -/
import Derived.Test.YtjemnjboopabpaaFieP
import Derived.Test.YtjemnjboopabpaaFieQ
import Derived.Test.YtjemnjboopabpaaGop
import Derived.Test.YtjemnjboopabpaaRegW
import Derived.Test.YtjemnjboopabpaaDam
import Derived.Test.YtjemnjboopabpaaSpk7
import Derived.Deep.CutBlock
import Derived.WalkKit
import Derived.WalkSpells
import Derived.WalkLawsBesides
import Derived.Handy
import Derived.Lib.Hide
import Derived.Deep.QuietTactic
import Derived.BigQuiet
import Derived.LoopTactic
import Derived.Deep.RegionHeld3
import Derived.Deep.RegionWith
import Derived.Outline
import Derived.Deep.DeepCutAuto
namespace Go.Proofs.Ytjemnjboopabpaa
open Go.RowKit Go.Proofs.Reg Go.Proofs.Big Go.Proofs.Bands
set_option linter.unusedVariables false
set_option linter.unusedSimpArgs false
set_option maxRecDepth 100000
theorem rect7_parts : ∃ i0 : TypeInfo, Try.prog.info? 31 = some i0 ∧ i0.zero = some (.agg #[.int .i64 0, .int .i64 0, .int .i64 0, .int .i64 0]) ∧ i0.size = 4 ∧ i0.bytes = 32 := by
  cases h : Try.prog.info? 31 with
  | none =>
    have : (Try.prog.info? 31).isSome = true := by kernel_rfl
    rw [h] at this
    cases this
  | some i0 =>
    have e : ∀ (α : Type) (f : TypeInfo → α) (v : α), (Try.prog.info? 31).map f = some v → f i0 = v := fun α f v hv => by rw [h] at hv; exact Option.some.inj hv
    exact ⟨i0, rfl, e _ (·.zero) _ (by kernel_rfl), e _ (·.size) _ (by kernel_rfl), e _ (·.bytes) _ (by kernel_rfl)⟩
theorem RS.of_owns7 {w : World} {base : Nat} {v : Value} {n : Nat} {rs : List Q4} (h : w.ownsRow base 31 4 v n (cells4 rs)) : RS w v rs := by
  have h' := h
  have hl := h.1
  rw [cells4_len] at hl
  have hn : n = rs.length := by omega
  obtain ⟨_, ⟨rfl, h0⟩ | ⟨g, cap, cur, rfl, _, _, hc, hm, _⟩⟩ := h'
  · exact ⟨none, 0, 0, rfl, by omega, by omega, by decide, fun h => by omega⟩
  · refine ⟨_, n, cap, rfl, hn, hc, by unfold maxLen at hm; omega, fun _ => ⟨g, 0, rfl, fun k r hk => ?_⟩⟩
    obtain ⟨c0, c1, c2, c3⟩ := cells4_get rs k r hk
    have lk := (List.getElem?_eq_some_iff.1 hk).1
    rw [Nat.zero_add]
    exact ⟨by rw [h.cellAt _ (by omega), c0], by rw [h.cellAt _ (by omega), c1], by rw [h.cellAt _ (by omega), c2], by rw [h.cellAt _ (by omega), c3]⟩
/-- what the loops of Rects keep -/
structure ReM (w wr : World) (fc : Array Value) (pe : Option Addr) (n ce : Nat) (rs : List Q4) : Prop where
  f : wr.heap[w.heap.size]? = some (.cells fc 29 (0, 0))
  own : wr.ownsRow (w.heap.size + 1) 31 4 (.slice pe n ce) n (cells4 rs)
  len : n = rs.length
  bel : Below w.heap.size w wr
theorem ReM.later {w wr wx : World} {fc : Array Value} {pe : Option Addr} {n ce : Nat} {rs : List Q4} (h : ReM w wr fc pe n ce rs) (hb : Below wr.heap.size wr wx) : ReM w wx fc pe n ce rs := by
  refine ⟨?_, owns_later h.own hb, h.len, bel_tr0 h.bel hb⟩
  rw [← h.f]
  exact hb.block _ (Array.getElem?_eq_some_iff.1 h.f).1
theorem ReM.app {w W w1 : World} {fc : Array Value} {pe : Option Addr} {n ce : Nat} {rs : List Q4} {v1 : Value} {x y z t : Int} {o : Obj} (h : ReM w W fc pe n ce rs)
    (ho : w1.ownsRow (w.heap.size + 1) 31 4 v1 (n + 1) (cells4 rs ++ [.int .i64 x, .int .i64 y, .int .i64 z, .int .i64 t])) (g : (W.alloc o).grownBy w1 (Value.slice pe n ce).ownBlock) :
    ∃ a1 c1, v1 = .slice a1 (n + 1) c1 ∧ ReM w w1 fc a1 (n + 1) c1 (rs ++ [(x, y, z, t)]) := by
  have lt : w.heap.size < W.heap.size := (Array.getElem?_eq_some_iff.1 h.f).1
  have ob : ∀ k, (Value.slice pe n ce).ownBlock = some k → w.heap.size + 1 ≤ k := fun k hk => (h.own.lt k hk).1
  have b1 : Below (w.heap.size + 1) W w1 := ((Below.refl _ W).alloc lt o).grown g (by rw [World.size_alloc]; omega) ob
  obtain ⟨a1, c1, rfl⟩ : ∃ a1 c1, v1 = .slice a1 (n + 1) c1 := by
    rcases Joins.ownsRow_forms ho with ⟨rfl, h⟩ | ⟨g, cap, rfl⟩
    · omega
    · exact ⟨_, cap, rfl⟩
  refine ⟨a1, c1, rfl, by rw [← h.f]; exact b1.block _ (by omega), ?_, by rw [List.length_append, h.len]; rfl, ?_⟩
  · rw [cells4_append]
    exact ho
  · exact (h.bel.alloc (Nat.le_of_lt lt) o).grown g (by rw [World.size_alloc]; omega) (fun k hk => by have := ob k hk; omega)
set_option maxHeartbeats 8000000 in
theorem rects7_any (fc : Array Value) (F : Int → Int → Bool) (hf : Fv fc F) (l : List Bd) (wf : Wf l) (b40 : L40 l) (few : (rectsB l).length ≤ 1073741824000) (he : ∀ x y : Nat, x < 40 → y < 40 → F x y = hasP l x y) (w : World) :
    Calls Try.prog 46 #[.agg fc] w (RcsR w l) := by
  have HF := Lib.hid hf
  have HWF := Lib.hid wf
  have HB4 := Lib.hid b40
  have HFW := Lib.hid few
  have HHE := Lib.hid he
  clear hf wf b40 few he
  obtain ⟨i0, hi, hz0, hz1, hz2⟩ := rect7_parts
  go_enter Try.func46, Try.ntmps46
  go_wp2_with fail
  go_loopw [3, 4] (fun s3 s4 wr => ∃ (j n y : Nat) (pe : Option Addr) (ce : Nat), s3 = .slice pe n ce ∧ s4 = .int .i64 y ∧ y ≤ 40 ∧ Hid (Down l j y) ∧ Hid (ReM w wr fc pe n ce (rectsB (l.take j)))) (fun _ s4 _ => 40 - (intOf s4).toNat)
  case atStart =>
    refine ⟨0, 0, 0, none, 0, rfl, rfl, by decide, Lib.hid (Down.start HB4.out), Lib.hid ⟨?_, World.ownsRow_nil _ _ _ _, rfl, by go_grown⟩⟩
    show (w.heap.push _)[w.heap.size]? = _
    simp [Array.getElem?_push]
  case round =>
    obtain ⟨j, n, y, pe, ce, rfl, rfl, hy, HD, HM⟩ := hrel
    by_cases y40 : y = 40
    · subst y40
      have FIN : Hid (RcsR w l (.returned (.slice pe n ce)) wr) := Lib.hid ⟨_, rfl, by
        have := RS.of_owns7 HM.out.own
        rw [show l.take j = l by rw [HD.out.done HWF.out HB4.out, List.take_length]] at this
        exact this, fun k hk => by have := (HM.out.own.lt k hk).1; omega, HM.out.bel⟩
      go_wp2_with fail
      go_returns
      exact FIN.out
    · have yl : y < 40 := by omega
      have yi : (y : Int) < 40 := by omega
      obtain ⟨LR, LS⟩ := row_held HM.out.f HF.out yl
      have RW := HF.out.row yl
      have NR := Lib.hid (fun wx => none_any _ _ RW wx)
      clear RW
      go_wp2_with (refine wpList_load_mid rfl 27 (.tmp 11) rfl w.heap.size (y * 40) rfl (rowC fc y).toList (.array 40 4) LR (by kernel_rfl) rfl LS ?_)
      refine (NR.out _).mono ?_
      rintro _ w1 ⟨bn, rfl, hbn, bl⟩
      have RA := rowAt_asc HWF.out (y : Int)
      have RE := row_e40 HB4.out (y : Int)
      have FH : ∀ x : Nat, x < 40 → F x y = inE (Bands.rowAt l y) x := fun x hx => HHE.out x y hx yl
      cases bn
      · have hr : Bands.rowAt l y ≠ [] := fun h => by
          have := hbn.2 fun x hx => by rw [FH x hx, h, inE_nil]
          exact absurd this (by decide)
        obtain ⟨d, hd, hdt, hde⟩ := HD.out.at HWF.out hr
        have ok := wf_ok HWF.out d (List.mem_of_getElem? hd)
        have bd := HB4.out d (List.mem_of_getElem? hd)
        obtain ⟨eb, heb⟩ : ∃ eb : Nat, d.b = eb := ⟨d.b.toNat, by have := bd.1; have := ok.tb; omega⟩
        have eb40 : eb ≤ 40 := by have := bd.1.2; omega
        have yeb : y < eb := by have := ok.tb; omega
        have HDD := Lib.hid hd
        have HDT := Lib.hid hdt
        have HEB := Lib.hid heb
        have OK := Lib.hid ok
        have BD := Lib.hid bd
        have FR : Hid (∀ x : Nat, x < 40 → F x y = inE d.es x) := Lib.hid fun x hx => by rw [FH x hx, hde]
        have RR : Hid (∀ e : Nat, e < 40 → ∀ x : Nat, x < 40 → F x e = inE (Bands.rowAt l e) x) := Lib.hid fun e he x hx => HHE.out x e hx he
        have M1 : Hid (ReM w w1 fc pe n ce (rectsB (l.take j))) := Lib.hid (HM.out.later bl)
        clear hbn RA RE FH hr hd hdt hde ok bd heb HM bl LR LS NR HD
        go_upto_block 2 with fail
        go_cut [5] (fun s5 wx => s5 = .int .i64 (eb : Int) ∧ Hid (ReM w wx fc pe n ce (rectsB (l.take j))))
        case first =>
          go_wp2_with fail
          go_loopw [5] (fun s5 wx => ∃ e : Nat, s5 = .int .i64 e ∧ y < e ∧ e ≤ eb ∧ Hid (ReM w wx fc pe n ce (rectsB (l.take j)))) (fun s5 _ => 40 - (intOf s5).toNat)
          case atStart => exact ⟨y + 1, by simp, by omega, by omega, M1⟩
          case round =>
            clear M1
            obtain ⟨e, rfl, ye, ee, HM⟩ := hrel
            by_cases e40 : e = 40
            · subst e40
              have eb4 : eb = 40 := by omega
              subst eb4
              go_wp2_with fail
              go_region
              all_goals
                go_wp2_with fail
                go_meet
                exact ⟨rfl, Lib.hid (HM.out.later ((Below.refl _ _).drew))⟩
            · have el : e < 40 := by omega
              have ei : (e : Int) < 40 := by omega
              obtain ⟨LE, LES⟩ := row_held HM.out.f HF.out el
              obtain ⟨LY, LYS⟩ := row_held HM.out.f HF.out yl
              have EQ := fun wx => rows_eql (HF.out.row el) (HF.out.row yl) wx
              obtain ⟨q, hq⟩ : ∃ q, ((List.range 40).all fun i => F i e == F i y) = q := ⟨_, rfl⟩
              rw [hq] at EQ
              have HQ : Hid (q = decide (e < eb)) := Lib.hid (by
                have ra := rowAt_asc HWF.out (e : Int)
                have re := row_e40 HB4.out (e : Int)
                by_cases lt : e < eb
                · rw [decide_eq_true lt, ← hq]
                  refine (all40 (P := fun i => F i e) (Q := fun i => F i y)).2 fun x hx => ?_
                  show F x e = F x y
                  rw [RR.out e el x hx, FR.out x hx, rowAt_get HWF.out HDD.out (by have := HDT.out; omega) (by have := HEB.out; omega)]
                · rw [decide_eq_false lt, ← hq]
                  have ex : e = eb := by omega
                  refine Bool.eq_false_iff.2 fun h => ?_
                  have h := (all40 (P := fun i => F i e) (Q := fun i => F i y)).1 h
                  have k : Bands.rowAt l e = d.es := row40 ra.1 OK.out.asc ra.2 OK.out.ev re BD.out.2 fun x hx => by rw [← RR.out e el x hx, ← FR.out x hx]; exact h x hx
                  rw [ex, ← HEB.out] at k
                  exact rowAt_end HWF.out HDD.out k)
              clear hq
              have KB : Hid (Below wr.heap.size wr wr) := Lib.hid (Below.refl _ _)
              have KT : Hid (Tab wr []) := Lib.hid (Tab.nil wr)
              go_upto_region 7 with fail
              -- REGION 7
              refine wp_region_vals [some (.int .i64 (e : Int)), some (.bool true), some (.bool true), some (.int .i64 (e : Int)), some (.pointer (some ⟨w.heap.size, e * 40, none⟩)), some (.agg (rowC fc e)), some (.int .i64 (y : Int)), some (.pointer (some ⟨w.heap.size, y * 40, none⟩)), some (.agg (rowC fc y)), some (.bool q), some (.bool q)] (fun Lz _ wy => Below wr.heap.size wr wy ∧ Tab wy [])
                [some 18, some 19, some 20, some 21, some 22, some 23, some 24, some 25, some 26, some 27, some 28] (by kernel_rfl) (by kernel_rfl) (by kernel_rfl) (by kernel_rfl) (by kernel_rfl) (by kernel_rfl) ⟨KB.out.drew, KT.out.later ((Below.refl _ _).drew)⟩ (fun i o ho => ?_) (fun Lz vz wz hL hB => ?_)
              · match i, ho with
                | 0, ho =>
                  obtain rfl := Option.some.inj ho
                  intro Az Lz vz wy Kz Ez hB k
                  have e5 : Az.eval (.tmp 5) = .int .i64 (e : Int) := Ez.out 5 (by kernel_rfl)
                  exact wpo_val (v := .int .i64 (e : Int)) (run_move e5) (k _ _ rfl hB)
                | 1, ho =>
                  obtain rfl := Option.some.inj ho
                  intro Az Lz vz wy Kz Ez hB k
                  have e18 : Az.eval (.tmp 18) = .int .i64 (e : Int) := Ez.dep 0 18 (by kernel_rfl) rfl
                  exact wpo_val (v := .bool true) (run_bin e18 rfl (by simp [go_sem]) (by simp [go_sem, ei])) (k _ _ rfl hB)
                | 2, ho =>
                  obtain rfl := Option.some.inj ho
                  intro Az Lz vz wy Kz Ez hB k
                  have e19 : Az.eval (.tmp 19) = .bool true := Ez.dep 1 19 (by kernel_rfl) rfl
                  exact wpo_val (v := .bool true) (run_move e19) (k _ _ rfl hB)
                | 3, ho =>
                  obtain rfl := Option.some.inj ho
                  intro Az Lz vz wy Kz Ez hB k
                  have e5 : Az.eval (.tmp 5) = .int .i64 (e : Int) := Ez.out 5 (by kernel_rfl)
                  exact wpo_val (v := .int .i64 (e : Int)) (run_move e5) (k _ _ rfl hB)
                | 4, ho =>
                  obtain rfl := Option.some.inj ho
                  intro Az Lz vz wy Kz Ez hB k
                  have e1 : Az.eval (.tmp 1) = .pointer (some ⟨w.heap.size, 0, none⟩) := Ez.out 1 (by kernel_rfl)
                  have e21 : Az.eval (.tmp 21) = .int .i64 (e : Int) := Ez.dep 3 21 (by kernel_rfl) rfl
                  exact wpo_val (v := .pointer (some ⟨w.heap.size, e * 40, none⟩)) (run_index e1 e21 (index_row7 _ el wy)) (k _ _ rfl hB)
                | 5, ho =>
                  obtain rfl := Option.some.inj ho
                  intro Az Lz vz wy Kz Ez hB k
                  have e22 : Az.eval (.tmp 22) = .pointer (some ⟨w.heap.size, e * 40, none⟩) := Ez.dep 4 22 (by kernel_rfl) rfl
                  exact wpo_val (v := .agg (rowC fc e)) (run_load e22 (load_row7 ((hB.1.block _ (Array.getElem?_eq_some_iff.1 HM.out.f).1).trans HM.out.f) HF.out el)) (k _ _ rfl hB)
                | 6, ho =>
                  obtain rfl := Option.some.inj ho
                  intro Az Lz vz wy Kz Ez hB k
                  have e4 : Az.eval (.tmp 4) = .int .i64 (y : Int) := Ez.out 4 (by kernel_rfl)
                  exact wpo_val (v := .int .i64 (y : Int)) (run_move e4) (k _ _ rfl hB)
                | 7, ho =>
                  obtain rfl := Option.some.inj ho
                  intro Az Lz vz wy Kz Ez hB k
                  have e1 : Az.eval (.tmp 1) = .pointer (some ⟨w.heap.size, 0, none⟩) := Ez.out 1 (by kernel_rfl)
                  have e24 : Az.eval (.tmp 24) = .int .i64 (y : Int) := Ez.dep 6 24 (by kernel_rfl) rfl
                  exact wpo_val (v := .pointer (some ⟨w.heap.size, y * 40, none⟩)) (run_index e1 e24 (index_row7 _ yl wy)) (k _ _ rfl hB)
                | 8, ho =>
                  obtain rfl := Option.some.inj ho
                  intro Az Lz vz wy Kz Ez hB k
                  have e25 : Az.eval (.tmp 25) = .pointer (some ⟨w.heap.size, y * 40, none⟩) := Ez.dep 7 25 (by kernel_rfl) rfl
                  exact wpo_val (v := .agg (rowC fc y)) (run_load e25 (load_row7 ((hB.1.block _ (Array.getElem?_eq_some_iff.1 HM.out.f).1).trans HM.out.f) HF.out yl)) (k _ _ rfl hB)
                | 9, ho =>
                  obtain rfl := Option.some.inj ho
                  intro Az Lz vz wy Kz Ez hB k
                  have e23 : Az.eval (.tmp 23) = .agg (rowC fc e) := Ez.dep 5 23 (by kernel_rfl) rfl
                  have e26 : Az.eval (.tmp 26) = .agg (rowC fc y) := Ez.dep 8 26 (by kernel_rfl) rfl
                  exact wpo_val (v := .bool q) (run_bin e23 e26 (by simp [go_sem]) (EQ wy)) (k _ _ rfl hB)
                | 10, ho =>
                  obtain rfl := Option.some.inj ho
                  intro Az Lz vz wy Kz Ez hB k
                  have e20 : Az.eval (.tmp 20) = .bool true := Ez.dep 2 20 (by kernel_rfl) rfl
                  have e27 : Az.eval (.tmp 27) = .bool q := Ez.dep 9 27 (by kernel_rfl) rfl
                  exact wpo_val (v := .bool q) (run_pickT e20 e27) (k _ _ rfl hB)
                | n + 11, ho => simp at ho
              · obtain ⟨hk, hT⟩ := hB
                have KB := Lib.hid hk
                have KT := Lib.hid hT
                clear hk hT hL
                simp only [puts2, mix, Act.put, List.setIfInBounds_toArray, List.set_cons_zero, List.set_cons_succ, Nat.zero_add, Nat.reduceAdd, List.getElem?_cons_zero, List.getElem?_cons_succ]

            -- END 7
                have MZ : Hid (ReM w wz fc pe n ce (rectsB (l.take j))) := Lib.hid (HM.out.later KB.out)
                cases q
                · have ex : e = eb := by have := HQ.out; have := of_decide_eq_false this.symm; omega
                  subst ex
                  go_wp2_with fail
                  go_meet
                  exact ⟨rfl, MZ⟩
                · have ex : e < eb := of_decide_eq_true HQ.out.symm
                  go_wp2_with fail
                  go_roundw
                  case rel => exact ⟨e + 1, by simp, by omega, by omega, MZ⟩
                  case measure => simp [intOf]; omega
        case rest =>
          clear M1
          obtain ⟨rfl, HM⟩ := hcut
          go_wp2_with fail
          go_loopw [3, 6] (fun s3 s6 wx => ∃ (i n x : Nat) (pe : Option Addr) (ce : Nat), s3 = .slice pe n ce ∧ s6 = .int .i64 x ∧ x ≤ 40 ∧ Hid (Scan d.es i x) ∧ Hid (ReM w wx fc pe n ce (rectsB (l.take j) ++ (runs d.t d.b d.es).take i))) (fun _ s6 _ => 40 - (intOf s6).toNat)
          case atStart => exact ⟨0, n, 0, pe, ce, rfl, rfl, by decide, Lib.hid (Scan.start BD.out.2), by simpa using HM⟩
          case round =>
            clear HM
            obtain ⟨i, n, x, pe, ce, rfl, rfl, hx, HS, HM⟩ := hrel
            by_cases x40 : x = 40
            · subst x40
              have ML : Hid (ReM w wr fc pe n ce (rectsB (l.take (j + 1)))) := Lib.hid (by
                have := HM.out
                rwa [HS.out.done OK.out.asc OK.out.ev BD.out.2, ← runs_len d.t d.b, List.take_length, ← rectsB_take HDD.out] at this)
              have HN : Hid (Down l (j + 1) (eb : Int)) := Lib.hid (by rw [← HEB.out]; exact Down.next HWF.out HDD.out)
              go_wp2_with fail
              go_roundw
              case rel => exact ⟨j + 1, n, eb, pe, ce, rfl, rfl, by omega, HN, ML⟩
              case measure => simp [intOf]; omega
            · have xl : x < 40 := by omega
              have xi : (x : Int) < 40 := by omega
              have g1 := (cell_row HM.out.f (y * 40 + x)).1
              have g2 := HF.out.get x y xl yl
              rw [show 40 * y + x = y * 40 + x by omega, FR.out x xl] at g2
              rw [g2] at g1
              clear g2
              obtain ⟨p, hp⟩ : ∃ p, inE d.es x = p := ⟨_, rfl⟩
              rw [hp] at g1
              cases p
              · have HN : Hid (Scan d.es i ((x + 1 : Nat) : Int)) := Lib.hid (HS.out.out OK.out.asc OK.out.ev hp)
                clear hp
                go_wp2_with fail
                go_roundw
                case rel => exact ⟨i, n, x + 1, pe, ce, rfl, by simp, by omega, HN, HM⟩
                case measure => simp [intOf]; omega
              · obtain ⟨hl, hxe⟩ := HS.out.at OK.out.asc OK.out.ev hp
                have lt := asc_get OK.out.asc (p := 2 * i) (q := 2 * i + 1) (by omega) hl
                rw [hxe] at lt
                have l40 := (BD.out.2 _ (getD_memE hl)).2
                obtain ⟨ct, hct⟩ : ∃ ct : Nat, d.es.getD (2 * i + 1) 0 = ct := ⟨(d.es.getD (2 * i + 1) 0).toNat, by omega⟩
                rw [hct] at lt l40
                have xct : x < ct := by omega
                have ct40 : ct ≤ 40 := by omega
                have HL := Lib.hid hl
                have HXE := Lib.hid hxe
                have HCT := Lib.hid hct
                clear hp hl hxe lt l40 hct
                go_upto_block 6 with fail
                go_cut [7] (fun s7 wx => s7 = .int .i64 (ct : Int) ∧ wx = wr)
                case first =>
                  go_wp2_with fail
                  go_loopw [7] (fun s7 wx => ∃ t : Nat, s7 = .int .i64 t ∧ x < t ∧ t ≤ ct ∧ wx = wr) (fun s7 _ => 40 - (intOf s7).toNat)
                  case atStart => exact ⟨x + 1, by simp, by omega, by omega, rfl⟩
                  case round =>
                    obtain ⟨t, rfl, xt, tt, rfl⟩ := hrel
                    by_cases t40 : t = 40
                    · subst t40
                      have ec : ct = 40 := by omega
                      subst ec
                      go_wp2_with fail
                      go_meet
                      exact ⟨rfl, rfl⟩
                    · have tl : t < 40 := by omega
                      have ti : (t : Int) < 40 := by omega
                      have g3 := (cell_row HM.out.f (y * 40 + t)).1
                      have g4 := HF.out.get t y tl yl
                      rw [show 40 * y + t = y * 40 + t by omega, FR.out t tl] at g4
                      rw [g4] at g3
                      clear g4
                      by_cases tc : t = ct
                      · subst tc
                        rw [← HCT.out, run_out OK.out.asc HL.out] at g3
                        go_wp2_with fail
                        go_meet
                        exact ⟨rfl, rfl⟩
                      · rw [run_in OK.out.asc HL.out (by rw [HXE.out]; omega) (by rw [HCT.out]; omega)] at g3
                        go_wp2_with fail
                        go_roundw
                        case rel => exact ⟨t + 1, by simp, by omega, by omega, by first | trivial | rfl⟩
                        case measure => simp [intOf]; omega
                case rest =>
                  obtain ⟨rfl, rfl⟩ := hcut
                  have NN : Hid (n + 1 ≤ 1073741824000) := Lib.hid (by
                    have h1 := HM.out.len
                    have h2 := HFW.out
                    have h3 : (rectsB l).length = (rectsB (l.take (j + 1))).length + (rectsB (l.drop (j + 1))).length := by
                      rw [← List.length_append]; unfold rectsB; rw [← List.flatMap_append, List.take_append_drop]
                    rw [rectsB_take HDD.out, List.length_append, runs_len] at h3
                    rw [List.length_append, List.length_take, runs_len] at h1
                    have := HL.out
                    omega)
                  go_wp2_with (at_builtin; go_loud (refine wpList_append_own _ rfl _ _ 89 rfl (w.heap.size + 1) 31 i0 (.agg #[.int .i64 0, .int .i64 0, .int .i64 0, .int .i64 0]) 4 32 Try.underlying89 hi hz0 hz1 hz2 rfl (by decide) _ _ _ rfl (HM.out.own.alloc _) ⟨_, 0, none⟩ 1 1 [.int .i64 (x : Int), .int .i64 (y : Int), .int .i64 (ct : Int), .int .i64 (eb : Int)] rfl rfl ?c1 ?c2 ?c3 ?c4 ?c5 ?_))
                  case c1 =>
                    intro k u hk
                    rw [add_none, Nat.zero_add, (cell_row (c := #[.int .i64 (x : Int), .int .i64 (y : Int), .int .i64 (ct : Int), .int .i64 (eb : Int)]) (t := 31) (by
                      show (wc.heap.push _)[wc.heap.size]? = _
                      simp [Array.getElem?_push]) k).1]
                    simpa using hk
                  case c2 => simp [Value.oneCell']
                  case c3 => have := NN.out; unfold maxLen; omega
                  case c4 => have := NN.out; omega
                  case c5 =>
                    have lt := (Array.getElem?_eq_some_iff.1 HM.out.f).1
                    rw [World.size_alloc]
                    omega
                  intro v1 w1 hown1 hgrow _
                  obtain ⟨a1, c1, rfl, HR⟩ := HM.out.app hown1 hgrow
                  have HS2 : Hid (Scan d.es (i + 1) (ct : Int)) := Lib.hid (by rw [← HCT.out]; exact HS.out.next OK.out.asc HL.out)
                  have HR2 : Hid (ReM w w1 fc a1 (n + 1) c1 (rectsB (l.take j) ++ (runs d.t d.b d.es).take (i + 1))) := Lib.hid (by
                    have q : (d.es.getD (2 * i) 0, d.t, d.es.getD (2 * i + 1) 0, d.b) = ((x : Int), (y : Int), (ct : Int), (eb : Int)) := by rw [HXE.out, HCT.out, HDT.out, HEB.out]
                    rw [runs_take HL.out, ← List.append_assoc, q]
                    exact HR)
                  clear hown1 hgrow HR HM HS
                  go_wp2_with fail
                  go_roundw
                  case rel => exact ⟨i + 1, n + 1, ct, a1, c1, by simp, rfl, by omega, HS2, HR2⟩
                  case measure => simp [intOf]; omega
      · have hr : Bands.rowAt l y = [] := row40 RA.1 List.Pairwise.nil RA.2 rfl RE (fun e m => by cases m) fun x hx => by
          rw [← FH x hx, hbn.1 rfl x hx, inE_nil]
        have HN : Hid (Down l j ((y + 1 : Nat) : Int)) := Lib.hid (HD.out.none HWF.out hr)
        have M1 : Hid (ReM w w1 fc pe n ce (rectsB (l.take j))) := Lib.hid (HM.out.later bl)
        clear hbn RA RE FH hr HM bl LR LS NR HD
        go_wp2_with fail
        go_roundw
        case rel => exact ⟨j, n, y + 1, pe, ce, rfl, by simp, by omega, HN, M1⟩
        case measure => simp [intOf]; omega
end Go.Proofs.Ytjemnjboopabpaa
/- The law's rectangles: plain and told. -/
namespace Go.Proofs.Ytjemnjboopabpaa
open Go.RowKit Go.Proofs.Reg Go.Proofs.Big Go.Proofs.Bands
set_option linter.unusedVariables false
set_option linter.unusedSimpArgs false
set_option maxRecDepth 100000
theorem told7_any (a b c d A B C D : Int) (a0 : I64 a) (b0 : I64 b) (c0 : I64 c) (d0 : I64 d) (h : Nrm a b c d A B C D) (w : World) :
    Calls Try.prog 10 #[rv a b c d] w fun e w' => e = .returned (rv A B C D) ∧ Below w.heap.size w w' := by
  have N := Lib.hid (xnew_any a b c d A B C D a0 b0 c0 d0 h)
  clear h
  unfold rv at N ⊢
  go_enter Try.func10, Try.ntmps10
  go_wp2_with fail
  refine (N.out _).mono ?_
  rintro e w1 ⟨rfl, hb⟩
  have K : Hid (Below w.heap.size w w1) := Lib.hid (bel_tr0 (by go_grown) hb)
  have R := (B4.new (w.alloc (.cells #[.int .i64 a, .int .i64 b, .int .i64 c, .int .i64 d] 31)) 0 0 0 0 40).later hb
  rw [World.size_alloc] at R
  obtain ⟨k0, k1, k2, k3, f0, f1, f2, f3⟩ := R
  have hz := hb.size
  simp only [World.size_alloc] at hz
  clear hb
  go_wp2_with fail
  refine bodyPost_ret (v := .agg #[.int .i64 A, .int .i64 B, .int .i64 C, .int .i64 D]) (by simp [results, Try.results10, go_sem, k0, k1, k2, k3]) rfl ?_
  exact ⟨rfl, (by have hk := K.out; repeat' (first | exact hk | (with_reducible refine Below.drew ?_) | (with_reducible refine Below.alloc ?_ ?_ _) | (with_reducible refine Below.setCell ?_ ?_ _) | (with_reducible refine below_drewN ?_ _) | go_size))⟩
/-- the rectangle that the law draws of four small numbers -/
def plQ (x y a b : Int) : Q4 := (12 + x % 14, 12 + y % 14, min (12 + x % 14 + a % 9) 28, min (12 + y % 14 + b % 9) 28)
theorem plain7_any (x y a b : Int) (x0 : 0 ≤ x ∧ x ≤ 255) (y0 : 0 ≤ y ∧ y ≤ 255) (a0 : 0 ≤ a ∧ a ≤ 255) (b0 : 0 ≤ b ∧ b ≤ 255) (w : World) :
    Calls Try.prog 7 #[.agg #[.int .u8 x, .int .u8 y, .int .u8 a, .int .u8 b]] w fun e w' => e = .returned (rv (plQ x y a b).1 (plQ x y a b).2.1 (plQ x y a b).2.2.1 (plQ x y a b).2.2.2) ∧ Below w.heap.size w w' := by
  obtain ⟨x0, x1⟩ := x0
  obtain ⟨y0, y1⟩ := y0
  obtain ⟨a0, a1⟩ := a0
  obtain ⟨b0, b1⟩ := b0
  go_enter Try.func7, Try.ntmps7
  go_wp2_with fail
  go_region
  all_goals
    go_wp2_with fail
    refine bodyPost_ret (v := .agg #[.int .i64 (12 + x % 14), .int .i64 (12 + y % 14), .int .i64 (min (12 + x % 14 + a % 9) 28), .int .i64 (min (12 + y % 14 + b % 9) 28)]) (by simp [results, Try.results7, go_sem]) rfl ?_
    exact ⟨rfl, (by have hk := Below.refl w.heap.size w; repeat' (first | exact hk | (with_reducible refine Below.drew ?_) | (with_reducible refine Below.alloc ?_ ?_ _) | (with_reducible refine Below.setCell ?_ ?_ _) | (with_reducible refine below_drewN ?_ _) | (simp; done) | (simp; omega) | go_size))⟩
end Go.Proofs.Ytjemnjboopabpaa
/- The reference's field: the hull of its rectangles. Made by gen/fiehull.py. -/
namespace Go.Proofs.Ytjemnjboopabpaa
open Go.RowKit Go.Proofs.Reg Go.Proofs.Big Go.Proofs.Bands
set_option linter.unusedVariables false
set_option linter.unusedSimpArgs false
set_option maxRecDepth 100000

theorem run_min2 {A : Act} {w : World} {p q : Operand} {a b : Int} {ty : TypeId} {x : Option Tmp} {ps : String} {af : Array Edge} {gd : Option (Nat × Bool)} (e : A.eval p = .int .i64 a) (f : A.eval q = .int .i64 b) :
    (execOp A.eval ⟨x, .call ⟨.builtin .min, #[p, q], #[3, 3]⟩, ty, ps, af, gd⟩).run Try.prog w = .ok (.value (.int .i64 (min a b))) w := by
  simp only [execOp, resolve, List.map_toArray, List.map_cons, List.map_nil, e, f]
  simp [go_sem]
theorem run_max2 {A : Act} {w : World} {p q : Operand} {a b : Int} {ty : TypeId} {x : Option Tmp} {ps : String} {af : Array Edge} {gd : Option (Nat × Bool)} (e : A.eval p = .int .i64 a) (f : A.eval q = .int .i64 b) :
    (execOp A.eval ⟨x, .call ⟨.builtin .max, #[p, q], #[3, 3]⟩, ty, ps, af, gd⟩).run Try.prog w = .ok (.value (.int .i64 (max a b))) w := by
  simp only [execOp, resolve, List.map_toArray, List.map_cons, List.map_nil, e, f]
  simp [go_sem]
set_option maxHeartbeats 4000000 in
theorem hull7_any (v : Value) (rs : List Q4) (w : World) (h : RS w v rs) (hi : ∀ r ∈ rs, Fil r) : Calls Try.prog 49 #[v] w fun e w' => e = .returned (rv (hullN rs rs.length).1 (hullN rs rs.length).2.1 (hullN rs rs.length).2.2.1 (hullN rs rs.length).2.2.2) ∧ Below w.heap.size w w' := by
  obtain ⟨a, n, c, rfl, hn, nmax, hcl⟩ := h.cells
  rw [← hn]
  obtain ⟨⟨z0, z1, z2, z3⟩, hz⟩ : ∃ q, hullN rs n = q := ⟨_, rfl⟩
  rw [hz]
  have HZ := Lib.hid hz
  clear hz
  dsimp only
  unfold rv
  have HC := Lib.hid hcl
  have HN := Lib.hid hn
  have HF := Lib.hid hi
  have HD : Hid ([w.heap.size + 1, w.heap.size].Nodup) := Lib.hid (by simp)
  clear hcl hn hi h
  go_enter Try.func49, Try.ntmps49
  go_wp2_with fail
  go_loopw [4] (fun s4 wr => ∃ ii : Nat, s4 = .int .i64 ii ∧ ii ≤ n ∧ Hid (Tab wr [(w.heap.size + 1, [.int .i64 (hullN rs ii).1, .int .i64 (hullN rs ii).2.1, .int .i64 (hullN rs ii).2.2.1, .int .i64 (hullN rs ii).2.2.2]), (w.heap.size, [.int .i64 0, .int .i64 0, .int .i64 0, .int .i64 0])]) ∧ Hid (Below w.heap.size w wr)) (fun s4 _ => n - (intOf s4).toNat)
  case atStart =>
    refine ⟨0, rfl, Nat.zero_le _, Lib.hid ?_, Lib.hid (by go_grown)⟩
    exact ((Tab.nil w).new' [.int .i64 0, .int .i64 0, .int .i64 0, .int .i64 0] 31 rfl).new' [.int .i64 0, .int .i64 0, .int .i64 0, .int .i64 0] 31 (by simp)
  case round =>
    obtain ⟨ii, rfl, hin, KT, KB⟩ := hrel
    by_cases lt : ii < n
    · have lt1 : (ii : Int) < (n : Int) := by omega
      obtain ⟨g, oo, rfl, hcl⟩ := HC.out (by omega)
      obtain ⟨r, hr⟩ : ∃ r, rs[ii]? = some r := ⟨_, List.getElem?_eq_getElem (by have := HN.out; omega)⟩
      obtain ⟨x0, x1, x2, x3⟩ := hcl ii r hr
      have st := hullN_step rs ii r hr
      have fr := HF.out r (List.mem_of_getElem? hr)
      have gw : g < w.heap.size := World.block_lt_of_cell? w _ x0
      have HL : Hid (∀ wy, Below w.heap.size w wy → wy.cell? ⟨g, oo + ii * 4, none⟩ = some (.int .i64 r.1) ∧ wy.cell? ⟨g, oo + ii * 4 + 1, none⟩ = some (.int .i64 r.2.1) ∧ wy.cell? ⟨g, oo + ii * 4 + 2, none⟩ = some (.int .i64 r.2.2.1) ∧ wy.cell? ⟨g, oo + ii * 4 + 3, none⟩ = some (.int .i64 r.2.2.2)) :=
        Lib.hid fun wy hb => ⟨cell_later hb x0, cell_later hb x1, cell_later hb x2, cell_later hb x3⟩
      obtain ⟨r0, r1, r2, r3⟩ := r
      obtain ⟨⟨q0, q1, q2, q3⟩, hq⟩ : ∃ q, hullN rs ii = q := ⟨_, rfl⟩
      rw [hq] at KT st
      dsimp only at HL KT
      have ix : ∀ wy : World, (Instr.indexAt 89 (.slice (some ⟨g, oo, none⟩) n c) (.int .i64 (ii : Int))).run Try.prog wy = .ok (.pointer (some ⟨g, oo + ii * 4, none⟩)) wy := fun wy => by
        have k0 : (0 : Int) ≤ (ii : Int) := by omega
        simp [go_sem, k0, lt1, Addr.add]
        try omega
      by_cases i0 : ii = 0
      · subst i0
        obtain ⟨p0, p1, p2, p3⟩ := HL.out wr KB.out
        rw [Nat.zero_mul, Nat.add_zero] at p0 p1 p2 p3
        have f0 := KT.out.froz 0 0 rfl rfl
        have f1 := KT.out.froz 0 1 rfl rfl
        have f2 := KT.out.froz 0 2 rfl rfl
        have f3 := KT.out.froz 0 3 rfl rfl
        have k0 := KT.out.cell 0 0 rfl rfl
        have k1 := KT.out.cell 0 1 rfl rfl
        have k2 := KT.out.cell 0 2 rfl rfl
        have k3 := KT.out.cell 0 3 rfl rfl
        have ST : Hid (hullN rs (0 + 1) = (r0, r1, r2, r3)) := Lib.hid (by rw [st]; exact if_pos (hq.symm.trans rfl))
        have npos : 0 < n := lt
        clear ix st hq HL hcl x0 x1 x2 x3
        go_wp2_with fail
        go_roundw
        case rel =>
          refine ⟨0 + 1, rfl, by omega, Lib.hid ?_, Lib.hid ?_⟩
          · rw [ST.out]
            exact (((KT.out.set1 0 0 (.int .i64 r0) rfl HD.out).set1 0 1 (.int .i64 r1) rfl HD.out).set1 0 2 (.int .i64 r2) rfl HD.out).set1 0 3 (.int .i64 r3) rfl HD.out
          · have hk := KB.out
            repeat' (first | exact hk | (with_reducible refine Below.drew ?_) | (with_reducible refine Below.setCell ?_ ?_ _) | (simp; done) | (simp; omega) | go_size)
        case measure => simp [intOf]; omega
      · have q0' : (q0, q1, q2, q3) ≠ (0, 0, 0, 0) := fun e => by
          have hl := hullN_hl HF.out ii (by have := HN.out; omega)
          rw [hq, e] at hl
          rcases hl with ⟨_, no⟩ | ⟨f, _⟩
          · obtain ⟨s, hs⟩ : ∃ s, rs[0]? = some s := ⟨_, List.getElem?_eq_getElem (by have := HN.out; omega)⟩
            have fs := HF.out s (List.mem_of_getElem? hs)
            have := no s.1 s.2.1
            rw [Bool.eq_false_iff] at this
            refine this ?_
            have ms : s ∈ rs.take ii := List.mem_of_getElem? (i := 0) (by rw [List.getElem?_take, if_pos (by omega)]; exact hs)
            refine List.any_eq_true.2 ⟨s, ms, inQ_iff.2 ?_⟩
            obtain ⟨h0, h1, h2, h3, h4, h5⟩ := fs
            omega
          · obtain ⟨h0, h1, h2, h3, h4, h5⟩ := f
            dsimp only at *
            omega
        rw [if_neg q0'] at st
        have ST : Hid (hullN rs (ii + 1) = (min q0 r0, min q1 r1, max q2 r2, max q3 r3)) := Lib.hid st
        have i00 : ¬ (ii : Int) = 0 := by omega
        clear st hq hcl x0 x1 x2 x3 q0'
        go_wp2_with fail
        refine wp_region_vals [some (.pointer (some ⟨w.heap.size + 1, 0, none⟩)), some (.int .i64 q0), some (.slice (some ⟨g, oo, none⟩) n c), some (.int .i64 (ii : Int)), some (.pointer (some ⟨g, oo + ii * 4, none⟩)), some (.pointer (some ⟨g, oo + ii * 4, none⟩)), some (.int .i64 r0), some (.int .i64 (min q0 r0)), some (.pointer (some ⟨w.heap.size + 1, 1, none⟩)), some (.int .i64 q1), some (.slice (some ⟨g, oo, none⟩) n c), some (.int .i64 (ii : Int)), some (.pointer (some ⟨g, oo + ii * 4, none⟩)), some (.pointer (some ⟨g, oo + ii * 4 + 1, none⟩)), some (.int .i64 r1), some (.int .i64 (min q1 r1)), some (.pointer (some ⟨w.heap.size + 1, 2, none⟩)), some (.int .i64 q2), some (.slice (some ⟨g, oo, none⟩) n c), some (.int .i64 (ii : Int)), some (.pointer (some ⟨g, oo + ii * 4, none⟩)), some (.pointer (some ⟨g, oo + ii * 4 + 2, none⟩)), some (.int .i64 r2), some (.int .i64 (max q2 r2)), some (.pointer (some ⟨w.heap.size + 1, 3, none⟩)), some (.int .i64 q3), some (.slice (some ⟨g, oo, none⟩) n c), some (.int .i64 (ii : Int)), some (.pointer (some ⟨g, oo + ii * 4, none⟩)), some (.pointer (some ⟨g, oo + ii * 4 + 3, none⟩)), some (.int .i64 r3), some (.int .i64 (max q3 r3)), some (.agg #[.int .i64 (min q0 r0), .int .i64 (min q1 r1), .int .i64 (max q2 r2), .int .i64 (max q3 r3)]), none] (fun Lz _ wy => Below w.heap.size w wy ∧ Tab wy [(w.heap.size + 1, if Lz 33 = true then [.int .i64 (min q0 r0), .int .i64 (min q1 r1), .int .i64 (max q2 r2), .int .i64 (max q3 r3)] else [.int .i64 q0, .int .i64 q1, .int .i64 q2, .int .i64 q3]), (w.heap.size, [.int .i64 0, .int .i64 0, .int .i64 0, .int .i64 0])])
          [some 16, some 17, some 18, some 19, some 20, some 21, some 22, some 23, some 24, some 25, some 26, some 27, some 28, some 29, some 30, some 31, some 32, some 33, some 34, some 35, some 36, some 37, some 38, some 39, some 40, some 41, some 42, some 43, some 44, some 45, some 46, some 47, some 48, none] (by kernel_rfl) (by kernel_rfl) (by kernel_rfl) (by kernel_rfl) (by kernel_rfl) (by kernel_rfl) ⟨KB.out.drew, KT.out.later ((Below.refl _ _).drew)⟩ (fun i o ho => ?_) (fun Lz vz wz hL hB => ?_)
        · match i, ho with
          | 0, ho =>
            obtain rfl := Option.some.inj ho
            intro Az Lz vz wy Kz Ez hB k
            have e3 : Az.eval (.tmp 3) = .pointer (some ⟨w.heap.size + 1, 0, none⟩) := Ez.out 3 (by kernel_rfl)
            exact wpo_val (v := .pointer (some ⟨w.heap.size + 1, 0, none⟩)) (run_index e3 rfl (by simp [go_sem])) (k _ _ rfl hB)
          | 1, ho =>
            obtain rfl := Option.some.inj ho
            intro Az Lz vz wy Kz Ez hB k
            have e16 : Az.eval (.tmp 16) = .pointer (some ⟨w.heap.size + 1, 0, none⟩) := Ez.dep 0 16 (by kernel_rfl) rfl
            have z33 : Lz 33 = false := Ez.late 33 _ rfl (by kernel_rfl)
            have hT := hB.2
            simp only [z33, Bool.false_eq_true, if_false] at hT
            have c0_0 := hT.cell 0 0 rfl rfl
            exact wpo_val (v := .int .i64 q0) (run_load e16 (by simp [go_sem, c0_0])) (k _ _ rfl hB)
          | 2, ho =>
            obtain rfl := Option.some.inj ho
            intro Az Lz vz wy Kz Ez hB k
            have e0 : Az.eval (.tmp 0) = .slice (some ⟨g, oo, none⟩) n c := Ez.out 0 (by kernel_rfl)
            exact wpo_val (v := .slice (some ⟨g, oo, none⟩) n c) (run_move e0) (k _ _ rfl hB)
          | 3, ho =>
            obtain rfl := Option.some.inj ho
            intro Az Lz vz wy Kz Ez hB k
            have e4 : Az.eval (.tmp 4) = .int .i64 (ii : Int) := Ez.out 4 (by kernel_rfl)
            exact wpo_val (v := .int .i64 (ii : Int)) (run_move e4) (k _ _ rfl hB)
          | 4, ho =>
            obtain rfl := Option.some.inj ho
            intro Az Lz vz wy Kz Ez hB k
            have e18 : Az.eval (.tmp 18) = .slice (some ⟨g, oo, none⟩) n c := Ez.dep 2 18 (by kernel_rfl) rfl
            have e19 : Az.eval (.tmp 19) = .int .i64 (ii : Int) := Ez.dep 3 19 (by kernel_rfl) rfl
            exact wpo_val (v := .pointer (some ⟨g, oo + ii * 4, none⟩)) (run_index e18 e19 (ix wy)) (k _ _ rfl hB)
          | 5, ho =>
            obtain rfl := Option.some.inj ho
            intro Az Lz vz wy Kz Ez hB k
            have e20 : Az.eval (.tmp 20) = .pointer (some ⟨g, oo + ii * 4, none⟩) := Ez.dep 4 20 (by kernel_rfl) rfl
            exact wpo_val (v := .pointer (some ⟨g, oo + ii * 4, none⟩)) (run_index e20 rfl (by simp [go_sem, Addr.add])) (k _ _ rfl hB)
          | 6, ho =>
            obtain rfl := Option.some.inj ho
            intro Az Lz vz wy Kz Ez hB k
            have e21 : Az.eval (.tmp 21) = .pointer (some ⟨g, oo + ii * 4, none⟩) := Ez.dep 5 21 (by kernel_rfl) rfl
            exact wpo_val (v := .int .i64 r0) (run_load e21 (by have hh := HL.out wy hB.1; simp [go_sem, hh.1, hh.2.1, hh.2.2.1, hh.2.2.2])) (k _ _ rfl hB)
          | 7, ho =>
            obtain rfl := Option.some.inj ho
            intro Az Lz vz wy Kz Ez hB k
            have e17 : Az.eval (.tmp 17) = .int .i64 q0 := Ez.dep 1 17 (by kernel_rfl) rfl
            have e22 : Az.eval (.tmp 22) = .int .i64 r0 := Ez.dep 6 22 (by kernel_rfl) rfl
            exact wpo_val (v := .int .i64 (min q0 r0)) (run_min2 e17 e22) (k _ _ rfl hB)
          | 8, ho =>
            obtain rfl := Option.some.inj ho
            intro Az Lz vz wy Kz Ez hB k
            have e3 : Az.eval (.tmp 3) = .pointer (some ⟨w.heap.size + 1, 0, none⟩) := Ez.out 3 (by kernel_rfl)
            exact wpo_val (v := .pointer (some ⟨w.heap.size + 1, 1, none⟩)) (run_index e3 rfl (by simp [go_sem])) (k _ _ rfl hB)
          | 9, ho =>
            obtain rfl := Option.some.inj ho
            intro Az Lz vz wy Kz Ez hB k
            have e24 : Az.eval (.tmp 24) = .pointer (some ⟨w.heap.size + 1, 1, none⟩) := Ez.dep 8 24 (by kernel_rfl) rfl
            have z33 : Lz 33 = false := Ez.late 33 _ rfl (by kernel_rfl)
            have hT := hB.2
            simp only [z33, Bool.false_eq_true, if_false] at hT
            have c0_1 := hT.cell 0 1 rfl rfl
            exact wpo_val (v := .int .i64 q1) (run_load e24 (by simp [go_sem, c0_1])) (k _ _ rfl hB)
          | 10, ho =>
            obtain rfl := Option.some.inj ho
            intro Az Lz vz wy Kz Ez hB k
            have e0 : Az.eval (.tmp 0) = .slice (some ⟨g, oo, none⟩) n c := Ez.out 0 (by kernel_rfl)
            exact wpo_val (v := .slice (some ⟨g, oo, none⟩) n c) (run_move e0) (k _ _ rfl hB)
          | 11, ho =>
            obtain rfl := Option.some.inj ho
            intro Az Lz vz wy Kz Ez hB k
            have e4 : Az.eval (.tmp 4) = .int .i64 (ii : Int) := Ez.out 4 (by kernel_rfl)
            exact wpo_val (v := .int .i64 (ii : Int)) (run_move e4) (k _ _ rfl hB)
          | 12, ho =>
            obtain rfl := Option.some.inj ho
            intro Az Lz vz wy Kz Ez hB k
            have e26 : Az.eval (.tmp 26) = .slice (some ⟨g, oo, none⟩) n c := Ez.dep 10 26 (by kernel_rfl) rfl
            have e27 : Az.eval (.tmp 27) = .int .i64 (ii : Int) := Ez.dep 11 27 (by kernel_rfl) rfl
            exact wpo_val (v := .pointer (some ⟨g, oo + ii * 4, none⟩)) (run_index e26 e27 (ix wy)) (k _ _ rfl hB)
          | 13, ho =>
            obtain rfl := Option.some.inj ho
            intro Az Lz vz wy Kz Ez hB k
            have e28 : Az.eval (.tmp 28) = .pointer (some ⟨g, oo + ii * 4, none⟩) := Ez.dep 12 28 (by kernel_rfl) rfl
            exact wpo_val (v := .pointer (some ⟨g, oo + ii * 4 + 1, none⟩)) (run_index e28 rfl (by simp [go_sem, Addr.add])) (k _ _ rfl hB)
          | 14, ho =>
            obtain rfl := Option.some.inj ho
            intro Az Lz vz wy Kz Ez hB k
            have e29 : Az.eval (.tmp 29) = .pointer (some ⟨g, oo + ii * 4 + 1, none⟩) := Ez.dep 13 29 (by kernel_rfl) rfl
            exact wpo_val (v := .int .i64 r1) (run_load e29 (by have hh := HL.out wy hB.1; simp [go_sem, hh.1, hh.2.1, hh.2.2.1, hh.2.2.2])) (k _ _ rfl hB)
          | 15, ho =>
            obtain rfl := Option.some.inj ho
            intro Az Lz vz wy Kz Ez hB k
            have e25 : Az.eval (.tmp 25) = .int .i64 q1 := Ez.dep 9 25 (by kernel_rfl) rfl
            have e30 : Az.eval (.tmp 30) = .int .i64 r1 := Ez.dep 14 30 (by kernel_rfl) rfl
            exact wpo_val (v := .int .i64 (min q1 r1)) (run_min2 e25 e30) (k _ _ rfl hB)
          | 16, ho =>
            obtain rfl := Option.some.inj ho
            intro Az Lz vz wy Kz Ez hB k
            have e3 : Az.eval (.tmp 3) = .pointer (some ⟨w.heap.size + 1, 0, none⟩) := Ez.out 3 (by kernel_rfl)
            exact wpo_val (v := .pointer (some ⟨w.heap.size + 1, 2, none⟩)) (run_index e3 rfl (by simp [go_sem])) (k _ _ rfl hB)
          | 17, ho =>
            obtain rfl := Option.some.inj ho
            intro Az Lz vz wy Kz Ez hB k
            have e32 : Az.eval (.tmp 32) = .pointer (some ⟨w.heap.size + 1, 2, none⟩) := Ez.dep 16 32 (by kernel_rfl) rfl
            have z33 : Lz 33 = false := Ez.late 33 _ rfl (by kernel_rfl)
            have hT := hB.2
            simp only [z33, Bool.false_eq_true, if_false] at hT
            have c0_2 := hT.cell 0 2 rfl rfl
            exact wpo_val (v := .int .i64 q2) (run_load e32 (by simp [go_sem, c0_2])) (k _ _ rfl hB)
          | 18, ho =>
            obtain rfl := Option.some.inj ho
            intro Az Lz vz wy Kz Ez hB k
            have e0 : Az.eval (.tmp 0) = .slice (some ⟨g, oo, none⟩) n c := Ez.out 0 (by kernel_rfl)
            exact wpo_val (v := .slice (some ⟨g, oo, none⟩) n c) (run_move e0) (k _ _ rfl hB)
          | 19, ho =>
            obtain rfl := Option.some.inj ho
            intro Az Lz vz wy Kz Ez hB k
            have e4 : Az.eval (.tmp 4) = .int .i64 (ii : Int) := Ez.out 4 (by kernel_rfl)
            exact wpo_val (v := .int .i64 (ii : Int)) (run_move e4) (k _ _ rfl hB)
          | 20, ho =>
            obtain rfl := Option.some.inj ho
            intro Az Lz vz wy Kz Ez hB k
            have e34 : Az.eval (.tmp 34) = .slice (some ⟨g, oo, none⟩) n c := Ez.dep 18 34 (by kernel_rfl) rfl
            have e35 : Az.eval (.tmp 35) = .int .i64 (ii : Int) := Ez.dep 19 35 (by kernel_rfl) rfl
            exact wpo_val (v := .pointer (some ⟨g, oo + ii * 4, none⟩)) (run_index e34 e35 (ix wy)) (k _ _ rfl hB)
          | 21, ho =>
            obtain rfl := Option.some.inj ho
            intro Az Lz vz wy Kz Ez hB k
            have e36 : Az.eval (.tmp 36) = .pointer (some ⟨g, oo + ii * 4, none⟩) := Ez.dep 20 36 (by kernel_rfl) rfl
            exact wpo_val (v := .pointer (some ⟨g, oo + ii * 4 + 2, none⟩)) (run_index e36 rfl (by simp [go_sem, Addr.add])) (k _ _ rfl hB)
          | 22, ho =>
            obtain rfl := Option.some.inj ho
            intro Az Lz vz wy Kz Ez hB k
            have e37 : Az.eval (.tmp 37) = .pointer (some ⟨g, oo + ii * 4 + 2, none⟩) := Ez.dep 21 37 (by kernel_rfl) rfl
            exact wpo_val (v := .int .i64 r2) (run_load e37 (by have hh := HL.out wy hB.1; simp [go_sem, hh.1, hh.2.1, hh.2.2.1, hh.2.2.2])) (k _ _ rfl hB)
          | 23, ho =>
            obtain rfl := Option.some.inj ho
            intro Az Lz vz wy Kz Ez hB k
            have e33 : Az.eval (.tmp 33) = .int .i64 q2 := Ez.dep 17 33 (by kernel_rfl) rfl
            have e38 : Az.eval (.tmp 38) = .int .i64 r2 := Ez.dep 22 38 (by kernel_rfl) rfl
            exact wpo_val (v := .int .i64 (max q2 r2)) (run_max2 e33 e38) (k _ _ rfl hB)
          | 24, ho =>
            obtain rfl := Option.some.inj ho
            intro Az Lz vz wy Kz Ez hB k
            have e3 : Az.eval (.tmp 3) = .pointer (some ⟨w.heap.size + 1, 0, none⟩) := Ez.out 3 (by kernel_rfl)
            exact wpo_val (v := .pointer (some ⟨w.heap.size + 1, 3, none⟩)) (run_index e3 rfl (by simp [go_sem])) (k _ _ rfl hB)
          | 25, ho =>
            obtain rfl := Option.some.inj ho
            intro Az Lz vz wy Kz Ez hB k
            have e40 : Az.eval (.tmp 40) = .pointer (some ⟨w.heap.size + 1, 3, none⟩) := Ez.dep 24 40 (by kernel_rfl) rfl
            have z33 : Lz 33 = false := Ez.late 33 _ rfl (by kernel_rfl)
            have hT := hB.2
            simp only [z33, Bool.false_eq_true, if_false] at hT
            have c0_3 := hT.cell 0 3 rfl rfl
            exact wpo_val (v := .int .i64 q3) (run_load e40 (by simp [go_sem, c0_3])) (k _ _ rfl hB)
          | 26, ho =>
            obtain rfl := Option.some.inj ho
            intro Az Lz vz wy Kz Ez hB k
            have e0 : Az.eval (.tmp 0) = .slice (some ⟨g, oo, none⟩) n c := Ez.out 0 (by kernel_rfl)
            exact wpo_val (v := .slice (some ⟨g, oo, none⟩) n c) (run_move e0) (k _ _ rfl hB)
          | 27, ho =>
            obtain rfl := Option.some.inj ho
            intro Az Lz vz wy Kz Ez hB k
            have e4 : Az.eval (.tmp 4) = .int .i64 (ii : Int) := Ez.out 4 (by kernel_rfl)
            exact wpo_val (v := .int .i64 (ii : Int)) (run_move e4) (k _ _ rfl hB)
          | 28, ho =>
            obtain rfl := Option.some.inj ho
            intro Az Lz vz wy Kz Ez hB k
            have e42 : Az.eval (.tmp 42) = .slice (some ⟨g, oo, none⟩) n c := Ez.dep 26 42 (by kernel_rfl) rfl
            have e43 : Az.eval (.tmp 43) = .int .i64 (ii : Int) := Ez.dep 27 43 (by kernel_rfl) rfl
            exact wpo_val (v := .pointer (some ⟨g, oo + ii * 4, none⟩)) (run_index e42 e43 (ix wy)) (k _ _ rfl hB)
          | 29, ho =>
            obtain rfl := Option.some.inj ho
            intro Az Lz vz wy Kz Ez hB k
            have e44 : Az.eval (.tmp 44) = .pointer (some ⟨g, oo + ii * 4, none⟩) := Ez.dep 28 44 (by kernel_rfl) rfl
            exact wpo_val (v := .pointer (some ⟨g, oo + ii * 4 + 3, none⟩)) (run_index e44 rfl (by simp [go_sem, Addr.add])) (k _ _ rfl hB)
          | 30, ho =>
            obtain rfl := Option.some.inj ho
            intro Az Lz vz wy Kz Ez hB k
            have e45 : Az.eval (.tmp 45) = .pointer (some ⟨g, oo + ii * 4 + 3, none⟩) := Ez.dep 29 45 (by kernel_rfl) rfl
            exact wpo_val (v := .int .i64 r3) (run_load e45 (by have hh := HL.out wy hB.1; simp [go_sem, hh.1, hh.2.1, hh.2.2.1, hh.2.2.2])) (k _ _ rfl hB)
          | 31, ho =>
            obtain rfl := Option.some.inj ho
            intro Az Lz vz wy Kz Ez hB k
            have e41 : Az.eval (.tmp 41) = .int .i64 q3 := Ez.dep 25 41 (by kernel_rfl) rfl
            have e46 : Az.eval (.tmp 46) = .int .i64 r3 := Ez.dep 30 46 (by kernel_rfl) rfl
            exact wpo_val (v := .int .i64 (max q3 r3)) (run_max2 e41 e46) (k _ _ rfl hB)
          | 32, ho =>
            obtain rfl := Option.some.inj ho
            intro Az Lz vz wy Kz Ez hB k
            have e23 : Az.eval (.tmp 23) = .int .i64 (min q0 r0) := Ez.dep 7 23 (by kernel_rfl) rfl
            have e31 : Az.eval (.tmp 31) = .int .i64 (min q1 r1) := Ez.dep 15 31 (by kernel_rfl) rfl
            have e39 : Az.eval (.tmp 39) = .int .i64 (max q2 r2) := Ez.dep 23 39 (by kernel_rfl) rfl
            have e47 : Az.eval (.tmp 47) = .int .i64 (max q3 r3) := Ez.dep 31 47 (by kernel_rfl) rfl
            exact wpo_val (v := .agg #[.int .i64 (min q0 r0), .int .i64 (min q1 r1), .int .i64 (max q2 r2), .int .i64 (max q3 r3)]) (run_build (l' := #[(0, .int .i64 (min q0 r0)), (1, .int .i64 (min q1 r1)), (2, .int .i64 (max q2 r2)), (3, .int .i64 (max q3 r3))]) (by simp only [List.map_toArray, List.map_cons, List.map_nil, eval_const, e23, e31, e39, e47]) (by simp [go_sem])) (k _ _ rfl hB)
          | 33, ho =>
            obtain rfl := Option.some.inj ho
            intro Az Lz vz wy Kz Ez hB k
            have e3 : Az.eval (.tmp 3) = .pointer (some ⟨w.heap.size + 1, 0, none⟩) := Ez.out 3 (by kernel_rfl)
            have e48 : Az.eval (.tmp 48) = .agg #[.int .i64 (min q0 r0), .int .i64 (min q1 r1), .int .i64 (max q2 r2), .int .i64 (max q3 r3)] := Ez.dep 32 48 (by kernel_rfl) rfl
            have z33 : Lz 33 = false := Ez.not
            have hT := hB.2
            simp only [z33, Bool.false_eq_true, if_false] at hT
            have c0_0 := hT.cell 0 0 rfl rfl
            have f0_0 := hT.froz 0 0 rfl rfl
            have c0_1 := hT.cell 0 1 rfl rfl
            have f0_1 := hT.froz 0 1 rfl rfl
            have c0_2 := hT.cell 0 2 rfl rfl
            have f0_2 := hT.froz 0 2 rfl rfl
            have c0_3 := hT.cell 0 3 rfl rfl
            have f0_3 := hT.froz 0 3 rfl rfl
            refine wpo_skip (w' := ((((wy.setCell ⟨w.heap.size + 1, 0, none⟩ (.int .i64 (min q0 r0))).setCell ⟨w.heap.size + 1, 1, none⟩ (.int .i64 (min q1 r1))).setCell ⟨w.heap.size + 1, 2, none⟩ (.int .i64 (max q2 r2))).setCell ⟨w.heap.size + 1, 3, none⟩ (.int .i64 (max q3 r3)))) (run_store e3 e48 (by simp [go_sem, c0_0, f0_0, c0_1, f0_1, c0_2, f0_2, c0_3, f0_3])) (k _ _ trivial ⟨?_, ?_⟩)
            · have hk := hB.1
              repeat' (first | exact hk | (with_reducible refine Below.setCell ?_ ?_ _) | (simp; done) | (simp; omega) | omega | go_size)
            · have hU := hB.2
              simp only [z33, Bool.false_eq_true, if_false] at hU
              exact ((((hU.set1 0 0 (.int .i64 (min q0 r0)) rfl HD.out).set1 0 1 (.int .i64 (min q1 r1)) rfl HD.out).set1 0 2 (.int .i64 (max q2 r2)) rfl HD.out).set1 0 3 (.int .i64 (max q3 r3)) rfl HD.out)
          | n + 34, ho => simp at ho
        · have l33 : Lz 33 = true := hL 33 (by decide)
          obtain ⟨hk, hT⟩ := hB
          simp only [l33, if_true] at hT
          have KB := Lib.hid hk
          have KT := Lib.hid hT
          clear hk hT hL
          simp only [puts2, mix, Act.put, List.setIfInBounds_toArray, List.set_cons_zero, List.set_cons_succ, Nat.zero_add, Nat.reduceAdd, List.getElem?_cons_zero, List.getElem?_cons_succ]

          go_wp2_with fail
          go_roundw
          case rel => exact ⟨ii + 1, by simp, by omega, by rw [ST.out]; exact KT, KB⟩
          case measure => simp [intOf]; omega
    · obtain rfl : ii = n := by omega
      have k0 := KT.out.cell 0 0 rfl rfl
      have k1 := KT.out.cell 0 1 rfl rfl
      have k2 := KT.out.cell 0 2 rfl rfl
      have k3 := KT.out.cell 0 3 rfl rfl
      have d0 := KT.out.cell 1 0 rfl rfl
      have d1 := KT.out.cell 1 1 rfl rfl
      have d2 := KT.out.cell 1 2 rfl rfl
      have d3 := KT.out.cell 1 3 rfl rfl
      have f0 := KT.out.froz 1 0 rfl rfl
      have f1 := KT.out.froz 1 1 rfl rfl
      have f2 := KT.out.froz 1 2 rfl rfl
      have f3 := KT.out.froz 1 3 rfl rfl
      have nlt : ¬ (ii : Int) < (ii : Int) := by omega
      rw [HZ.out] at k0 k1 k2 k3
      dsimp only at k0 k1 k2 k3
      go_wp2_with fail
      refine bodyPost_ret (v := .agg #[.int .i64 z0, .int .i64 z1, .int .i64 z2, .int .i64 z3]) (by simp [results, Try.results49, go_sem, d0, d1, d2, d3]) rfl ?_
      exact ⟨rfl, (by have hk := KB.out; repeat' (first | exact hk | (with_reducible refine Below.drew ?_) | (with_reducible refine Below.setCell ?_ ?_ _) | (simp; done) | (simp; omega) | go_size))⟩
end Go.Proofs.Ytjemnjboopabpaa
/- The reference's field: how many pixels, as the area of a set within it. -/
namespace Go.Proofs.Ytjemnjboopabpaa
open Go.RowKit Go.Proofs.Reg Go.Proofs.Big Go.Proofs.Bands
set_option linter.unusedVariables false
set_option linter.unusedSimpArgs false
set_option maxRecDepth 100000
theorem sumF_mid (f : Int → Int) (lo : Int) (a : Nat) : ∀ b : Nat, sumF f lo (a + b) = sumF f lo a + sumF f (lo + a) b
  | 0 => by simp [sumF]
  | b + 1 => by
    rw [← Nat.add_assoc, sumF, sumF, sumF_mid f lo a b, show lo + ((a + b : Nat) : Int) = lo + a + b by omega]
    omega
theorem sum40 {f : Int → Int} (h : ∀ x, x < 0 ∨ 40 ≤ x → f x = 0) : sumF f G0 GN = sumF f 0 40 := by
  have z : ∀ (lo : Int) (n : Nat), (∀ x : Int, lo ≤ x → x < lo + n → f x = 0) → sumF f lo n = 0 := fun lo n hz => by
    rw [sumF_congr (g := fun _ => 0) hz, sumF_zero]
  obtain ⟨r, hr⟩ : ∃ r, GN = 1073741824 + (40 + r) := ⟨GN - 1073741864, by decide⟩
  have g0 : G0 = -1073741824 := rfl
  rw [hr, sumF_mid, sumF_mid, g0, z _ 1073741824 (fun x h0 h1 => h x (by omega))]
  rw [show ((-1073741824 : Int) + ((1073741824 : Nat) : Int)) = 0 by decide, z _ r (fun x h0 h1 => h x (by omega))]
  omega
theorem cnt_row (F : Int → Int → Bool) (y : Nat) : ∀ n : Nat, n ≤ 40 → (cntF F (40 * y + n) : Int) = cntF F (40 * y) + sumF (fun x => one1 (F x y)) 0 n
  | 0, _ => by simp [sumF]
  | n + 1, h => by
    rw [cntF_step F (by omega), sumF]
    have := cnt_row F y n (by omega)
    rw [Int.zero_add]
    by_cases q : F n y = true
    · rw [if_pos q, q, show one1 true = 1 from rfl]; omega
    · rw [if_neg q, Bool.eq_false_iff.2 q, show one1 false = 0 from rfl]; omega
theorem cnt_rows (F : Int → Int → Bool) : ∀ y : Nat, y ≤ 40 → (cntF F (40 * y) : Int) = sumF (fun y => sumF (fun x => one1 (F x y)) 0 40) 0 y
  | 0, _ => rfl
  | y + 1, h => by
    have e : sumF (fun y => sumF (fun x => one1 (F x y)) 0 40) 0 (y + 1) = sumF (fun y => sumF (fun x => one1 (F x y)) 0 40) 0 y + sumF (fun x => one1 (F x (0 + (y : Int)))) 0 40 := rfl
    rw [e, show 40 * (y + 1) = 40 * y + 40 by omega, cnt_row F y 40 (Nat.le_refl _), cnt_rows F y (by omega), Int.zero_add]
/-- a set within the field -/
def In40 (P : Int → Int → Bool) : Prop := ∀ x y, P x y = true → 0 ≤ x ∧ x < 40 ∧ 0 ≤ y ∧ y < 40
theorem area40 {P F : Int → Int → Bool} (h : In40 P) (e : ∀ x y : Nat, x < 40 → y < 40 → F x y = P x y) : areaP P = cntF F 1600 := by
  have o : ∀ x y, ¬ (0 ≤ x ∧ x < 40 ∧ 0 ≤ y ∧ y < 40) → P x y = false := fun x y n => by
    cases q : P x y
    · rfl
    · exact absurd (h x y q) n
  have l : ∀ y, lineP (fun x => P x y) = sumF (fun x => one1 (P x y)) 0 40 := fun y =>
    sum40 (f := fun x => one1 (P x y)) fun x hx => by
      show one1 (P x y) = 0
      rw [o x y (by omega)]; rfl
  have c := cnt_rows F 40 (Nat.le_refl _)
  rw [show 40 * 40 = 1600 from rfl] at c
  rw [c]
  unfold areaP
  rw [sum40 (f := fun y => lineP fun x => P x y) (fun y hy => by
    show lineP (fun x => P x y) = 0
    rw [l y, sumF_congr (g := fun _ => 0) (fun x _ _ => by rw [o x y (by omega)]; rfl), sumF_zero])]
  refine sumF_congr fun y y0 y1 => ?_
  rw [l y]
  refine sumF_congr fun x x0 x1 => ?_
  have := e x.toNat y.toNat (by omega) (by omega)
  rw [show ((x.toNat : Nat) : Int) = x by omega, show ((y.toNat : Nat) : Int) = y by omega] at this
  rw [this]
end Go.Proofs.Ytjemnjboopabpaa
/- The law's same: has a region the rectangles that the reference finds? Made by gen/fiesame.py. -/
namespace Go.Proofs.Ytjemnjboopabpaa
open Go.RowKit Go.Proofs.Reg Go.Proofs.Big Go.Proofs.Bands
set_option linter.unusedVariables false
set_option linter.unusedSimpArgs false
set_option maxRecDepth 100000

theorem ok4_fil {r : Q4} (f : Fil r) : Ok4 r := by
  obtain ⟨a, b, c, d⟩ := r
  obtain ⟨h0, h1, h2, h3, h4, h5⟩ := f
  dsimp only at *
  exact ok_fil (by omega)
theorem ok4_told {q0 q1 q2 q3 : Int} (h : Ok4 (q0, q1, q2, q3)) (wy : World) : Calls Try.prog 10 #[rv q0 q1 q2 q3] wy fun e w' => e = .returned (rv q0 q1 q2 q3) ∧ Below wy.heap.size wy w' := by
  have h' : (q0 = 0 ∧ q1 = 0 ∧ q2 = 0 ∧ q3 = 0) ∨ (-1073741824 ≤ q0 ∧ q0 < q2 ∧ q2 ≤ 1073741824 ∧ -1073741824 ≤ q1 ∧ q1 < q3 ∧ q3 ≤ 1073741824) := by
    rcases h with e | e
    · left; simpa using e
    · right
      obtain ⟨h0, h1, h2, h3, h4, h5⟩ := e
      dsimp only at *
      omega
  refine told7_any _ _ _ _ _ _ _ _ ?_ ?_ ?_ ?_ ?_ wy
  · unfold I64; omega
  · unfold I64; omega
  · unfold I64; omega
  · unfold I64; omega
  · unfold Nrm lim; omega
theorem rect_neqs7 (a b c d : Int) (w : World) : (binOp BinOp.neq 40 (.agg #[.int .i64 a, .int .i64 b, .int .i64 c, .int .i64 d]) (.agg #[.int .i64 a, .int .i64 b, .int .i64 c, .int .i64 d])).run Try.prog w = .ok (.bool false) w := by
  simp [go_sem]
theorem rect_eqls7 (a b c d : Int) (w : World) : (binOp BinOp.eql 40 (.agg #[.int .i64 a, .int .i64 b, .int .i64 c, .int .i64 d]) (.agg #[.int .i64 a, .int .i64 b, .int .i64 c, .int .i64 d])).run Try.prog w = .ok (.bool true) w := by
  simp [go_sem]
theorem run_len7 {A : Act} {w : World} {p : Operand} {a : Option Addr} {n c : Nat} {ty : TypeId} {x : Option Tmp} {ps : String} {af : Array Edge} {gd : Option (Nat × Bool)} (e : A.eval p = .slice a n c) :
    (execOp A.eval ⟨x, .call ⟨.builtin .len, #[p], #[89]⟩, ty, ps, af, gd⟩).run Try.prog w = .ok (.value (.int .i64 n)) w := by
  simp only [execOp, resolve, List.map_toArray, List.map_cons, List.map_nil, e]
  simp [go_sem]
theorem load_field {w : World} {b : Nat} {c : Array Value} {t : TypeId} {F : Int → Int → Bool} (hb : w.heap[b]? = some (.cells c t (0, 0))) (h : Fv c F) :
    (Instr.loadAt 29 (.pointer (some ⟨b, 0, none⟩))).run Try.prog w = .ok (.agg c) w := by
  have := run_loadVar_row (P := Try.prog) w b t 29 c (0, 0) (.array 40 27) hb (by kernel_rfl) rfl (by rw [h.size]; kernel_rfl)
  simp [Instr.loadAt, Instr.sureAddr, this]
set_option maxHeartbeats 8000000 in
theorem same7_any (va : Value) (l : List Bd) (fc : Array Value) (F : Int → Int → Bool) (w : World) (h : Rg w va l) (few : Few l) (hf : Fv fc F) (b40 : L40 l) (he : ∀ x y : Nat, x < 40 → y < 40 → F x y = hasP l x y) :
    Calls Try.prog 16 #[va, .agg fc] w fun e w' => e = .returned (.bool true) ∧ Below w.heap.size w w' := by
  obtain ⟨u, rfl, hu⟩ := h.bs
  have wf := h.wf
  have HF := Lib.hid hf
  have HG := Lib.hid (hull_bands wf h.inr)
  have HFI := Lib.hid (rects_fil wf h.inr)
  have LR : Hid ((rectsB l).length ≤ 1073741824000) := Lib.hid (by
    have := rects_len few
    have := bands_len wf h.inr
    omega)
  have H1 : Hid (∀ wy, Below w.heap.size w wy → Calls Try.prog 35 #[.agg #[u]] wy fun e w' => ∃ v, e = .returned v ∧ RS w' v (rectsB l) ∧ Below wy.heap.size wy w') := Lib.hid fun wy hb => (rects_any _ l wy (h.later hb) few).mono fun _ _ ⟨v, a, b, _, d⟩ => ⟨v, a, b, d⟩
  have H3 : Hid (∀ wy, Calls Try.prog 46 #[.agg fc] wy fun e w' => ∃ v, e = .returned v ∧ RS w' v (rectsB l) ∧ Below wy.heap.size wy w') := Lib.hid fun wy => (rects7_any fc F hf l wf b40 LR.out he wy).mono fun _ _ ⟨v, a, b, _, d⟩ => ⟨v, a, b, d⟩
  have IN : In40 (hasP l) := fun x y q => by
    have ne : Bands.rowAt l y ≠ [] := fun e => by unfold hasP at q; rw [e, inE_nil] at q; exact absurd q (by decide)
    obtain ⟨d, m, h0, h1, e⟩ := rowAt_mem ne
    have b := (b40 d m).1
    have ev := (wf_ok wf d m).ev
    unfold hasP at q
    rw [e] at q
    have x0 : ¬ x < 0 := fun k => by rw [inE_left (b40 d m).2 k] at q; exact absurd q (by decide)
    have x1 : ¬ 40 ≤ x := fun k => by rw [inE_right (b40 d m).2 ev k] at q; exact absurd q (by decide)
    omega
  have H19 : Hid (∀ wy, Below w.heap.size w wy → Calls Try.prog 36 #[.agg #[u]] wy fun e w' => e = .returned (.int .i64 (cntF F 1600)) ∧ Below wy.heap.size wy w') := Lib.hid fun wy hb => by
    have := garea_any _ l wy (h.later hb) few
    rwa [area40 IN he] at this
  have H21 : Hid (∀ wy, Calls Try.prog 47 #[.agg fc] wy fun e w' => e = .returned (.int .i64 (cntF F 1600)) ∧ Below wy.heap.size wy w') := Lib.hid fun wy => count_any fc F hf wy
  have HU : Hid (∀ wy, Below w.heap.size w wy → Calls Try.prog 48 #[.agg #[u]] wy fun e w' => e = .returned (rv (hullN (rectsB l) (rectsB l).length).1 (hullN (rectsB l) (rectsB l).length).2.1 (hullN (rectsB l) (rectsB l).length).2.2.1 (hullN (rectsB l) (rectsB l).length).2.2.2) ∧ Below wy.heap.size wy w') := Lib.hid fun wy hb =>
    (ghull_any _ l wy (h.later hb) few).mono fun _ _ ⟨⟨q, hq, e⟩, b⟩ => ⟨by rw [← hl_one hq HG.out]; exact e, b⟩
  obtain ⟨cn, hcn⟩ : ∃ cn : Int, (cntF F 1600 : Int) = cn := ⟨_, rfl⟩
  rw [hcn] at H19 H21
  have HLN : Hid (∀ v wy, RS wy v (rectsB l) → Calls Try.prog 49 #[v] wy fun e w' => e = .returned (rv (hullN (rectsB l) (rectsB l).length).1 (hullN (rectsB l) (rectsB l).length).2.1 (hullN (rectsB l) (rectsB l).length).2.2.1 (hullN (rectsB l) (rectsB l).length).2.2.2) ∧ Below wy.heap.size wy w') := Lib.hid fun v wy hv => hull7_any v _ wy hv HFI.out
  have HQ4 : Ok4 (hullN (rectsB l) (rectsB l).length) := by
    rcases HG.out with ⟨e, _⟩ | ⟨f, _⟩
    · exact .inl e
    · exact ok4_fil f
  obtain ⟨⟨q0, q1, q2, q3⟩, hq⟩ : ∃ q, hullN (rectsB l) (rectsB l).length = q := ⟨_, rfl⟩
  rw [hq] at HU HLN HQ4
  dsimp only at HU HLN
  have TQ : Hid (∀ wy, Calls Try.prog 10 #[rv q0 q1 q2 q3] wy fun e w' => e = .returned (rv q0 q1 q2 q3) ∧ Below wy.heap.size wy w') := Lib.hid fun wy => ok4_told HQ4 wy
  have TD : Hid (∀ r ∈ rectsB l, ∀ wy, Calls Try.prog 10 #[rv r.1 r.2.1 r.2.2.1 r.2.2.2] wy fun e w' => e = .returned (rv r.1 r.2.1 r.2.2.1 r.2.2.2) ∧ Below wy.heap.size wy w') := Lib.hid fun r m wy => by
    obtain ⟨a0, a1, a2, a3⟩ := fil_i64 (HFI.out r m)
    exact told7_any _ _ _ _ _ _ _ _ a0 a1 a2 a3 (fil_nrm (HFI.out r m)) wy
  unfold rv at HU HLN TQ TD
  clear h few hf b40 he wf hu IN hcn hq HQ4 HG
  go_enter Try.func16, Try.ntmps16
  go_wp2_with fail
  have KB0 : Hid (Below w.heap.size w ((w.alloc (.cells #[u] 26)).alloc (.cells fc 29))) := Lib.hid (by go_grown)
  have KT : Hid (Tab ((w.alloc (.cells #[u] 26)).alloc (.cells fc 29)) [(w.heap.size, [u])]) := Lib.hid (((Tab.nil w).new' [u] 26 rfl).alloc _)
  have HFd : Hid (((w.alloc (.cells #[u] 26)).alloc (.cells fc 29)).heap[w.heap.size + 1]? = some (.cells fc 29 (0, 0))) := Lib.hid (by
    show ((w.heap.push _).push _)[w.heap.size + 1]? = _
    simp [Array.getElem?_push, Array.getElem_push])
  generalize hw0 : (w.alloc (.cells #[u] 26)).alloc (.cells fc 29) = w0 at *
  clear hw0
  have KB : Hid (Below w0.heap.size w0 w0) := Lib.hid (Below.refl _ _)
  have EP : ∀ (i : Nat) (v : Value) (w w' : World), ((fun i => match i with | 1 => fun v w => RS w v (rectsB l) | 3 => fun v w => RS w v (rectsB l) | 4 => fun v w => RS w v (rectsB l) | 5 => fun v w => RS w v (rectsB l) | _ => fun _ _ => True) : Nat → Value → World → Prop) i v w → Below w.heap.size w w' → ((fun i => match i with | 1 => fun v w => RS w v (rectsB l) | 3 => fun v w => RS w v (rectsB l) | 4 => fun v w => RS w v (rectsB l) | 5 => fun v w => RS w v (rectsB l) | _ => fun _ _ => True) : Nat → Value → World → Prop) i v w' := by
    intro i v w w' h hb
    try dsimp only at h ⊢
    split at h <;> first | exact IsR.later h hb | exact RS.later h hb | exact h | trivial | (split <;> trivial)
  refine wp_region_vals [some (.agg #[u]), none, some (.agg fc), none, none, none] (fun Lz vz wy => Below w0.heap.size w0 wy ∧ Tab wy [(w.heap.size, [u])] ∧ Exs [1, 3, 4, 5] ((fun i => match i with | 1 => fun v w => RS w v (rectsB l) | 3 => fun v w => RS w v (rectsB l) | 4 => fun v w => RS w v (rectsB l) | 5 => fun v w => RS w v (rectsB l) | _ => fun _ _ => True) : Nat → Value → World → Prop) Lz vz wy)
    [some 8, some 9, some 10, some 11, some 5, some 6] (by kernel_rfl) (by kernel_rfl) (by kernel_rfl) (by kernel_rfl) (by kernel_rfl) (by kernel_rfl) ⟨KB.out.drew, KT.out.later ((Below.refl _ _).drew), Exs.start _ _ _ _⟩ (fun i o ho => ?_) (fun Lz vz wa hL hB => ?_)
  · match i, ho with
    | 0, ho =>
      obtain rfl := Option.some.inj ho
      intro Az Lz vz wy Kz Ez hB k
      have e2 : Az.eval (.tmp 2) = .pointer (some ⟨w.heap.size, 0, none⟩) := Ez.out 2 (by kernel_rfl)
      have c0_0 := hB.2.1.cell 0 0 rfl rfl
      exact wpo_val (v := .agg #[u]) (run_load e2 (by simp [go_sem, c0_0])) (k _ _ rfl ⟨hB.1, hB.2.1, hB.2.2.other 0 _ (by decide)⟩)
    | 1, ho =>
      obtain rfl := Option.some.inj ho
      intro Az Lz vz wy Kz Ez hB k
      have e8 : Az.eval (.tmp 8) = .agg #[u] := Ez.dep 0 8 (by kernel_rfl) rfl
      refine wpo_call (run_callW (fun _ _ => by kernel_rfl)) (R := fun ez w' => ∃ v, ez = .returned v ∧ (fun v w => RS w v (rectsB l)) v w' ∧ Below wy.heap.size wy w') ?_ ?_
      · simp only [List.map_toArray, List.map_cons, List.map_nil, eval_const, e8]
        exact H1.out wy (bel_tr0 KB0.out hB.1)
      · rintro ez w' ⟨vr, rfl, hr, hb⟩
        exact ⟨_, rfl, k _ _ trivial ⟨bel_tr0 hB.1 hb, hB.2.1.later hb, (hB.2.2.later EP hb).add 1 _ hr⟩⟩
    | 2, ho =>
      obtain rfl := Option.some.inj ho
      intro Az Lz vz wy Kz Ez hB k
      have e3 : Az.eval (.tmp 3) = .pointer (some ⟨w.heap.size + 1, 0, none⟩) := Ez.out 3 (by kernel_rfl)
      exact wpo_val (v := .agg fc) (run_load e3 (load_field ((hB.1.block _ (Array.getElem?_eq_some_iff.1 HFd.out).1).trans HFd.out) HF.out)) (k _ _ rfl ⟨hB.1, hB.2.1, hB.2.2.other 2 _ (by decide)⟩)
    | 3, ho =>
      obtain rfl := Option.some.inj ho
      intro Az Lz vz wy Kz Ez hB k
      have e10 : Az.eval (.tmp 10) = .agg fc := Ez.dep 2 10 (by kernel_rfl) rfl
      refine wpo_call (run_callW (fun _ _ => by kernel_rfl)) (R := fun ez w' => ∃ v, ez = .returned v ∧ (fun v w => RS w v (rectsB l)) v w' ∧ Below wy.heap.size wy w') ?_ ?_
      · simp only [List.map_toArray, List.map_cons, List.map_nil, eval_const, e10]
        exact H3.out wy
      · rintro ez w' ⟨vr, rfl, hr, hb⟩
        exact ⟨_, rfl, k _ _ trivial ⟨bel_tr0 hB.1 hb, hB.2.1.later hb, (hB.2.2.later EP hb).add 3 _ hr⟩⟩
    | 4, ho =>
      obtain rfl := Option.some.inj ho
      intro Az Lz vz wy Kz Ez hB k
      have e9 : Az.eval (.tmp 9) = vz 1 := Ez.dep 1 9 (by kernel_rfl) rfl
      exact wpo_val (v := vz 1) (run_assign e9) (k _ _ trivial ⟨hB.1, hB.2.1, hB.2.2.add 4 _ (hB.2.2 1 (by decide) (Ez.had 1 (by kernel_rfl)))⟩)
    | 5, ho =>
      obtain rfl := Option.some.inj ho
      intro Az Lz vz wy Kz Ez hB k
      have e11 : Az.eval (.tmp 11) = vz 3 := Ez.dep 3 11 (by kernel_rfl) rfl
      exact wpo_val (v := vz 3) (run_assign e11) (k _ _ trivial ⟨hB.1, hB.2.1, hB.2.2.add 5 _ (hB.2.2 3 (by decide) (Ez.had 3 (by kernel_rfl)))⟩)
    | n + 6, ho => simp at ho
  · obtain ⟨hk, hT, hR⟩ := hB
    have KB := Lib.hid hk
    have KT := Lib.hid hT
    have RA : RS wa (vz 4) (rectsB l) := hR 4 (by decide) (hL 4 (by decide))
    have RB : RS wa (vz 5) (rectsB l) := hR 5 (by decide) (hL 5 (by decide))
    clear hk hT hL hR
    simp only [puts2, mix, Act.put, List.setIfInBounds_toArray, List.set_cons_zero, List.set_cons_succ, Nat.zero_add, Nat.reduceAdd, List.getElem?_cons_zero, List.getElem?_cons_succ]

    obtain ⟨a, n, c, ev, hn, nmax, hca⟩ := RA.cells
    obtain ⟨a7, m, c7, ev7, hm, mmax, hc7⟩ := RB.cells
    have nm : m = n := by omega
    subst nm
    simp only [ev, ev7]
    have HA := Lib.hid hca
    have H7 := Lib.hid hc7
    have HN := Lib.hid hn
    have RBk : Hid (RS wa (.slice a7 m c7) (rectsB l)) := Lib.hid (by rw [← ev7]; exact RB)
    have KW : Hid (Below w0.heap.size w0 wa) := Lib.hid KB.out
    have KTa : Hid (Tab wa [(w.heap.size, [u])]) := Lib.hid KT.out
    have HFa : Hid (wa.heap[w.heap.size + 1]? = some (.cells fc 29 (0, 0))) := Lib.hid ((KB.out.block _ (Array.getElem?_eq_some_iff.1 HFd.out).1).trans HFd.out)
    clear ev ev7 RA RB hca hc7 hn hm
    have KB : Hid (Below wa.heap.size wa wa) := Lib.hid (Below.refl _ _)
    go_wp2_with fail
    refine wp_region_vals [some (.slice a m c), some (.int .i64 m), some (.slice a7 m c7), some (.int .i64 m), some (.bool false), some (.bool false), some (.agg #[u]), some (.int .i64 cn), some (.agg fc), some (.int .i64 cn), some (.bool false), some (.bool false)] (fun Lz _ wy => Below wa.heap.size wa wy ∧ Tab wy [(w.heap.size, [u])])
      [some 12, some 13, some 14, some 15, some 16, some 17, some 18, some 19, some 20, some 21, some 22, some 23] (by kernel_rfl) (by kernel_rfl) (by kernel_rfl) (by kernel_rfl) (by kernel_rfl) (by kernel_rfl) ⟨KB.out.drew, KT.out.later ((Below.refl _ _).drew)⟩ (fun i o ho => ?_) (fun Lz vz wb hL hB => ?_)
    · match i, ho with
      | 0, ho =>
        obtain rfl := Option.some.inj ho
        intro Az Lz vz wy Kz Ez hB k
        have e5 : Az.eval (.tmp 5) = .slice a m c := Ez.out 5 (by kernel_rfl)
        exact wpo_val (v := .slice a m c) (run_move e5) (k _ _ rfl hB)
      | 1, ho =>
        obtain rfl := Option.some.inj ho
        intro Az Lz vz wy Kz Ez hB k
        have e12 : Az.eval (.tmp 12) = .slice a m c := Ez.dep 0 12 (by kernel_rfl) rfl
        exact wpo_val (v := .int .i64 m) (run_lenR e12) (k _ _ rfl hB)
      | 2, ho =>
        obtain rfl := Option.some.inj ho
        intro Az Lz vz wy Kz Ez hB k
        have e6 : Az.eval (.tmp 6) = .slice a7 m c7 := Ez.out 6 (by kernel_rfl)
        exact wpo_val (v := .slice a7 m c7) (run_move e6) (k _ _ rfl hB)
      | 3, ho =>
        obtain rfl := Option.some.inj ho
        intro Az Lz vz wy Kz Ez hB k
        have e14 : Az.eval (.tmp 14) = .slice a7 m c7 := Ez.dep 2 14 (by kernel_rfl) rfl
        exact wpo_val (v := .int .i64 m) (run_len7 e14) (k _ _ rfl hB)
      | 4, ho =>
        obtain rfl := Option.some.inj ho
        intro Az Lz vz wy Kz Ez hB k
        have e13 : Az.eval (.tmp 13) = .int .i64 m := Ez.dep 1 13 (by kernel_rfl) rfl
        have e15 : Az.eval (.tmp 15) = .int .i64 m := Ez.dep 3 15 (by kernel_rfl) rfl
        exact wpo_val (v := .bool false) (run_bin e13 e15 (by simp [go_sem]) (by simp [go_sem])) (k _ _ rfl hB)
      | 5, ho =>
        obtain rfl := Option.some.inj ho
        intro Az Lz vz wy Kz Ez hB k
        have e16 : Az.eval (.tmp 16) = .bool false := Ez.dep 4 16 (by kernel_rfl) rfl
        exact wpo_val (v := .bool false) (run_move e16) (k _ _ rfl hB)
      | 6, ho =>
        obtain rfl := Option.some.inj ho
        intro Az Lz vz wy Kz Ez hB k
        have e2 : Az.eval (.tmp 2) = .pointer (some ⟨w.heap.size, 0, none⟩) := Ez.out 2 (by kernel_rfl)
        have c0_0 := hB.2.cell 0 0 rfl rfl
        exact wpo_val (v := .agg #[u]) (run_load e2 (by simp [go_sem, c0_0])) (k _ _ rfl hB)
      | 7, ho =>
        obtain rfl := Option.some.inj ho
        intro Az Lz vz wy Kz Ez hB k
        have e18 : Az.eval (.tmp 18) = .agg #[u] := Ez.dep 6 18 (by kernel_rfl) rfl
        refine wpo_call (run_callW (fun _ _ => by kernel_rfl)) (R := fun ez w' => ez = .returned (.int .i64 cn) ∧ Below wy.heap.size wy w') ?_ ?_
        · simp only [List.map_toArray, List.map_cons, List.map_nil, eval_const, e18]
          exact H19.out wy (bel_tr0 (bel_tr0 KB0.out KW.out) hB.1)
        · rintro ez w' ⟨rfl, hb⟩
          exact ⟨_, rfl, k _ _ rfl ⟨bel_tr0 hB.1 hb, hB.2.later hb⟩⟩
      | 8, ho =>
        obtain rfl := Option.some.inj ho
        intro Az Lz vz wy Kz Ez hB k
        have e3 : Az.eval (.tmp 3) = .pointer (some ⟨w.heap.size + 1, 0, none⟩) := Ez.out 3 (by kernel_rfl)
        exact wpo_val (v := .agg fc) (run_load e3 (load_field ((hB.1.block _ (Array.getElem?_eq_some_iff.1 HFa.out).1).trans HFa.out) HF.out)) (k _ _ rfl hB)
      | 9, ho =>
        obtain rfl := Option.some.inj ho
        intro Az Lz vz wy Kz Ez hB k
        have e20 : Az.eval (.tmp 20) = .agg fc := Ez.dep 8 20 (by kernel_rfl) rfl
        refine wpo_call (run_callW (fun _ _ => by kernel_rfl)) (R := fun ez w' => ez = .returned (.int .i64 cn) ∧ Below wy.heap.size wy w') ?_ ?_
        · simp only [List.map_toArray, List.map_cons, List.map_nil, eval_const, e20]
          exact H21.out wy
        · rintro ez w' ⟨rfl, hb⟩
          exact ⟨_, rfl, k _ _ rfl ⟨bel_tr0 hB.1 hb, hB.2.later hb⟩⟩
      | 10, ho =>
        obtain rfl := Option.some.inj ho
        intro Az Lz vz wy Kz Ez hB k
        have e19 : Az.eval (.tmp 19) = .int .i64 cn := Ez.dep 7 19 (by kernel_rfl) rfl
        have e21 : Az.eval (.tmp 21) = .int .i64 cn := Ez.dep 9 21 (by kernel_rfl) rfl
        exact wpo_val (v := .bool false) (run_bin e19 e21 (by simp [go_sem]) (by simp [go_sem])) (k _ _ rfl hB)
      | 11, ho =>
        obtain rfl := Option.some.inj ho
        intro Az Lz vz wy Kz Ez hB k
        have e17 : Az.eval (.tmp 17) = .bool false := Ez.dep 5 17 (by kernel_rfl) rfl
        have e22 : Az.eval (.tmp 22) = .bool false := Ez.dep 10 22 (by kernel_rfl) rfl
        exact wpo_val (v := .bool false) (run_pickF e17 e22) (k _ _ rfl hB)
      | n + 12, ho => simp at ho
    · obtain ⟨hk, hT⟩ := hB
      have KB := Lib.hid hk
      have KT := Lib.hid hT
      clear hk hT hL
      simp only [puts2, mix, Act.put, List.setIfInBounds_toArray, List.set_cons_zero, List.set_cons_succ, Nat.zero_add, Nat.reduceAdd, List.getElem?_cons_zero, List.getElem?_cons_succ]

      have KA : Hid (Below wa.heap.size wa wb) := Lib.hid KB.out
      go_wp2_with fail
      go_loopw [7] (fun s7 wx => ∃ j : Nat, s7 = .int .i64 j ∧ j ≤ m ∧ Hid (Below wa.heap.size wa wx)) (fun s7 _ => m - (intOf s7).toNat)
      case atStart => exact ⟨0, rfl, Nat.zero_le _, KA⟩
      case round =>
        obtain ⟨j, rfl, hj, KL⟩ := hrel
        by_cases lt : j < m
        · have lt1 : (j : Int) < (m : Int) := by omega
          obtain ⟨g, oo, rfl, hcl⟩ := HA.out (by omega)
          obtain ⟨g7, o7, rfl, hcl7⟩ := H7.out (by omega)
          obtain ⟨r, hr⟩ : ∃ r, (rectsB l)[j]? = some r := ⟨_, List.getElem?_eq_getElem (by have := HN.out; omega)⟩
          obtain ⟨x0, x1, x2, x3⟩ := hcl j r hr
          obtain ⟨y0, y1, y2, y3⟩ := hcl7 j r hr
          have TR := Lib.hid (TD.out r (List.mem_of_getElem? hr))
          have HL : Hid (∀ wy, Below wa.heap.size wa wy → wy.cell? ⟨g, oo + j * 4, none⟩ = some (.int .i64 r.1) ∧ wy.cell? ⟨g, oo + j * 4 + 1, none⟩ = some (.int .i64 r.2.1) ∧ wy.cell? ⟨g, oo + j * 4 + 2, none⟩ = some (.int .i64 r.2.2.1) ∧ wy.cell? ⟨g, oo + j * 4 + 3, none⟩ = some (.int .i64 r.2.2.2)) :=
            Lib.hid fun wy hb => ⟨cell_later hb x0, cell_later hb x1, cell_later hb x2, cell_later hb x3⟩
          have HL7 : Hid (∀ wy, Below wa.heap.size wa wy → wy.cell? ⟨g7, o7 + j * 4, none⟩ = some (.int .i64 r.1) ∧ wy.cell? ⟨g7, o7 + j * 4 + 1, none⟩ = some (.int .i64 r.2.1) ∧ wy.cell? ⟨g7, o7 + j * 4 + 2, none⟩ = some (.int .i64 r.2.2.1) ∧ wy.cell? ⟨g7, o7 + j * 4 + 3, none⟩ = some (.int .i64 r.2.2.2)) :=
            Lib.hid fun wy hb => ⟨cell_later hb y0, cell_later hb y1, cell_later hb y2, cell_later hb y3⟩
          obtain ⟨r0, r1, r2, r3⟩ := r
          dsimp only at HL HL7 TR
          have ix : ∀ wy : World, (Instr.indexAt 77 (.slice (some ⟨g, oo, none⟩) m c) (.int .i64 (j : Int))).run Try.prog wy = .ok (.pointer (some ⟨g, oo + j * 4, none⟩)) wy := fun wy => by
            have k0 : (0 : Int) ≤ (j : Int) := by omega
            simp [go_sem, k0, lt1, Addr.add]
            try omega
          have ix7 : ∀ wy : World, (Instr.indexAt 89 (.slice (some ⟨g7, o7, none⟩) m c7) (.int .i64 (j : Int))).run Try.prog wy = .ok (.pointer (some ⟨g7, o7 + j * 4, none⟩)) wy := fun wy => by
            have k0 : (0 : Int) ≤ (j : Int) := by omega
            simp [go_sem, k0, lt1, Addr.add]
            try omega
          clear hcl hcl7 x0 x1 x2 x3 y0 y1 y2 y3 hr
          go_wp2_with fail
          have KB : Hid (Below wa.heap.size wa wr) := KL
          have KT : Hid (Tab wr []) := Lib.hid (Tab.nil _)
          refine wp_region_vals [some (.slice (some ⟨g, oo, none⟩) m c), some (.int .i64 (j : Int)), some (.pointer (some ⟨g, oo + j * 4, none⟩)), some (.agg #[.int .i64 r0, .int .i64 r1, .int .i64 r2, .int .i64 r3]), some (.slice (some ⟨g7, o7, none⟩) m c7), some (.int .i64 (j : Int)), some (.pointer (some ⟨g7, o7 + j * 4, none⟩)), some (.agg #[.int .i64 r0, .int .i64 r1, .int .i64 r2, .int .i64 r3]), some (.agg #[.int .i64 r0, .int .i64 r1, .int .i64 r2, .int .i64 r3]), some (.bool false)] (fun Lz _ wy => Below wa.heap.size wa wy ∧ Tab wy [])
            [some 30, some 31, some 32, some 33, some 34, some 35, some 36, some 37, some 38, some 39] (by kernel_rfl) (by kernel_rfl) (by kernel_rfl) (by kernel_rfl) (by kernel_rfl) (by kernel_rfl) ⟨KB.out.drew, KT.out.later ((Below.refl _ _).drew)⟩ (fun i o ho => ?_) (fun Lz vz wz hL hB => ?_)
          · match i, ho with
            | 0, ho =>
              obtain rfl := Option.some.inj ho
              intro Az Lz vz wy Kz Ez hB k
              have e5 : Az.eval (.tmp 5) = .slice (some ⟨g, oo, none⟩) m c := Ez.out 5 (by kernel_rfl)
              exact wpo_val (v := .slice (some ⟨g, oo, none⟩) m c) (run_move e5) (k _ _ rfl hB)
            | 1, ho =>
              obtain rfl := Option.some.inj ho
              intro Az Lz vz wy Kz Ez hB k
              have e7 : Az.eval (.tmp 7) = .int .i64 (j : Int) := Ez.out 7 (by kernel_rfl)
              exact wpo_val (v := .int .i64 (j : Int)) (run_move e7) (k _ _ rfl hB)
            | 2, ho =>
              obtain rfl := Option.some.inj ho
              intro Az Lz vz wy Kz Ez hB k
              have e30 : Az.eval (.tmp 30) = .slice (some ⟨g, oo, none⟩) m c := Ez.dep 0 30 (by kernel_rfl) rfl
              have e31 : Az.eval (.tmp 31) = .int .i64 (j : Int) := Ez.dep 1 31 (by kernel_rfl) rfl
              exact wpo_val (v := .pointer (some ⟨g, oo + j * 4, none⟩)) (run_index e30 e31 (ix wy)) (k _ _ rfl hB)
            | 3, ho =>
              obtain rfl := Option.some.inj ho
              intro Az Lz vz wy Kz Ez hB k
              have e32 : Az.eval (.tmp 32) = .pointer (some ⟨g, oo + j * 4, none⟩) := Ez.dep 2 32 (by kernel_rfl) rfl
              exact wpo_val (v := .agg #[.int .i64 r0, .int .i64 r1, .int .i64 r2, .int .i64 r3]) (run_load e32 (by have hh := HL.out wy hB.1; simp [go_sem, hh.1, hh.2.1, hh.2.2.1, hh.2.2.2])) (k _ _ rfl hB)
            | 4, ho =>
              obtain rfl := Option.some.inj ho
              intro Az Lz vz wy Kz Ez hB k
              have e6 : Az.eval (.tmp 6) = .slice (some ⟨g7, o7, none⟩) m c7 := Ez.out 6 (by kernel_rfl)
              exact wpo_val (v := .slice (some ⟨g7, o7, none⟩) m c7) (run_move e6) (k _ _ rfl hB)
            | 5, ho =>
              obtain rfl := Option.some.inj ho
              intro Az Lz vz wy Kz Ez hB k
              have e7 : Az.eval (.tmp 7) = .int .i64 (j : Int) := Ez.out 7 (by kernel_rfl)
              exact wpo_val (v := .int .i64 (j : Int)) (run_move e7) (k _ _ rfl hB)
            | 6, ho =>
              obtain rfl := Option.some.inj ho
              intro Az Lz vz wy Kz Ez hB k
              have e34 : Az.eval (.tmp 34) = .slice (some ⟨g7, o7, none⟩) m c7 := Ez.dep 4 34 (by kernel_rfl) rfl
              have e35 : Az.eval (.tmp 35) = .int .i64 (j : Int) := Ez.dep 5 35 (by kernel_rfl) rfl
              exact wpo_val (v := .pointer (some ⟨g7, o7 + j * 4, none⟩)) (run_index e34 e35 (ix7 wy)) (k _ _ rfl hB)
            | 7, ho =>
              obtain rfl := Option.some.inj ho
              intro Az Lz vz wy Kz Ez hB k
              have e36 : Az.eval (.tmp 36) = .pointer (some ⟨g7, o7 + j * 4, none⟩) := Ez.dep 6 36 (by kernel_rfl) rfl
              exact wpo_val (v := .agg #[.int .i64 r0, .int .i64 r1, .int .i64 r2, .int .i64 r3]) (run_load e36 (by have hh := HL7.out wy hB.1; simp [go_sem, hh.1, hh.2.1, hh.2.2.1, hh.2.2.2])) (k _ _ rfl hB)
            | 8, ho =>
              obtain rfl := Option.some.inj ho
              intro Az Lz vz wy Kz Ez hB k
              have e37 : Az.eval (.tmp 37) = .agg #[.int .i64 r0, .int .i64 r1, .int .i64 r2, .int .i64 r3] := Ez.dep 7 37 (by kernel_rfl) rfl
              refine wpo_call (run_callW (fun _ _ => by kernel_rfl)) (R := fun ez w' => ez = .returned (.agg #[.int .i64 r0, .int .i64 r1, .int .i64 r2, .int .i64 r3]) ∧ Below wy.heap.size wy w') ?_ ?_
              · simp only [List.map_toArray, List.map_cons, List.map_nil, eval_const, e37]
                exact TR.out wy
              · rintro ez w' ⟨rfl, hb⟩
                exact ⟨_, rfl, k _ _ rfl ⟨bel_tr0 hB.1 hb, hB.2.later hb⟩⟩
            | 9, ho =>
              obtain rfl := Option.some.inj ho
              intro Az Lz vz wy Kz Ez hB k
              have e33 : Az.eval (.tmp 33) = .agg #[.int .i64 r0, .int .i64 r1, .int .i64 r2, .int .i64 r3] := Ez.dep 3 33 (by kernel_rfl) rfl
              have e38 : Az.eval (.tmp 38) = .agg #[.int .i64 r0, .int .i64 r1, .int .i64 r2, .int .i64 r3] := Ez.dep 8 38 (by kernel_rfl) rfl
              exact wpo_val (v := .bool false) (run_bin e33 e38 (by simp [go_sem]) (by exact rect_neqs7 r0 r1 r2 r3 wy)) (k _ _ rfl hB)
            | n + 10, ho => simp at ho
          · obtain ⟨hk, hT⟩ := hB
            have KB := Lib.hid hk
            have KT := Lib.hid hT
            clear hk hT hL
            simp only [puts2, mix, Act.put, List.setIfInBounds_toArray, List.set_cons_zero, List.set_cons_succ, Nat.zero_add, Nat.reduceAdd, List.getElem?_cons_zero, List.getElem?_cons_succ]

            go_wp2_with fail
            go_roundw
            case rel => exact ⟨j + 1, by simp, by omega, KB⟩
            case measure => simp [intOf]; omega
        · obtain rfl : j = m := by omega
          have nlt : ¬ (j : Int) < (j : Int) := by omega
          have bw : Hid (Below w.heap.size w wr) := Lib.hid (bel_tr0 (bel_tr0 KB0.out KW.out) KL.out)
          have k0 := (KTa.out.later KL.out).cell 0 0 rfl rfl
          go_wp2_with fail
          refine (HU.out _ bw.out).mono ?_
          rintro _ v1 ⟨rfl, b1⟩
          have B1 := Lib.hid b1
          clear b1
          go_wp2_with fail
          refine (HLN.out _ _ ((RBk.out.later KL.out).later B1.out)).mono ?_
          rintro _ v2 ⟨rfl, b2⟩
          have B2 := Lib.hid b2
          clear b2
          go_wp2_with fail
          refine (TQ.out _).mono ?_
          rintro _ v3 ⟨rfl, b3⟩
          have B3 := Lib.hid b3
          clear b3
          have QE := rect_eqls7 q0 q1 q2 q3 v3
          go_wp2_with fail
          go_returns
          exact ⟨by first | rfl | simp, bel_tr0 (bel_tr0 (bel_tr0 bw.out B1.out) B2.out) B3.out⟩
end Go.Proofs.Ytjemnjboopabpaa
