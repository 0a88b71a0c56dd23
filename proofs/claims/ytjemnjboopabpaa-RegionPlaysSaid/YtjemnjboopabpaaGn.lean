/- Package region: the rectangles of a band. Made by gen/grects2.py. -/
import Derived.Test.YtjemnjboopabpaaGm
import Derived.Test.YtjemnjboopabpaaShareG
namespace Go.Proofs.Ytjemnjboopabpaa
open Go.RowKit Go.Shelf Go.Proofs.Reg Go.Proofs.Big Go.Proofs.Bands
set_option linter.unusedVariables false
set_option linter.unusedSimpArgs false
set_option maxRecDepth 100000
attribute [local go_sem] Oper.semAt_some
theorem four_cells (w : World) (x y z u : Value) (t : TypeId) : ∀ j v, [x, y, z, u][j]? = some v → (w.alloc (.cells #[x, y, z, u] t)).cell? ((⟨w.heap.size, 0, none⟩ : Addr).add j) = some v := by
  intro j v h
  match j, h with
  | 0, h => simp at h; subst h; simp [go_sem, Addr.add]
  | 1, h => simp at h; subst h; simp [go_sem, Addr.add]
  | 2, h => simp at h; subst h; simp [go_sem, Addr.add]
  | 3, h => simp at h; subst h; simp [go_sem, Addr.add]
  | j + 4, h => simp at h
/-- what a band's rectangles are -/
def RcR (w : World) (t b : Int) (es : List Int) (m : Nat) (e : Ending) (w' : World) : Prop := ∃ p c, e = .returned (.slice p m c) ∧ w'.ownsRow (w.heap.size + 1) 40 4 (.slice p m c) m ((List.range m).flatMap (rcs t b es)) ∧ Below w.heap.size w w'
set_option maxHeartbeats 4000000 in
theorem grects_any (t b : Int) (ev : Value) (es : List Int) (w : World) (he : EV w ev es) (hl : es.length % 2 = 0) (hn : es.length < 1000000000) (ne : es ≠ []) :
    Calls Try.prog 69 #[.agg #[.int .i64 t, .int .i64 b, ev]] w (RcR w t b es (es.length / 2)) := by
  obtain ⟨a, n, c, rfl, E, kd⟩ := he
  have lp := List.length_pos_iff.2 ne
  have ln := E.r.hlen
  obtain ⟨g, o, cs, fz, rfl, hg⟩ := kd (by omega)
  obtain ⟨pp, hp, hce⟩ := E.r.addr (by omega)
  have hp := Option.some.inj hp
  subst hp
  have HCE := Lib.hid hce
  have HG0 : Hid (g < w.heap.size) := Lib.hid (Array.getElem?_eq_some_iff.1 hg).1
  have hlc := E.nc
  have HCM := Lib.hid E.cm
  obtain ⟨m, hm⟩ : ∃ m, n = 2 * m := ⟨n / 2, by omega⟩
  have HM : Hid (n = 2 * m) := Lib.hid hm
  have LM : Hid (es.length / 2 = m) := Lib.hid (by omega)
  have LN := Lib.hid ln
  rw [LM.out]
  have mb : m < 1000000000 := by omega
  have nb' : n < 1000000000000 := by omega
  have mk := make_rects m (by omega)
  have q2 : (n : Int).tdiv 2 = (m : Int) := by rw [Int.tdiv_eq_ediv_of_nonneg (by omega)]; omega
  have wm : wrap64 (m : Int) = (m : Int) := by simp only [wrap64]; omega
  have wn : (n : Int) / 2 = (m : Int) := by omega
  clear hm hce hg kd ln lp hl hn
  refine (callsIn_wide (n := 3)).1 ?_
  refine callsIn_of_wp_marks Try.func69 rfl trivial ?_ rfl
  simp only [Try.ntmps69, List.size_toArray, List.length_cons, List.length_nil, Nat.reduceAdd, Nat.reduceSub, Array.replicate_succ, Array.replicate_zero, List.push_toArray, List.append_toArray, List.nil_append, List.cons_append]
  gi_wp2
  refine ⟨trivial, ?_⟩
  refine (chunk_in Fence.wide _ trivial rfl _ _ _ _).mono ?_
  rintro e w' ⟨rfl, rfl⟩
  gi_wp2
  refine wpIn_rangeFunc_ownG rfl (by omega) (gf := 98) (lb := #[.pointer (some ⟨w.heap.size + 1 + 1 + 1, 0, none⟩), .pointer (some ⟨w.heap.size + 1 + 1 + 1 + 1, 0, none⟩)]) rfl trivial (enters_of Try.func98 (by kernel_rfl) rfl)
    (chunk_stops Fence.wide (3 - 1) trivial rfl (by omega) (w.heap.size + 1 + 1 + 1) (w.heap.size + 1 + 1 + 1 + 1) g o n c m HM hlc nb' _ (by simp [go_sem]) (by simp [go_sem])) (fun h k => h.trans k)
    (fun W l o o' hl _ _ _ => ⟨World.putObj_heap_other (by simp at hl; omega), World.putObj_heap_other (by simp at hl; omega)⟩) (Below.refl _ _) (fun _ => rfl)
    (fun pre W => RtI t b es (w.alloc (.cells #[.int .i64 t, .int .i64 b, .slice (some ⟨g, o, none⟩) n c] 86)) (w.heap.size + 1) (w.heap.size + 1 + 1) (w.heap.size + 1 + 1 + 1) (w.heap.size + 1 + 1 + 1 + 1) (.slice (some ⟨g, o, none⟩) n c) (pre.map Subtype.val) W)
    (fun _ _ _ => False)
    (fun s W W' row hs hg hr => RtI.own (by simp) (s.map Subtype.val) W W' row hs hg hr)
    (fun _ _ _ _ _ hs _ _ => hs)
    ?init
    (fun x => { tmps := #[.agg #[.int .i64 t, .int .i64 b, .slice (some ⟨g, o, none⟩) n c], .pointer (some ⟨w.heap.size, 0, none⟩), .slice none 0 0, .pointer (some ⟨w.heap.size + 1 + 1, 0, none⟩), two g o x.1, .pointer (some ⟨w.heap.size, 2, none⟩), .slice (some ⟨g, o, none⟩) n c, .int .i64 n, .int .i64 m, .slice (some ⟨w.heap.size + 1, 0, none⟩) 0 m, .pointer (some ⟨w.heap.size, 2, none⟩), .slice (some ⟨g, o, none⟩) n c, .func (.func 98) #[] #[.pointer (some ⟨w.heap.size + 1 + 1 + 1, 0, none⟩), .pointer (some ⟨w.heap.size + 1 + 1 + 1 + 1, 0, none⟩)], two g o x.1, undef, undef, undef, undef, undef, undef, undef, undef, undef, undef, undef, undef, undef, undef, undef], defers := [] }) ?assign ?body ?done ?stop
  case init =>
    have b0 := ((Boxed.new ((w.alloc (.cells #[.int .i64 t, .int .i64 b, .slice (some ⟨g, o, none⟩) n c] 86)).alloc (.cells (madeCells #[.int .i64 0, .int .i64 0, .int .i64 0, .int .i64 0] (m * 4)) 40)) 77 (.slice (some ⟨w.heap.size + 1, 0, none⟩) 0 m)).alloc (.cells #[.slice (some ⟨g, o, none⟩) n c] 69)).alloc (.cells #[.int .i64 2] 3)
    have b1 := (Boxed.new (((w.alloc (.cells #[.int .i64 t, .int .i64 b, .slice (some ⟨g, o, none⟩) n c] 86)).alloc (.cells (madeCells #[.int .i64 0, .int .i64 0, .int .i64 0, .int .i64 0] (m * 4)) 40)).alloc (.cells #[.slice (some ⟨w.heap.size + 1, 0, none⟩) 0 m] 77)) 69 (.slice (some ⟨g, o, none⟩) n c)).alloc (.cells #[.int .i64 2] 3)
    have b2 := Boxed.new ((((w.alloc (.cells #[.int .i64 t, .int .i64 b, .slice (some ⟨g, o, none⟩) n c] 86)).alloc (.cells (madeCells #[.int .i64 0, .int .i64 0, .int .i64 0, .int .i64 0] (m * 4)) 40)).alloc (.cells #[.slice (some ⟨w.heap.size + 1, 0, none⟩) 0 m] 77)).alloc (.cells #[.slice (some ⟨g, o, none⟩) n c] 69)) 3 (.int .i64 2)
    have r0 := (((World.ownsRow_made (base := w.heap.size + 1) (e := 40) (size := 4) (w.alloc (.cells #[.int .i64 t, .int .i64 b, .slice (some ⟨g, o, none⟩) n c] 86)) (madeCells #[.int .i64 0, .int .i64 0, .int .i64 0, .int .i64 0] (m * 4)) m (by simp) (by unfold maxLen; omega) (by simp [madeCells])).alloc (.cells #[.slice (some ⟨w.heap.size + 1, 0, none⟩) 0 m] 77)).alloc (.cells #[.slice (some ⟨g, o, none⟩) n c] 69)).alloc (.cells #[.int .i64 2] 3)
    simp only [World.size_alloc] at b0 b1 b2 r0
    exact ⟨⟨_, _, b0, r0⟩, b1, b2, by go_grown, by simp⟩
  case assign =>
    intro l x W K hK
    gi_wp2
    exact hK
  case body =>
    rintro l pre ⟨x, hx⟩ W hI hlen
    obtain ⟨p, c0, hbox, hrow⟩ := hI.row
    rw [List.length_map] at hbox hrow
    have HBOX := Lib.hid hbox
    have HROW := Lib.hid hrow
    have BS := Lib.hid hI.bs
    have BN := Lib.hid hI.bn
    have SZ := Lib.hid hI.sz
    have HBL := Lib.hid hI.below
    have HG : Hid (g < w.heap.size + 1) := Lib.hid (Nat.lt_succ_of_lt HG0.out)
    obtain ⟨e0, h0⟩ : ∃ e, es.getD (2 * x) 0 = e := ⟨_, rfl⟩
    obtain ⟨e1, h1⟩ : ∃ e, es.getD (2 * x + 1) 0 = e := ⟨_, rfl⟩
    have E01 : Hid ([Value.int .i64 e0, .int .i64 t, .int .i64 e1, .int .i64 b] = rcs t b es x) := Lib.hid (by unfold rcs; rw [h0, h1])
    have cc : ∀ k, k < n → W.cell? ⟨g, o + k, none⟩ = some (.int .i64 (es.getD k 0)) := fun k hk => by
      refine (HBL.out.cell (p := ⟨g, o + k, none⟩) HG.out).trans ?_
      rw [← add_none]
      exact cell_later ((Below.refl _ _).alloc (Nat.le_refl _) _) (HCE.out k hk)
    have E0 : Hid (W.cell? ⟨g, o + 2 * x, none⟩ = some (.int .i64 e0)) := Lib.hid (by rw [← h0]; exact cc (2 * x) (by have := HM.out; omega))
    have E1 : Hid (W.cell? ⟨g, o + 2 * x + 1, none⟩ = some (.int .i64 e1)) := Lib.hid (by rw [← h1]; exact cc (2 * x + 1) (by have := HM.out; omega))
    have T0 : Hid (W.cell? ⟨w.heap.size, 0, none⟩ = some (.int .i64 t)) := Lib.hid ((HBL.out.cell (p := ⟨w.heap.size, 0, none⟩) (Nat.lt_succ_self _)).trans (by simp [go_sem]))
    have T1 : Hid (W.cell? ⟨w.heap.size, 1, none⟩ = some (.int .i64 b)) := Lib.hid ((HBL.out.cell (p := ⟨w.heap.size, 1, none⟩) (Nat.lt_succ_self _)).trans (by simp [go_sem]))
    have ix0 : ∀ wy : World, (Instr.indexAt 69 (two g o x) (.int .i64 0)).run Try.prog wy = .ok (.pointer (some ⟨g, o + 2 * x, none⟩)) wy := fun wy => by unfold two; simp [go_sem, Addr.add]
    have ix1 : ∀ wy : World, (Instr.indexAt 69 (two g o x) (.int .i64 1)).run Try.prog wy = .ok (.pointer (some ⟨g, o + 2 * x + 1, none⟩)) wy := fun wy => by unfold two; simp [go_sem, Addr.add]
    clear hbox hrow hI h0 h1 cc mk
    gi_wp2
    refine wpi_region_vals [some (.slice p pre.length c0), some (two g o x), some (.pointer (some ⟨g, o + 2 * x, none⟩)), some (.int .i64 e0), some (.pointer (some ⟨w.heap.size, 0, none⟩)), some (.int .i64 t), some (two g o x), some (.pointer (some ⟨g, o + 2 * x + 1, none⟩)), some (.int .i64 e1), some (.pointer (some ⟨w.heap.size, 1, none⟩)), some (.int .i64 b), some (.agg #[.int .i64 e0, .int .i64 t, .int .i64 e1, .int .i64 b]), none, none, none] (RtB t b e0 e1 (w.heap.size + 1) (w.heap.size + 1 + 1) (w.heap.size + 1 + 1 + 1) (w.heap.size + 1 + 1 + 1 + 1) pre.length (.slice p pre.length c0) ((pre.map Subtype.val).flatMap (rcs t b es)) W)
      [some 14, some 15, some 16, some 17, some 18, some 19, some 20, some 21, some 22, some 23, some 24, some 25, some 26, some 27, none] (by kernel_rfl) (by kernel_rfl) (by kernel_rfl) (by kernel_rfl) (by kernel_rfl) (by kernel_rfl) (RtB.start HROW.out HBOX.out) (fun i o' ho => ?_) (fun Lz vz wz hL hB => ?_)
    · match i, ho with
      | 0, ho =>
        obtain rfl := Option.some.inj ho
        intro Az Lz vz wy Kz Ez hB k
        have e3 : Az.eval (.tmp 3) = .pointer (some ⟨w.heap.size + 1 + 1, 0, none⟩) := Ez.out 3 (by kernel_rfl)
        have z14 : Lz 14 = false := Ez.late 14 _ rfl (by kernel_rfl)
        have cx := (hB.box z14).cell
        exact wpoi_val (v := .slice p pre.length c0) (fun _ h => by cases h) (run_load e3 (by simp [go_sem, cx])) (k _ _ rfl (hB.other 0 _ (by decide)))
      | 1, ho =>
        obtain rfl := Option.some.inj ho
        intro Az Lz vz wy Kz Ez hB k
        have e4 : Az.eval (.tmp 4) = two g o x := Ez.out 4 (by kernel_rfl)
        exact wpoi_val (v := two g o x) (fun _ h => by cases h) (run_move e4) (k _ _ rfl (hB.other 1 _ (by decide)))
      | 2, ho =>
        obtain rfl := Option.some.inj ho
        intro Az Lz vz wy Kz Ez hB k
        have e15 : Az.eval (.tmp 15) = two g o x := Ez.dep 1 15 (by kernel_rfl) rfl
        exact wpoi_val (v := .pointer (some ⟨g, o + 2 * x, none⟩)) (fun _ h => by cases h) (run_index e15 rfl (ix0 wy)) (k _ _ rfl (hB.other 2 _ (by decide)))
      | 3, ho =>
        obtain rfl := Option.some.inj ho
        intro Az Lz vz wy Kz Ez hB k
        have e16 : Az.eval (.tmp 16) = .pointer (some ⟨g, o + 2 * x, none⟩) := Ez.dep 2 16 (by kernel_rfl) rfl
        exact wpoi_val (v := .int .i64 e0) (fun _ h => by cases h) (run_load e16 (by have c := (hB.below.cell (p := ⟨g, o + 2 * x, none⟩) HG.out).trans E0.out; simp [go_sem, c])) (k _ _ rfl (hB.other 3 _ (by decide)))
      | 4, ho =>
        obtain rfl := Option.some.inj ho
        intro Az Lz vz wy Kz Ez hB k
        have e1 : Az.eval (.tmp 1) = .pointer (some ⟨w.heap.size, 0, none⟩) := Ez.out 1 (by kernel_rfl)
        exact wpoi_val (v := .pointer (some ⟨w.heap.size, 0, none⟩)) (fun _ h => by cases h) (run_field e1 (by simp [go_sem])) (k _ _ rfl (hB.other 4 _ (by decide)))
      | 5, ho =>
        obtain rfl := Option.some.inj ho
        intro Az Lz vz wy Kz Ez hB k
        have e18 : Az.eval (.tmp 18) = .pointer (some ⟨w.heap.size, 0, none⟩) := Ez.dep 4 18 (by kernel_rfl) rfl
        exact wpoi_val (v := .int .i64 t) (fun _ h => by cases h) (run_load e18 (by have c := (hB.below.cell (p := ⟨w.heap.size, 0, none⟩) (Nat.lt_succ_self _)).trans T0.out; simp [go_sem, c])) (k _ _ rfl (hB.other 5 _ (by decide)))
      | 6, ho =>
        obtain rfl := Option.some.inj ho
        intro Az Lz vz wy Kz Ez hB k
        have e4 : Az.eval (.tmp 4) = two g o x := Ez.out 4 (by kernel_rfl)
        exact wpoi_val (v := two g o x) (fun _ h => by cases h) (run_move e4) (k _ _ rfl (hB.other 6 _ (by decide)))
      | 7, ho =>
        obtain rfl := Option.some.inj ho
        intro Az Lz vz wy Kz Ez hB k
        have e20 : Az.eval (.tmp 20) = two g o x := Ez.dep 6 20 (by kernel_rfl) rfl
        exact wpoi_val (v := .pointer (some ⟨g, o + 2 * x + 1, none⟩)) (fun _ h => by cases h) (run_index e20 rfl (ix1 wy)) (k _ _ rfl (hB.other 7 _ (by decide)))
      | 8, ho =>
        obtain rfl := Option.some.inj ho
        intro Az Lz vz wy Kz Ez hB k
        have e21 : Az.eval (.tmp 21) = .pointer (some ⟨g, o + 2 * x + 1, none⟩) := Ez.dep 7 21 (by kernel_rfl) rfl
        exact wpoi_val (v := .int .i64 e1) (fun _ h => by cases h) (run_load e21 (by have c := (hB.below.cell (p := ⟨g, o + 2 * x + 1, none⟩) HG.out).trans E1.out; simp [go_sem, c])) (k _ _ rfl (hB.other 8 _ (by decide)))
      | 9, ho =>
        obtain rfl := Option.some.inj ho
        intro Az Lz vz wy Kz Ez hB k
        have e1 : Az.eval (.tmp 1) = .pointer (some ⟨w.heap.size, 0, none⟩) := Ez.out 1 (by kernel_rfl)
        exact wpoi_val (v := .pointer (some ⟨w.heap.size, 1, none⟩)) (fun _ h => by cases h) (run_field e1 (by simp [go_sem])) (k _ _ rfl (hB.other 9 _ (by decide)))
      | 10, ho =>
        obtain rfl := Option.some.inj ho
        intro Az Lz vz wy Kz Ez hB k
        have e23 : Az.eval (.tmp 23) = .pointer (some ⟨w.heap.size, 1, none⟩) := Ez.dep 9 23 (by kernel_rfl) rfl
        exact wpoi_val (v := .int .i64 b) (fun _ h => by cases h) (run_load e23 (by have c := (hB.below.cell (p := ⟨w.heap.size, 1, none⟩) (Nat.lt_succ_self _)).trans T1.out; simp [go_sem, c])) (k _ _ rfl (hB.other 10 _ (by decide)))
      | 11, ho =>
        obtain rfl := Option.some.inj ho
        intro Az Lz vz wy Kz Ez hB k
        have e17 : Az.eval (.tmp 17) = .int .i64 e0 := Ez.dep 3 17 (by kernel_rfl) rfl
        have e19 : Az.eval (.tmp 19) = .int .i64 t := Ez.dep 5 19 (by kernel_rfl) rfl
        have e22 : Az.eval (.tmp 22) = .int .i64 e1 := Ez.dep 8 22 (by kernel_rfl) rfl
        have e24 : Az.eval (.tmp 24) = .int .i64 b := Ez.dep 10 24 (by kernel_rfl) rfl
        exact wpoi_val (v := .agg #[.int .i64 e0, .int .i64 t, .int .i64 e1, .int .i64 b]) (fun _ h => by cases h) (run_build (l' := #[(0, .int .i64 e0), (1, .int .i64 t), (2, .int .i64 e1), (3, .int .i64 b)]) (by simp only [List.map_toArray, List.map_cons, List.map_nil, e17, e19, e22, e24]) (by simp [go_sem])) (k _ _ rfl (hB.other 11 _ (by decide)))
      | 12, ho =>
        obtain rfl := Option.some.inj ho
        intro Az Lz vz wy Kz Ez hB k
        have e25 : Az.eval (.tmp 25) = .agg #[.int .i64 e0, .int .i64 t, .int .i64 e1, .int .i64 b] := Ez.dep 11 25 (by kernel_rfl) rfl
        have z13 : Lz 13 = false := Ez.late 13 _ rfl (by kernel_rfl)
        have z14 : Lz 14 = false := Ez.late 14 _ rfl (by kernel_rfl)
        have sz := hB.sz
        exact wpoi_val (v := .slice (some ⟨wy.heap.size, 0, none⟩) 1 1) (w' := wy.alloc (.cells #[.int .i64 e0, .int .i64 t, .int .i64 e1, .int .i64 b] 40)) (fun _ h => by cases h) (run_bslice1 e25 (by simp [go_sem])) (k _ _ trivial (hB.c12 z13 (by have := SZ.out; omega) BS.out.lt BN.out.lt _ wy.heap.size (four_cells _ _ _ _ _ _) z14))
      | 13, ho =>
        obtain rfl := Option.some.inj ho
        intro Az Lz vz wy Kz Ez hB k
        have e14 : Az.eval (.tmp 14) = .slice p pre.length c0 := Ez.dep 0 14 (by kernel_rfl) rfl
        have e26 : Az.eval (.tmp 26) = vz 12 := Ez.dep 12 26 (by kernel_rfl) rfl
        have z13 : Lz 13 = false := Ez.not
        have z14 : Lz 14 = false := Ez.late 14 _ rfl (by kernel_rfl)
        have sz := hB.sz
        obtain ⟨q, q12, hq⟩ := hB.f12 (Ez.had 12 (by kernel_rfl)) z13
        obtain ⟨i0, hi, hz0, hz1, hz2⟩ := rect_parts
        obtain ⟨v', w', hr, h2, h3, _⟩ := run_append_own (P := Try.prog) wy (w.heap.size + 1) 77 77 40 i0 (.agg #[.int .i64 0, .int .i64 0, .int .i64 0, .int .i64 0]) 4 32 Try.underlying77 hi hz0 hz1 hz2 rfl (by decide) _ _ _ (hB.own z13) ⟨q, 0, none⟩ 1 1 [.int .i64 e0, .int .i64 t, .int .i64 e1, .int .i64 b] rfl hq (fun u hu => by simp at hu; rcases hu with rfl | rfl | rfl | rfl <;> rfl) (by unfold maxLen; omega) (by omega) (by have := SZ.out; omega)
        obtain ⟨p', c', rfl⟩ : ∃ p' c', v' = .slice p' (pre.length + 1) c' := by
          obtain ⟨g', cap, e⟩ := Joins.ownsRow_form h2 (by omega)
          exact ⟨_, cap, e⟩
        exact wpoi_val (v := .slice p' (pre.length + 1) c') (fun _ h => by cases h) (run_append2 e14 (e26.trans q12) hr) (k _ _ trivial (hB.c13 z13 z14 (by have := SZ.out; omega) BS.out BN.out h2 h3))
      | 14, ho =>
        obtain rfl := Option.some.inj ho
        intro Az Lz vz wy Kz Ez hB k
        have e3 : Az.eval (.tmp 3) = .pointer (some ⟨w.heap.size + 1 + 1, 0, none⟩) := Ez.out 3 (by kernel_rfl)
        have e27 : Az.eval (.tmp 27) = vz 13 := Ez.dep 13 27 (by kernel_rfl) rfl
        have z14 : Lz 14 = false := Ez.not
        have h13 := Ez.had 13 (by kernel_rfl)
        obtain ⟨p', c', q13, _⟩ := hB.f13 h13
        have cx := (hB.box z14).cell
        have fx := (hB.box z14).frozen
        exact wpoi_skip (w' := wy.setCell ⟨w.heap.size + 1 + 1, 0, none⟩ (vz 13)) (fun _ h => by cases h) (run_store e3 e27 (by rw [q13]; simp [go_sem, cx, fx])) (k _ _ trivial (hB.c14 h13 z14 (by omega) (by omega) (by omega) _))
      | n + 15, ho => simp at ho
    · obtain ⟨p', c', q13, ho⟩ := hB.f13 (hL 13 (by decide))
      have hbx := hB.f14 (hL 14 (by decide))
      rw [q13] at hbx ho
      have hsz := hB.sz
      refine ⟨hB.keep.from _, hB.kp, ⟨⟨p', c', ?_, ?_⟩, hB.kp.1.trans BS.out, hB.kp.2.trans BN.out, HBL.out.trans hB.below, by have := SZ.out; omega⟩⟩
      · simpa using hbx
      · simpa [← E01.out] using ho
  case done =>
    rintro D ys W hD hS hI hK
    obtain ⟨p, c0, hbox, hrow⟩ := hI.row
    rw [hS, List.length_range] at hbox hrow
    have hc := Boxed.cell hbox
    have KB := Lib.hid hI.below
    have HROW := Lib.hid hrow
    clear hI hS hrow hbox
    gi_wp2
    refine ⟨by simp, .inl ⟨_, _, rfl, run_takeDeferred hK, ?_⟩⟩
    refine ⟨_, results_tmp rfl _ _ _, p, c0, rfl, ownsRow_putObj HROW.out _ hK rfl, ?_⟩
    have k1 : Below w.heap.size w W := (show Below w.heap.size w (w.alloc (.cells #[.int .i64 t, .int .i64 b, .slice (some ⟨g, o, none⟩) n c] 86)) by go_grown).trans (KB.out.mono (Nat.le_succ _))
    exact k1.trans (belowK_b (w := w) (Nat.le_refl _) W D _ _ (by simp at hD; omega) hK rfl rfl)
  case stop =>
    rintro D c pre W _ _ h _
    exact h.elim
end Go.Proofs.Ytjemnjboopabpaa
