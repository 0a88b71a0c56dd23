/- Package line: lengthening, filling. -/
import Derived.Test.YtmelbgabiklojaaLinA
import Derived.Test.YtmelbgabiklojaaRegM
import Derived.Test.YtmelbgabiklojaaApp
import Derived.Test.YtmelbgabiklojaaAppB
import Derived.WalkKit
import Derived.WalkSpells
import Derived.WalkLawsBesides
import Derived.Handy
import Derived.Lib.Hide
import Derived.Deep.QuietTactic
import Derived.BigQuiet
import Derived.LoopTactic
import Derived.Deep.RegionHeld3
import Derived.Deep.RegionWith
import Derived.Outline
namespace Go.Proofs.Ytmelbgabiklojaa
open Go.RowKit Go.Proofs.Reg Go.Proofs.Big Lin
set_option linter.unusedVariables false
set_option linter.unusedSimpArgs false
set_option maxRecDepth 100000
/-- a line, or giving up -/
def LnR (o : Option Int) (f t : Nat) (H : Int) (e : Ending) : Prop := match o with
  | some x => e = .returned (.agg #[.int .i64 f, .int .i64 t, .int .i64 x, .int .i64 H])
  | none => e = .panicked (gave 2)
theorem cell_row4 {w : World} {b : Nat} {l : List Value} {t : TypeId} (h : w.heap[b]? = some (.cells l.toArray t (0, 0))) (k : Nat) {v : Value} (hv : l[k]? = some v := by rfl) : w.cell? ⟨b, k, none⟩ = some v := by
  simp [World.cell?, h]
  exact hv
theorem row_setj {w : World} {b : Nat} {c : Array Value} {t : TypeId} (h : w.heap[b]? = some (.cells c t (0, 0))) (k : Nat) (v : Value) : (w.setCell ⟨b, k, none⟩ v).heap[b]? = some (.cells (c.setIfInBounds k v) t (0, 0)) := by
  simp [World.setCell, Array.getElem?_modify, h]
/-- a line stored -/
def put4 (w : World) (b : Nat) (x0 x1 x2 x3 : Int) : World := (((w.setCell ⟨b, 0, none⟩ (.int .i64 x0)).setCell ⟨b, 1, none⟩ (.int .i64 x1)).setCell ⟨b, 2, none⟩ (.int .i64 x2)).setCell ⟨b, 3, none⟩ (.int .i64 x3)
theorem st4 {w : World} {b : Nat} {t : TypeId} {a0 a1 a2 a3 : Value} (h : w.heap[b]? = some (.cells [a0, a1, a2, a3].toArray t (0, 0))) (x0 x1 x2 x3 : Int) :
    (Instr.storeAt 33 (.pointer (some ⟨b, 0, none⟩)) (.agg #[.int .i64 x0, .int .i64 x1, .int .i64 x2, .int .i64 x3])).run Try.prog w = .ok () (put4 w b x0 x1 x2 x3) ∧ (put4 w b x0 x1 x2 x3).heap[b]? = some (.cells [.int .i64 x0, .int .i64 x1, .int .i64 x2, .int .i64 x3].toArray t (0, 0)) ∧ (∀ k, k ≠ b → (put4 w b x0 x1 x2 x3).heap[k]? = w.heap[k]?) ∧ (∀ B W, Below B W w → B ≤ b → Below B W (put4 w b x0 x1 x2 x3)) := by
  have c0 := cell_row4 h 0
  have c1 := cell_row4 h 1
  have c2 := cell_row4 h 2
  have c3 := cell_row4 h 3
  have fz : ∀ k, w.frozen? ⟨b, k, none⟩ = false ∨ 4 ≤ k := fun k => by
    by_cases e : k < 4
    · exact .inl (by simp [World.frozen?, h])
    · exact .inr (by omega)
  have f0 : w.frozen? ⟨b, 0, none⟩ = false := by simp [World.frozen?, h]
  have f1 : w.frozen? ⟨b, 1, none⟩ = false := by simp [World.frozen?, h]
  have f2 : w.frozen? ⟨b, 2, none⟩ = false := by simp [World.frozen?, h]
  have f3 : w.frozen? ⟨b, 3, none⟩ = false := by simp [World.frozen?, h]
  refine ⟨by simp [go_sem, c0, c1, c2, c3, f0, f1, f2, f3, put4], row_setj (row_setj (row_setj (row_setj h 0 _) 1 _) 2 _) 3 _, fun k hk => ?_, fun B W hB hb => (((hB.setCell hb _).setCell hb _).setCell hb _).setCell hb _⟩
  unfold put4
  rw [Below.heap_setCell _ _ _ _ hk, Below.heap_setCell _ _ _ _ hk, Below.heap_setCell _ _ _ _ hk, Below.heap_setCell _ _ _ _ hk]
/-- what lengthening's region keeps -/
structure StL (w : World) (f t : Nat) (W H : Int) (N : List Value) (si : Nat) (L : Nat → Bool) (vz : Nat → Value) (wy : World) : Prop where
  bel : Below w.heap.size w wy
  src : Tab wy [(w.heap.size, [.int .i64 f, .int .i64 t, .int .i64 W, .int .i64 H])]
  old : L si = false → wy.heap[w.heap.size + 1]? = some (.cells [.int .i64 0, .int .i64 0, .int .i64 0, .int .i64 0].toArray 33 (0, 0))
  new : L si = true → wy.heap[w.heap.size + 1]? = some (.cells N.toArray 33 (0, 0))
theorem StL.pure {w : World} {f t : Nat} {W H : Int} {N : List Value} {si : Nat} {L : Nat → Bool} {vz : Nat → Value} {wy w' : World} (h : StL w f t W H N si L vz wy) (i : Nat) (v : Value) (ne : si ≠ i) (hb : Below wy.heap.size wy w') : StL w f t W H N si (addL L i) (upd vz i v) w' := by
  have a2 : addL L i si = L si := by simp [addL, ne]
  have on : ∀ {g : Nat} {o : Obj}, wy.heap[g]? = some o → w'.heap[g]? = some o := fun {g o} e => (hb.block g (Array.getElem?_eq_some_iff.1 e).1).trans e
  exact ⟨bel_tr0 h.bel hb, h.src.later hb, fun q => on (h.old (a2 ▸ q)), fun q => on (h.new (a2 ▸ q))⟩
theorem tab_on {w w' : World} {b : Nat} {vs : List Value} {c : Nat} (h : Tab w [(b, vs)]) (ho : ∀ k, k ≠ c → w'.heap[k]? = w.heap[k]?) (ne : b ≠ c) : Tab w' [(b, vs)] := fun k b' vs' hk i v hi => by
  match k, hk with
  | 0, hk =>
    simp at hk
    obtain ⟨rfl, rfl⟩ := hk
    obtain ⟨x, y⟩ := h 0 _ _ rfl i v hi
    have e := ho b ne
    exact ⟨by rw [World.cell?_of_block e]; exact x, by rw [World.frozen?_of_block e]; exact y⟩
  | k + 1, hk => simp at hk
theorem StL.put {w : World} {f t : Nat} {W H : Int} {N : List Value} {si : Nat} {L : Nat → Bool} {vz : Nat → Value} {wy w' : World} {v : Value} (h : StL w f t W H N si L vz wy) (hn : w'.heap[w.heap.size + 1]? = some (.cells N.toArray 33 (0, 0))) (ho : ∀ k, k ≠ w.heap.size + 1 → w'.heap[k]? = wy.heap[k]?) (hb : ∀ B W, Below B W wy → B ≤ w.heap.size + 1 → Below B W w') : StL w f t W H N si (addL L si) (upd vz si v) w' :=
  ⟨hb _ _ h.bel (by omega), tab_on h.src ho (by omega), fun q => by simp [addL] at q, fun _ => hn⟩
/-- the same, where the call gives up -/
structure StN (w : World) (f t : Nat) (W H : Int) (ci : Nat) (L : Nat → Bool) (vz : Nat → Value) (wy : World) : Prop where
  bel : Below w.heap.size w wy
  src : Tab wy [(w.heap.size, [.int .i64 f, .int .i64 t, .int .i64 W, .int .i64 H])]
  no : L ci = false
theorem StN.pure {w : World} {f t : Nat} {W H : Int} {ci : Nat} {L : Nat → Bool} {vz : Nat → Value} {wy w' : World} (h : StN w f t W H ci L vz wy) (i : Nat) (v : Value) (ne : ci ≠ i) (hb : Below wy.heap.size wy w') : StN w f t W H ci (addL L i) (upd vz i v) w' :=
  ⟨bel_tr0 h.bel hb, h.src.later hb, by simp [addL, ne, h.no]⟩
set_option maxHeartbeats 4000000 in
theorem llong_any (a : Option Addr) (n c : Nat) (l : List I4) (f t : Nat) (W H : Int) (o : Option Int) (hf : f ≤ t) (ht : t ≤ n) (hl : n ≤ 1000000) (hW : Ln W) (hi : ∀ r ∈ l, InI r) (ho : adds W (parts l f t (segE l t)) = o) (w : World) (h : KS IK w (.slice a n c) l) :
    Calls Try.prog 36 #[.slice a n c, .agg #[.int .i64 f, .int .i64 t, .int .i64 W, .int .i64 H]] w fun e w' => LnR o f (segE l t) 0 e ∧ Below w.heap.size w w' := by
  obtain ⟨hn, hc, hm⟩ := h.len
  have sg := segE_le l t (by omega)
  have st : t ≤ segE l t := by
    by_cases e : t < l.length
    · have := sg.2 e; omega
    · rw [segE_out l t (by omega)]; omega
  have sn : segE l t ≤ n := by omega
  have SG := Lib.hid (fun w h => lseg_any a n c l t ht hl w h)
  have GR := Lib.hid (fun w h => lgrown_any a n c l f t (segE l t) W H o hf st sn hl hW hi ho w h)
  have HK := Lib.hid h
  clear h hi ho sg hn
  obtain ⟨tt, hto⟩ : ∃ tt, segE l t = tt := ⟨_, rfl⟩
  rw [hto] at SG GR st sn ⊢
  clear hto
  go_enter Try.func36, Try.ntmps36
  go_wp2_with fail
  obtain ⟨w0, hw0⟩ : ∃ x, (w.alloc (.cells #[.int .i64 f, .int .i64 t, .int .i64 W, .int .i64 H] 33)).alloc (.cells #[.int .i64 0, .int .i64 0, .int .i64 0, .int .i64 0] 33) = x := ⟨_, rfl⟩
  have K0 : Hid (Below w.heap.size w w0) := Lib.hid (by rw [← hw0]; exact bel_tr0 (bel_newR _ _) (bel_newR _ _))
  have T0 : Hid (Tab w0 [(w.heap.size, [.int .i64 f, .int .i64 t, .int .i64 W, .int .i64 H])]) := Lib.hid (by
    rw [← hw0]
    exact ((Tab.nil w).new' _ _ rfl).alloc _)
  have R0 : Hid (w0.heap[w.heap.size + 1]? = some (.cells [.int .i64 0, .int .i64 0, .int .i64 0, .int .i64 0].toArray 33 (0, 0))) := Lib.hid (by
    rw [← hw0]
    have := heap_alloc_new (w.alloc (.cells #[.int .i64 f, .int .i64 t, .int .i64 W, .int .i64 H] 33)) (.cells #[.int .i64 0, .int .i64 0, .int .i64 0, .int .i64 0] 33)
    simpa using this)
  rw [hw0]
  clear hw0
  have c1 := T0.out.cell 0 1 rfl rfl
  go_wp2_with fail
  refine (SG.out _ (HK.out.later K0.out)).mono ?_
  rintro _ w1 ⟨rfl, hw⟩
  obtain rfl := hw.symm
  clear hw c1 SG
  have M0 : Hid (StL w f t W H [.int .i64 f, .int .i64 tt, .int .i64 0, .int .i64 0] 8 (fun _ => false) (fun _ => undef) w0.drew) := Lib.hid ⟨K0.out.drew, T0.out.later ((Below.refl _ _).drew), fun _ => R0.out, fun h => (by cases h)⟩
  clear M0
  cases o with
  | some x =>
    have M0 : Hid (StL w f t W H [.int .i64 f, .int .i64 tt, .int .i64 x, .int .i64 0] 8 (fun _ => false) (fun _ => undef) w0.drew) := Lib.hid ⟨K0.out.drew, T0.out.later ((Below.refl _ _).drew), fun _ => R0.out, fun h => (by cases h)⟩
    go_wp2_with fail
    refine wp_region_vals [some (.pointer (some ⟨w.heap.size, 0, none⟩)), some (.int .i64 f), some (.int .i64 tt), some (.slice a n c), some (.agg #[.int .i64 f, .int .i64 t, .int .i64 W, .int .i64 H]), some (.int .i64 tt), some (.int .i64 x), some (.agg #[.int .i64 f, .int .i64 tt, .int .i64 x, .int .i64 0]), some (undef)] (StL w f t W H [.int .i64 f, .int .i64 tt, .int .i64 x, .int .i64 0] 8)
      [some 10, some 11, some 12, some 13, some 14, some 15, some 16, some 17, none] (by kernel_rfl) (by kernel_rfl) (by kernel_rfl) (by kernel_rfl) (by kernel_rfl) (by kernel_rfl) M0.out (fun i o ho => ?_) (fun Lz vz wz hL hB => ?_)
    · match i, ho with
      | 0, ho =>
        obtain rfl := Option.some.inj ho
        intro Az Lz vz wy Kz Ez hB k
        have e3 : Az.eval (.tmp 3) = .pointer (some ⟨w.heap.size, 0, none⟩) := Ez.out 3 (by kernel_rfl)
        exact wpo_val (v := .pointer (some ⟨w.heap.size, 0, none⟩)) (run_field e3 (by simp [go_sem])) (k _ _ rfl (hB.pure 0 _ (by decide) (Below.refl _ _)))
      | 1, ho =>
        obtain rfl := Option.some.inj ho
        intro Az Lz vz wy Kz Ez hB k
        have e10 : Az.eval (.tmp 10) = .pointer (some ⟨w.heap.size, 0, none⟩) := Ez.dep 0 10 (by kernel_rfl) rfl
        have q0 := hB.src.cell 0 0 rfl rfl
        exact wpo_val (v := .int .i64 f) (run_load e10 (by simp [go_sem, q0])) (k _ _ rfl (hB.pure 1 _ (by decide) (Below.refl _ _)))
      | 2, ho =>
        obtain rfl := Option.some.inj ho
        intro Az Lz vz wy Kz Ez hB k
        have e5 : Az.eval (.tmp 5) = .int .i64 tt := Ez.out 5 (by kernel_rfl)
        exact wpo_val (v := .int .i64 tt) (run_move e5) (k _ _ rfl (hB.pure 2 _ (by decide) (Below.refl _ _)))
      | 3, ho =>
        obtain rfl := Option.some.inj ho
        intro Az Lz vz wy Kz Ez hB k
        have e0 : Az.eval (.tmp 0) = .slice a n c := Ez.out 0 (by kernel_rfl)
        exact wpo_val (v := .slice a n c) (run_move e0) (k _ _ rfl (hB.pure 3 _ (by decide) (Below.refl _ _)))
      | 4, ho =>
        obtain rfl := Option.some.inj ho
        intro Az Lz vz wy Kz Ez hB k
        have e3 : Az.eval (.tmp 3) = .pointer (some ⟨w.heap.size, 0, none⟩) := Ez.out 3 (by kernel_rfl)
        have q0 := hB.src.cell 0 0 rfl rfl
        have q1 := hB.src.cell 0 1 rfl rfl
        have q2 := hB.src.cell 0 2 rfl rfl
        have q3 := hB.src.cell 0 3 rfl rfl
        exact wpo_val (v := .agg #[.int .i64 f, .int .i64 t, .int .i64 W, .int .i64 H]) (run_load e3 (by simp [go_sem, q0, q1, q2, q3])) (k _ _ rfl (hB.pure 4 _ (by decide) (Below.refl _ _)))
      | 5, ho =>
        obtain rfl := Option.some.inj ho
        intro Az Lz vz wy Kz Ez hB k
        have e5 : Az.eval (.tmp 5) = .int .i64 tt := Ez.out 5 (by kernel_rfl)
        exact wpo_val (v := .int .i64 tt) (run_move e5) (k _ _ rfl (hB.pure 5 _ (by decide) (Below.refl _ _)))
      | 6, ho =>
        obtain rfl := Option.some.inj ho
        intro Az Lz vz wy Kz Ez hB k
        have e13 : Az.eval (.tmp 13) = .slice a n c := Ez.dep 3 13 (by kernel_rfl) rfl
        have e14 : Az.eval (.tmp 14) = .agg #[.int .i64 f, .int .i64 t, .int .i64 W, .int .i64 H] := Ez.dep 4 14 (by kernel_rfl) rfl
        have e15 : Az.eval (.tmp 15) = .int .i64 tt := Ez.dep 5 15 (by kernel_rfl) rfl
        refine wpo_call (run_callW (fun _ _ => by kernel_rfl)) (R := fun ez w' => Told (some x) ez ∧ Below wy.heap.size wy w') ?_ ?_
        · simp only [List.map_toArray, List.map_cons, List.map_nil, eval_const, e13, e14, e15]
          exact GR.out wy (HK.out.later hB.bel)
        · rintro ez w' ⟨he, hb⟩
          exact ⟨_, he, k _ _ rfl (hB.pure 6 _ (by decide) (hb))⟩
      | 7, ho =>
        obtain rfl := Option.some.inj ho
        intro Az Lz vz wy Kz Ez hB k
        have e11 : Az.eval (.tmp 11) = .int .i64 f := Ez.dep 1 11 (by kernel_rfl) rfl
        have e12 : Az.eval (.tmp 12) = .int .i64 tt := Ez.dep 2 12 (by kernel_rfl) rfl
        have e16 : Az.eval (.tmp 16) = .int .i64 x := Ez.dep 6 16 (by kernel_rfl) rfl
        exact wpo_val (v := .agg #[.int .i64 f, .int .i64 tt, .int .i64 x, .int .i64 0]) (run_build (l' := #[(0, .int .i64 f), (1, .int .i64 tt), (2, .int .i64 x)]) (by simp only [List.map_toArray, List.map_cons, List.map_nil, e11, e12, e16]) (by kernel_rfl)) (k _ _ rfl (hB.pure 7 _ (by decide) (Below.refl _ _)))
      | 8, ho =>
        obtain rfl := Option.some.inj ho
        intro Az Lz vz wy Kz Ez hB k
        have e4 : Az.eval (.tmp 4) = .pointer (some ⟨w.heap.size + 1, 0, none⟩) := Ez.out 4 (by kernel_rfl)
        have e17 : Az.eval (.tmp 17) = .agg #[.int .i64 f, .int .i64 tt, .int .i64 x, .int .i64 0] := Ez.dep 7 17 (by kernel_rfl) rfl
        obtain ⟨r, hn, ho, hbl⟩ := st4 (hB.old Ez.not) f tt x 0
        exact wpo_skip (run_store e4 e17 r) (k _ _ rfl (hB.put hn ho hbl))
      | n + 9, ho => simp at ho
    have R1 := hB.new (hL 8 (by decide))
    have K1 := Lib.hid hB.bel
    simp only [puts2, mix, Act.put, List.setIfInBounds_toArray, List.set_cons_zero, List.set_cons_succ, Nat.zero_add, Nat.reduceAdd, List.getElem?_cons_zero, List.getElem?_cons_succ]
    clear hL hB M0 R0 T0 K0 GR
    have c0 := cell_row4 R1 0
    have c1 := cell_row4 R1 1
    have c2 := cell_row4 R1 2
    have c3 := cell_row4 R1 3
    clear R1
    go_wp2_with fail
    exact bodyPost_ret (v := .agg #[.int .i64 f, .int .i64 tt, .int .i64 x, .int .i64 0]) (by simp [results, Try.results36, go_sem, c0, c1, c2, c3]) rfl ⟨rfl, K1.out⟩
  | none =>
    have MN : Hid (StN w f t W H 6 (fun _ => false) (fun _ => undef) w0.drew) := Lib.hid ⟨K0.out.drew, T0.out.later ((Below.refl _ _).drew), rfl⟩
    go_wp2_with fail
    refine wp_region_vals [some (.pointer (some ⟨w.heap.size, 0, none⟩)), some (.int .i64 f), some (.int .i64 tt), some (.slice a n c), some (.agg #[.int .i64 f, .int .i64 t, .int .i64 W, .int .i64 H]), some (.int .i64 tt), some (.int .i64 0), some (.agg #[.int .i64 f, .int .i64 tt, .int .i64 0, .int .i64 0]), some (undef)] (StN w f t W H 6)
      [some 10, some 11, some 12, some 13, some 14, some 15, some 16, some 17, none] (by kernel_rfl) (by kernel_rfl) (by kernel_rfl) (by kernel_rfl) (by kernel_rfl) (by kernel_rfl) MN.out (fun i o ho => ?_) (fun Lz vz wz hL hB => ?_)
    · match i, ho with
      | 0, ho =>
        obtain rfl := Option.some.inj ho
        intro Az Lz vz wy Kz Ez hB k
        have e3 : Az.eval (.tmp 3) = .pointer (some ⟨w.heap.size, 0, none⟩) := Ez.out 3 (by kernel_rfl)
        exact wpo_val (v := .pointer (some ⟨w.heap.size, 0, none⟩)) (run_field e3 (by simp [go_sem])) (k _ _ rfl (hB.pure 0 _ (by decide) (Below.refl _ _)))
      | 1, ho =>
        obtain rfl := Option.some.inj ho
        intro Az Lz vz wy Kz Ez hB k
        have e10 : Az.eval (.tmp 10) = .pointer (some ⟨w.heap.size, 0, none⟩) := Ez.dep 0 10 (by kernel_rfl) rfl
        have q0 := hB.src.cell 0 0 rfl rfl
        exact wpo_val (v := .int .i64 f) (run_load e10 (by simp [go_sem, q0])) (k _ _ rfl (hB.pure 1 _ (by decide) (Below.refl _ _)))
      | 2, ho =>
        obtain rfl := Option.some.inj ho
        intro Az Lz vz wy Kz Ez hB k
        have e5 : Az.eval (.tmp 5) = .int .i64 tt := Ez.out 5 (by kernel_rfl)
        exact wpo_val (v := .int .i64 tt) (run_move e5) (k _ _ rfl (hB.pure 2 _ (by decide) (Below.refl _ _)))
      | 3, ho =>
        obtain rfl := Option.some.inj ho
        intro Az Lz vz wy Kz Ez hB k
        have e0 : Az.eval (.tmp 0) = .slice a n c := Ez.out 0 (by kernel_rfl)
        exact wpo_val (v := .slice a n c) (run_move e0) (k _ _ rfl (hB.pure 3 _ (by decide) (Below.refl _ _)))
      | 4, ho =>
        obtain rfl := Option.some.inj ho
        intro Az Lz vz wy Kz Ez hB k
        have e3 : Az.eval (.tmp 3) = .pointer (some ⟨w.heap.size, 0, none⟩) := Ez.out 3 (by kernel_rfl)
        have q0 := hB.src.cell 0 0 rfl rfl
        have q1 := hB.src.cell 0 1 rfl rfl
        have q2 := hB.src.cell 0 2 rfl rfl
        have q3 := hB.src.cell 0 3 rfl rfl
        exact wpo_val (v := .agg #[.int .i64 f, .int .i64 t, .int .i64 W, .int .i64 H]) (run_load e3 (by simp [go_sem, q0, q1, q2, q3])) (k _ _ rfl (hB.pure 4 _ (by decide) (Below.refl _ _)))
      | 5, ho =>
        obtain rfl := Option.some.inj ho
        intro Az Lz vz wy Kz Ez hB k
        have e5 : Az.eval (.tmp 5) = .int .i64 tt := Ez.out 5 (by kernel_rfl)
        exact wpo_val (v := .int .i64 tt) (run_move e5) (k _ _ rfl (hB.pure 5 _ (by decide) (Below.refl _ _)))
      | 6, ho =>
        obtain rfl := Option.some.inj ho
        intro Az Lz vz wy Kz Ez hB k
        have e13 : Az.eval (.tmp 13) = .slice a n c := Ez.dep 3 13 (by kernel_rfl) rfl
        have e14 : Az.eval (.tmp 14) = .agg #[.int .i64 f, .int .i64 t, .int .i64 W, .int .i64 H] := Ez.dep 4 14 (by kernel_rfl) rfl
        have e15 : Az.eval (.tmp 15) = .int .i64 tt := Ez.dep 5 15 (by kernel_rfl) rfl
        refine wpo_call_p (run_callW (fun _ _ => by kernel_rfl)) (R := fun ez w' => Told none ez ∧ Below wy.heap.size wy w') ?_ ?_
        · simp only [List.map_toArray, List.map_cons, List.map_nil, eval_const, e13, e14, e15]
          exact GR.out wy (HK.out.later hB.bel)
        · rintro ez w' ⟨he, hb⟩
          exact .inr ⟨_, he, Ez.defs, rfl, bel_tr0 hB.bel hb⟩
      | 7, ho =>
        obtain rfl := Option.some.inj ho
        intro Az Lz vz wy Kz Ez hB k
        have e11 : Az.eval (.tmp 11) = .int .i64 f := Ez.dep 1 11 (by kernel_rfl) rfl
        have e12 : Az.eval (.tmp 12) = .int .i64 tt := Ez.dep 2 12 (by kernel_rfl) rfl
        have e16 : Az.eval (.tmp 16) = .int .i64 0 := Ez.dep 6 16 (by kernel_rfl) rfl
        have q := Ez.had 6 (by kernel_rfl)
        rw [hB.no] at q
        cases q
      | 8, ho =>
        obtain rfl := Option.some.inj ho
        intro Az Lz vz wy Kz Ez hB k
        have e4 : Az.eval (.tmp 4) = .pointer (some ⟨w.heap.size + 1, 0, none⟩) := Ez.out 4 (by kernel_rfl)
        have e17 : Az.eval (.tmp 17) = .agg #[.int .i64 f, .int .i64 tt, .int .i64 0, .int .i64 0] := Ez.dep 7 17 (by kernel_rfl) rfl
        have q := Ez.had 6 (by kernel_rfl)
        rw [hB.no] at q
        cases q
      | n + 9, ho => simp at ho
    have q := hL 6 (by decide)
    rw [hB.no] at q
    cases q
-- END llong
end Go.Proofs.Ytmelbgabiklojaa
/- Package line: a line filled; heights. -/
namespace Go.Proofs.Ytmelbgabiklojaa
open Go.RowKit Go.Proofs.Reg Go.Proofs.Big Lin
set_option linter.unusedVariables false
set_option linter.unusedSimpArgs false
set_option maxRecDepth 100000
/-- a line that was filled, or giving up -/
def FlR (o : Option (Nat × Int)) (f : Nat) (e : Ending) : Prop := match o with
  | some x => e = .returned (.agg #[.int .i64 f, .int .i64 x.1, .int .i64 x.2, .int .i64 0])
  | none => e = .panicked (gave 2)
theorem tab2_set4 {w : World} {b r : Nat} {x0 x1 x2 x3 : Value} {vs : List Value} (h : Tab w [(b, [x0, x1, x2, x3]), (r, vs)]) (ne : r ≠ b) (y0 y1 y2 y3 : Value) :
    Tab ((((w.setCell ⟨b, 0, none⟩ y0).setCell ⟨b, 1, none⟩ y1).setCell ⟨b, 2, none⟩ y2).setCell ⟨b, 3, none⟩ y3) [(b, [y0, y1, y2, y3]), (r, vs)] := by
  have N : ∀ (c : List Value) (j b' : Nat) (vs' : List Value), [(b, c), (r, vs)][j]? = some (b', vs') → j ≠ 0 → b' ≠ b := by
    intro c j b' vs' hj nj
    match j, nj, hj with
    | 1, _, hj => simp at hj; rw [← hj.1]; exact ne
    | k + 2, _, hj => simp at hj
  exact (((h.set 0 0 y0 rfl (N _)).set 0 1 y1 rfl (N _)).set 0 2 y2 rfl (N _)).set 0 3 y3 rfl (N _)
theorem tab2_set4' {w : World} {b r : Nat} {x0 x1 x2 x3 : Value} {vs : List Value} (h : Tab w [(r, vs), (b, [x0, x1, x2, x3])]) (ne : r ≠ b) (y0 y1 y2 y3 : Value) :
    Tab ((((w.setCell ⟨b, 0, none⟩ y0).setCell ⟨b, 1, none⟩ y1).setCell ⟨b, 2, none⟩ y2).setCell ⟨b, 3, none⟩ y3) [(r, vs), (b, [y0, y1, y2, y3])] := by
  have N : ∀ (c : List Value) (j b' : Nat) (vs' : List Value), [(r, vs), (b, c)][j]? = some (b', vs') → j ≠ 1 → b' ≠ b := by
    intro c j b' vs' hj nj
    match j, nj, hj with
    | 0, _, hj => simp at hj; rw [← hj.1]; exact ne
    | k + 2, _, hj => simp at hj
  exact (((h.set 1 0 y0 rfl (N _)).set 1 1 y1 rfl (N _)).set 1 2 y2 rfl (N _)).set 1 3 y3 rfl (N _)
theorem set4_below {B : Nat} {W w : World} {b : Nat} (h : Below B W w) (hb : B ≤ b) (y0 y1 y2 y3 : Value) : Below B W ((((w.setCell ⟨b, 0, none⟩ y0).setCell ⟨b, 1, none⟩ y1).setCell ⟨b, 2, none⟩ y2).setCell ⟨b, 3, none⟩ y3) := (((h.setCell hb _).setCell hb _).setCell hb _).setCell hb _
/-- what filling's loop keeps: the line so far, the result's box -/
structure FlM (w : World) (b f t : Nat) (x : Int) (wr : World) : Prop where
  bel : Below w.heap.size w wr
  tab : Tab wr [(b, [.int .i64 f, .int .i64 t, .int .i64 x, .int .i64 0]), (w.heap.size, [.int .i64 0, .int .i64 0, .int .i64 0, .int .i64 0])]
def cellNat (wr : World) (b i : Nat) : Nat := match wr.cell? ⟨b, i, none⟩ with
  | some v => (intOf v).toNat
  | none => 0
set_option maxHeartbeats 8000000 in
theorem lfilled_any (a : Option Addr) (n c : Nat) (l : List I4) (f : Nat) (av : Int) (hf : f < n) (hl : n ≤ 1000000) (ha : In64 av) (hi : ∀ r ∈ l, InI r) (w : World) (h : KS IK w (.slice a n c) l) :
    Calls Try.prog 34 #[.slice a n c, .int .i64 f, .int .i64 av] w fun e w' => FlR (firstE l av f) f e ∧ Below w.heap.size w w' := by
  obtain ⟨hn, hc, hm⟩ := h.len
  have LG := Lib.hid (fun (t : Nat) (W H : Int) o (hft : f ≤ t) ht hW ho w h => llong_any a n c l f t W H o hft ht hl hW hi ho w h)
  have HK := Lib.hid h
  have HN := Lib.hid hn
  have sg := segE_le l f (by omega)
  have s1 : segE l f ≤ n := by omega
  have s2 : f < segE l f := sg.2 (by omega)
  obtain ⟨hA0, hA1⟩ := ha
  clear h hi hn sg
  obtain ⟨R, hR⟩ : ∃ R, firstE l av f = R := ⟨_, rfl⟩
  have HR := Lib.hid hR
  rw [hR]
  clear hR
  obtain ⟨t0, ht0⟩ : ∃ t0, segE l f = t0 := ⟨_, rfl⟩
  have HT0 := Lib.hid ht0
  rw [ht0] at s1 s2
  clear ht0
  go_enter Try.func34, Try.ntmps34
  go_wp2_with fail
  refine (LG.out f 0 0 (wid l f t0) (Nat.le_refl _) (by omega) ⟨by decide, by decide⟩ (by rw [HT0.out]; rfl) _ (HK.out.later (bel_newR _ _))).mono ?_
  rintro e w1 ⟨he, hb⟩
  have K1 : Hid (Below w.heap.size w w1) := Lib.hid (bel_tr0 (bel_newR _ _) hb)
  have T1 : Hid (Tab w1 [(w.heap.size, [.int .i64 0, .int .i64 0, .int .i64 0, .int .i64 0])]) := Lib.hid (((Tab.nil w).new' _ _ rfl).later hb)
  have lt1 : w.heap.size < w1.heap.size := T1.out.lt 0 rfl
  clear hb
  rw [HT0.out] at he
  cases hw : wid l f t0 with
  | none =>
    rw [hw] at he
    have : R = none := by rw [← HR.out, firstE, HT0.out, hw]
    subst this
    obtain rfl : e = .panicked (gave 2) := he
    exact ⟨rfl, rfl, K1.out⟩
  | some x0 =>
    rw [hw] at he
    have L0 : Hid (Ln x0) := Lib.hid (adds_len hw ⟨by decide, by decide⟩)
    have E0 : Hid (lineE l av f t0 x0 = R) := Lib.hid (by rw [← HR.out, firstE, HT0.out, hw])
    obtain rfl : e = .returned (.agg #[.int .i64 f, .int .i64 t0, .int .i64 x0, .int .i64 0]) := he
    clear hw HR HT0
    go_wp2_with fail
    obtain ⟨b, hb⟩ : ∃ b, w1.heap.size = b := ⟨_, rfl⟩
    obtain ⟨wl, hwl⟩ : ∃ wl, w1.alloc (.cells #[.int .i64 f, .int .i64 t0, .int .i64 x0, .int .i64 0] 33) = wl := ⟨_, rfl⟩
    rw [hwl, hb]
    have M0 : Hid (FlM w b f t0 x0 wl) := Lib.hid (by rw [← hwl, ← hb]; exact ⟨bel_tr0 K1.out (bel_newR _ _), T1.out.new' _ _ rfl⟩)
    rw [hb] at lt1
    clear hwl hb K1 T1
    go_loopw [8] (fun s8 wr => ∃ (t : Nat) (x : Int), f < t ∧ t ≤ n ∧ Hid (Ln x) ∧ Hid (lineE l av f t x = R) ∧ Hid (FlM w b f t x wr)) (fun _ wr => n - cellNat wr b 1)
    case atStart => exact ⟨t0, x0, s2, s1, L0, E0, M0⟩
    case round =>
      clear M0 E0 L0
      obtain ⟨t, x, ft, tn, LX, ER, HM⟩ := hrel
      have c0 := HM.out.tab.cell 0 0 rfl rfl
      have c1 := HM.out.tab.cell 0 1 rfl rfl
      have c2 := HM.out.tab.cell 0 2 rfl rfl
      have c3 := HM.out.tab.cell 0 3 rfl rfl
      by_cases lt : t < n
      · have lt' : (t : Int) < (n : Int) := by omega
        have CN : Hid (cellNat wr b 1 = t) := Lib.hid (by simp [cellNat, c1, intOf])
        obtain ⟨tt, htt⟩ : ∃ tt, segE l t = tt := ⟨_, rfl⟩
        have sg := segE_le l t (by have := HN.out; omega)
        rw [htt] at sg
        have g1 : tt ≤ n := by have := HN.out; omega
        have g2 : t < tt := sg.2 (by have := HN.out; omega)
        have HTT := Lib.hid htt
        clear sg htt
        go_wp2_with fail
        refine (LG.out t x 0 (adds x (parts l f t tt)) (by omega) tn LX.out (by rw [HTT.out]) _ (HK.out.later HM.out.bel)).mono ?_
        rintro e w2 ⟨he, hb⟩
        have M2 : Hid (FlM w b f t x w2) := Lib.hid ⟨bel_tr0 HM.out.bel hb, HM.out.tab.later hb⟩
        clear hb c0 c1 c2 c3 HM
        rw [HTT.out] at he
        cases hw : adds x (parts l f t tt) with
        | none =>
          rw [hw] at he
          have : R = none := by rw [← ER.out]; exact lineE_none l av f t x (by have := HN.out; omega) (by rw [HTT.out]; exact hw)
          subst this
          obtain rfl : e = .panicked (gave 2) := he
          exact ⟨rfl, rfl, M2.out.bel⟩
        | some y =>
          rw [hw] at he
          have LY : Hid (Ln y) := Lib.hid (adds_len hw LX.out)
          have HW := Lib.hid hw
          obtain rfl : e = .returned (.agg #[.int .i64 f, .int .i64 tt, .int .i64 y, .int .i64 0]) := he
          clear hw
          obtain ⟨y0, y1⟩ := LY.out
          have TA := M2.out.tab
          have lb8 : b < w2.heap.size := TA.lt 0 rfl
          have lw : w.heap.size < w2.heap.size := TA.lt 1 rfl
          have c0 := TA.cell 0 0 rfl rfl
          have c1 := TA.cell 0 1 rfl rfl
          have c2 := TA.cell 0 2 rfl rfl
          have c3 := TA.cell 0 3 rfl rfl
          have nb : ¬ w2.heap.size = b := by omega
          have nb' : ¬ b = w2.heap.size := by omega
          by_cases cmp : av < y
          · have : R = some (t, x) := by rw [← ER.out]; exact lineE_stop l av f t x y (by have := HN.out; omega) (by rw [HTT.out]; exact HW.out) cmp
            subst this
            have r0 := TA.cell 1 0 rfl rfl
            have r1 := TA.cell 1 1 rfl rfl
            have r2 := TA.cell 1 2 rfl rfl
            have r3 := TA.cell 1 3 rfl rfl
            have f0 := TA.froz 1 0 rfl rfl
            have f1 := TA.froz 1 1 rfl rfl
            have f2 := TA.froz 1 2 rfl rfl
            have f3 := TA.froz 1 3 rfl rfl
            have nw : ¬ w2.heap.size = w.heap.size := by omega
            have nw' : ¬ w.heap.size = w2.heap.size := by omega
            have FIN : Hid (∀ y0 y1 y2 y3, Below w.heap.size w (((((w2.setCell ⟨w.heap.size, 0, none⟩ y0).setCell ⟨w.heap.size, 1, none⟩ y1).setCell ⟨w.heap.size, 2, none⟩ y2).setCell ⟨w.heap.size, 3, none⟩ y3).alloc (.cells #[.int .i64 f, .int .i64 tt, .int .i64 y, .int .i64 0] 33))) := Lib.hid (fun y0 y1 y2 y3 => (set4_below M2.out.bel (Nat.le_refl _) y0 y1 y2 y3).alloc (set4_below M2.out.bel (Nat.le_refl _) y0 y1 y2 y3).size _)
            clear TA
            go_wp2_with fail
            refine bodyPost_ret (v := .agg #[.int .i64 f, .int .i64 t, .int .i64 x, .int .i64 0]) (by simp [results, Try.results34, go_sem, r0, r1, r2, r3, lw, nw, nw']) rfl ?_
            exact ⟨rfl, FIN.out _ _ _ _⟩
          · have ER2 : Hid (lineE l av f tt y = R) := Lib.hid (by rw [← ER.out, lineE_more l av f t x y (by have := HN.out; omega) (by rw [HTT.out]; exact HW.out) cmp, HTT.out])
            have f0 := TA.froz 0 0 rfl rfl
            have f1 := TA.froz 0 1 rfl rfl
            have f2 := TA.froz 0 2 rfl rfl
            have f3 := TA.froz 0 3 rfl rfl
            have M4 : Hid (FlM w b f tt y (((((w2.setCell ⟨b, 0, none⟩ (.int .i64 f)).setCell ⟨b, 1, none⟩ (.int .i64 tt)).setCell ⟨b, 2, none⟩ (.int .i64 y)).setCell ⟨b, 3, none⟩ (.int .i64 0)).alloc (.cells #[.int .i64 f, .int .i64 tt, .int .i64 y, .int .i64 0] 33))) := Lib.hid ⟨(set4_below M2.out.bel (by omega) _ _ _ _).alloc (set4_below M2.out.bel (by omega) _ _ _ _).size _, (tab2_set4 M2.out.tab (by omega) _ _ _ _).alloc _⟩
            have CN2 : Hid (cellNat (((((w2.setCell ⟨b, 0, none⟩ (.int .i64 f)).setCell ⟨b, 1, none⟩ (.int .i64 tt)).setCell ⟨b, 2, none⟩ (.int .i64 y)).setCell ⟨b, 3, none⟩ (.int .i64 0)).alloc (.cells #[.int .i64 f, .int .i64 tt, .int .i64 y, .int .i64 0] 33)) b 1 = tt) := Lib.hid (by
              have := M4.out.tab.cell 0 1 rfl rfl
              simp [cellNat, this, intOf])
            clear TA
            go_wp2_with fail
            go_roundw
            case rel => exact ⟨tt, y, by omega, g1, LY, ER2, M4⟩
            case measure => rw [CN.out, CN2.out]; omega
      · obtain rfl : t = n := by omega
        have : R = some (t, x) := by rw [← ER.out]; exact lineE_out l av f t x (by have := HN.out; omega)
        subst this
        have r0 := HM.out.tab.cell 1 0 rfl rfl
        have r1 := HM.out.tab.cell 1 1 rfl rfl
        have r2 := HM.out.tab.cell 1 2 rfl rfl
        have r3 := HM.out.tab.cell 1 3 rfl rfl
        have f0 := HM.out.tab.froz 1 0 rfl rfl
        have f1 := HM.out.tab.froz 1 1 rfl rfl
        have f2 := HM.out.tab.froz 1 2 rfl rfl
        have f3 := HM.out.tab.froz 1 3 rfl rfl
        have lw : w.heap.size < wr.heap.size := HM.out.tab.lt 1 rfl
        have FIN : Hid (∀ y0 y1 y2 y3, Below w.heap.size w ((((wr.setCell ⟨w.heap.size, 0, none⟩ y0).setCell ⟨w.heap.size, 1, none⟩ y1).setCell ⟨w.heap.size, 2, none⟩ y2).setCell ⟨w.heap.size, 3, none⟩ y3)) := Lib.hid (fun y0 y1 y2 y3 => set4_below HM.out.bel (Nat.le_refl _) y0 y1 y2 y3)
        go_wp2_with fail
        refine bodyPost_ret (v := .agg #[.int .i64 f, .int .i64 t, .int .i64 x, .int .i64 0]) (by simp [results, Try.results34, go_sem, r0, r1, r2, r3, lw]) rfl ?_
        exact ⟨rfl, FIN.out _ _ _ _⟩
end Go.Proofs.Ytmelbgabiklojaa
/- Package line: Fill, Least, Most. -/
namespace Go.Proofs.Ytmelbgabiklojaa
open Go.RowKit Go.Proofs.Reg Go.Proofs.Big Lin
set_option linter.unusedVariables false
set_option linter.unusedSimpArgs false
set_option maxRecDepth 100000
theorem kadd_none' (g o j : Nat) : (⟨g, o, none⟩ : Addr).add j = ⟨g, o + j, none⟩ := by simp [Addr.add]
def highL (l : List I4) (x : Int) : Int := l.foldl (fun h r => max h r.2.2.1) x
theorem highL_rng : ∀ (l : List I4) (x : Int), (∀ r ∈ l, InI r) → In64 x → In64 (highL l x)
  | [], x, _, h => h
  | r :: l, x, hi, h => by
    obtain ⟨h0, h1⟩ := h
    obtain ⟨_, _, r0, r1⟩ := hi r (List.mem_cons_self ..)
    exact highL_rng l (max x r.2.2.1) (fun q m => hi q (List.mem_cons_of_mem _ m)) ⟨by omega, by omega⟩
set_option maxHeartbeats 4000000 in
theorem lhigh_any (a : Option Addr) (n c : Nat) (l : List I4) (low : Int) (hl : n ≤ 1000000) (hlow : In64 low) (hi : ∀ r ∈ l, InI r) (w : World) (h : KS IK w (.slice a n c) l) :
    Calls Try.prog 35 #[.slice a n c, .int .i64 low] w fun e w' => e = .returned (.int .i64 (highL l low)) ∧ Below w.heap.size w w' := by
  obtain ⟨hn, hc, hm⟩ := h.len
  have HK := Lib.hid h
  have HN := Lib.hid hn
  have HI := Lib.hid hi
  have HL := Lib.hid hlow
  obtain ⟨R, hR⟩ : ∃ R, highL l low = R := ⟨_, rfl⟩
  have HR := Lib.hid hR
  rw [hR]
  clear h hn hi hlow hR
  go_enter Try.func35, Try.ntmps35
  go_wp2_with fail
  go_loopw [5, 11] (fun s5 s11 wr => ∃ (i : Nat) (x : Int), s11 = .int .i64 i ∧ s5 = .int .i64 x ∧ i ≤ n ∧ Hid (highL (l.drop i) x = R) ∧ Hid (Below w.heap.size w wr)) (fun _ s11 _ => n - (intOf s11).toNat)
  case atStart => exact ⟨0, low, rfl, rfl, by omega, Lib.hid (by rw [List.drop_zero]; exact HR.out), Lib.hid (Below.refl _ _)⟩
  case round =>
    obtain ⟨i, x, rfl, rfl, hin, ER, KB⟩ := hrel
    by_cases lt : i < n
    · have lt' : (i : Int) < (n : Int) := by omega
      obtain ⟨g, o, x1, x2, x3, bb, rfl, hit, hr, y0, y1, y2, y3⟩ := IK.at HK.out lt
      have ix : ∀ wy : World, (Instr.indexAt 25 (.slice (some ⟨g, o, none⟩) n c) (.int .i64 i)).run Try.prog wy = .ok (.pointer (some ⟨g, o + i * 4, none⟩)) wy := fun wy => by
        have k0 : (0 : Int) ≤ (i : Int) := by omega
        simp [go_sem, k0, lt', Addr.add]
        try omega
      have c0 := kcell_on KB.out y0
      have c1 := kcell_on KB.out y1
      have c2 := kcell_on KB.out y2
      have c3 := kcell_on KB.out y3
      have ER2 : Hid (highL (l.drop (i + 1)) (max x x3) = R) := Lib.hid (by
        have ln : i < l.length := by have := HN.out; omega
        rw [← ER.out, List.drop_eq_getElem_cons ln]
        have e : l[i]'ln = (x1, x2, x3, bb) := (List.getElem?_eq_some_iff.1 hr).2
        rw [e]; rfl)
      have K2 : Hid (Below w.heap.size w (wr.alloc (.cells #[.int .i64 x1, .int .i64 x2, .int .i64 x3, .bool bb] 35))) := Lib.hid (bel_tr0 KB.out (bel_newR _ _))
      clear y0 y1 y2 y3 hit hr
      go_wp2_with fail
      go_roundw
      case rel => exact ⟨i + 1, _, by simp, rfl, by omega, ER2, K2⟩
      case measure => simp [intOf]; omega
    · obtain rfl : i = n := by omega
      have : x = R := by
        rw [← ER.out, List.drop_eq_nil_of_le (by have := HN.out; omega)]; rfl
      subst this
      go_wp2_with fail
      go_returns
      exact ⟨rfl, KB.out⟩
/-- lines in cells -/
def LK : Rk L4 := ⟨4, fun r => [.int .i64 r.1, .int .i64 r.2.1, .int .i64 r.2.2.1, .int .i64 r.2.2.2], fun _ => rfl, fun r u hu => by simp at hu; rcases hu with rfl | rfl | rfl | rfl <;> rfl⟩
theorem slt_line : SlT 27 33 4 (.agg #[.int .i64 0, .int .i64 0, .int .i64 0, .int .i64 0]) 32 := ⟨Try.underlying27, by kernel_rfl, rfl, by decide, by decide⟩
theorem KM.aside {α : Type} {K : Rk α} {e : TypeId} {b0 : Nat} {w wr wx : World} {pe : Option Addr} {n ce : Nat} {rs : List α} (h : KM K e b0 w wr pe n ce rs) (hb : Below wr.heap.size wr wx) {b : Nat} (lb : wr.heap.size ≤ b) (i : Nat) (v : Value) : KM K e b0 w (wx.setCell ⟨b, i, none⟩ v) pe n ce rs := by
  have k := h.later hb
  refine ⟨k.own.kept (kgrown_set wx ⟨b, i, none⟩ v) (.inr fun e => ?_), by simpa [World.setCell] using k.lt, k.len, k.bel.setCell (Nat.le_trans h.lt lb) _⟩
  have := (h.own.lt _ e).2
  dsimp only at this
  omega
theorem KS.sub {w : World} {g o n c : Nat} {l : List I4} (h : KS IK w (.slice (some ⟨g, o, none⟩) n c) l) {f t : Nat} (ft : f ≤ t) (tn : t ≤ n) : KS IK w (.slice (some ⟨g, o + f * 4, none⟩) (t - f) (c - f)) ((l.drop f).take (t - f)) := by
  obtain ⟨hn, hc, hm⟩ := h.len
  refine ⟨_, _, _, rfl, by rw [List.length_take, List.length_drop]; omega, by omega, by omega, fun q => ⟨g, _, rfl, fun k r hr i x hx => ?_⟩⟩
  obtain ⟨a', n', c', e, _, _, _, h5⟩ := h
  simp only [Value.slice.injEq] at e
  obtain ⟨rfl, rfl, rfl⟩ := e
  obtain ⟨g', o', e, hk⟩ := h5 (by omega)
  simp only [Option.some.injEq, Addr.mk.injEq] at e
  obtain ⟨rfl, rfl, _⟩ := e
  have hr' : l[f + k]? = some r := by
    rw [List.getElem?_take] at hr
    split at hr
    · rw [List.getElem?_drop] at hr; exact hr
    · cases hr
  have := hk _ _ hr' i x hx
  rw [show g = g from rfl, show o + f * 4 + k * IK.z + i = o + (f + k) * IK.z + i by show o + f * 4 + k * 4 + i = o + (f + k) * 4 + i; omega]
  exact this
theorem highF_eq (l : List I4) (low : Int) (a b : Nat) : highF l low a b = highL ((l.drop a).take (b - a)) low := rfl
/-- what Fill answers -/
def FiR (B : Nat) (o : Option (List L4)) (e : Ending) (w' : World) : Prop := match o with
  | some ls => ∃ u, e = .returned u ∧ KS LK w' u ls ∧ ∀ (p : Addr) (n c : Nat), u = .slice (some p) n c → B ≤ p.block
  | none => e = .panicked (gave 2)
set_option maxHeartbeats 8000000 in
theorem lfill_any (a : Option Addr) (n c : Nat) (l : List I4) (av low : Int) (hl : n ≤ 900000) (ha : In64 av) (hlow : In64 low) (hi : ∀ r ∈ l, InI r) (w : World) (h : KS IK w (.slice a n c) l) :
    Calls Try.prog 14 #[.slice a n c, .int .i64 av, .int .i64 low] w fun e w' => FiR w.heap.size (fillE l av low 0) e w' ∧ Below w.heap.size w w' := by
  obtain ⟨hn, hc, hm⟩ := h.len
  have FL := Lib.hid (fun f hf w h => lfilled_any a n c l f av hf (by omega) ha hi w h)
  have HK := Lib.hid h
  have HN := Lib.hid hn
  have HI := Lib.hid hi
  have HL := Lib.hid hlow
  obtain ⟨R, hR⟩ : ∃ R, fillE l av low 0 = R := ⟨_, rfl⟩
  have HR := Lib.hid hR
  rw [hR]
  obtain ⟨i0, hi0, hz0, hz1, hz2⟩ := slt_line.info
  clear h hi hn hR ha hlow
  go_enter Try.func14, Try.ntmps14
  go_wp2_with fail
  go_loopw [7, 8] (fun s7 s8 wr => ∃ (f k : Nat) (pe : Option Addr) (ce : Nat) (done : List L4), s7 = .slice pe k ce ∧ s8 = .int .i64 f ∧ f ≤ n ∧ k ≤ f ∧ Hid ((fillE l av low f).map (fun r => done ++ r) = R) ∧ Hid (KM LK 33 w.heap.size w wr pe k ce done)) (fun _ s8 _ => n - (intOf s8).toNat)
  case atStart => exact ⟨0, 0, none, 0, [], rfl, rfl, by omega, by omega, Lib.hid (by rw [HR.out]; cases R <;> rfl), Lib.hid (KM.start LK _ (Nat.le_refl _) (Below.refl _ _))⟩
  case round =>
    obtain ⟨f, k, pe, ce, done, rfl, rfl, fn, kf, ER, HM⟩ := hrel
    by_cases lt : f < n
    · have lt' : (f : Int) < (n : Int) := by omega
      go_wp2_with fail
      refine (FL.out f lt _ (HK.out.later HM.out.bel)).mono ?_
      rintro e w1 ⟨he, hb⟩
      have M1 := Lib.hid (HM.out.later hb)
      clear HM hb
      cases hx : firstE l av f with
      | none =>
        rw [hx] at he
        have : R = none := by rw [← ER.out, fillE_none l av low f (by have := HN.out; omega) hx]; rfl
        subst this
        obtain rfl : e = .panicked (gave 2) := he
        exact ⟨rfl, rfl, M1.out.bel⟩
      | some x =>
        obtain ⟨t, x⟩ := x
        rw [hx] at he
        obtain rfl : e = .returned (.agg #[.int .i64 f, .int .i64 t, .int .i64 x, .int .i64 0]) := he
        obtain ⟨g1, g2⟩ := firstE_gt hx (by have := HN.out; omega)
        have g3 : t ≤ n := by have := HN.out; dsimp only at g2; omega
        dsimp only at g1
        obtain ⟨g, o, _, _, _, _, rfl, _, _, _, _, _, _⟩ := IK.at HK.out lt
        obtain ⟨H, hH⟩ : ∃ H, highF l low f t = H := ⟨_, rfl⟩
        have ER2 : Hid ((fillE l av low t).map (fun r => (done ++ [(f, t, x, H)]) ++ r) = R) := Lib.hid (by
          rw [← ER.out, fillE_some l av low f (t, x) (by have := HN.out; omega) hx, Option.map_map]
          congr 1
          funext r
          dsimp only [Function.comp]
          rw [hH, List.append_assoc]; rfl)
        have HH := Lib.hid (fun w h => lhigh_any (some ⟨g, o + f * 4, none⟩) (t - f) (c - f) ((l.drop f).take (t - f)) low (by omega) HL.out (fun r m => HI.out r (List.mem_of_mem_drop (List.mem_of_mem_take m))) w h)
        rw [← highF_eq, hH] at HH
        have sl : ∀ wy : World, (Instr.sliceAt 25 (.slice (some ⟨g, o, none⟩) n c) (some (.int .i64 f)) (some (.int .i64 t)) none).run Try.prog wy = .ok (.slice (some ⟨g, o + f * 4, none⟩) (t - f) (c - f)) wy := fun wy => by
          have k0 : (0 : Int) ≤ (f : Int) := by omega
          have k1 : (f : Int) ≤ (t : Int) := by omega
          have k2 : (t : Int) ≤ (c : Int) := by omega
          have k3 : (0 : Int) ≤ (t : Int) := by omega
          have k4 : ¬ c = f := by omega
          have k5 : ¬ f = c := by omega
          simp [go_sem, k0, k1, k2, k3, k4, k5, Addr.add]
          try omega
        clear hx hH ER
        have k1s := M1.out.lt
        go_wp2_with fail
        obtain ⟨b, hb9⟩ : ∃ b, w1.heap.size = b := ⟨_, rfl⟩
        obtain ⟨w2, hw2⟩ : ∃ w2, w1.alloc (.cells #[.int .i64 f, .int .i64 t, .int .i64 x, .int .i64 0] 33) = w2 := ⟨_, rfl⟩
        have T2 : Hid (Tab w2 [(b, [.int .i64 f, .int .i64 t, .int .i64 x, .int .i64 0])]) := Lib.hid (by rw [← hw2, ← hb9]; exact (Tab.nil w1).new' _ _ rfl)
        have B2 : Hid (Below w1.heap.size w1 w2) := Lib.hid (by rw [← hw2]; exact bel_newR _ _)
        rw [hw2, hb9]
        clear hw2
        refine (HH.out _ (KS.sub (HK.out.later (bel_tr0 M1.out.bel B2.out)) (by omega) g3)).mono ?_
        rintro e w3 ⟨rfl, hb⟩
        have T3 := Lib.hid (T2.out.later hb)
        have B3 : Hid (Below w1.heap.size w1 w3) := Lib.hid (bel_tr0 B2.out hb)
        have M3 : Hid (KM LK 33 w.heap.size w (w3.setCell ⟨b, 3, none⟩ (.int .i64 H)) pe k ce done) := Lib.hid (M1.out.aside B3.out (by omega) _ _)
        have T4 : Hid (Tab (w3.setCell ⟨b, 3, none⟩ (.int .i64 H)) [(b, [.int .i64 f, .int .i64 t, .int .i64 x, .int .i64 H])]) := Lib.hid (T3.out.set 0 3 (.int .i64 H) rfl (fun j b' vs' hj nj => by
          match j, nj, hj with
          | j + 1, _, hj => simp at hj))
        have c0 := T3.out.cell 0 0 rfl rfl
        have c1 := T3.out.cell 0 1 rfl rfl
        have c2 := T3.out.cell 0 2 rfl rfl
        have c3 := T3.out.cell 0 3 rfl rfl
        have f3 := T3.out.froz 0 3 rfl rfl
        have lb3 : b < w3.heap.size := T3.out.lt 0 rfl
        have ks : k + 1 ≤ 900001 := by omega
        have M1b := M1
        clear hb T2 B2 M1 HH sl
        go_wp2_with (at_builtin; go_loud (refine wpList_append_own _ rfl _ _ 27 rfl w.heap.size 33 i0 (.agg #[.int .i64 0, .int .i64 0, .int .i64 0, .int .i64 0]) 4 32 Try.underlying27 hi0 hz0 hz1 hz2 rfl (by decide) _ _ _ rfl (M3.out.own.alloc _) ⟨_, 0, none⟩ 1 1 [.int .i64 f, .int .i64 t, .int .i64 x, .int .i64 H] rfl rfl ?c1 ?c2 ?c3 ?c4 ?c5 ?_))
        case c1 =>
          intro j u hk
          rw [kadd_none', Nat.zero_add]
          have hh := heap_alloc_new (w3.setCell ⟨b, 3, none⟩ (.int .i64 H)) (.cells #[.int .i64 f, .int .i64 t, .int .i64 x, .int .i64 H] 33)
          simp only [World.size_setCell] at hh ⊢
          simp only [World.cell?, hh]
          simpa using hk
        case c2 => simp [Value.oneCell']
        case c3 => unfold maxLen; omega
        case c4 => omega
        case c5 =>
          have := M3.out.lt
          rw [World.size_alloc]
          omega
        intro v1 w4 hown1 hgrow _
        obtain ⟨a1, c1', rfl, HM4⟩ := M3.out.app (r := (f, t, x, H)) hown1 hgrow
        have HM5 := Lib.hid HM4
        have T5 : Hid (Tab w4 [(b, [.int .i64 f, .int .i64 t, .int .i64 x, .int .i64 H])]) := Lib.hid (by
          have T := T4.out.alloc (.cells #[.int .i64 f, .int .i64 t, .int .i64 x, .int .i64 H] 33)
          intro k' b' vs hk i v hi
          obtain ⟨p0, p1⟩ := T k' b' vs hk i v hi
          match k', hk with
          | 0, hk =>
            simp at hk
            obtain ⟨rfl, rfl⟩ := hk
            have lt := World.block_lt_of_cell? _ _ p0
            have e := hgrow.block b lt (fun e => by
              have := (M1b.out.own.lt b e.symm).2
              omega)
            exact ⟨(World.cell?_of_block e).trans p0, (World.frozen?_of_block e).trans p1⟩
          | k' + 1, hk => simp at hk)
        clear hown1 hgrow HM4 M3 T4 c0 c1 c2 c3 f3 T3
        have c1 := T5.out.cell 0 1 rfl rfl
        go_wp2_with fail
        go_roundw
        case rel => exact ⟨t, k + 1, a1, c1', done ++ [(f, t, x, H)], by simp, rfl, g3, by omega, ER2, HM5⟩
        case measure => simp [intOf]; omega
    · obtain rfl : f = n := by omega
      have : R = some done := by rw [← ER.out, fillE_out l av low f (by have := HN.out; omega)]; simp
      subst this
      have FIN : Hid (FiR w.heap.size (some done) (.returned (.slice pe k ce)) wr ∧ Below w.heap.size w wr) := Lib.hid ⟨⟨_, rfl, HM.out.ks (by decide), fun p n' c' e => by
        cases e
        exact (HM.out.own.lt p.block rfl).1⟩, HM.out.bel⟩
      go_wp2_with fail
      go_returns
      exact FIN.out
end Go.Proofs.Ytmelbgabiklojaa
