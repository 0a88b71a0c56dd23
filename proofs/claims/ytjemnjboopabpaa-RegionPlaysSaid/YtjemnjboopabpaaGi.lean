/- Package region: has a pixel; one rectangle. -/
import Derived.Test.YtjemnjboopabpaaGh
namespace Go.Proofs.Ytjemnjboopabpaa
open Go.RowKit Go.Proofs.Reg Go.Proofs.Big Go.Proofs.Bands
set_option linter.unusedVariables false
set_option linter.unusedSimpArgs false
set_option maxRecDepth 100000
theorem cnt_lt {es : List Int} (h : Asc es) (x : Int) : cntB es x = es.countP (· < x) + (if es.contains x then 1 else 0) := by
  induction es with
  | nil => rfl
  | cons e es ih =>
    have hp := List.pairwise_cons.1 h
    rw [cnt_cons, ih hp.2, List.countP_cons, List.contains_cons]
    by_cases a : e = x
    · subst a
      have n : ¬ e ∈ es := fun c => by
        have := hp.1 e c
        omega
      simp [n]
      try omega
    · have b : (x == e) = false := by simpa using fun q => a q.symm
      rw [b, Bool.false_or]
      by_cases c : e < x
      · simp [c, show e ≤ x by omega]; omega
      · simp [c, show ¬ e ≤ x by omega]
theorem gsearch_any (v : Value) (es : List Int) (x : Int) (w : World) (h : EV w v es) (ha : Asc es) (hs : es.length < 4611686018427387904) :
    Calls Try.prog 51 #[v, .int .i64 x] w fun e w' => e = .returned (.tuple #[.int .i64 (es.countP (· < x) : Nat), .bool (es.contains x)]) ∧ Below w.heap.size w w' := by
  obtain ⟨a, n, c, rfl, E, k⟩ := h
  have ln := E.r.hlen
  by_cases z : n = 0
  · subst z
    obtain rfl : es = [] := List.eq_nil_of_length_eq_zero ln
    refine (Try.slices_BinarySearch_int_empty a c x w).mono ?_
    rintro e w' ⟨rfl, rfl⟩
    exact ⟨rfl, Below.refl _ _⟩
  · obtain ⟨g, o, cs, fz, rfl, hg⟩ := k (by omega)
    obtain ⟨q, hq, hc⟩ := E.r.addr (by omega)
    have hq := Option.some.inj hq
    subst hq
    refine (Try.slices_BinarySearch_int g o n c es x w (by omega) (by omega) (fun j hj => by rw [← add_none]; exact hc j (by omega)) (by rw [← ln, List.take_length]; exact ha.imp fun h => by omega)).mono ?_
    rintro e w' ⟨rfl, z, rfl⟩
    refine ⟨?_, below_drewN (Below.refl _ _) _⟩
    rw [← ln, List.take_length]
theorem ghas_any (v : Value) (l : List Bd) (x y : Int) (w : World) (h : Rg w v l) : Calls Try.prog 17 #[v, .int .i64 x, .int .i64 y] w fun e w' => e = .returned (.bool (hasP l x y)) ∧ Below w.heap.size w w' := by
  obtain ⟨⟨_, rfl, hbs⟩, wf, inr⟩ := h
  have BB := Lib.hid hbs
  have WF := Lib.hid wf
  have IN := Lib.hid inr
  obtain ⟨a, n, c, xs, rfl, _, rfl, _⟩ := hbs
  clear wf inr
  go_enter Try.func17, Try.ntmps17
  go_wp2_with fail
  refine (row_any _ l y _ (BB.out.later ?_) WF.out).mono ?_
  · go_grown
  rintro _ w1 ⟨ev, rfl, he, hb⟩
  have KB := Lib.hid (show Below w.heap.size w w1 from bel_tr0 (by go_grown) hb)
  have HE := Lib.hid he
  have rl := (row_len WF.out IN.out y).1
  have RA := Lib.hid (rowAt_asc WF.out y).1
  clear hb he
  obtain ⟨k, hk⟩ : ∃ k, (Bands.rowAt l y).countP (· < x) = k := ⟨_, rfl⟩
  obtain ⟨r, hr⟩ : ∃ r, (Bands.rowAt l y).contains x = r := ⟨_, rfl⟩
  have BS := Lib.hid (gsearch_any ev _ x w1 HE.out RA.out (by omega))
  rw [hk, hr] at BS
  have kl : k ≤ 2147483649 := by rw [← hk]; exact Nat.le_trans (List.countP_le_length) rl
  have FIN : Hid (hasP l x y = ((k + (if r then 1 else 0)) % 2 == 1)) := Lib.hid (by
    unfold hasP inE
    rw [cnt_lt RA.out, hk, hr])
  clear hk hr rl
  cases r with
  | true =>
    go_wp2_with fail
    refine BS.out.mono ?_
    rintro _ w2 ⟨rfl, hb⟩
    have KB2 := Lib.hid (bel_tr0 KB.out hb)
    clear hb
    go_wp2_with fail
    refine (ginside_nat (k + 1) _).mono ?_
    rintro _ w3 ⟨rfl, rfl⟩
    go_wp2_with fail
    go_returns
    exact ⟨by rw [FIN.out]; rfl, KB2.out⟩
  | false =>
    go_wp2_with fail
    refine BS.out.mono ?_
    rintro _ w2 ⟨rfl, hb⟩
    have KB2 := Lib.hid (bel_tr0 KB.out hb)
    clear hb
    go_wp2_with fail
    refine (ginside_nat k _).mono ?_
    rintro _ w3 ⟨rfl, rfl⟩
    go_wp2_with fail
    go_returns
    exact ⟨by rw [FIN.out]; rfl, KB2.out⟩
/-- a rectangle's bands -/
def oneB (A B C D : Int) : List Bd := if emB A B C D then [] else [⟨B, D, [A, C]⟩]
theorem oneB_ok {A B C D : Int} (h : Rgt A B C D) : Wf (oneB A B C D) ∧ InR (oneB A B C D) := by
  unfold oneB
  split
  · exact ⟨trivial, fun d m => by simp at m⟩
  · rename_i e
    have e : ¬ (A = 0 ∧ B = 0 ∧ C = 0 ∧ D = 0) := by
      intro q; apply e; unfold emB; simp [q.1, q.2.1, q.2.2.1, q.2.2.2]
    unfold Rgt at h
    refine ⟨⟨⟨by show B < D; omega, by simp, List.pairwise_cons.2 ⟨fun x m => by rw [List.mem_singleton] at m; omega, List.pairwise_singleton _ _⟩, by simp⟩, fun d m => by simp at m, fun d m => by simp at m, trivial⟩, fun d m => ?_⟩
    rw [List.mem_singleton] at m
    subst m
    refine ⟨by show -1073741824 ≤ B ∧ D ≤ 1073741824; omega, fun x m => ?_⟩
    simp only [List.mem_cons, List.not_mem_nil, or_false] at m
    omega
theorem oneB_has {A B C D : Int} (h : Rgt A B C D) (x y : Int) : hasP (oneB A B C D) x y = decide (A ≤ x ∧ x < C ∧ B ≤ y ∧ y < D) := by
  unfold oneB
  split
  · rename_i e
    unfold emB at e
    simp at e
    rw [decide_eq_false (by omega)]
    rfl
  · show inE (if _ then _ else _) x = _
    by_cases c : B ≤ y ∧ y < D
    · rw [if_pos c]
      unfold inE
      rw [cnt_cons, cnt_cons, cnt_nil]
      unfold Rgt at h
      by_cases p : A ≤ x
      · by_cases q : C ≤ x
        · rw [if_pos p, if_pos q, decide_eq_false (by omega)]; rfl
        · rw [if_pos p, if_neg q, decide_eq_true (by omega)]; rfl
      · rw [if_neg p, if_neg (by omega), decide_eq_false (by omega)]; rfl
    · rw [if_neg c, decide_eq_false (by omega)]; rfl
theorem two_ints (w : World) (x y : Int) : EV (w.alloc (.cells #[.int .i64 x, .int .i64 y] 3)) (.slice (some ⟨w.heap.size, 0, none⟩) 2 2) [x, y] := by
  refine ⟨_, 2, 2, rfl, ⟨⟨rfl, by omega, fun _ => ⟨_, rfl, fun k hk => ?_⟩⟩, by omega, by omega⟩, fun _ => ⟨_, 0, _, _, rfl, heap_alloc_new _ _⟩⟩
  match k, hk with
  | 0, _ => simp [go_sem, Addr.add]
  | 1, _ => simp [go_sem, Addr.add]
theorem one_band (w : World) (t b : Int) (ev : Value) (es : List Int) (he : EV w ev es) : BS (w.alloc (.cells #[.int .i64 t, .int .i64 b, ev] 86)) (.slice (some ⟨w.heap.size, 0, none⟩) 1 1) [⟨t, b, es⟩] := by
  refine ⟨_, 1, 1, bcs t b ev, rfl, ⟨ev, [], by simp, he.later ((Below.refl _ _).alloc (Nat.le_refl _) _), rfl⟩, rfl, by omega, by omega, fun _ => ⟨_, rfl, fun j u hj => ?_⟩⟩
  match j, hj with
  | 0, hj => simp [bcs] at hj; subst hj; simp [go_sem]
  | 1, hj => simp [bcs] at hj; subst hj; simp [go_sem]
  | 2, hj => simp [bcs] at hj; subst hj; simp [go_sem]
  | j + 3, hj => simp [bcs] at hj
/-- what one rectangle is -/
def OneR (w : World) (A B C D : Int) (e : Ending) (w' : World) : Prop := ∃ v, e = .returned v ∧ Rg w' v (oneB A B C D) ∧ Below w.heap.size w w'
theorem gone_any (A B C D : Int) (h : Rgt A B C D) (w : World) : Calls Try.prog 40 #[rv A B C D] w (OneR w A B C D) := by
  have i64 := h.i64
  have M1 := Lib.hid (xempty_any A B C D A B C D i64.1 i64.2.1 i64.2.2.1 i64.2.2.2 h.nrm)
  have OK := Lib.hid (oneB_ok h)
  clear i64 h
  unfold rv at M1 ⊢
  go_enter Try.func40, Try.ntmps40
  go_wp2_with fail
  refine (M1.out _).mono ?_
  rintro _ w1 ⟨rfl, hb⟩
  have KB := Lib.hid (show Below w.heap.size w w1 from bel_tr0 (by go_grown) hb)
  have CR : Hid (w1.heap[w.heap.size + 1]? = some (.cells #[.slice none 0 0] 26 (0, 0))) := Lib.hid (by
    rw [hb.block (w.heap.size + 1) (by simp)]
    have e : w.heap.size + 1 = (w.alloc (Obj.cells #[.int .i64 A, .int .i64 B, .int .i64 C, .int .i64 D] 40)).heap.size := by simp
    rw [e]
    exact heap_alloc_new _ _)
  have hc : w1.cell? ⟨w.heap.size + 1, 0, none⟩ = some (.slice none 0 0) := by simp [World.cell?, CR.out]
  have hf : w1.frozen? ⟨w.heap.size + 1, 0, none⟩ = false := by simp [World.frozen?, CR.out]
  have lt2 : w.heap.size + 1 < w1.heap.size := World.block_lt_of_cell? w1 _ hc
  have z0 : w1.cell? ⟨w.heap.size, 0, none⟩ = some (.int .i64 A) := by
    rw [World.cell?_of_block (hb.block w.heap.size (by simp; omega))]; simp [go_sem]
  have z1 : w1.cell? ⟨w.heap.size, 1, none⟩ = some (.int .i64 B) := by
    rw [World.cell?_of_block (hb.block w.heap.size (by simp; omega))]; simp [go_sem]
  have z2 : w1.cell? ⟨w.heap.size, 2, none⟩ = some (.int .i64 C) := by
    rw [World.cell?_of_block (hb.block w.heap.size (by simp; omega))]; simp [go_sem]
  have z3 : w1.cell? ⟨w.heap.size, 3, none⟩ = some (.int .i64 D) := by
    rw [World.cell?_of_block (hb.block w.heap.size (by simp; omega))]; simp [go_sem]
  clear hb
  cases em : emB A B C D with
  | true =>
    have FIN : Hid (∀ u, OneR w A B C D (.returned (.agg #[.slice none 0 0])) (w1.setCell ⟨w.heap.size + 1, 0, none⟩ u)) := Lib.hid (fun u => by
      have ok := OK.out
      have e : oneB A B C D = [] := by unfold oneB; rw [em]; rfl
      unfold OneR
      rw [e]
      exact ⟨_, rfl, Rg.nil _, KB.out.setCell (by show w.heap.size ≤ w.heap.size + 1; omega) u⟩)
    go_wp2_with fail
    refine bodyPost_ret (v := .agg #[.slice none 0 0]) (by simp [results, Try.results40, go_sem, hc]) rfl ?_
    exact FIN.out _
  | false =>
    have FIN : Hid (∀ u, OneR w A B C D (.returned (.agg #[.slice (some ⟨w1.heap.size + 1, 0, none⟩) 1 1])) (((w1.setCell ⟨w.heap.size + 1, 0, none⟩ u).alloc (.cells #[.int .i64 A, .int .i64 C] 3)).alloc (.cells #[.int .i64 B, .int .i64 D, .slice (some ⟨w1.heap.size, 0, none⟩) 2 2] 86))) := Lib.hid (fun u => by
      have ok := OK.out
      have e : oneB A B C D = [⟨B, D, [A, C]⟩] := by unfold oneB; rw [em]; rfl
      rw [e] at ok
      unfold OneR
      rw [e]
      obtain ⟨W, hW⟩ : ∃ W, w1.setCell ⟨w.heap.size + 1, 0, none⟩ u = W := ⟨_, rfl⟩
      have sW : W.heap.size = w1.heap.size := by rw [← hW]; simp
      have kW : Below w.heap.size w W := by
        rw [← hW]
        exact KB.out.setCell (by show w.heap.size ≤ w.heap.size + 1; omega) u
      rw [hW]
      have b0 := one_band (W.alloc (.cells #[.int .i64 A, .int .i64 C] 3)) B D _ _ (two_ints W A C)
      rw [World.size_alloc, sW] at b0
      exact ⟨_, rfl, ⟨⟨_, rfl, b0⟩, ok.1, ok.2⟩, (kW.alloc (by omega) _).alloc (by simp; omega) _⟩)
    have lt3 : w.heap.size < w1.heap.size := by omega
    have s2 : ∀ (u : Value) (X Y : Obj), ((((w1.setCell ⟨w.heap.size + 1, 0, none⟩ u).alloc X).alloc Y).cell? ⟨w.heap.size + 1, 0, none⟩) = some u := fun u X Y => by
      have k : Below (w1.setCell ⟨w.heap.size + 1, 0, none⟩ u).heap.size (w1.setCell ⟨w.heap.size + 1, 0, none⟩ u) (((w1.setCell ⟨w.heap.size + 1, 0, none⟩ u).alloc X).alloc Y) := ((Below.refl _ _).alloc (Nat.le_refl _) _).alloc (by simp) _
      exact cell_later k (by simp [go_sem, hc])
    go_wp2_with fail
    refine bodyPost_ret (v := .agg #[.slice (some ⟨w1.heap.size + 1, 0, none⟩) 1 1]) (by simp [results, Try.results40, go_sem, s2]) rfl ?_
    exact FIN.out _
end Go.Proofs.Ytjemnjboopabpaa
