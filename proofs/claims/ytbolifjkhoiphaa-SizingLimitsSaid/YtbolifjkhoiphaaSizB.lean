/- Law 14: what is told of sizes; speaking. -/
import Derived.Test.YtbolifjkhoiphaaSizA
import Derived.WalkKit
import Derived.WalkSpells
import Derived.WalkLawsBesides
import Derived.Handy
import Derived.Lib.Hide
import Derived.RegionTactic
import Derived.BigRegion
import Derived.Outline
namespace Go.Proofs.Ytbolifjkhoiphaa
open Go.RowKit Go.Proofs.Reg Go.Proofs.Big
set_option linter.unusedVariables false
set_option linter.unusedSimpArgs false
set_option maxRecDepth 100000
theorem Tl.rng {n v er : Int} (h : Tl n v er) : -9223372036854775808 ≤ v ∧ v ≤ 9223372036854775807 := by
  rcases h with ⟨h, rfl, _⟩ | ⟨_, h, _⟩
  · have := lenB_true h; omega
  · omega
theorem same3_ex2 (x n d : Int) (x0 : -9223372036854775808 ≤ x) (x1 : x ≤ 9223372036854775807) (n0 : -9223372036854775808 ≤ n) (n1 : n ≤ 9223372036854775807) (d0 : -9223372036854775808 ≤ d) (d1 : d ≤ 9223372036854775807) : ∃ v er, Same3 x n d v er ∧ -9223372036854775808 ≤ v ∧ v ≤ 9223372036854775807 := by
  by_cases z : d = 0
  · subst z
    refine ⟨0, 3, ⟨fun w => (fpart_zero x n w).mono ?_, part4_zero x n, fun _ => rfl⟩, by omega, by omega⟩
    rintro e w' ⟨rfl, rfl⟩
    exact ⟨.inr ⟨by decide, rfl, rfl⟩, Below.refl _ _⟩
  · obtain ⟨p0, p1⟩ := prod_127 x n x0 x1 n0 n1
    obtain ⟨q, r, Q, R, F⟩ := df_ex (x * n) d z p0 p1
    obtain ⟨v, er, ht⟩ := tl_ex q
    exact ⟨v, er, ⟨part_ends x n d q r Q R v er x0 x1 n0 n1 d0 d1 F ht, part4_any x n d q r Q R v er x0 x1 n0 n1 d0 d1 F ht, ht.zero⟩, ht.rng⟩
theorem scale_same2 (x n d : Int) (x0 : -9223372036854775808 ≤ x) (x1 : x ≤ 9223372036854775807) (n0 : -9223372036854775808 ≤ n) (n1 : n ≤ 9223372036854775807) (d0 : 1 ≤ d) (d1 : d ≤ 9223372036854775807) (hg : goodB n d = true) :
    ∃ v er, (∀ w, Calls Try.prog 76 #[.int .i64 x, .agg #[.int .i64 n, .int .i64 d]] w fun e w' => Ends v er e ∧ Below w.heap.size w w') ∧
      (∀ w, Calls Try.prog 78 #[.int .i64 x, .int .i64 n, .int .i64 d] w fun e w' => e = .returned (.tuple #[.int .i64 v, .int .i64 er]) ∧ Below w.heap.size w w') ∧ (er ≠ 0 → v = 0) ∧ -9223372036854775808 ≤ v ∧ v ≤ 9223372036854775807 := by
  obtain ⟨p0, p1⟩ := prod_127 x n x0 x1 n0 n1
  obtain ⟨q, r, Q, R, F⟩ := df_ex (x * n) d (by omega) p0 p1
  have hq : x * n / d = q := ((Int.ediv_emod_unique (a := x * n) (r := r) (q := q) (show 0 < d by omega)).2 ⟨by have := F.er; rw [Int.mul_comm d q]; omega, by have := F.rr; omega, by have := F.rr; omega⟩).1
  obtain ⟨v, er, ht⟩ := tl_ex q
  exact ⟨v, er, scale_ends x n d v er x0 x1 n0 n1 d0 d1 hg (by rw [hq]; exact ht), part4_any x n d q r Q R v er x0 x1 n0 n1 (by omega) d1 F ht, ht.zero, ht.rng⟩
theorem insame_ex2 (k n base p q : Int) (kn : -9223372036854775808 ≤ n ∧ n ≤ 9223372036854775807) (kb : -9223372036854775808 ≤ base ∧ base ≤ 9223372036854775807) (kp : -9223372036854775808 ≤ p ∧ p ≤ 9223372036854775807) (kq : -9223372036854775808 ≤ q ∧ q ≤ 9223372036854775807) :
    ∃ v ok er, InSame k n base p q v ok er ∧ (-9223372036854775808 ≤ v ∧ v ≤ 9223372036854775807) ∧ (k = 3 ∨ k = 4 → er = 0 → ok = true) ∧ (k ≠ 3 → k ≠ 4 → ok = false ∧ er = 0) := by
  by_cases h3 : k = 3
  · subst h3
    have G : ∀ w, Calls Try.prog 77 #[.int .i64 p, .int .i64 q] w fun e w' => e = .returned (.bool (goodB p q)) ∧ Below w.heap.size w w' := fun w => good2_any p q kp.1 kp.2 kq.1 kq.2 w
    cases hg : goodB p q
    · refine ⟨0, false, 1, ⟨fun w => ?_, fun w => ?_, fun _ => ⟨rfl, rfl⟩⟩, by omega, fun _ h => (by cases h), fun h => absurd rfl h⟩
      · refine (vin_fixed n base p q 0 1 (scale_bad n p q kp.1 kp.2 kq.1 kq.2 hg) w).mono ?_
        rintro e w' ⟨h, hb⟩
        exact ⟨h.ins, hb⟩
      · exact r9in_fixed n base p q 0 1 false (fun w => by have := G w; rwa [hg] at this) (fun h => by cases h) (fun _ => ⟨rfl, rfl⟩) w
    · obtain ⟨v, er, s1, s2, s3, s4⟩ := scale_same2 n p q kn.1 kn.2 kp.1 kp.2 (goodB_pos hg) kq.2 hg
      refine ⟨v, er == 0, er, ⟨fun w => ?_, fun w => ?_, fun z => ⟨s3 z, by simpa using z⟩⟩, s4, fun _ h => (by rw [h]; rfl), fun a b => by first | exact absurd rfl a | exact absurd rfl b⟩
      · refine (vin_fixed n base p q v er s1 w).mono ?_
        rintro e w' ⟨h, hb⟩
        exact ⟨h.ins, hb⟩
      · exact r9in_fixed n base p q v er true (fun w => by have := G w; rwa [hg] at this) (fun _ => s2) (fun h => by cases h) w
  · by_cases h4 : k = 4
    · subst h4
      obtain ⟨v, er, ⟨s1, s2, s3⟩, s4⟩ := same3_ex2 base n 6400 kb.1 kb.2 kn.1 kn.2 (by decide) (by decide)
      refine ⟨v, er == 0, er, ⟨fun w => ?_, fun w => ?_, fun z => ⟨s3 z, by simpa using z⟩⟩, s4, fun _ h => (by rw [h]; rfl), fun a b => by first | exact absurd rfl a | exact absurd rfl b⟩
      · refine (vin_pct n base p q v er s1 w).mono ?_
        rintro e w' ⟨h, hb⟩
        exact ⟨h.ins, hb⟩
      · exact r9in_pct n base p q v er s2 w
    · refine ⟨0, false, 0, ⟨fun w => ?_, fun w => ?_, fun _ => ⟨rfl, rfl⟩⟩, by omega, fun h _ => (by rcases h with h | h; exact absurd h h3; exact absurd h h4), fun _ _ => ⟨rfl, rfl⟩⟩
      · refine (vin_none k n base p q (by simpa using h3) (by simpa using h4) w).mono ?_
        rintro e w' ⟨h, hb⟩
        exact ⟨.inl ⟨rfl, h⟩, hb⟩
      · exact r9in_none k n base p q (by simpa using h3) (by simpa using h4) w
structure OfSame (k n base p q ed : Int) (kn wh : Bool) (v : Int) (ok : Bool) (er : Int) : Prop where
  prog : ∀ w, Calls Try.prog 33 #[.agg #[.int .i64 k, .int .i64 n], .agg #[.int .i64 base, .bool kn, .int .i64 p, .int .i64 q, .int .i64 (if wh then 2 else 1), .int .i64 ed]] w fun e w' => InS v ok er e ∧ Below w.heap.size w w'
  ref : ∀ w, Calls Try.prog 34 #[.agg #[.int .i64 k, .int .i64 n], .agg #[.int .i64 base, .bool kn, .int .i64 p, .int .i64 q, .bool wh, .int .i64 ed]] w fun e w' => e = .returned (.tuple #[.int .i64 v, .bool ok, .int .i64 er]) ∧ Below w.heap.size w w'
  zero : er ≠ 0 → v = 0 ∧ ok = false
  rng : -9223372036854775808 ≤ v ∧ v ≤ 9223372036854775807
theorem ofsame_ex (k n base p q ed : Int) (kn wh : Bool) (hn : -9223372036854775808 ≤ n ∧ n ≤ 9223372036854775807) (kb : -9223372036854775808 ≤ base ∧ base ≤ 9223372036854775807) (kp : -9223372036854775808 ≤ p ∧ p ≤ 9223372036854775807) (kq : -9223372036854775808 ≤ q ∧ q ≤ 9223372036854775807) (ke : -9223372036854775808 ≤ ed ∧ ed ≤ 9223372036854775807) :
    ∃ v ok er, OfSame k n base p q ed kn wh v ok er := by
  obtain ⟨v, ok, er, I, hv, h34, hoth⟩ := insame_ex2 k n base p q hn kb kp kq
  obtain ⟨V, OK, ER, Z⟩ := zr_ex v er ok (if wh then 2 else 1) ed
  have hsz : wh = (((if wh = true then 2 else 1) : Int) == 2) := by cases wh <;> rfl
  have hV : -9223372036854775808 ≤ V ∧ V ≤ 9223372036854775807 := by
    cases Z with
    | less v2 _ _ _ ht =>
      rcases ht with ⟨h, rfl, _⟩ | ⟨_, _, h⟩
      · have := lenB_true h; omega
      · cases h
    | _ => omega
  by_cases hu : k = 4 ∧ kn = false
  · obtain ⟨rfl, rfl⟩ := hu
    exact ⟨0, false, 0, fun w => (zof_unknown n base p q _ ed w).mono (fun e w' h => ⟨.inl ⟨rfl, h.1⟩, h.2⟩), fun w => r14_no 4 n base p q ed false wh (.inr ⟨rfl, rfl⟩) w, fun _ => ⟨rfl, rfl⟩, by omega⟩
  · have ha : Asked k kn := by
      by_cases h4 : k = 4
      · exact .inr (by cases kn; exact absurd ⟨h4, rfl⟩ hu; rfl)
      · exact .inl (by simpa using h4)
    refine ⟨V, OK, ER, fun w => zof_any k n base p q _ ed v er V ER ok kn OK hv ke ha Z I.prog w, ?_, zr_ok Z, hV⟩
    by_cases h3 : k = 3
    · exact fun w => r14_in k n base p q _ ed v er V ER ok kn OK wh hv ke (.inl (by simpa using h3)) (h34 (.inl h3)) hsz Z I.ref w
    · by_cases h4 : k = 4
      · exact fun w => r14_in k n base p q _ ed v er V ER ok kn OK wh hv ke (.inr ⟨by simpa using h3, by simpa using h4, by cases kn; exact absurd ⟨h4, rfl⟩ hu; rfl⟩) (h34 (.inr h4)) hsz Z I.ref w
      · have hno : ok = false ∧ er = 0 := hoth h3 h4
        obtain ⟨rfl, rfl⟩ := hno
        cases Z with
        | gave h => exact absurd rfl h
        | no _ _ => exact fun w => r14_no k n base p q ed kn wh (.inl ⟨by simpa using h3, by simpa using h4⟩) w
        | plain _ h _ => cases h
        | less _ _ h _ _ => cases h
        | far _ h _ _ => cases h
theorem cell_row6 {w : World} {b : Nat} {l : List Value} {t : TypeId} (h : w.heap[b]? = some (.cells l.toArray t (0, 0))) (k : Nat) {v : Value} (hv : l[k]? = some v := by rfl) : w.cell? ⟨b, k, none⟩ = some v := by
  simp [World.cell?, h]
  exact hv
theorem row_setk {w : World} {b : Nat} {c : Array Value} {t : TypeId} (h : w.heap[b]? = some (.cells c t (0, 0))) (k : Nat) (v : Value) : (w.setCell ⟨b, k, none⟩ v).heap[b]? = some (.cells (c.setIfInBounds k v) t (0, 0)) := by
  simp [World.setCell, Array.getElem?_modify, h]
/-- six cells stored -/
def put6 (w : World) (b : Nat) (x0 x1 x2 x3 x4 x5 : Value) : World := (((((w.setCell ⟨b, 0, none⟩ x0).setCell ⟨b, 1, none⟩ x1).setCell ⟨b, 2, none⟩ x2).setCell ⟨b, 3, none⟩ x3).setCell ⟨b, 4, none⟩ x4).setCell ⟨b, 5, none⟩ x5
theorem st6 (T : TypeId) (hT : ∀ w : World, (sizeOf T).run Try.prog w = .ok 6 w) {w : World} {b : Nat} {t : TypeId} {a0 a1 a2 a3 a4 a5 : Value} (h : w.heap[b]? = some (.cells [a0, a1, a2, a3, a4, a5].toArray t (0, 0))) (x0 x1 x2 x3 x4 x5 : Value) (o0 : x0.oneCell' = true) (o1 : x1.oneCell' = true) (o2 : x2.oneCell' = true) (o3 : x3.oneCell' = true) (o4 : x4.oneCell' = true) (o5 : x5.oneCell' = true) :
    (Instr.storeAt T (.pointer (some ⟨b, 0, none⟩)) (.agg #[x0, x1, x2, x3, x4, x5])).run Try.prog w = .ok () (put6 w b x0 x1 x2 x3 x4 x5) ∧ (put6 w b x0 x1 x2 x3 x4 x5).heap[b]? = some (.cells [x0, x1, x2, x3, x4, x5].toArray t (0, 0)) ∧ (∀ k, k ≠ b → (put6 w b x0 x1 x2 x3 x4 x5).heap[k]? = w.heap[k]?) ∧ (∀ B W, Below B W w → B ≤ b → Below B W (put6 w b x0 x1 x2 x3 x4 x5)) := by
  have c0 := cell_row6 h 0
  have c1 := cell_row6 h 1
  have c2 := cell_row6 h 2
  have c3 := cell_row6 h 3
  have c4 := cell_row6 h 4
  have c5 := cell_row6 h 5
  have f : ∀ k, k < 6 → w.frozen? ⟨b, k, none⟩ = false := fun k _ => by simp [World.frozen?, h]
  have f0 := f 0 (by decide)
  have f1 := f 1 (by decide)
  have f2 := f 2 (by decide)
  have f3 := f 3 (by decide)
  have f4 := f 4 (by decide)
  have f5 := f 5 (by decide)
  refine ⟨by simp [go_sem, hT, (fun w a m => Go.run_store Try.prog w a x0 m o0), (fun w a m => Go.run_store Try.prog w a x1 m o1), (fun w a m => Go.run_store Try.prog w a x2 m o2), (fun w a m => Go.run_store Try.prog w a x3 m o3), (fun w a m => Go.run_store Try.prog w a x4 m o4), (fun w a m => Go.run_store Try.prog w a x5 m o5), c0, c1, c2, c3, c4, c5, f0, f1, f2, f3, f4, f5, put6], ?_, fun k hk => ?_, fun B W hB hb => ?_⟩
  · have r := row_setk (row_setk (row_setk (row_setk (row_setk (row_setk h 0 x0) 1 x1) 2 x2) 3 x3) 4 x4) 5 x5
    exact r
  · unfold put6
    rw [Below.heap_setCell _ _ _ _ hk, Below.heap_setCell _ _ _ _ hk, Below.heap_setCell _ _ _ _ hk, Below.heap_setCell _ _ _ _ hk, Below.heap_setCell _ _ _ _ hk, Below.heap_setCell _ _ _ _ hk]
  · exact (((((hB.setCell hb _).setCell hb _).setCell hb _).setCell hb _).setCell hb _).setCell hb _
/-- what the region keeps that stores what is told -/
structure St6 (w : World) (cs A B : List Value) (L : Nat → Bool) (vz : Nat → Value) (wy : World) : Prop where
  bel : Below w.heap.size w wy
  src : wy.heap[w.heap.size]? = some (.cells cs.toArray 61 (0, 0))
  old2 : L 26 = false → wy.heap[w.heap.size + 1]? = some (.cells [.int .i64 0, .bool false, .int .i64 0, .int .i64 0, .int .i64 0, .int .i64 0].toArray 65 (0, 0))
  new2 : L 26 = true → wy.heap[w.heap.size + 1]? = some (.cells A.toArray 65 (0, 0))
  old3 : L 27 = false → wy.heap[w.heap.size + 2]? = some (.cells [.int .i64 0, .bool false, .int .i64 0, .int .i64 0, .bool false, .int .i64 0].toArray 67 (0, 0))
  new3 : L 27 = true → wy.heap[w.heap.size + 2]? = some (.cells B.toArray 67 (0, 0))
theorem St6.pure {w : World} {cs A B : List Value} {L : Nat → Bool} {vz : Nat → Value} {wy w' : World} (h : St6 w cs A B L vz wy) (i : Nat) (v : Value) (h2 : 26 ≠ i) (h3 : 27 ≠ i) (hb : Below wy.heap.size wy w') : St6 w cs A B (addL L i) (upd vz i v) w' := by
  have a2 : addL L i 26 = L 26 := by simp [addL, h2]
  have a3 : addL L i 27 = L 27 := by simp [addL, h3]
  have on : ∀ {g : Nat} {o : Obj}, wy.heap[g]? = some o → w'.heap[g]? = some o := fun {g o} e => (hb.block g (Array.getElem?_eq_some_iff.1 e).1).trans e
  exact ⟨bel_tr0 h.bel hb, on h.src, fun q => on (h.old2 (a2 ▸ q)), fun q => on (h.new2 (a2 ▸ q)), fun q => on (h.old3 (a3 ▸ q)), fun q => on (h.new3 (a3 ▸ q))⟩
theorem St6.put2 {w : World} {cs A B : List Value} {L : Nat → Bool} {vz : Nat → Value} {wy w' : World} (h : St6 w cs A B L vz wy) {v : Value} (z : L 26 = false) (hn : w'.heap[w.heap.size + 1]? = some (.cells A.toArray 65 (0, 0))) (ho : ∀ k, k ≠ w.heap.size + 1 → w'.heap[k]? = wy.heap[k]?) (hb : ∀ B W, Below B W wy → B ≤ w.heap.size + 1 → Below B W w') : St6 w cs A B (addL L 26) (upd vz 26 v) w' := by
  have a3 : addL L 26 27 = L 27 := by simp [addL]
  exact ⟨hb _ _ h.bel (by omega), (ho _ (by omega)).trans h.src, fun q => by simp [addL] at q, fun _ => hn, fun q => (ho _ (by omega)).trans (h.old3 (a3 ▸ q)), fun q => (ho _ (by omega)).trans (h.new3 (a3 ▸ q))⟩
theorem St6.put3 {w : World} {cs A B : List Value} {L : Nat → Bool} {vz : Nat → Value} {wy w' : World} (h : St6 w cs A B L vz wy) {v : Value} (z : L 27 = false) (hn : w'.heap[w.heap.size + 2]? = some (.cells B.toArray 67 (0, 0))) (ho : ∀ k, k ≠ w.heap.size + 2 → w'.heap[k]? = wy.heap[k]?) (hb : ∀ B W, Below B W wy → B ≤ w.heap.size + 2 → Below B W w') : St6 w cs A B (addL L 27) (upd vz 27 v) w' := by
  have a3 : addL L 27 26 = L 26 := by simp [addL]
  exact ⟨hb _ _ h.bel (by omega), (ho _ (by omega)).trans h.src, fun q => (ho _ (by omega)).trans (h.old2 (a3 ▸ q)), fun q => (ho _ (by omega)).trans (h.new2 (a3 ▸ q)), fun q => by simp [addL] at q, fun _ => hn⟩
set_option maxHeartbeats 8000000 in
theorem told14_any (base p q ed : Int) (kn wh : Bool) (w : World) :
    Calls Try.prog 31 #[.agg #[.int .i64 base, .int .i64 p, .int .i64 q, .int .i64 ed, .bool kn, .bool wh]] w fun e w' => e = .returned (.tuple #[.agg #[.int .i64 base, .bool kn, .int .i64 p, .int .i64 q, .int .i64 (if wh then 2 else 1), .int .i64 ed], .agg #[.int .i64 base, .bool kn, .int .i64 p, .int .i64 q, .bool wh, .int .i64 ed]]) ∧ Below w.heap.size w w' := by
  obtain ⟨kk, hkk⟩ : ∃ kk : Int, (if wh = true then 2 else 1) = kk := ⟨_, rfl⟩
  rw [hkk]
  cases wh
  case' true => obtain rfl : kk = 2 := hkk.symm
  case' false => obtain rfl : kk = 1 := hkk.symm
  · go_enter Try.func31, Try.ntmps31
    go_wp2_with fail
    have M0 : Hid (St6 w [.int .i64 base, .int .i64 p, .int .i64 q, .int .i64 ed, .bool kn, .bool false] [.int .i64 base, .bool kn, .int .i64 p, .int .i64 q, .int .i64 1, .int .i64 ed] [.int .i64 base, .bool kn, .int .i64 p, .int .i64 q, .bool false, .int .i64 ed] (fun _ => false) (fun _ => undef) (((w.alloc (.cells #[.int .i64 base, .int .i64 p, .int .i64 q, .int .i64 ed, .bool kn, .bool false] 61)).alloc (.cells #[.int .i64 0, .bool false, .int .i64 0, .int .i64 0, .int .i64 0, .int .i64 0] 65)).alloc (.cells #[.int .i64 0, .bool false, .int .i64 0, .int .i64 0, .bool false, .int .i64 0] 67)).drew) := Lib.hid (by
      have on : ∀ {v : World} {g : Nat} {o : Obj} (x : Obj), v.heap[g]? = some o → (v.alloc x).heap[g]? = some o := fun {v g o} x e => ((bel_newR v x).block g (Array.getElem?_eq_some_iff.1 e).1).trans e
      have n2 := heap_alloc_new (w.alloc (.cells #[.int .i64 base, .int .i64 p, .int .i64 q, .int .i64 ed, .bool kn, .bool false] 61)) (.cells #[.int .i64 0, .bool false, .int .i64 0, .int .i64 0, .int .i64 0, .int .i64 0] 65)
      have n3 := heap_alloc_new ((w.alloc (.cells #[.int .i64 base, .int .i64 p, .int .i64 q, .int .i64 ed, .bool kn, .bool false] 61)).alloc (.cells #[.int .i64 0, .bool false, .int .i64 0, .int .i64 0, .int .i64 0, .int .i64 0] 65)) (.cells #[.int .i64 0, .bool false, .int .i64 0, .int .i64 0, .bool false, .int .i64 0] 67)
      simp only [World.size_alloc] at n2 n3
      exact ⟨(((bel_newR _ _).trans ((bel_newR _ _).mono (by simp))).trans ((bel_newR _ _).mono (by simp; omega))).drew, on _ (on _ (heap_alloc_new _ _)), fun _ => on _ n2, fun h => (by cases h), fun _ => n3, fun h => (by cases h)⟩)
    refine wp_region_vals [some (.pointer (some ⟨w.heap.size, 0, none⟩)), some (.int .i64 base), some (.pointer (some ⟨w.heap.size, 4, none⟩)), some (.bool kn), some (.pointer (some ⟨w.heap.size, 1, none⟩)), some (.int .i64 p), some (.pointer (some ⟨w.heap.size, 2, none⟩)), some (.int .i64 q), some (.agg #[.int .i64 p, .int .i64 q]), some (.int .i64 1), some (.pointer (some ⟨w.heap.size, 3, none⟩)), some (.int .i64 ed), some (.agg #[.int .i64 base, .bool kn, .int .i64 p, .int .i64 q, .int .i64 1, .int .i64 ed]), some (.pointer (some ⟨w.heap.size, 0, none⟩)), some (.int .i64 base), some (.pointer (some ⟨w.heap.size, 4, none⟩)), some (.bool kn), some (.pointer (some ⟨w.heap.size, 1, none⟩)), some (.int .i64 p), some (.pointer (some ⟨w.heap.size, 2, none⟩)), some (.int .i64 q), some (.pointer (some ⟨w.heap.size, 5, none⟩)), some (.bool false), some (.pointer (some ⟨w.heap.size, 3, none⟩)), some (.int .i64 ed), some (.agg #[.int .i64 base, .bool kn, .int .i64 p, .int .i64 q, .bool false, .int .i64 ed]), some (undef), some (undef)] (St6 w [.int .i64 base, .int .i64 p, .int .i64 q, .int .i64 ed, .bool kn, .bool false] [.int .i64 base, .bool kn, .int .i64 p, .int .i64 q, .int .i64 1, .int .i64 ed] [.int .i64 base, .bool kn, .int .i64 p, .int .i64 q, .bool false, .int .i64 ed])
      [some 7, some 8, some 9, some 10, some 11, some 12, some 13, some 14, some 15, some 16, some 17, some 18, some 19, some 20, some 21, some 22, some 23, some 24, some 25, some 26, some 27, some 28, some 29, some 30, some 31, some 32, none, none] (by kernel_rfl) (by kernel_rfl) (by kernel_rfl) (by kernel_rfl) (by kernel_rfl) (by kernel_rfl) M0.out (fun i o ho => ?_) (fun Lz vz wz hL hB => ?_)
    · match i, ho with
      | 0, ho =>
        obtain rfl := Option.some.inj ho
        intro Az Lz vz wy Kz Ez hB k
        have e1 : Az.eval (.tmp 1) = .pointer (some ⟨w.heap.size, 0, none⟩) := Ez.out 1 (by kernel_rfl)
        exact wpo_val (v := .pointer (some ⟨w.heap.size, 0, none⟩)) (run_field e1 (by simp [go_sem])) (k _ _ rfl (hB.pure 0 _ (by decide) (by decide) (Below.refl _ _)))
      | 1, ho =>
        obtain rfl := Option.some.inj ho
        intro Az Lz vz wy Kz Ez hB k
        have e7 : Az.eval (.tmp 7) = .pointer (some ⟨w.heap.size, 0, none⟩) := Ez.dep 0 7 (by kernel_rfl) rfl
        have q0 := cell_row6 hB.src 0
        exact wpo_val (v := .int .i64 base) (run_load e7 (by simp [go_sem, q0])) (k _ _ rfl (hB.pure 1 _ (by decide) (by decide) (Below.refl _ _)))
      | 2, ho =>
        obtain rfl := Option.some.inj ho
        intro Az Lz vz wy Kz Ez hB k
        have e1 : Az.eval (.tmp 1) = .pointer (some ⟨w.heap.size, 0, none⟩) := Ez.out 1 (by kernel_rfl)
        exact wpo_val (v := .pointer (some ⟨w.heap.size, 4, none⟩)) (run_field e1 (by simp [go_sem])) (k _ _ rfl (hB.pure 2 _ (by decide) (by decide) (Below.refl _ _)))
      | 3, ho =>
        obtain rfl := Option.some.inj ho
        intro Az Lz vz wy Kz Ez hB k
        have e9 : Az.eval (.tmp 9) = .pointer (some ⟨w.heap.size, 4, none⟩) := Ez.dep 2 9 (by kernel_rfl) rfl
        have q0 := cell_row6 hB.src 4
        exact wpo_val (v := .bool kn) (run_load e9 (by simp [go_sem, q0])) (k _ _ rfl (hB.pure 3 _ (by decide) (by decide) (Below.refl _ _)))
      | 4, ho =>
        obtain rfl := Option.some.inj ho
        intro Az Lz vz wy Kz Ez hB k
        have e1 : Az.eval (.tmp 1) = .pointer (some ⟨w.heap.size, 0, none⟩) := Ez.out 1 (by kernel_rfl)
        exact wpo_val (v := .pointer (some ⟨w.heap.size, 1, none⟩)) (run_field e1 (by simp [go_sem])) (k _ _ rfl (hB.pure 4 _ (by decide) (by decide) (Below.refl _ _)))
      | 5, ho =>
        obtain rfl := Option.some.inj ho
        intro Az Lz vz wy Kz Ez hB k
        have e11 : Az.eval (.tmp 11) = .pointer (some ⟨w.heap.size, 1, none⟩) := Ez.dep 4 11 (by kernel_rfl) rfl
        have q0 := cell_row6 hB.src 1
        exact wpo_val (v := .int .i64 p) (run_load e11 (by simp [go_sem, q0])) (k _ _ rfl (hB.pure 5 _ (by decide) (by decide) (Below.refl _ _)))
      | 6, ho =>
        obtain rfl := Option.some.inj ho
        intro Az Lz vz wy Kz Ez hB k
        have e1 : Az.eval (.tmp 1) = .pointer (some ⟨w.heap.size, 0, none⟩) := Ez.out 1 (by kernel_rfl)
        exact wpo_val (v := .pointer (some ⟨w.heap.size, 2, none⟩)) (run_field e1 (by simp [go_sem])) (k _ _ rfl (hB.pure 6 _ (by decide) (by decide) (Below.refl _ _)))
      | 7, ho =>
        obtain rfl := Option.some.inj ho
        intro Az Lz vz wy Kz Ez hB k
        have e13 : Az.eval (.tmp 13) = .pointer (some ⟨w.heap.size, 2, none⟩) := Ez.dep 6 13 (by kernel_rfl) rfl
        have q0 := cell_row6 hB.src 2
        exact wpo_val (v := .int .i64 q) (run_load e13 (by simp [go_sem, q0])) (k _ _ rfl (hB.pure 7 _ (by decide) (by decide) (Below.refl _ _)))
      | 8, ho =>
        obtain rfl := Option.some.inj ho
        intro Az Lz vz wy Kz Ez hB k
        have e12 : Az.eval (.tmp 12) = .int .i64 p := Ez.dep 5 12 (by kernel_rfl) rfl
        have e14 : Az.eval (.tmp 14) = .int .i64 q := Ez.dep 7 14 (by kernel_rfl) rfl
        exact wpo_val (v := .agg #[.int .i64 p, .int .i64 q]) (run_build (l' := #[(0, .int .i64 p), (1, .int .i64 q)]) (by simp only [List.map_toArray, List.map_cons, List.map_nil, e12, e14]) (by kernel_rfl)) (k _ _ rfl (hB.pure 8 _ (by decide) (by decide) (Below.refl _ _)))
      | 9, ho =>
        obtain rfl := Option.some.inj ho
        intro Az Lz vz wy Kz Ez hB k
        have e4 : Az.eval (.tmp 4) = .int .i64 1 := Ez.out 4 (by kernel_rfl)
        exact wpo_val (v := .int .i64 1) (run_move e4) (k _ _ rfl (hB.pure 9 _ (by decide) (by decide) (Below.refl _ _)))
      | 10, ho =>
        obtain rfl := Option.some.inj ho
        intro Az Lz vz wy Kz Ez hB k
        have e1 : Az.eval (.tmp 1) = .pointer (some ⟨w.heap.size, 0, none⟩) := Ez.out 1 (by kernel_rfl)
        exact wpo_val (v := .pointer (some ⟨w.heap.size, 3, none⟩)) (run_field e1 (by simp [go_sem])) (k _ _ rfl (hB.pure 10 _ (by decide) (by decide) (Below.refl _ _)))
      | 11, ho =>
        obtain rfl := Option.some.inj ho
        intro Az Lz vz wy Kz Ez hB k
        have e17 : Az.eval (.tmp 17) = .pointer (some ⟨w.heap.size, 3, none⟩) := Ez.dep 10 17 (by kernel_rfl) rfl
        have q0 := cell_row6 hB.src 3
        exact wpo_val (v := .int .i64 ed) (run_load e17 (by simp [go_sem, q0])) (k _ _ rfl (hB.pure 11 _ (by decide) (by decide) (Below.refl _ _)))
      | 12, ho =>
        obtain rfl := Option.some.inj ho
        intro Az Lz vz wy Kz Ez hB k
        have e8 : Az.eval (.tmp 8) = .int .i64 base := Ez.dep 1 8 (by kernel_rfl) rfl
        have e10 : Az.eval (.tmp 10) = .bool kn := Ez.dep 3 10 (by kernel_rfl) rfl
        have e15 : Az.eval (.tmp 15) = .agg #[.int .i64 p, .int .i64 q] := Ez.dep 8 15 (by kernel_rfl) rfl
        have e16 : Az.eval (.tmp 16) = .int .i64 1 := Ez.dep 9 16 (by kernel_rfl) rfl
        have e18 : Az.eval (.tmp 18) = .int .i64 ed := Ez.dep 11 18 (by kernel_rfl) rfl
        exact wpo_val (v := .agg #[.int .i64 base, .bool kn, .int .i64 p, .int .i64 q, .int .i64 1, .int .i64 ed]) (run_build (l' := #[(0, .int .i64 base), (1, .bool kn), (2, .agg #[.int .i64 p, .int .i64 q]), (3, .int .i64 1), (4, .int .i64 ed)]) (by simp only [List.map_toArray, List.map_cons, List.map_nil, e8, e10, e15, e16, e18]) (by kernel_rfl)) (k _ _ rfl (hB.pure 12 _ (by decide) (by decide) (Below.refl _ _)))
      | 13, ho =>
        obtain rfl := Option.some.inj ho
        intro Az Lz vz wy Kz Ez hB k
        have e1 : Az.eval (.tmp 1) = .pointer (some ⟨w.heap.size, 0, none⟩) := Ez.out 1 (by kernel_rfl)
        exact wpo_val (v := .pointer (some ⟨w.heap.size, 0, none⟩)) (run_field e1 (by simp [go_sem])) (k _ _ rfl (hB.pure 13 _ (by decide) (by decide) (Below.refl _ _)))
      | 14, ho =>
        obtain rfl := Option.some.inj ho
        intro Az Lz vz wy Kz Ez hB k
        have e20 : Az.eval (.tmp 20) = .pointer (some ⟨w.heap.size, 0, none⟩) := Ez.dep 13 20 (by kernel_rfl) rfl
        have q0 := cell_row6 hB.src 0
        exact wpo_val (v := .int .i64 base) (run_load e20 (by simp [go_sem, q0])) (k _ _ rfl (hB.pure 14 _ (by decide) (by decide) (Below.refl _ _)))
      | 15, ho =>
        obtain rfl := Option.some.inj ho
        intro Az Lz vz wy Kz Ez hB k
        have e1 : Az.eval (.tmp 1) = .pointer (some ⟨w.heap.size, 0, none⟩) := Ez.out 1 (by kernel_rfl)
        exact wpo_val (v := .pointer (some ⟨w.heap.size, 4, none⟩)) (run_field e1 (by simp [go_sem])) (k _ _ rfl (hB.pure 15 _ (by decide) (by decide) (Below.refl _ _)))
      | 16, ho =>
        obtain rfl := Option.some.inj ho
        intro Az Lz vz wy Kz Ez hB k
        have e22 : Az.eval (.tmp 22) = .pointer (some ⟨w.heap.size, 4, none⟩) := Ez.dep 15 22 (by kernel_rfl) rfl
        have q0 := cell_row6 hB.src 4
        exact wpo_val (v := .bool kn) (run_load e22 (by simp [go_sem, q0])) (k _ _ rfl (hB.pure 16 _ (by decide) (by decide) (Below.refl _ _)))
      | 17, ho =>
        obtain rfl := Option.some.inj ho
        intro Az Lz vz wy Kz Ez hB k
        have e1 : Az.eval (.tmp 1) = .pointer (some ⟨w.heap.size, 0, none⟩) := Ez.out 1 (by kernel_rfl)
        exact wpo_val (v := .pointer (some ⟨w.heap.size, 1, none⟩)) (run_field e1 (by simp [go_sem])) (k _ _ rfl (hB.pure 17 _ (by decide) (by decide) (Below.refl _ _)))
      | 18, ho =>
        obtain rfl := Option.some.inj ho
        intro Az Lz vz wy Kz Ez hB k
        have e24 : Az.eval (.tmp 24) = .pointer (some ⟨w.heap.size, 1, none⟩) := Ez.dep 17 24 (by kernel_rfl) rfl
        have q0 := cell_row6 hB.src 1
        exact wpo_val (v := .int .i64 p) (run_load e24 (by simp [go_sem, q0])) (k _ _ rfl (hB.pure 18 _ (by decide) (by decide) (Below.refl _ _)))
      | 19, ho =>
        obtain rfl := Option.some.inj ho
        intro Az Lz vz wy Kz Ez hB k
        have e1 : Az.eval (.tmp 1) = .pointer (some ⟨w.heap.size, 0, none⟩) := Ez.out 1 (by kernel_rfl)
        exact wpo_val (v := .pointer (some ⟨w.heap.size, 2, none⟩)) (run_field e1 (by simp [go_sem])) (k _ _ rfl (hB.pure 19 _ (by decide) (by decide) (Below.refl _ _)))
      | 20, ho =>
        obtain rfl := Option.some.inj ho
        intro Az Lz vz wy Kz Ez hB k
        have e26 : Az.eval (.tmp 26) = .pointer (some ⟨w.heap.size, 2, none⟩) := Ez.dep 19 26 (by kernel_rfl) rfl
        have q0 := cell_row6 hB.src 2
        exact wpo_val (v := .int .i64 q) (run_load e26 (by simp [go_sem, q0])) (k _ _ rfl (hB.pure 20 _ (by decide) (by decide) (Below.refl _ _)))
      | 21, ho =>
        obtain rfl := Option.some.inj ho
        intro Az Lz vz wy Kz Ez hB k
        have e1 : Az.eval (.tmp 1) = .pointer (some ⟨w.heap.size, 0, none⟩) := Ez.out 1 (by kernel_rfl)
        exact wpo_val (v := .pointer (some ⟨w.heap.size, 5, none⟩)) (run_field e1 (by simp [go_sem])) (k _ _ rfl (hB.pure 21 _ (by decide) (by decide) (Below.refl _ _)))
      | 22, ho =>
        obtain rfl := Option.some.inj ho
        intro Az Lz vz wy Kz Ez hB k
        have e28 : Az.eval (.tmp 28) = .pointer (some ⟨w.heap.size, 5, none⟩) := Ez.dep 21 28 (by kernel_rfl) rfl
        have q0 := cell_row6 hB.src 5
        exact wpo_val (v := .bool false) (run_load e28 (by simp [go_sem, q0])) (k _ _ rfl (hB.pure 22 _ (by decide) (by decide) (Below.refl _ _)))
      | 23, ho =>
        obtain rfl := Option.some.inj ho
        intro Az Lz vz wy Kz Ez hB k
        have e1 : Az.eval (.tmp 1) = .pointer (some ⟨w.heap.size, 0, none⟩) := Ez.out 1 (by kernel_rfl)
        exact wpo_val (v := .pointer (some ⟨w.heap.size, 3, none⟩)) (run_field e1 (by simp [go_sem])) (k _ _ rfl (hB.pure 23 _ (by decide) (by decide) (Below.refl _ _)))
      | 24, ho =>
        obtain rfl := Option.some.inj ho
        intro Az Lz vz wy Kz Ez hB k
        have e30 : Az.eval (.tmp 30) = .pointer (some ⟨w.heap.size, 3, none⟩) := Ez.dep 23 30 (by kernel_rfl) rfl
        have q0 := cell_row6 hB.src 3
        exact wpo_val (v := .int .i64 ed) (run_load e30 (by simp [go_sem, q0])) (k _ _ rfl (hB.pure 24 _ (by decide) (by decide) (Below.refl _ _)))
      | 25, ho =>
        obtain rfl := Option.some.inj ho
        intro Az Lz vz wy Kz Ez hB k
        have e21 : Az.eval (.tmp 21) = .int .i64 base := Ez.dep 14 21 (by kernel_rfl) rfl
        have e23 : Az.eval (.tmp 23) = .bool kn := Ez.dep 16 23 (by kernel_rfl) rfl
        have e25 : Az.eval (.tmp 25) = .int .i64 p := Ez.dep 18 25 (by kernel_rfl) rfl
        have e27 : Az.eval (.tmp 27) = .int .i64 q := Ez.dep 20 27 (by kernel_rfl) rfl
        have e29 : Az.eval (.tmp 29) = .bool false := Ez.dep 22 29 (by kernel_rfl) rfl
        have e31 : Az.eval (.tmp 31) = .int .i64 ed := Ez.dep 24 31 (by kernel_rfl) rfl
        exact wpo_val (v := .agg #[.int .i64 base, .bool kn, .int .i64 p, .int .i64 q, .bool false, .int .i64 ed]) (run_build (l' := #[(0, .int .i64 base), (1, .bool kn), (2, .int .i64 p), (3, .int .i64 q), (4, .bool false), (5, .int .i64 ed)]) (by simp only [List.map_toArray, List.map_cons, List.map_nil, e21, e23, e25, e27, e29, e31]) (by kernel_rfl)) (k _ _ rfl (hB.pure 25 _ (by decide) (by decide) (Below.refl _ _)))
      | 26, ho =>
        obtain rfl := Option.some.inj ho
        intro Az Lz vz wy Kz Ez hB k
        have e2 : Az.eval (.tmp 2) = .pointer (some ⟨w.heap.size + 1, 0, none⟩) := Ez.out 2 (by kernel_rfl)
        have e19 : Az.eval (.tmp 19) = .agg #[.int .i64 base, .bool kn, .int .i64 p, .int .i64 q, .int .i64 1, .int .i64 ed] := Ez.dep 12 19 (by kernel_rfl) rfl
        have z : Lz 26 = false := Ez.not
        obtain ⟨r, hn, ho, hbl⟩ := st6 65 (fun _ => by kernel_rfl) (hB.old2 z) (.int .i64 base) (.bool kn) (.int .i64 p) (.int .i64 q) (.int .i64 1) (.int .i64 ed) rfl rfl rfl rfl rfl rfl
        exact wpo_skip (run_store e2 e19 r) (k _ _ rfl (hB.put2 z hn ho hbl))
      | 27, ho =>
        obtain rfl := Option.some.inj ho
        intro Az Lz vz wy Kz Ez hB k
        have e3 : Az.eval (.tmp 3) = .pointer (some ⟨w.heap.size + 2, 0, none⟩) := Ez.out 3 (by kernel_rfl)
        have e32 : Az.eval (.tmp 32) = .agg #[.int .i64 base, .bool kn, .int .i64 p, .int .i64 q, .bool false, .int .i64 ed] := Ez.dep 25 32 (by kernel_rfl) rfl
        have z : Lz 27 = false := Ez.not
        obtain ⟨r, hn, ho, hbl⟩ := st6 67 (fun _ => by kernel_rfl) (hB.old3 z) (.int .i64 base) (.bool kn) (.int .i64 p) (.int .i64 q) (.bool false) (.int .i64 ed) rfl rfl rfl rfl rfl rfl
        exact wpo_skip (run_store e3 e32 r) (k _ _ rfl (hB.put3 z hn ho hbl))
      | n + 28, ho => simp at ho
    have h2 := hB.new2 (hL 26 (by decide))
    have h3 := hB.new3 (hL 27 (by decide))
    have KB := Lib.hid hB.bel
    obtain ⟨b, hb⟩ : ∃ b, w.heap.size = b := ⟨_, rfl⟩
    simp only [puts2, mix, Act.put, List.setIfInBounds_toArray, List.set_cons_zero, List.set_cons_succ, Nat.zero_add, Nat.reduceAdd, List.getElem?_cons_zero, List.getElem?_cons_succ]
    clear M0 hL hB
    have a0 := cell_row6 h2 0
    have a1 := cell_row6 h2 1
    have a2 := cell_row6 h2 2
    have a3 := cell_row6 h2 3
    have a4 := cell_row6 h2 4
    have a5 := cell_row6 h2 5
    have b0 := cell_row6 h3 0
    have b1 := cell_row6 h3 1
    have b2 := cell_row6 h3 2
    have b3 := cell_row6 h3 3
    have b4 := cell_row6 h3 4
    have b5 := cell_row6 h3 5
    clear h2 h3 hb
    go_wp2_with fail
    exact bodyPost_ret (v := .tuple #[.agg #[.int .i64 base, .bool kn, .int .i64 p, .int .i64 q, .int .i64 1, .int .i64 ed], .agg #[.int .i64 base, .bool kn, .int .i64 p, .int .i64 q, .bool false, .int .i64 ed]]) (by simp [results, Try.results31, go_sem, a0, a1, a2, a3, a4, a5, b0, b1, b2, b3, b4, b5]) rfl ⟨rfl, KB.out⟩
  · go_enter Try.func31, Try.ntmps31
    go_wp2_with fail
    have M0 : Hid (St6 w [.int .i64 base, .int .i64 p, .int .i64 q, .int .i64 ed, .bool kn, .bool true] [.int .i64 base, .bool kn, .int .i64 p, .int .i64 q, .int .i64 2, .int .i64 ed] [.int .i64 base, .bool kn, .int .i64 p, .int .i64 q, .bool true, .int .i64 ed] (fun _ => false) (fun _ => undef) (((w.alloc (.cells #[.int .i64 base, .int .i64 p, .int .i64 q, .int .i64 ed, .bool kn, .bool true] 61)).alloc (.cells #[.int .i64 0, .bool false, .int .i64 0, .int .i64 0, .int .i64 0, .int .i64 0] 65)).alloc (.cells #[.int .i64 0, .bool false, .int .i64 0, .int .i64 0, .bool false, .int .i64 0] 67)).drew) := Lib.hid (by
      have on : ∀ {v : World} {g : Nat} {o : Obj} (x : Obj), v.heap[g]? = some o → (v.alloc x).heap[g]? = some o := fun {v g o} x e => ((bel_newR v x).block g (Array.getElem?_eq_some_iff.1 e).1).trans e
      have n2 := heap_alloc_new (w.alloc (.cells #[.int .i64 base, .int .i64 p, .int .i64 q, .int .i64 ed, .bool kn, .bool true] 61)) (.cells #[.int .i64 0, .bool false, .int .i64 0, .int .i64 0, .int .i64 0, .int .i64 0] 65)
      have n3 := heap_alloc_new ((w.alloc (.cells #[.int .i64 base, .int .i64 p, .int .i64 q, .int .i64 ed, .bool kn, .bool true] 61)).alloc (.cells #[.int .i64 0, .bool false, .int .i64 0, .int .i64 0, .int .i64 0, .int .i64 0] 65)) (.cells #[.int .i64 0, .bool false, .int .i64 0, .int .i64 0, .bool false, .int .i64 0] 67)
      simp only [World.size_alloc] at n2 n3
      exact ⟨(((bel_newR _ _).trans ((bel_newR _ _).mono (by simp))).trans ((bel_newR _ _).mono (by simp; omega))).drew, on _ (on _ (heap_alloc_new _ _)), fun _ => on _ n2, fun h => (by cases h), fun _ => n3, fun h => (by cases h)⟩)
    refine wp_region_vals [some (.pointer (some ⟨w.heap.size, 0, none⟩)), some (.int .i64 base), some (.pointer (some ⟨w.heap.size, 4, none⟩)), some (.bool kn), some (.pointer (some ⟨w.heap.size, 1, none⟩)), some (.int .i64 p), some (.pointer (some ⟨w.heap.size, 2, none⟩)), some (.int .i64 q), some (.agg #[.int .i64 p, .int .i64 q]), some (.int .i64 2), some (.pointer (some ⟨w.heap.size, 3, none⟩)), some (.int .i64 ed), some (.agg #[.int .i64 base, .bool kn, .int .i64 p, .int .i64 q, .int .i64 2, .int .i64 ed]), some (.pointer (some ⟨w.heap.size, 0, none⟩)), some (.int .i64 base), some (.pointer (some ⟨w.heap.size, 4, none⟩)), some (.bool kn), some (.pointer (some ⟨w.heap.size, 1, none⟩)), some (.int .i64 p), some (.pointer (some ⟨w.heap.size, 2, none⟩)), some (.int .i64 q), some (.pointer (some ⟨w.heap.size, 5, none⟩)), some (.bool true), some (.pointer (some ⟨w.heap.size, 3, none⟩)), some (.int .i64 ed), some (.agg #[.int .i64 base, .bool kn, .int .i64 p, .int .i64 q, .bool true, .int .i64 ed]), some (undef), some (undef)] (St6 w [.int .i64 base, .int .i64 p, .int .i64 q, .int .i64 ed, .bool kn, .bool true] [.int .i64 base, .bool kn, .int .i64 p, .int .i64 q, .int .i64 2, .int .i64 ed] [.int .i64 base, .bool kn, .int .i64 p, .int .i64 q, .bool true, .int .i64 ed])
      [some 7, some 8, some 9, some 10, some 11, some 12, some 13, some 14, some 15, some 16, some 17, some 18, some 19, some 20, some 21, some 22, some 23, some 24, some 25, some 26, some 27, some 28, some 29, some 30, some 31, some 32, none, none] (by kernel_rfl) (by kernel_rfl) (by kernel_rfl) (by kernel_rfl) (by kernel_rfl) (by kernel_rfl) M0.out (fun i o ho => ?_) (fun Lz vz wz hL hB => ?_)
    · match i, ho with
      | 0, ho =>
        obtain rfl := Option.some.inj ho
        intro Az Lz vz wy Kz Ez hB k
        have e1 : Az.eval (.tmp 1) = .pointer (some ⟨w.heap.size, 0, none⟩) := Ez.out 1 (by kernel_rfl)
        exact wpo_val (v := .pointer (some ⟨w.heap.size, 0, none⟩)) (run_field e1 (by simp [go_sem])) (k _ _ rfl (hB.pure 0 _ (by decide) (by decide) (Below.refl _ _)))
      | 1, ho =>
        obtain rfl := Option.some.inj ho
        intro Az Lz vz wy Kz Ez hB k
        have e7 : Az.eval (.tmp 7) = .pointer (some ⟨w.heap.size, 0, none⟩) := Ez.dep 0 7 (by kernel_rfl) rfl
        have q0 := cell_row6 hB.src 0
        exact wpo_val (v := .int .i64 base) (run_load e7 (by simp [go_sem, q0])) (k _ _ rfl (hB.pure 1 _ (by decide) (by decide) (Below.refl _ _)))
      | 2, ho =>
        obtain rfl := Option.some.inj ho
        intro Az Lz vz wy Kz Ez hB k
        have e1 : Az.eval (.tmp 1) = .pointer (some ⟨w.heap.size, 0, none⟩) := Ez.out 1 (by kernel_rfl)
        exact wpo_val (v := .pointer (some ⟨w.heap.size, 4, none⟩)) (run_field e1 (by simp [go_sem])) (k _ _ rfl (hB.pure 2 _ (by decide) (by decide) (Below.refl _ _)))
      | 3, ho =>
        obtain rfl := Option.some.inj ho
        intro Az Lz vz wy Kz Ez hB k
        have e9 : Az.eval (.tmp 9) = .pointer (some ⟨w.heap.size, 4, none⟩) := Ez.dep 2 9 (by kernel_rfl) rfl
        have q0 := cell_row6 hB.src 4
        exact wpo_val (v := .bool kn) (run_load e9 (by simp [go_sem, q0])) (k _ _ rfl (hB.pure 3 _ (by decide) (by decide) (Below.refl _ _)))
      | 4, ho =>
        obtain rfl := Option.some.inj ho
        intro Az Lz vz wy Kz Ez hB k
        have e1 : Az.eval (.tmp 1) = .pointer (some ⟨w.heap.size, 0, none⟩) := Ez.out 1 (by kernel_rfl)
        exact wpo_val (v := .pointer (some ⟨w.heap.size, 1, none⟩)) (run_field e1 (by simp [go_sem])) (k _ _ rfl (hB.pure 4 _ (by decide) (by decide) (Below.refl _ _)))
      | 5, ho =>
        obtain rfl := Option.some.inj ho
        intro Az Lz vz wy Kz Ez hB k
        have e11 : Az.eval (.tmp 11) = .pointer (some ⟨w.heap.size, 1, none⟩) := Ez.dep 4 11 (by kernel_rfl) rfl
        have q0 := cell_row6 hB.src 1
        exact wpo_val (v := .int .i64 p) (run_load e11 (by simp [go_sem, q0])) (k _ _ rfl (hB.pure 5 _ (by decide) (by decide) (Below.refl _ _)))
      | 6, ho =>
        obtain rfl := Option.some.inj ho
        intro Az Lz vz wy Kz Ez hB k
        have e1 : Az.eval (.tmp 1) = .pointer (some ⟨w.heap.size, 0, none⟩) := Ez.out 1 (by kernel_rfl)
        exact wpo_val (v := .pointer (some ⟨w.heap.size, 2, none⟩)) (run_field e1 (by simp [go_sem])) (k _ _ rfl (hB.pure 6 _ (by decide) (by decide) (Below.refl _ _)))
      | 7, ho =>
        obtain rfl := Option.some.inj ho
        intro Az Lz vz wy Kz Ez hB k
        have e13 : Az.eval (.tmp 13) = .pointer (some ⟨w.heap.size, 2, none⟩) := Ez.dep 6 13 (by kernel_rfl) rfl
        have q0 := cell_row6 hB.src 2
        exact wpo_val (v := .int .i64 q) (run_load e13 (by simp [go_sem, q0])) (k _ _ rfl (hB.pure 7 _ (by decide) (by decide) (Below.refl _ _)))
      | 8, ho =>
        obtain rfl := Option.some.inj ho
        intro Az Lz vz wy Kz Ez hB k
        have e12 : Az.eval (.tmp 12) = .int .i64 p := Ez.dep 5 12 (by kernel_rfl) rfl
        have e14 : Az.eval (.tmp 14) = .int .i64 q := Ez.dep 7 14 (by kernel_rfl) rfl
        exact wpo_val (v := .agg #[.int .i64 p, .int .i64 q]) (run_build (l' := #[(0, .int .i64 p), (1, .int .i64 q)]) (by simp only [List.map_toArray, List.map_cons, List.map_nil, e12, e14]) (by kernel_rfl)) (k _ _ rfl (hB.pure 8 _ (by decide) (by decide) (Below.refl _ _)))
      | 9, ho =>
        obtain rfl := Option.some.inj ho
        intro Az Lz vz wy Kz Ez hB k
        have e4 : Az.eval (.tmp 4) = .int .i64 2 := Ez.out 4 (by kernel_rfl)
        exact wpo_val (v := .int .i64 2) (run_move e4) (k _ _ rfl (hB.pure 9 _ (by decide) (by decide) (Below.refl _ _)))
      | 10, ho =>
        obtain rfl := Option.some.inj ho
        intro Az Lz vz wy Kz Ez hB k
        have e1 : Az.eval (.tmp 1) = .pointer (some ⟨w.heap.size, 0, none⟩) := Ez.out 1 (by kernel_rfl)
        exact wpo_val (v := .pointer (some ⟨w.heap.size, 3, none⟩)) (run_field e1 (by simp [go_sem])) (k _ _ rfl (hB.pure 10 _ (by decide) (by decide) (Below.refl _ _)))
      | 11, ho =>
        obtain rfl := Option.some.inj ho
        intro Az Lz vz wy Kz Ez hB k
        have e17 : Az.eval (.tmp 17) = .pointer (some ⟨w.heap.size, 3, none⟩) := Ez.dep 10 17 (by kernel_rfl) rfl
        have q0 := cell_row6 hB.src 3
        exact wpo_val (v := .int .i64 ed) (run_load e17 (by simp [go_sem, q0])) (k _ _ rfl (hB.pure 11 _ (by decide) (by decide) (Below.refl _ _)))
      | 12, ho =>
        obtain rfl := Option.some.inj ho
        intro Az Lz vz wy Kz Ez hB k
        have e8 : Az.eval (.tmp 8) = .int .i64 base := Ez.dep 1 8 (by kernel_rfl) rfl
        have e10 : Az.eval (.tmp 10) = .bool kn := Ez.dep 3 10 (by kernel_rfl) rfl
        have e15 : Az.eval (.tmp 15) = .agg #[.int .i64 p, .int .i64 q] := Ez.dep 8 15 (by kernel_rfl) rfl
        have e16 : Az.eval (.tmp 16) = .int .i64 2 := Ez.dep 9 16 (by kernel_rfl) rfl
        have e18 : Az.eval (.tmp 18) = .int .i64 ed := Ez.dep 11 18 (by kernel_rfl) rfl
        exact wpo_val (v := .agg #[.int .i64 base, .bool kn, .int .i64 p, .int .i64 q, .int .i64 2, .int .i64 ed]) (run_build (l' := #[(0, .int .i64 base), (1, .bool kn), (2, .agg #[.int .i64 p, .int .i64 q]), (3, .int .i64 2), (4, .int .i64 ed)]) (by simp only [List.map_toArray, List.map_cons, List.map_nil, e8, e10, e15, e16, e18]) (by kernel_rfl)) (k _ _ rfl (hB.pure 12 _ (by decide) (by decide) (Below.refl _ _)))
      | 13, ho =>
        obtain rfl := Option.some.inj ho
        intro Az Lz vz wy Kz Ez hB k
        have e1 : Az.eval (.tmp 1) = .pointer (some ⟨w.heap.size, 0, none⟩) := Ez.out 1 (by kernel_rfl)
        exact wpo_val (v := .pointer (some ⟨w.heap.size, 0, none⟩)) (run_field e1 (by simp [go_sem])) (k _ _ rfl (hB.pure 13 _ (by decide) (by decide) (Below.refl _ _)))
      | 14, ho =>
        obtain rfl := Option.some.inj ho
        intro Az Lz vz wy Kz Ez hB k
        have e20 : Az.eval (.tmp 20) = .pointer (some ⟨w.heap.size, 0, none⟩) := Ez.dep 13 20 (by kernel_rfl) rfl
        have q0 := cell_row6 hB.src 0
        exact wpo_val (v := .int .i64 base) (run_load e20 (by simp [go_sem, q0])) (k _ _ rfl (hB.pure 14 _ (by decide) (by decide) (Below.refl _ _)))
      | 15, ho =>
        obtain rfl := Option.some.inj ho
        intro Az Lz vz wy Kz Ez hB k
        have e1 : Az.eval (.tmp 1) = .pointer (some ⟨w.heap.size, 0, none⟩) := Ez.out 1 (by kernel_rfl)
        exact wpo_val (v := .pointer (some ⟨w.heap.size, 4, none⟩)) (run_field e1 (by simp [go_sem])) (k _ _ rfl (hB.pure 15 _ (by decide) (by decide) (Below.refl _ _)))
      | 16, ho =>
        obtain rfl := Option.some.inj ho
        intro Az Lz vz wy Kz Ez hB k
        have e22 : Az.eval (.tmp 22) = .pointer (some ⟨w.heap.size, 4, none⟩) := Ez.dep 15 22 (by kernel_rfl) rfl
        have q0 := cell_row6 hB.src 4
        exact wpo_val (v := .bool kn) (run_load e22 (by simp [go_sem, q0])) (k _ _ rfl (hB.pure 16 _ (by decide) (by decide) (Below.refl _ _)))
      | 17, ho =>
        obtain rfl := Option.some.inj ho
        intro Az Lz vz wy Kz Ez hB k
        have e1 : Az.eval (.tmp 1) = .pointer (some ⟨w.heap.size, 0, none⟩) := Ez.out 1 (by kernel_rfl)
        exact wpo_val (v := .pointer (some ⟨w.heap.size, 1, none⟩)) (run_field e1 (by simp [go_sem])) (k _ _ rfl (hB.pure 17 _ (by decide) (by decide) (Below.refl _ _)))
      | 18, ho =>
        obtain rfl := Option.some.inj ho
        intro Az Lz vz wy Kz Ez hB k
        have e24 : Az.eval (.tmp 24) = .pointer (some ⟨w.heap.size, 1, none⟩) := Ez.dep 17 24 (by kernel_rfl) rfl
        have q0 := cell_row6 hB.src 1
        exact wpo_val (v := .int .i64 p) (run_load e24 (by simp [go_sem, q0])) (k _ _ rfl (hB.pure 18 _ (by decide) (by decide) (Below.refl _ _)))
      | 19, ho =>
        obtain rfl := Option.some.inj ho
        intro Az Lz vz wy Kz Ez hB k
        have e1 : Az.eval (.tmp 1) = .pointer (some ⟨w.heap.size, 0, none⟩) := Ez.out 1 (by kernel_rfl)
        exact wpo_val (v := .pointer (some ⟨w.heap.size, 2, none⟩)) (run_field e1 (by simp [go_sem])) (k _ _ rfl (hB.pure 19 _ (by decide) (by decide) (Below.refl _ _)))
      | 20, ho =>
        obtain rfl := Option.some.inj ho
        intro Az Lz vz wy Kz Ez hB k
        have e26 : Az.eval (.tmp 26) = .pointer (some ⟨w.heap.size, 2, none⟩) := Ez.dep 19 26 (by kernel_rfl) rfl
        have q0 := cell_row6 hB.src 2
        exact wpo_val (v := .int .i64 q) (run_load e26 (by simp [go_sem, q0])) (k _ _ rfl (hB.pure 20 _ (by decide) (by decide) (Below.refl _ _)))
      | 21, ho =>
        obtain rfl := Option.some.inj ho
        intro Az Lz vz wy Kz Ez hB k
        have e1 : Az.eval (.tmp 1) = .pointer (some ⟨w.heap.size, 0, none⟩) := Ez.out 1 (by kernel_rfl)
        exact wpo_val (v := .pointer (some ⟨w.heap.size, 5, none⟩)) (run_field e1 (by simp [go_sem])) (k _ _ rfl (hB.pure 21 _ (by decide) (by decide) (Below.refl _ _)))
      | 22, ho =>
        obtain rfl := Option.some.inj ho
        intro Az Lz vz wy Kz Ez hB k
        have e28 : Az.eval (.tmp 28) = .pointer (some ⟨w.heap.size, 5, none⟩) := Ez.dep 21 28 (by kernel_rfl) rfl
        have q0 := cell_row6 hB.src 5
        exact wpo_val (v := .bool true) (run_load e28 (by simp [go_sem, q0])) (k _ _ rfl (hB.pure 22 _ (by decide) (by decide) (Below.refl _ _)))
      | 23, ho =>
        obtain rfl := Option.some.inj ho
        intro Az Lz vz wy Kz Ez hB k
        have e1 : Az.eval (.tmp 1) = .pointer (some ⟨w.heap.size, 0, none⟩) := Ez.out 1 (by kernel_rfl)
        exact wpo_val (v := .pointer (some ⟨w.heap.size, 3, none⟩)) (run_field e1 (by simp [go_sem])) (k _ _ rfl (hB.pure 23 _ (by decide) (by decide) (Below.refl _ _)))
      | 24, ho =>
        obtain rfl := Option.some.inj ho
        intro Az Lz vz wy Kz Ez hB k
        have e30 : Az.eval (.tmp 30) = .pointer (some ⟨w.heap.size, 3, none⟩) := Ez.dep 23 30 (by kernel_rfl) rfl
        have q0 := cell_row6 hB.src 3
        exact wpo_val (v := .int .i64 ed) (run_load e30 (by simp [go_sem, q0])) (k _ _ rfl (hB.pure 24 _ (by decide) (by decide) (Below.refl _ _)))
      | 25, ho =>
        obtain rfl := Option.some.inj ho
        intro Az Lz vz wy Kz Ez hB k
        have e21 : Az.eval (.tmp 21) = .int .i64 base := Ez.dep 14 21 (by kernel_rfl) rfl
        have e23 : Az.eval (.tmp 23) = .bool kn := Ez.dep 16 23 (by kernel_rfl) rfl
        have e25 : Az.eval (.tmp 25) = .int .i64 p := Ez.dep 18 25 (by kernel_rfl) rfl
        have e27 : Az.eval (.tmp 27) = .int .i64 q := Ez.dep 20 27 (by kernel_rfl) rfl
        have e29 : Az.eval (.tmp 29) = .bool true := Ez.dep 22 29 (by kernel_rfl) rfl
        have e31 : Az.eval (.tmp 31) = .int .i64 ed := Ez.dep 24 31 (by kernel_rfl) rfl
        exact wpo_val (v := .agg #[.int .i64 base, .bool kn, .int .i64 p, .int .i64 q, .bool true, .int .i64 ed]) (run_build (l' := #[(0, .int .i64 base), (1, .bool kn), (2, .int .i64 p), (3, .int .i64 q), (4, .bool true), (5, .int .i64 ed)]) (by simp only [List.map_toArray, List.map_cons, List.map_nil, e21, e23, e25, e27, e29, e31]) (by kernel_rfl)) (k _ _ rfl (hB.pure 25 _ (by decide) (by decide) (Below.refl _ _)))
      | 26, ho =>
        obtain rfl := Option.some.inj ho
        intro Az Lz vz wy Kz Ez hB k
        have e2 : Az.eval (.tmp 2) = .pointer (some ⟨w.heap.size + 1, 0, none⟩) := Ez.out 2 (by kernel_rfl)
        have e19 : Az.eval (.tmp 19) = .agg #[.int .i64 base, .bool kn, .int .i64 p, .int .i64 q, .int .i64 2, .int .i64 ed] := Ez.dep 12 19 (by kernel_rfl) rfl
        have z : Lz 26 = false := Ez.not
        obtain ⟨r, hn, ho, hbl⟩ := st6 65 (fun _ => by kernel_rfl) (hB.old2 z) (.int .i64 base) (.bool kn) (.int .i64 p) (.int .i64 q) (.int .i64 2) (.int .i64 ed) rfl rfl rfl rfl rfl rfl
        exact wpo_skip (run_store e2 e19 r) (k _ _ rfl (hB.put2 z hn ho hbl))
      | 27, ho =>
        obtain rfl := Option.some.inj ho
        intro Az Lz vz wy Kz Ez hB k
        have e3 : Az.eval (.tmp 3) = .pointer (some ⟨w.heap.size + 2, 0, none⟩) := Ez.out 3 (by kernel_rfl)
        have e32 : Az.eval (.tmp 32) = .agg #[.int .i64 base, .bool kn, .int .i64 p, .int .i64 q, .bool true, .int .i64 ed] := Ez.dep 25 32 (by kernel_rfl) rfl
        have z : Lz 27 = false := Ez.not
        obtain ⟨r, hn, ho, hbl⟩ := st6 67 (fun _ => by kernel_rfl) (hB.old3 z) (.int .i64 base) (.bool kn) (.int .i64 p) (.int .i64 q) (.bool true) (.int .i64 ed) rfl rfl rfl rfl rfl rfl
        exact wpo_skip (run_store e3 e32 r) (k _ _ rfl (hB.put3 z hn ho hbl))
      | n + 28, ho => simp at ho
    have h2 := hB.new2 (hL 26 (by decide))
    have h3 := hB.new3 (hL 27 (by decide))
    have KB := Lib.hid hB.bel
    obtain ⟨b, hb⟩ : ∃ b, w.heap.size = b := ⟨_, rfl⟩
    simp only [puts2, mix, Act.put, List.setIfInBounds_toArray, List.set_cons_zero, List.set_cons_succ, Nat.zero_add, Nat.reduceAdd, List.getElem?_cons_zero, List.getElem?_cons_succ]
    clear M0 hL hB
    have a0 := cell_row6 h2 0
    have a1 := cell_row6 h2 1
    have a2 := cell_row6 h2 2
    have a3 := cell_row6 h2 3
    have a4 := cell_row6 h2 4
    have a5 := cell_row6 h2 5
    have b0 := cell_row6 h3 0
    have b1 := cell_row6 h3 1
    have b2 := cell_row6 h3 2
    have b3 := cell_row6 h3 3
    have b4 := cell_row6 h3 4
    have b5 := cell_row6 h3 5
    clear h2 h3 hb
    go_wp2_with fail
    exact bodyPost_ret (v := .tuple #[.agg #[.int .i64 base, .bool kn, .int .i64 p, .int .i64 q, .int .i64 2, .int .i64 ed], .agg #[.int .i64 base, .bool kn, .int .i64 p, .int .i64 q, .bool true, .int .i64 ed]]) (by simp [results, Try.results31, go_sem, a0, a1, a2, a3, a4, a5, b0, b1, b2, b3, b4, b5]) rfl ⟨rfl, KB.out⟩
-- END told14
end Go.Proofs.Ytbolifjkhoiphaa
