/- Package region: the levels. -/
import Derived.Test.YtjemnjboopabpaaGe
import Derived.Sort.OwnSortedInts
import Derived.Lib.OwnBridge
import Derived.Lib.SlicesCompact
namespace Go.Proofs.Ytjemnjboopabpaa
open Go.RowKit Go.Proofs.Reg Go.Proofs.Big Go.Proofs.Bands
set_option linter.unusedVariables false
set_option linter.unusedSimpArgs false
set_option maxRecDepth 100000
theorem comp_inv (zs : List Int) (hs : zs.Pairwise (· ≤ ·)) : ∀ m, m ≤ zs.length → Asc (Lib.compactUpTo zs.toArray m) ∧ ∀ x, x ∈ Lib.compactUpTo zs.toArray m ↔ x ∈ zs.take m
  | 0, _ => ⟨List.Pairwise.nil, fun x => by simp [Lib.compactUpTo]⟩
  | m + 1, hm => by
    obtain ⟨ia, im⟩ := comp_inv zs hs m (by omega)
    have gm : zs.toArray[m]! = zs[m] := by simp [getElem!_pos, show m < zs.length by omega]
    have tk : zs.take (m + 1) = zs.take m ++ [zs[m]] := by rw [List.take_add_one, List.getElem?_eq_getElem (by omega)]; rfl
    rw [Lib.compactUpTo_succ, tk, gm]
    by_cases h : Lib.keeps zs.toArray m = true
    · rw [if_pos h]
      refine ⟨asc_snoc ia fun x hx => ?_, fun x => by rw [List.mem_append, List.mem_append, im]⟩
      rw [im] at hx
      unfold Lib.keeps at h
      rw [decide_eq_true_iff] at h
      obtain ⟨j, hj, rfl⟩ := List.mem_iff_getElem.1 hx
      rw [List.length_take] at hj
      rw [List.getElem_take]
      have hj' : j < m := by omega
      have h2 : zs.toArray[m]! ≠ zs.toArray[m - 1]! := h.resolve_left (by omega)
      rw [gm, show zs.toArray[m - 1]! = zs[m - 1] by simp [getElem!_pos, show m - 1 < zs.length by omega]] at h2
      have h3 : zs[m - 1] ≤ zs[m] := List.pairwise_iff_getElem.1 hs _ _ _ _ (by omega)
      have h4 : zs[j] ≤ zs[m - 1] := by
        by_cases e : j = m - 1
        · subst e; exact Int.le_refl _
        · exact List.pairwise_iff_getElem.1 hs _ _ _ _ (by omega)
      have := List.getElem_mem (l := zs) (n := m) (by omega)
      omega
    · rw [if_neg h, List.append_nil]
      refine ⟨ia, fun x => ?_⟩
      rw [im, List.mem_append, List.mem_singleton]
      refine ⟨fun a => .inl a, fun a => a.elim id fun e => ?_⟩
      unfold Lib.keeps at h
      rw [decide_eq_true_iff] at h
      have m0 : m ≠ 0 := fun e => h (.inl e)
      have h2 : ¬ zs.toArray[m]! ≠ zs.toArray[m - 1]! := fun e => h (.inr e)
      rw [gm, show zs.toArray[m - 1]! = zs[m - 1] by simp [getElem!_pos, show m - 1 < zs.length by omega]] at h2
      have h3 : zs[m] = zs[m - 1] := Decidable.not_not.1 h2
      rw [e, h3]
      exact List.mem_iff_getElem.2 ⟨m - 1, by rw [List.length_take]; omega, by rw [List.getElem_take]⟩
theorem mergeSort_sorted (xs : List Int) : (xs.mergeSort fun x y => decide (x ≤ y)).Pairwise (· ≤ ·) := by
  have := List.pairwise_mergeSort (le := fun x y : Int => decide (x ≤ y)) (fun a b c h1 h2 => by simp at *; omega) (fun a b => by simp; omega) xs
  exact this.imp fun h => by simpa using h
theorem compact_len (zs : List Int) : (Lib.compact zs).length ≤ zs.length := by
  unfold Lib.compact Lib.compactUpTo
  rw [List.length_map]
  exact Nat.le_trans (List.length_filter_le _ _) (by simp)
theorem gsort_any (base : Nat) (v : Value) (n : Nat) (xs : List Int) (w : World) (hown : w.ownsRow base 3 1 v n (xs.map (Value.int .i64))) (hb : base ≤ w.heap.size) (nb : n ≤ 4000000000000) :
    Calls Try.prog 90 #[v] w fun e w' => e = .returned (.tuple #[]) ∧ w'.ownsRow base 3 1 v n ((xs.mergeSort fun x y => decide (x ≤ y)).map (Value.int .i64)) ∧ Below base w w' := by
  have hl : xs.length = n := by simpa using hown.1
  have hown' := hown
  obtain ⟨_, ⟨rfl, h0⟩ | ⟨g, cap, cur, rfl, hg, hc, h1, h2, h3, h4⟩⟩ := hown'
  · subst h0
    obtain rfl : xs = [] := List.eq_nil_of_length_eq_zero hl
    refine (Try.slices_Sort_int_none none 0 w).mono ?_
    rintro e w' ⟨rfl, rfl⟩
    exact ⟨rfl, by simpa using hown, Below.refl _ _⟩
  · subst hl
    have hh := holds_of_blockI hc (by rw [Nat.mul_one] at h4; exact h4)
    refine (Try.slices_Sort_int g 0 cap xs w hh (Array.getElem?_eq_some_iff.1 hc).1 (by omega)).mono ?_
    rintro e w' ⟨rfl, k, os, rfl⟩
    exact ⟨rfl, ownsRow_sortedI (by rw [List.length_mergeSort]) hg hc h1 h2 h3, (Below.refl base w).grown (grownBy_sortedI _) hb (fun j hj => by cases hj; exact hg)⟩
theorem gcompact_any (base : Nat) (v : Value) (n : Nat) (xs : List Int) (w : World) (hown : w.ownsRow base 3 1 v n (xs.map (Value.int .i64))) (hb : base ≤ w.heap.size) (nb : n ≤ 4000000000000) :
    Calls Try.prog 91 #[v] w fun e w' => ∃ v' m, e = .returned v' ∧ w'.ownsRow base 3 1 v' m ((Lib.compact xs).map (Value.int .i64)) ∧ Below base w w' := by
  have hl : xs.length = n := by simpa using hown.1
  have hown' := hown
  obtain ⟨_, ⟨rfl, h0⟩ | ⟨g, cap, cur, rfl, hg, hc, h1, h2, h3, h4⟩⟩ := hown'
  · subst h0
    obtain rfl : xs = [] := List.eq_nil_of_length_eq_zero hl
    refine (Try.slices_Compact_int_empty none 0 w).mono ?_
    rintro e w' ⟨rfl, rfl⟩
    exact ⟨_, 0, rfl, by simpa [Lib.compact, Lib.compactUpTo] using hown, Below.refl _ _⟩
  · subst hl
    have hh := holds_of_blockI hc (by rw [Nat.mul_one] at h4; exact h4)
    refine (Try.slices_Compact_int g 0 cap xs w hh (by omega) h1).mono ?_
    rintro e w' ⟨rfl, q, rfl⟩
    have cl := compact_len xs
    have := Lib.ownsRow_putRow (q := q) (k := (Lib.compact xs).length) (ys := Lib.compact xs ++ List.replicate (xs.length - (Lib.compact xs).length) 0) hown (by rw [List.length_append, List.length_replicate]; omega) cl
    rw [List.take_left] at this
    exact ⟨_, _, rfl, this, Lib.below_putRow (Below.refl _ _) hg⟩
/-- the levels of bands -/
def lvs (l : List Bd) : List Int := l.flatMap fun d => [d.t, d.b]
theorem lvs_len (l : List Bd) : (lvs l).length = 2 * l.length := by
  induction l with
  | nil => rfl
  | cons c l ih =>
    rw [show lvs (c :: l) = [c.t, c.b] ++ lvs l from rfl, List.length_append, ih]
    simp
    omega
theorem lvs_mem (l : List Bd) (x : Int) : x ∈ lvs l ↔ ∃ d ∈ l, x = d.t ∨ x = d.b := by
  unfold lvs
  simp [List.mem_flatMap]
theorem lvs_take (l : List Bd) (k : Nat) (d : Bd) (h : l[k]? = some d) : lvs (l.take (k + 1)) = lvs (l.take k) ++ [d.t, d.b] := by
  rw [List.take_add_one, h]
  unfold lvs
  rw [List.flatMap_append]
  rfl
/-- what the first of two regions have -/
def lvk (la lb : List Bd) (k : Nat) : List Int := (if 1 ≤ k then lvs la else []) ++ (if 2 ≤ k then lvs lb else [])
/-- what the levels are -/
def LvR (w : World) (la lb : List Bd) (e : Ending) (w' : World) : Prop := ∃ v lv, e = .returned v ∧ EV w' v lv ∧ Asc lv ∧ (∀ x, x ∈ lv ↔ ∃ d ∈ la ++ lb, x = d.t ∨ x = d.b) ∧ lv.length ≤ 2 * (la.length + lb.length) ∧ Below w.heap.size w w'
theorem levels_any (q c0 : Nat) (va vb : Value) (la lb : List Bd) (w : World) (ha : BS w va la) (hb : BS w vb lb) (h1 : w.cell? ⟨q, 0, none⟩ = some va) (h2 : w.cell? ⟨q, 1, none⟩ = some vb) : Calls Try.prog 73 #[.slice (some ⟨q, 0, none⟩) 2 c0] w (LvR w la lb) := by
  have HA := Lib.hid ha
  have HB := Lib.hid hb
  have H1 := Lib.hid h1
  have H2 := Lib.hid h2
  obtain ⟨NA, NB⟩ : la.length < 1000000000000 ∧ lb.length < 1000000000000 := by
    obtain ⟨_, n, _, _, _, _, e, f, _⟩ := ha
    obtain ⟨_, n', _, _, _, _, e', f', _⟩ := hb
    omega
  clear ha hb h1 h2
  obtain ⟨i0, hi, hz0, hz1, hz2⟩ := int_parts
  go_enter Try.func73, Try.ntmps73
  go_wp2_with fail
  go_loopw [3, 10] (fun s3 s10 wr => ∃ (k : Nat) (xs : List Int) (pe : Option Addr) (ce : Nat), s3 = .slice pe xs.length ce ∧ s10 = .int .i64 k ∧ k ≤ 2 ∧ Hid (xs = lvk la lb k) ∧ wr.ownsRow w.heap.size 3 1 (.slice pe xs.length ce) xs.length (xs.map (Value.int .i64)) ∧ w.heap.size ≤ wr.heap.size ∧ Hid (Below w.heap.size w wr)) (fun _ s10 _ => 2 - (intOf s10).toNat)
  case atStart => exact ⟨0, [], none, 0, rfl, rfl, by omega, Lib.hid rfl, World.ownsRow_nil _ _ _ _, Nat.le_refl _, Lib.hid (Below.refl _ _)⟩
  case round =>
    obtain ⟨k, xs, pe, ce, rfl, rfl, k2, HX, hown, hsz, KB⟩ := hrel
    by_cases kk : k < 2
    · have kk' : (k : Int) < 2 := by omega
      obtain ⟨v, l, hv, hc, hl, nl⟩ : ∃ v l, BS w v l ∧ w.cell? ⟨q, k, none⟩ = some v ∧ lvk la lb (k + 1) = lvk la lb k ++ lvs l ∧ l.length < 1000000000000 := by
        match k, kk with
        | 0, _ => exact ⟨va, la, HA.out, H1.out, by simp [lvk], NA⟩
        | 1, _ => exact ⟨vb, lb, HB.out, H2.out, by simp [lvk], NB⟩
      obtain ⟨a, n, c, ys, rfl, hbl, hn, nb, nc, hcell⟩ := hv
      have c1 := cell_later KB.out hc
      have HBL := Lib.hid hbl
      have HCE := Lib.hid hcell
      have HL := Lib.hid hl
      have HN := Lib.hid hn
      have xl : xs.length ≤ 4000000000000 := by
        rw [HX.out]
        unfold lvk
        rw [List.length_append]
        split <;> split <;> simp only [lvs_len, List.length_nil] <;> omega
      have ck : c1 = c1 := rfl
      clear hbl hcell hl hn ck hc
      go_wp2_with fail
      go_loopw [3, 17] (fun s3 s17 wq => ∃ (j : Nat) (zs : List Int) (pf : Option Addr) (cf : Nat), s3 = .slice pf zs.length cf ∧ s17 = .int .i64 j ∧ j ≤ n ∧ Hid (zs = xs ++ lvs (l.take j)) ∧ wq.ownsRow w.heap.size 3 1 (.slice pf zs.length cf) zs.length (zs.map (Value.int .i64)) ∧ w.heap.size ≤ wq.heap.size ∧ Hid (Below w.heap.size w wq)) (fun _ s17 _ => n - (intOf s17).toNat)
      case atStart =>
        refine ⟨0, xs, pe, ce, rfl, rfl, by omega, Lib.hid (by simp [lvs]), ?_, ?_, Lib.hid ?_⟩
        · exact hown.alloc _
        · simp; omega
        · exact KB.out.alloc (by omega) _
      case round =>
        obtain ⟨j, zs, pf, cf, rfl, rfl, jn, HZ, hown2, hsz2, KB2⟩ := hrel
        by_cases lt : j < n
        · have lt' : (j : Int) < (n : Int) := by omega
          obtain ⟨g, rfl, hcl⟩ := HCE.out (by omega)
          obtain ⟨d, hd⟩ : ∃ d, l[j]? = some d := ⟨_, List.getElem?_eq_getElem (by have := HN.out; omega)⟩
          obtain ⟨ev, x0, x1, x2, he⟩ := HBL.out.get j d hd
          obtain ⟨ea, en, ec, rfl, _⟩ : ∃ ea en ec, ev = .slice ea en ec ∧ True := by
            obtain ⟨a, n, c, e, _⟩ := he
            exact ⟨a, n, c, e, trivial⟩
          have d0 := cell_later KB2.out (hcl _ _ x0)
          have d1 := cell_later KB2.out (hcl _ _ x1)
          have d2 := cell_later KB2.out (hcl _ _ x2)
          rw [show 3 * j = j * 3 by omega] at d0 d1 d2
          have zl : zs.length ≤ 8000000000000 := by
            rw [HZ.out, List.length_append, lvs_len, List.length_take]
            have := HN.out
            omega
          have HZ1 : Hid (zs ++ [d.t, d.b] = xs ++ lvs (l.take (j + 1))) := Lib.hid (by rw [lvs_take l j d hd, ← List.append_assoc, ← HZ.out])
          clear x0 x1 x2 hcl he hd
          go_wp2_with (at_builtin; go_loud (refine wpList_append_own _ rfl _ _ 69 rfl w.heap.size 3 i0 (.int .i64 0) 1 8 Try.underlying69 hi hz0 hz1 hz2 rfl (by decide) _ _ _ rfl ((hown2.alloc _).alloc _) ⟨_, 0, none⟩ 2 2 [.int .i64 d.t, .int .i64 d.b] rfl rfl ?c1 ?c2 ?c3 ?c4 ?c5 ?_))
          case c1 =>
            intro x u h
            match x, h with
            | 0, h => simp at h; subst h; simp [go_sem, Addr.add]
            | 1, h => simp at h; subst h; simp [go_sem, Addr.add]
            | x + 2, h => simp at h
          case c2 => intro u hu; simp at hu; rcases hu with rfl | rfl <;> rfl
          case c3 => unfold maxLen; omega
          case c4 => omega
          case c5 => simp; omega
          intro v1 w1 hown1 hgrow _
          have hown3 : w1.ownsRow w.heap.size 3 1 v1 (zs ++ [d.t, d.b]).length ((zs ++ [d.t, d.b]).map (Value.int .i64)) := by
            simpa using hown1
          obtain ⟨a1, cap1, rfl, _⟩ := ri_of_owns hown3 (by simp; omega)
          have B1 : Hid (Below w.heap.size w w1) := Lib.hid (((KB2.out.alloc hsz2 _).alloc (by simp; omega) _).grown hgrow (by simp; omega) (fun j hj => by have := (hown2.lt j hj).1; omega))
          have HS : w.heap.size ≤ w1.heap.size := B1.out.size
          clear hown2 hown1 hgrow
          go_wp2_with fail
          go_roundw
          case rel => exact ⟨j + 1, zs ++ [d.t, d.b], a1, cap1, by simp, by go_num, by omega, HZ1, hown3, HS, B1⟩
          case measure => simp [intOf]; omega
        · obtain rfl : j = n := by omega
          have nlt : ¬ (j : Int) < (j : Int) := by omega
          have HX1 : Hid (zs = lvk la lb (k + 1)) := Lib.hid (by rw [HZ.out, HL.out, ← HX.out, HN.out, List.take_length])
          go_wp2_with fail
          go_roundw
          case rel => exact ⟨k + 1, zs, pf, cf, rfl, by go_num, by omega, HX1, hown2, hsz2, KB2⟩
          case measure => simp [intOf]; omega
    · obtain rfl : k = 2 := by omega
      have XL : xs = lvs la ++ lvs lb := HX.out
      have xm : ∀ x, x ∈ xs ↔ ∃ d ∈ la ++ lb, x = d.t ∨ x = d.b := fun x => by
        rw [XL, List.mem_append, lvs_mem, lvs_mem]
        constructor
        · rintro (⟨d, m, h⟩ | ⟨d, m, h⟩)
          · exact ⟨d, List.mem_append.2 (.inl m), h⟩
          · exact ⟨d, List.mem_append.2 (.inr m), h⟩
        · rintro ⟨d, m, h⟩
          rcases List.mem_append.1 m with m | m
          · exact .inl ⟨d, m, h⟩
          · exact .inr ⟨d, m, h⟩
      have xl : xs.length = 2 * (la.length + lb.length) := by
        rw [XL, List.length_append, lvs_len, lvs_len]; omega
      have xb : xs.length ≤ 4000000000000 := by omega
      have FIN : Hid (∀ w1 v n, w1.ownsRow w.heap.size 3 1 v n ((Lib.compact (xs.mergeSort fun x y => decide (x ≤ y))).map (Value.int .i64)) → Below w.heap.size w w1 → LvR w la lb (.returned v) w1) := Lib.hid (fun w1 v n ho kb => by
        have sl := List.length_mergeSort (le := fun x y : Int => decide (x ≤ y)) xs
        have so := mergeSort_sorted xs
        obtain ⟨c1, c2⟩ := comp_inv _ so _ (Nat.le_refl _)
        have cl : (Lib.compact (xs.mergeSort fun x y => decide (x ≤ y))).length ≤ xs.length := by rw [← sl]; exact compact_len _
        have nl : n = (Lib.compact (xs.mergeSort fun x y => decide (x ≤ y))).length := by have := ho.1; simp at this; omega
        refine ⟨v, _, rfl, EV.of_owns ho (by omega), c1, fun x => ?_, by omega, kb⟩
        have q := c2 x
        rw [List.take_length] at q
        rw [← xm, show x ∈ xs ↔ x ∈ xs.mergeSort (fun x y => decide (x ≤ y)) from (List.mergeSort_perm xs _).mem_iff.symm]
        exact q)
      have XO := Lib.hid hown
      clear XL xm HX hown xl
      have zb : xs.length ≤ 4000000000000 := xb
      clear xb
      go_wp2_with fail
      refine (gsort_any w.heap.size _ _ xs wr XO.out hsz zb).mono ?_
      rintro _ w1 ⟨rfl, ho, hb⟩
      have KB1 := Lib.hid (show Below w.heap.size w w1 from ⟨hb.os.trans KB.out.os, hb.tape.trans KB.out.tape, hb.output.trans KB.out.output, Nat.le_trans KB.out.size hb.size, fun k hk => (hb.block k hk).trans (KB.out.block k hk)⟩)
      have HO1 := Lib.hid ho
      have hs1 := KB1.out.size
      clear hb ho
      go_wp2_with fail
      refine (gcompact_any w.heap.size _ _ _ w1 HO1.out hs1 zb).mono ?_
      rintro _ w2 ⟨v2, n2, rfl, ho, hb⟩
      have FIN2 := Lib.hid (FIN.out w2 v2 _ ho ⟨hb.os.trans KB1.out.os, hb.tape.trans KB1.out.tape, hb.output.trans KB1.out.output, Nat.le_trans KB1.out.size hb.size, fun k hk => (hb.block k hk).trans (KB1.out.block k hk)⟩)
      clear hb ho
      go_wp2_with fail
      go_returns
      exact FIN2.out
end Go.Proofs.Ytjemnjboopabpaa
