/- Package region: a region of rectangles. Made by gen/of.py. -/
import Derived.Test.YtjemnjboopabpaaGi
import Derived.WalkKit
import Derived.WalkSpells
import Derived.WalkLawsBesides
import Derived.Handy
import Derived.Lib.Hide
import Derived.Deep.QuietTactic
import Derived.BigQuiet
import Derived.LoopTactic
import Derived.Deep.RegionHeld3
import Derived.Deep.RegionWith
import Derived.Outline
import Derived.Deep.DeepCutAuto
namespace Go.Proofs.Ytjemnjboopabpaa
open Go.RowKit Go.Proofs.Reg Go.Proofs.Big Go.Proofs.Bands
set_option linter.unusedVariables false
set_option linter.unusedSimpArgs false
set_option maxRecDepth 100000
/-- has a rectangle, as it is given, a pixel? -/
def pix (r : Int × Int × Int × Int) (x y : Int) : Bool := decide (lim r.1 ≤ x ∧ x < lim r.2.2.1 ∧ lim r.2.1 ≤ y ∧ y < lim r.2.2.2)
def anyP (rs : List (Int × Int × Int × Int)) (x y : Int) : Bool := rs.any fun r => pix r x y
/-- a value reads as rectangles -/
def RS (w : World) (v : Value) (rs : List (Int × Int × Int × Int)) : Prop := ∃ a n c, v = .slice a n c ∧ n = rs.length ∧ n ≤ c ∧ c ≤ 9223372036854775807 ∧ (0 < n → ∃ g o, a = some ⟨g, o, none⟩ ∧ ∀ k r, rs[k]? = some r → w.cell? ⟨g, o + k * 4, none⟩ = some (.int .i64 r.1) ∧ w.cell? ⟨g, o + k * 4 + 1, none⟩ = some (.int .i64 r.2.1) ∧ w.cell? ⟨g, o + k * 4 + 2, none⟩ = some (.int .i64 r.2.2.1) ∧ w.cell? ⟨g, o + k * 4 + 3, none⟩ = some (.int .i64 r.2.2.2))
theorem RS.later {w w' : World} {v : Value} {rs : List (Int × Int × Int × Int)} (h : RS w v rs) (hb : Below w.heap.size w w') : RS w' v rs := by
  obtain ⟨a, n, c, rfl, h1, h2, h3, h4⟩ := h
  refine ⟨a, n, c, rfl, h1, h2, h3, fun hn => ?_⟩
  obtain ⟨g, o, hg, hc⟩ := h4 hn
  refine ⟨g, o, hg, fun k r hk => ?_⟩
  obtain ⟨c0, c1, c2, c3⟩ := hc k r hk
  exact ⟨cell_later hb c0, cell_later hb c1, cell_later hb c2, cell_later hb c3⟩
def I64s (rs : List (Int × Int × Int × Int)) : Prop := ∀ r ∈ rs, I64 r.1 ∧ I64 r.2.1 ∧ I64 r.2.2.1 ∧ I64 r.2.2.2
/-- what a region of rectangles is -/
def OfR (w : World) (rs : List (Int × Int × Int × Int)) (e : Ending) (w' : World) : Prop := ∃ v l, e = .returned v ∧ Rg w' v l ∧ (∀ x y, hasP l x y = anyP rs x y) ∧ Below w.heap.size w w'
theorem nrm_pix {a b c d A B C D : Int} (h : Nrm a b c d A B C D) (x y : Int) : decide (A ≤ x ∧ x < C ∧ B ≤ y ∧ y < D) = pix (a, b, c, d) x y := by
  unfold pix
  have : (A ≤ x ∧ x < C ∧ B ≤ y ∧ y < D) ↔ (lim a ≤ x ∧ x < lim c ∧ lim b ≤ y ∧ y < lim d) := by
    unfold Nrm at h
    rcases h with ⟨_, _, rfl, rfl, rfl, rfl⟩ | ⟨h, rfl, rfl, rfl, rfl⟩
    · exact Iff.rfl
    · omega
  exact decide_eq_decide.2 this
theorem of_none (a : Option Addr) (c : Nat) (w : World) : Calls Try.prog 9 #[.slice a 0 c] w (OfR w []) := by
  go_enter Try.func9, Try.ntmps9
  go_wp2_with fail
  refine bodyPost_ret (v := .agg #[.slice none 0 0]) (by simp [results, Try.results9, go_sem]) rfl ?_
  exact ⟨_, [], rfl, Rg.nil _, fun x y => rfl, by go_grown⟩
theorem of_one (v : Value) (r : Int × Int × Int × Int) (w : World) (h : RS w v [r]) (hi : I64s [r]) : Calls Try.prog 9 #[v] w (OfR w [r]) := by
  obtain ⟨a, n, c, rfl, hn, h2, h3, h4⟩ := h
  obtain rfl : n = 1 := hn
  obtain ⟨g, o, rfl, hc⟩ := h4 (by omega)
  obtain ⟨c0, c1, c2, c3⟩ := hc 0 r rfl
  rw [Nat.zero_mul, Nat.add_zero] at c0 c1 c2 c3
  obtain ⟨p, q, s, t⟩ := r
  obtain ⟨i0, i1, i2, i3⟩ := hi (p, q, s, t) (by simp)
  obtain ⟨A, B, C, D, nr⟩ := nrm_ex p q s t
  have N := Lib.hid (xright_any p q s t A B C D i0 i1 i2 i3 nr)
  have rg := nr.rgt
  have O := Lib.hid (gone_any A B C D rg)
  have PX := Lib.hid (fun x y => (oneB_has rg x y).trans (nrm_pix nr x y))
  clear h4 hc hi nr rg i0 i1 i2 i3
  dsimp only at c0 c1 c2 c3
  have lg : g < w.heap.size := World.block_lt_of_cell? w _ c0
  unfold rv at N O
  go_enter Try.func9, Try.ntmps9
  go_wp2_with fail
  refine (N.out _).mono ?_
  rintro _ w1 ⟨rfl, hb⟩
  go_wp2_with fail
  refine (O.out w1).mono ?_
  rintro _ w2 ⟨v, rfl, hr, hb2⟩
  have KB := Lib.hid (show Below w.heap.size w w2 from bel_tr0 (bel_tr0 (by go_grown) hb) hb2)
  have CR : Hid (w2.heap[w.heap.size]? = some (.cells #[.slice none 0 0] 26 (0, 0))) := Lib.hid (by
    have l1 : w.heap.size < w1.heap.size := by have := hb.size; simp at this; omega
    rw [hb2.block _ l1, hb.block w.heap.size (by simp)]
    exact heap_alloc_new _ _)
  have hc : w2.cell? ⟨w.heap.size, 0, none⟩ = some (.slice none 0 0) := by simp [World.cell?, CR.out]
  have hf : w2.frozen? ⟨w.heap.size, 0, none⟩ = false := by simp [World.frozen?, CR.out]
  have lt2 := World.block_lt_of_cell? w2 _ hc
  obtain ⟨⟨u, rfl, bs⟩, wf, ir⟩ := hr
  have FIN : Hid (∀ z, OfR w [(p, q, s, t)] (.returned (.agg #[u])) (w2.setCell ⟨w.heap.size, 0, none⟩ z)) := Lib.hid (fun z =>
    ⟨_, _, rfl, ⟨⟨_, rfl, bs.setR CR.out hc z⟩, wf, ir⟩, fun x y => by rw [PX.out]; simp [anyP], KB.out.setCell (Nat.le_refl _) z⟩)
  obtain ⟨a', n', c', xs', rfl, _, rfl, _⟩ := bs
  clear hb hb2 wf ir
  go_wp2_with fail
  refine bodyPost_ret (v := .agg #[.slice a' (oneB A B C D).length c']) (by simp [results, Try.results9, go_sem, hc]) rfl ?_
  exact FIN.out _
theorem anyP_split (rs : List (Int × Int × Int × Int)) (h : Nat) (x y : Int) : anyP rs x y = orB (anyP (rs.take h) x y) (anyP (rs.drop h) x y) := by
  unfold anyP orB
  rw [← List.any_append, List.take_append_drop]
theorem RS.take {w : World} {a : Option Addr} {n c : Nat} {rs : List (Int × Int × Int × Int)} (h : RS w (.slice a n c) rs) (k : Nat) (hk : k ≤ n) : RS w (.slice a k c) (rs.take k) := by
  obtain ⟨_, _, _, e, h1, h2, h3, h4⟩ := h
  cases e
  refine ⟨_, k, _, rfl, by rw [List.length_take]; omega, by omega, h3, fun hn => ?_⟩
  obtain ⟨g, o, hg, hc⟩ := h4 (by omega)
  refine ⟨g, o, hg, fun j r hj => ?_⟩
  have := (List.getElem?_eq_some_iff.1 hj).1
  rw [List.length_take] at this
  exact hc j r (by rw [List.getElem?_take_of_lt (by omega)] at hj; exact hj)
theorem RS.drop {w : World} {g o n c : Nat} {rs : List (Int × Int × Int × Int)} (h : RS w (.slice (some ⟨g, o, none⟩) n c) rs) (k : Nat) (hk : k < n) : RS w (.slice (some ⟨g, o + k * 4, none⟩) (n - k) (c - k)) (rs.drop k) := by
  obtain ⟨_, _, _, e, h1, h2, h3, h4⟩ := h
  cases e
  refine ⟨_, n - k, _, rfl, by rw [List.length_drop]; omega, by omega, by omega, fun hn => ?_⟩
  obtain ⟨g', o', hg, hc⟩ := h4 (by omega)
  cases hg
  refine ⟨g, _, rfl, fun j r hj => ?_⟩
  have := hc (k + j) r (by rw [List.getElem?_drop] at hj; exact hj)
  rw [show o + (k + j) * 4 = o + k * 4 + j * 4 by omega] at this
  exact this
/-- what the region of a halving keeps -/
structure OfB (w : World) (r1 r2 : List (Int × Int × Int × Int)) (L : Nat → Bool) (vz : Nat → Value) (wy : World) : Prop where
  below : Below w.heap.size w wy
  r3 : L 3 = true → L 9 = false → ∃ l, Rg wy (vz 3) l ∧ ∀ x y, hasP l x y = anyP r1 x y
  r7 : L 7 = true → L 9 = false → ∃ l, Rg wy (vz 7) l ∧ ∀ x y, hasP l x y = anyP r2 x y
  r8 : L 8 = true → L 9 = false → ∃ l, Rg wy (vz 8) l ∧ ∀ x y, hasP l x y = orB (anyP r1 x y) (anyP r2 x y)
  k0 : L 9 = false → wy.heap[w.heap.size]? = some (.cells #[.slice none 0 0] 26 (0, 0))
  k1 : L 9 = true → ∃ u, wy.cell? ⟨w.heap.size, 0, none⟩ = some u ∧ ∃ l, Rg wy (.agg #[u]) l ∧ ∀ x y, hasP l x y = orB (anyP r1 x y) (anyP r2 x y)
section
variable {w : World} {r1 r2 : List (Int × Int × Int × Int)} {L : Nat → Bool} {vz : Nat → Value} {wy : World}
theorem OfB.start (hb : Below w.heap.size w wy) (hk : wy.heap[w.heap.size]? = some (.cells #[.slice none 0 0] 26 (0, 0))) : OfB w r1 r2 (fun _ => false) (fun _ => undef) wy.drew :=
  ⟨hb.drew, by simp, by simp, by simp, fun _ => hk, by simp⟩
theorem OfB.other (h : OfB w r1 r2 L vz wy) (i : Nat) (v : Value) (hi : i ≠ 3 ∧ i ≠ 7 ∧ i ≠ 8 ∧ i ≠ 9) : OfB w r1 r2 (addL L i) (upd vz i v) wy := by
  obtain ⟨h3, h7, h8, h9⟩ := hi
  have a : ∀ k, k ≠ i → addL L i k = L k := fun k hk => by simp [addL, hk]
  have b : ∀ k, k ≠ i → upd vz i v k = vz k := fun k hk => by simp [upd, hk]
  refine ⟨h.below, ?_, ?_, ?_, ?_, ?_⟩
  · rw [a 3 (Ne.symm h3), a 9 (Ne.symm h9), b 3 (Ne.symm h3)]; exact h.r3
  · rw [a 7 (Ne.symm h7), a 9 (Ne.symm h9), b 7 (Ne.symm h7)]; exact h.r7
  · rw [a 8 (Ne.symm h8), a 9 (Ne.symm h9), b 8 (Ne.symm h8)]; exact h.r8
  · rw [a 9 (Ne.symm h9)]; exact h.k0
  · rw [a 9 (Ne.symm h9)]; exact h.k1
theorem OfB.later (h : OfB w r1 r2 L vz wy) {w' : World} (hb : Below wy.heap.size wy w') : OfB w r1 r2 L vz w' := by
  refine ⟨bel_tr0 h.below hb, fun q p => ?_, fun q p => ?_, fun q p => ?_, fun q => ?_, fun q => ?_⟩
  · obtain ⟨l, a, b⟩ := h.r3 q p; exact ⟨l, a.later hb, b⟩
  · obtain ⟨l, a, b⟩ := h.r7 q p; exact ⟨l, a.later hb, b⟩
  · obtain ⟨l, a, b⟩ := h.r8 q p; exact ⟨l, a.later hb, b⟩
  · exact (hb.block _ (Array.getElem?_eq_some_iff.1 (h.k0 q)).1).trans (h.k0 q)
  · obtain ⟨u, a, l, b, c⟩ := h.k1 q; exact ⟨u, cell_later hb a, l, b.later hb, c⟩
theorem OfB.c3 (h : OfB w r1 r2 L vz wy) {v : Value} {l : List Bd} (hr : Rg wy v l) (hp : ∀ x y, hasP l x y = anyP r1 x y) : OfB w r1 r2 (addL L 3) (upd vz 3 v) wy := by
  refine ⟨h.below, fun _ _ => ⟨l, by simpa [upd] using hr, hp⟩, ?_, ?_, ?_, ?_⟩ <;> simp only [addL, upd] <;> simp
  · exact h.r7
  · exact h.r8
  · exact h.k0
  · exact h.k1
theorem OfB.c7 (h : OfB w r1 r2 L vz wy) {v : Value} {l : List Bd} (hr : Rg wy v l) (hp : ∀ x y, hasP l x y = anyP r2 x y) : OfB w r1 r2 (addL L 7) (upd vz 7 v) wy := by
  refine ⟨h.below, ?_, fun _ _ => ⟨l, by simpa [upd] using hr, hp⟩, ?_, ?_, ?_⟩ <;> simp only [addL, upd] <;> simp
  · exact h.r3
  · exact h.r8
  · exact h.k0
  · exact h.k1
theorem OfB.c8 (h : OfB w r1 r2 L vz wy) {v : Value} {l : List Bd} (hr : Rg wy v l) (hp : ∀ x y, hasP l x y = orB (anyP r1 x y) (anyP r2 x y)) : OfB w r1 r2 (addL L 8) (upd vz 8 v) wy := by
  refine ⟨h.below, ?_, ?_, fun _ _ => ⟨l, by simpa [upd] using hr, hp⟩, ?_, ?_⟩ <;> simp only [addL, upd] <;> simp
  · exact h.r3
  · exact h.r7
  · exact h.k0
  · exact h.k1
theorem OfB.c9 (h : OfB w r1 r2 L vz wy) {u v : Value} {l : List Bd} (k0 : wy.heap[w.heap.size]? = some (.cells #[.slice none 0 0] 26 (0, 0))) (hr : Rg wy (.agg #[u]) l) (hp : ∀ x y, hasP l x y = orB (anyP r1 x y) (anyP r2 x y)) : OfB w r1 r2 (addL L 9) (upd vz 9 v) (wy.setCell ⟨w.heap.size, 0, none⟩ u) := by
  have hc : wy.cell? ⟨w.heap.size, 0, none⟩ = some (.slice none 0 0) := by simp [World.cell?, k0]
  obtain ⟨⟨u', e, bs⟩, wf, ir⟩ := hr
  cases e
  refine ⟨h.below.setCell (Nat.le_refl _) u, ?_, ?_, ?_, ?_, fun _ => ⟨u, by simp [go_sem, hc], l, ⟨⟨u, rfl, bs.setR k0 hc u⟩, wf, ir⟩, hp⟩⟩ <;> simp [addL]
end
theorem Below.trans0 {w wy : World} (h : Below w.heap.size w wy) : Below w.heap.size w wy := h
theorem run_sliceH {A : Act} {P : Program} {w : World} {p q : Operand} {u c v : Value} {t ty : TypeId} {x : Option Tmp} {ps : String} {af : Array Edge} {gd : Option (Nat × Bool)} (e : A.eval p = u) (f : A.eval q = c) (h : (Instr.sliceAt t u none (some c) none).run P w = .ok v w) : (execOp A.eval ⟨x, .slice t p none (some q) none, ty, ps, af, gd⟩).run P w = .ok (.value v) w := by
  simp only [execOp, e, Option.map_some, f, Option.map_none]; exact run_then h
set_option maxHeartbeats 4000000 in
theorem of_more (n0 : Nat) (ih : ∀ m, m < n0 → ∀ (v : Value) (rs : List (Int × Int × Int × Int)) (w : World), rs.length = m → RS w v rs → I64s rs → Calls Try.prog 9 #[v] w (OfR w rs)) (v : Value) (rs : List (Int × Int × Int × Int)) (w : World) (hn0 : rs.length = n0) (h2 : 2 ≤ n0) (hs : n0 < 1000000000000) (h : RS w v rs) (hi : I64s rs) :
    Calls Try.prog 9 #[v] w (OfR w rs) := by
  have h' := h
  obtain ⟨a, n, c, rfl, hn, nc, cm, ha⟩ := h'
  obtain ⟨g, o, rfl, _⟩ := ha (by omega)
  obtain ⟨hh, e⟩ : ∃ x, x = n / 2 := ⟨_, rfl⟩
  have IH1 := Lib.hid (fun wy (kb : Below w.heap.size w wy) => ih hh (by omega) (.slice (some ⟨g, o, none⟩) hh c) (rs.take hh) wy (by rw [List.length_take]; omega) ((h.later kb).take hh (by omega)) (fun r m => hi r (List.mem_of_mem_take m)))
  have IH2 := Lib.hid (fun wy (kb : Below w.heap.size w wy) => ih (n - hh) (by omega) (.slice (some ⟨g, o + hh * 4, none⟩) (n - hh) (c - hh)) (rs.drop hh) wy (by rw [List.length_drop]; omega) ((h.later kb).drop hh (by omega)) (fun r m => hi r (List.mem_of_mem_drop m)))
  have q2 : ((n : Int).tdiv 2) = (hh : Int) := by rw [Int.tdiv_eq_ediv_of_nonneg (by omega)]; omega
  have wh : wrap64 (hh : Int) = (hh : Int) := by simp only [wrap64]; omega
  have n0 : ((n : Int) == 0) = false := by simpa using (show (n : Int) ≠ 0 by omega)
  have n1 : ((n : Int) == 1) = false := by simpa using (show (n : Int) ≠ 1 by omega)
  have s1 : ∀ wy : World, (Instr.sliceAt 77 (.slice (some ⟨g, o, none⟩) n c) none (some (.int .i64 hh)) none).run Try.prog wy = .ok (.slice (some ⟨g, o, none⟩) hh c) wy := fun wy => by
    have k1 : (hh : Int) ≤ (c : Int) := by omega
    have k0 : (0 : Int) ≤ (hh : Int) := by omega
    simp [go_sem, k0, k1, Addr.add]
  have s2 : ∀ wy : World, (Instr.sliceAt 77 (.slice (some ⟨g, o, none⟩) n c) (some (.int .i64 hh)) none none).run Try.prog wy = .ok (.slice (some ⟨g, o + hh * 4, none⟩) (n - hh) (c - hh)) wy := fun wy => by
    have k1 : (hh : Int) ≤ (n : Int) := by omega
    have k0 : (0 : Int) ≤ (hh : Int) := by omega
    have k2 : ¬ c = hh := by omega
    have k3 : ¬ hh * 4 = 0 := by omega
    simp [go_sem, k0, k1, Addr.add]
    rw [if_neg k2, if_neg k3]
  clear h hi ha e hn hn0 ih
  go_enter Try.func9, Try.ntmps9
  go_wp2_with fail
  simp only [wh]
  have HB0 : Hid (OfB w (rs.take hh) (rs.drop hh) (fun _ => false) (fun _ => undef) (w.alloc (.cells #[.slice none 0 0] 26)).drew) := Lib.hid (OfB.start (by go_grown) (heap_alloc_new _ _))
  refine wp_region_vals [some (.slice (some ⟨g, o, none⟩) n c), some (.int .i64 hh), some (.slice (some ⟨g, o, none⟩) hh c), none, some (.slice (some ⟨g, o, none⟩) n c), some (.int .i64 hh), some (.slice (some ⟨g, o + hh * 4, none⟩) (n - hh) (c - hh)), none, none, none] (OfB w (rs.take hh) (rs.drop hh))
    [some 19, some 20, some 21, some 22, some 23, some 24, some 25, some 26, some 27, none] (by kernel_rfl) (by kernel_rfl) (by kernel_rfl) (by kernel_rfl) (by kernel_rfl) (by kernel_rfl) HB0.out (fun i o ho => ?_) (fun Lz vz wz hL hB => ?_)
  · match i, ho with
    | 0, ho =>
      obtain rfl := Option.some.inj ho
      intro Az Lz vz wy Kz Ez hB k
      have e0 : Az.eval (.tmp 0) = .slice (some ⟨g, o, none⟩) n c := Ez.out 0 (by kernel_rfl)
      exact wpo_val (v := .slice (some ⟨g, o, none⟩) n c) (run_move e0) (k _ _ rfl (hB.other 0 _ (by decide)))
    | 1, ho =>
      obtain rfl := Option.some.inj ho
      intro Az Lz vz wy Kz Ez hB k
      have e3 : Az.eval (.tmp 3) = .int .i64 hh := Ez.out 3 (by kernel_rfl)
      exact wpo_val (v := .int .i64 hh) (run_move e3) (k _ _ rfl (hB.other 1 _ (by decide)))
    | 2, ho =>
      obtain rfl := Option.some.inj ho
      intro Az Lz vz wy Kz Ez hB k
      have e19 : Az.eval (.tmp 19) = .slice (some ⟨g, o, none⟩) n c := Ez.dep 0 19 (by kernel_rfl) rfl
      have e20 : Az.eval (.tmp 20) = .int .i64 hh := Ez.dep 1 20 (by kernel_rfl) rfl
      exact wpo_val (v := .slice (some ⟨g, o, none⟩) hh c) (run_sliceH e19 e20 (s1 wy)) (k _ _ rfl (hB.other 2 _ (by decide)))
    | 3, ho =>
      obtain rfl := Option.some.inj ho
      intro Az Lz vz wy Kz Ez hB k
      have e21 : Az.eval (.tmp 21) = .slice (some ⟨g, o, none⟩) hh c := Ez.dep 2 21 (by kernel_rfl) rfl
      refine wpo_call (run_callW (fun _ _ => by kernel_rfl)) (R := OfR wy (rs.take hh)) ?_ ?_
      · simp only [List.map_toArray, List.map_cons, List.map_nil, eval_const, e21]
        exact IH1.out wy (Below.trans0 hB.below)
      · rintro ez w' ⟨v, l, rfl, hr, hp, hb⟩
        exact ⟨_, rfl, k _ _ trivial ((hB.later hb).c3 hr hp)⟩
    | 4, ho =>
      obtain rfl := Option.some.inj ho
      intro Az Lz vz wy Kz Ez hB k
      have e0 : Az.eval (.tmp 0) = .slice (some ⟨g, o, none⟩) n c := Ez.out 0 (by kernel_rfl)
      exact wpo_val (v := .slice (some ⟨g, o, none⟩) n c) (run_move e0) (k _ _ rfl (hB.other 4 _ (by decide)))
    | 5, ho =>
      obtain rfl := Option.some.inj ho
      intro Az Lz vz wy Kz Ez hB k
      have e3 : Az.eval (.tmp 3) = .int .i64 hh := Ez.out 3 (by kernel_rfl)
      exact wpo_val (v := .int .i64 hh) (run_move e3) (k _ _ rfl (hB.other 5 _ (by decide)))
    | 6, ho =>
      obtain rfl := Option.some.inj ho
      intro Az Lz vz wy Kz Ez hB k
      have e23 : Az.eval (.tmp 23) = .slice (some ⟨g, o, none⟩) n c := Ez.dep 4 23 (by kernel_rfl) rfl
      have e24 : Az.eval (.tmp 24) = .int .i64 hh := Ez.dep 5 24 (by kernel_rfl) rfl
      exact wpo_val (v := .slice (some ⟨g, o + hh * 4, none⟩) (n - hh) (c - hh)) (run_slice1 e23 e24 (s2 wy)) (k _ _ rfl (hB.other 6 _ (by decide)))
    | 7, ho =>
      obtain rfl := Option.some.inj ho
      intro Az Lz vz wy Kz Ez hB k
      have e25 : Az.eval (.tmp 25) = .slice (some ⟨g, o + hh * 4, none⟩) (n - hh) (c - hh) := Ez.dep 6 25 (by kernel_rfl) rfl
      refine wpo_call (run_callW (fun _ _ => by kernel_rfl)) (R := OfR wy (rs.drop hh)) ?_ ?_
      · simp only [List.map_toArray, List.map_cons, List.map_nil, eval_const, e25]
        exact IH2.out wy (Below.trans0 hB.below)
      · rintro ez w' ⟨v, l, rfl, hr, hp, hb⟩
        exact ⟨_, rfl, k _ _ trivial ((hB.later hb).c7 hr hp)⟩
    | 8, ho =>
      obtain rfl := Option.some.inj ho
      intro Az Lz vz wy Kz Ez hB k
      have e22 : Az.eval (.tmp 22) = vz 3 := Ez.dep 3 22 (by kernel_rfl) rfl
      have e26 : Az.eval (.tmp 26) = vz 7 := Ez.dep 7 26 (by kernel_rfl) rfl
      have z9 : Lz 9 = false := Ez.late 9 _ rfl (by kernel_rfl)
      obtain ⟨l1, h1, p1⟩ := hB.r3 (Ez.had 3 (by kernel_rfl)) z9
      obtain ⟨l2, h2, p2⟩ := hB.r7 (Ez.had 7 (by kernel_rfl)) z9
      refine wpo_call (run_callW (fun _ _ => by kernel_rfl)) (R := TwoR wy l1 l2 orB) ?_ ?_
      · simp only [List.map_toArray, List.map_cons, List.map_nil, eval_const, e22, e26]
        exact gor_any _ _ _ _ wy h1 h2
      · rintro ez w' ⟨v, l, rfl, hr, hp, hb⟩
        exact ⟨_, rfl, k _ _ trivial ((hB.later hb).c8 hr (fun x y => by rw [hp, p1, p2]))⟩
    | 9, ho =>
      obtain rfl := Option.some.inj ho
      intro Az Lz vz wy Kz Ez hB k
      have e2 : Az.eval (.tmp 2) = .pointer (some ⟨w.heap.size, 0, none⟩) := Ez.out 2 (by kernel_rfl)
      have e27 : Az.eval (.tmp 27) = vz 8 := Ez.dep 8 27 (by kernel_rfl) rfl
      have z9 : Lz 9 = false := Ez.not
      obtain ⟨l, hr, hp⟩ := hB.r8 (Ez.had 8 (by kernel_rfl)) z9
      have hk := hB.k0 z9
      have hr' := hr
      obtain ⟨⟨u, q8, bs⟩, _, _⟩ := hr'
      rw [q8] at hr
      obtain ⟨a8, n8, c8, _, rfl, _⟩ := bs
      have hc : wy.cell? ⟨w.heap.size, 0, none⟩ = some (.slice none 0 0) := by simp [World.cell?, hk]
      have hf : wy.frozen? ⟨w.heap.size, 0, none⟩ = false := by simp [World.frozen?, hk]
      exact wpo_skip (w' := wy.setCell ⟨w.heap.size, 0, none⟩ (.slice a8 n8 c8)) (run_store e2 (e27.trans q8) (by simp [go_sem, hc, hf])) (k _ _ trivial (hB.c9 hk hr hp))
    | n + 10, ho => simp at ho
  · obtain ⟨u, hc, l, hr, hp⟩ := hB.k1 (hL 9 (by decide))
    have KBz := Lib.hid hB.below
    have FIN : Hid (OfR w rs (.returned (.agg #[u])) wz) := Lib.hid ⟨_, l, rfl, hr, fun x y => by rw [hp, ← anyP_split], hB.below⟩
    clear hB hL hp
    simp only [puts2, mix, Act.put, List.setIfInBounds_toArray, List.set_cons_zero, List.set_cons_succ, Nat.zero_add, Nat.reduceAdd, List.getElem?_cons_zero, List.getElem?_cons_succ]
    obtain ⟨⟨_, e, bs⟩, _, _⟩ := hr
    cases e
    obtain ⟨a', n', c', xs', rfl, _, rfl, _⟩ := bs
    go_wp2_with fail
    refine bodyPost_ret (v := .agg #[.slice a' l.length c']) (by simp [results, Try.results9, go_sem, hc]) rfl ?_
    exact FIN.out
theorem gof_any (rs : List (Int × Int × Int × Int)) : ∀ (v : Value) (w : World), rs.length < 1000000000000 → RS w v rs → I64s rs → Calls Try.prog 9 #[v] w (OfR w rs) := by
  have key : ∀ (n : Nat), n < 1000000000000 → ∀ (v : Value) (rs : List (Int × Int × Int × Int)) (w : World), rs.length = n → RS w v rs → I64s rs → Calls Try.prog 9 #[v] w (OfR w rs) := by
    intro n
    induction n using Nat.strongRecOn with
    | _ n ih =>
      intro hs v rs w hn h hi
      by_cases z : n < 2
      · match rs, hn with
        | [], hn =>
          obtain ⟨a, m, c, rfl, hm, _⟩ := h
          obtain rfl : m = 0 := hm
          exact of_none a c w
        | [r], hn => exact of_one v r w h hi
        | _ :: _ :: _, hn => simp at hn; omega
      · exact of_more n (fun m hm v rs w => ih m hm (by omega) v rs w) v rs w hn (by omega) hs h hi
  exact fun v w hl h hi => key rs.length hl v rs w rfl h hi
end Go.Proofs.Ytjemnjboopabpaa
