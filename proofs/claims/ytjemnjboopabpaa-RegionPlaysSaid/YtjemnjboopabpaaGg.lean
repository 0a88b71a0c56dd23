/- Package region: two regions together. Made by gen/combine.py. -/
import Derived.Test.YtjemnjboopabpaaGb
import Derived.Test.YtjemnjboopabpaaGd
import Derived.Test.YtjemnjboopabpaaGe
import Derived.Test.YtjemnjboopabpaaGf
import Derived.Test.YtjemnjboopabpaaBandsC
import Derived.WalkKit
import Derived.WalkSpells
import Derived.WalkLawsBesides
import Derived.Handy
import Derived.Lib.Hide
import Derived.Deep.QuietTactic
import Derived.BigQuiet
import Derived.LoopTactic
import Derived.Deep.RegionHeld3
import Derived.Deep.RegionWith
import Derived.Outline
import Derived.Deep.DeepCutAuto
namespace Go.Proofs.Ytjemnjboopabpaa
open Go.RowKit Go.Proofs.Reg Go.Proofs.Big Go.Proofs.Bands
set_option linter.unusedVariables false
set_option linter.unusedSimpArgs false
set_option maxRecDepth 100000
theorem mergedE (F : FuncId) (keep : Bool → Bool → Bool) (kp : Kp F keep) (u v : Value) (la lb : List Bd) (y : Int) (w : World) (hu : EV w u (Bands.rowAt la y)) (hv : EV w v (Bands.rowAt lb y)) (wa : Wf la) (wb : Wf lb) (ra : InR la) (rb : InR lb) :
    Calls Try.prog 74 #[u, v, .func (.func F) #[] #[]] w fun e w' => ∃ o v, e = .returned v ∧ Mrgd (Bands.rowAt la y) (Bands.rowAt lb y) keep o ∧ EV w' v o ∧ Below w.heap.size w w' := by
  obtain ⟨a, n, c, rfl, ea, _⟩ := hu
  obtain ⟨b, m, d, rfl, eb, _⟩ := hv
  have la' := row_len wa ra y
  have lb' := row_len wb rb y
  refine (merged_any F keep kp a n c _ b m d _ w ea eb (rowAt_asc wa y).1 (rowAt_asc wb y).1 (rowAt_asc wa y).2 (rowAt_asc wb y).2 (fun e me => by have := la'.2 e me; omega) (fun e me => by have := lb'.2 e me; omega) (by have := la'.1; have := lb'.1; omega)).mono ?_
  rintro e w' ⟨o, v, rfl, h1, h2, h3, h4, h5, h6, h7⟩
  exact ⟨o, v, rfl, ⟨h2, h3, h4, h6⟩, h1, h7⟩
def R12 (wl : World) (la lb l : List Bd) (top bot : Int) (keep : Bool → Bool → Bool) (v : Value) (wy : World) : Prop := ∃ o n ys, Mrgd (Bands.rowAt la top) (Bands.rowAt lb top) keep o ∧ wy.ownsRow wl.heap.size 86 3 v n ys ∧ BL wy (stk l ⟨top, bot, o⟩) ys ∧ n = (stk l ⟨top, bot, o⟩).length
/-- what the region of a round keeps: wl is the world ahead of the bands -/
structure CmB (wl : World) (la lb l : List Bd) (top bot : Int) (keep : Bool → Bool → Bool) (v7 : Value) (xs : List Value) (L : Nat → Bool) (vz : Nat → Value) (wy : World) : Prop where
  below : Below wl.heap.size wl wy
  r5 : L 5 = true → L 12 = false → EV wy (vz 5) (Bands.rowAt la top)
  r8 : L 8 = true → L 12 = false → EV wy (vz 8) (Bands.rowAt lb top)
  r10 : L 10 = true → L 12 = false → ∃ o, Mrgd (Bands.rowAt la top) (Bands.rowAt lb top) keep o ∧ EV wy (vz 10) o
  r11 : L 11 = true → vz 11 = .agg #[.int .i64 top, .int .i64 bot, vz 10]
  own : L 12 = false → wy.ownsRow wl.heap.size 86 3 v7 l.length xs ∧ BL wy l xs
  r12 : L 12 = true → R12 wl la lb l top bot keep (vz 12) wy
  r13 : L 13 = true → vz 13 = vz 12
  ord : L 12 = true → L 11 = true
  ord2 : L 11 = true → L 10 = true
section
variable {wl : World} {la lb l : List Bd} {top bot : Int} {keep : Bool → Bool → Bool} {v7 : Value} {xs : List Value} {L : Nat → Bool} {vz : Nat → Value} {wy : World}
theorem CmB.other (h : CmB wl la lb l top bot keep v7 xs L vz wy) (i : Nat) (v : Value) (hi : i ≠ 5 ∧ i ≠ 8 ∧ i ≠ 10 ∧ i ≠ 11 ∧ i ≠ 12 ∧ i ≠ 13) : CmB wl la lb l top bot keep v7 xs (addL L i) (upd vz i v) wy := by
  obtain ⟨h5, h8, h10, h11, h12, h13⟩ := hi
  have a : ∀ k, k ≠ i → addL L i k = L k := fun k hk => by simp [addL, hk]
  have b : ∀ k, k ≠ i → upd vz i v k = vz k := fun k hk => by simp [upd, hk]
  refine ⟨h.below, ?_, ?_, ?_, ?_, ?_, ?_, ?_, ?_, ?_⟩
  · rw [a 5 (Ne.symm h5), a 12 (Ne.symm h12), b 5 (Ne.symm h5)]; exact h.r5
  · rw [a 8 (Ne.symm h8), a 12 (Ne.symm h12), b 8 (Ne.symm h8)]; exact h.r8
  · rw [a 10 (Ne.symm h10), a 12 (Ne.symm h12), b 10 (Ne.symm h10)]; exact h.r10
  · rw [a 11 (Ne.symm h11), b 11 (Ne.symm h11), b 10 (Ne.symm h10)]; exact h.r11
  · rw [a 12 (Ne.symm h12)]; exact h.own
  · rw [a 12 (Ne.symm h12), b 12 (Ne.symm h12)]; exact h.r12
  · rw [a 13 (Ne.symm h13), b 12 (Ne.symm h12), b 13 (Ne.symm h13)]; exact h.r13
  · rw [a 12 (Ne.symm h12), a 11 (Ne.symm h11)]; exact h.ord
  · rw [a 11 (Ne.symm h11), a 10 (Ne.symm h10)]; exact h.ord2
theorem CmB.later (h : CmB wl la lb l top bot keep v7 xs L vz wy) {w' : World} (hb : Below wy.heap.size wy w') : CmB wl la lb l top bot keep v7 xs L vz w' := by
  refine ⟨bel_tr0 h.below hb, fun q p => (h.r5 q p).later hb, fun q p => (h.r8 q p).later hb, fun q p => ?_, h.r11, fun q => ⟨owns_later (h.own q).1 hb, (h.own q).2.later hb⟩, fun q => ?_, h.r13, h.ord, h.ord2⟩
  · obtain ⟨o, m, e⟩ := h.r10 q p
    exact ⟨o, m, e.later hb⟩
  · obtain ⟨o, n, ys, m, e, f, g⟩ := h.r12 q
    exact ⟨o, n, ys, m, owns_later e hb, f.later hb, g⟩
theorem CmB.c5 (h : CmB wl la lb l top bot keep v7 xs L vz wy) {v : Value} (he : EV wy v (Bands.rowAt la top)) : CmB wl la lb l top bot keep v7 xs (addL L 5) (upd vz 5 v) wy := by
  refine ⟨h.below, fun _ _ => by simpa [upd] using he, ?_, ?_, ?_, ?_, ?_, ?_, ?_, ?_⟩ <;> simp [addL, upd]
  · exact h.r8
  · exact h.r10
  · exact h.r11
  · exact h.own
  · exact h.r12
  · exact h.r13
  · exact h.ord
  · exact h.ord2
theorem CmB.c8 (h : CmB wl la lb l top bot keep v7 xs L vz wy) {v : Value} (he : EV wy v (Bands.rowAt lb top)) : CmB wl la lb l top bot keep v7 xs (addL L 8) (upd vz 8 v) wy := by
  refine ⟨h.below, ?_, fun _ _ => by simpa [upd] using he, ?_, ?_, ?_, ?_, ?_, ?_, ?_⟩ <;> simp [addL, upd]
  · exact h.r5
  · exact h.r10
  · exact h.r11
  · exact h.own
  · exact h.r12
  · exact h.r13
  · exact h.ord
  · exact h.ord2
theorem CmB.c10 (h : CmB wl la lb l top bot keep v7 xs L vz wy) {v : Value} {o : List Int} (hm : Mrgd (Bands.rowAt la top) (Bands.rowAt lb top) keep o) (he : EV wy v o) (n11 : L 11 = false) : CmB wl la lb l top bot keep v7 xs (addL L 10) (upd vz 10 v) wy := by
  refine ⟨h.below, ?_, ?_, fun _ _ => ⟨o, hm, by simpa [upd] using he⟩, ?_, ?_, ?_, ?_, ?_, ?_⟩ <;> simp [addL, upd]
  · exact h.r5
  · exact h.r8
  · rw [n11]; simp
  · exact h.own
  · exact h.r12
  · exact h.r13
  · exact h.ord
theorem CmB.c11 (h : CmB wl la lb l top bot keep v7 xs L vz wy) (h10 : L 10 = true) : CmB wl la lb l top bot keep v7 xs (addL L 11) (upd vz 11 (.agg #[.int .i64 top, .int .i64 bot, vz 10])) wy := by
  refine ⟨h.below, ?_, ?_, ?_, fun _ => by simp [upd], ?_, ?_, ?_, ?_, ?_⟩ <;> simp [addL, upd]
  · exact h.r5
  · exact h.r8
  · exact h.r10
  · exact h.own
  · exact h.r12
  · exact h.r13
  · exact h10
theorem CmB.c12 (h : CmB wl la lb l top bot keep v7 xs L vz wy) {w' : World} {v : Value} {o : List Int} {n : Nat} {ys : List Value} (hb : Below wl.heap.size wy w') (hm : Mrgd (Bands.rowAt la top) (Bands.rowAt lb top) keep o) (ho : w'.ownsRow wl.heap.size 86 3 v n ys) (hl : BL w' (stk l ⟨top, bot, o⟩) ys) (hn : n = (stk l ⟨top, bot, o⟩).length) (n13 : L 13 = false) (h11 : L 11 = true) :
    CmB wl la lb l top bot keep v7 xs (addL L 12) (upd vz 12 v) w' := by
  refine ⟨⟨hb.os.trans h.below.os, hb.tape.trans h.below.tape, hb.output.trans h.below.output, Nat.le_trans h.below.size hb.size, fun k hk => (hb.block k hk).trans (h.below.block k hk)⟩, ?_, ?_, ?_, ?_, ?_, fun _ => ⟨o, n, ys, hm, by simpa [upd] using ho, hl, hn⟩, ?_, ?_, ?_⟩ <;> simp [addL, upd]
  · exact h.r11
  · rw [n13]; simp
  · exact h11
  · exact h.ord2
theorem CmB.c13 (h : CmB wl la lb l top bot keep v7 xs L vz wy) : CmB wl la lb l top bot keep v7 xs (addL L 13) (upd vz 13 (vz 12)) wy := by
  refine ⟨h.below, ?_, ?_, ?_, ?_, ?_, ?_, fun _ => by simp [upd], ?_, ?_⟩ <;> simp [addL, upd]
  · exact h.r5
  · exact h.r8
  · exact h.r10
  · exact h.r11
  · exact h.own
  · exact h.r12
  · exact h.ord
  · exact h.ord2
theorem CmB.start (hb : Below wl.heap.size wl wy) (ho : wy.ownsRow wl.heap.size 86 3 v7 l.length xs) (hl : BL wy l xs) : CmB wl la lb l top bot keep v7 xs (fun _ => false) (fun _ => undef) wy.drew :=
  ⟨hb.drew, by simp, by simp, by simp, by simp, fun _ => ⟨ho.drew, hl.later ((Below.refl _ _).drew)⟩, by simp, by simp, by simp, by simp⟩
end
theorem belT {w wl wy : World} (h : Below w.heap.size w wl) (k : Below wl.heap.size wl wy) : Below w.heap.size w wy := bel_tr0 h k
theorem reg_ne_int : (26 : TypeId) ≠ 3 := by decide
theorem reg_ne_band : (26 : TypeId) ≠ 86 := by decide
theorem EV.setR {w : World} {v : Value} {es : List Int} (h : EV w v es) {b : Nat} {cs : Array Value} {fz : Nat × Nat} (hk : w.heap[b]? = some (.cells cs 26 fz)) (u : Value) : EV (w.setCell ⟨b, 0, none⟩ u) v es :=
  h.kept fun g cs' fz' e => Below.heap_setCell w _ u g fun q => by
    have q' : g = b := q
    rw [q', hk] at e
    simp only [Option.some.injEq, Obj.cells.injEq] at e
    exact reg_ne_int e.2.1
theorem BS.setR {w : World} {v : Value} {l : List Bd} (h : BS w v l) {b : Nat} {cs : Array Value} {fz : Nat × Nat} (hk : w.heap[b]? = some (.cells cs 26 fz)) {x : Option Addr} {y z : Nat} (hs : w.cell? ⟨b, 0, none⟩ = some (.slice x y z)) (u : Value) : BS (w.setCell ⟨b, 0, none⟩ u) v l := by
  obtain ⟨a, n, c, xs, rfl, h1, h2, h3, h4, h5⟩ := h
  refine ⟨a, n, c, xs, rfl, h1.all fun _ _ e => e.setR hk u, h2, h3, h4, fun hn => ?_⟩
  obtain ⟨g, hg, hc⟩ := h5 hn
  refine ⟨g, hg, fun j x hj => ?_⟩
  have gb : g ≠ b := fun e => by
    obtain ⟨ev, x0, _⟩ := h1.get 0 l[0] (List.getElem?_eq_getElem (by omega))
    have := hc _ _ x0
    rw [e] at this
    simp only [Nat.mul_zero] at this
    rw [hs] at this
    cases this
  rw [World.cell?_of_block (Below.heap_setCell w ⟨b, 0, none⟩ u g gb)]
  exact hc j x hj
/-- two regions together -/
def CmbR (w : World) (la lb : List Bd) (keep : Bool → Bool → Bool) (e : Ending) (w' : World) : Prop := ∃ v l, e = .returned (.agg #[v]) ∧ BS w' v l ∧ Wf l ∧ InR l ∧ (∀ x y, hasP l x y = keep (hasP la x y) (hasP lb x y)) ∧ Below w.heap.size w w'
set_option maxHeartbeats 4000000 in
theorem combine_any (F : FuncId) (keep : Bool → Bool → Bool) (kp : Kp F keep) (va vb : Value) (la lb : List Bd) (w : World) (ha : BS w va la) (hb : BS w vb lb) (wa : Wf la) (wb : Wf lb) (ra : InR la) (rb : InR lb) :
    Calls Try.prog 38 #[.agg #[va], .agg #[vb], .func (.func F) #[] #[]] w (CmbR w la lb keep) := by
  have HA := Lib.hid ha
  have HB := Lib.hid hb
  have KP := Lib.hid kp
  have WA := Lib.hid wa
  have WB := Lib.hid wb
  have RA := Lib.hid ra
  have RB := Lib.hid rb
  have NA := bands_len wa ra
  have NB := bands_len wb rb
  obtain ⟨a, na, ca, xa, rfl, _, rfl, _⟩ := ha
  obtain ⟨b, nb, cb, xb, rfl, _, rfl, _⟩ := hb
  obtain ⟨va, hva⟩ : ∃ v, Value.slice a la.length ca = v := ⟨_, rfl⟩
  obtain ⟨vb, hvb⟩ : ∃ v, Value.slice b lb.length cb = v := ⟨_, rfl⟩
  rw [hva] at HA
  rw [hvb] at HB
  clear kp wa wb ra rb
  go_enter Try.func38, Try.ntmps38
  go_wp2_with fail
  rw [hva, hvb]
  refine (levels_any _ 2 va vb la lb _ (HA.out.later ?_) (HB.out.later ?_) ?_ ?_).mono ?_
  · go_grown
  · go_grown
  · simp [go_sem]
  · simp [go_sem]
  rintro _ wl ⟨v, lv, rfl, he, hasc, lm, _, hb⟩
  have BL0 := Lib.hid (show Below w.heap.size w wl from bel_tr0 (by go_grown) hb)
  have CA : Hid (wl.cell? ⟨w.heap.size, 0, none⟩ = some va) := Lib.hid (by
    rw [World.cell?_of_block (hb.block w.heap.size (by simp; omega))]
    simp [go_sem])
  have CB : Hid (wl.cell? ⟨w.heap.size + 1, 0, none⟩ = some vb) := Lib.hid (by
    rw [World.cell?_of_block (hb.block (w.heap.size + 1) (by simp))]
    simp [go_sem])
  have CR : Hid (wl.heap[w.heap.size + 1 + 1]? = some (.cells #[.slice none 0 0] 26 (0, 0))) := Lib.hid (by
    rw [hb.block (w.heap.size + 1 + 1) (by simp), heap_alloc_old _ _ (by simp)]
    have e : w.heap.size + 1 + 1 = ((w.alloc (Obj.cells #[va] 26)).alloc (Obj.cells #[vb] 26)).heap.size := by simp
    rw [e]
    exact heap_alloc_new _ _)
  have AS := Lib.hid hasc
  have LM : Hid (Lev lv la lb) := Lib.hid lm
  obtain ⟨va', ln, lc, rfl, E, kd⟩ := he
  have lnl := E.r.hlen
  have CE := Lib.hid E
  have KD := Lib.hid kd
  clear hb E kd hasc lm
  go_wp2_with fail
  go_loopw [7, 9] (fun s7 s9 wr => ∃ (i : Nat) (l : List Bd) (pe : Option Addr) (ce : Nat) (xs : List Value), s7 = .slice pe l.length ce ∧ s9 = .int .i64 i ∧ 1 ≤ i ∧ Hid (CI lv la lb keep i l) ∧ Hid (wr.ownsRow wl.heap.size 86 3 (.slice pe l.length ce) l.length xs) ∧ Hid (BL wr l xs) ∧ wl.heap.size ≤ wr.heap.size ∧ Hid (Below wl.heap.size wl wr)) (fun _ s9 _ => ln - (intOf s9).toNat)
  case atStart => exact ⟨1, [], none, 0, [], rfl, rfl, by omega, Lib.hid (CI.start KP.out.no AS.out LM.out), Lib.hid (World.ownsRow_nil _ _ _ _), Lib.hid rfl, Nat.le_refl _, Lib.hid (Below.refl _ _)⟩
  case round =>
    obtain ⟨ii, l, pe, ce, xs, rfl, rfl, i1, HC, HO, HBL, hsz, KBl⟩ := hrel
    have LB := Lib.hid (bands_len HC.out.wf HC.out.inr)
    by_cases lt : ii < ln
    · have lt' : (ii : Int) < (ln : Int) := by omega
      obtain ⟨lg, lo, cs, fz, rfl, _⟩ := KD.out (by omega)
      obtain ⟨p, hp, hce⟩ := CE.out.r.addr (by omega)
      have hp := Option.some.inj hp
      subst hp
      obtain ⟨jj, hj⟩ : ∃ jj, jj = ii - 1 := ⟨_, rfl⟩
      have ji : ii = jj + 1 := by omega
      obtain ⟨top, htop⟩ : ∃ x, lv.getD jj 0 = x := ⟨_, rfl⟩
      obtain ⟨bot, hbot⟩ : ∃ x, lv.getD ii 0 = x := ⟨_, rfl⟩
      have T0 : Hid (wr.cell? ⟨lg, lo + jj, none⟩ = some (.int .i64 top)) := Lib.hid (by
        rw [← add_none, ← htop]; exact cell_later KBl.out (hce jj (by omega)))
      have T1 : Hid (wr.cell? ⟨lg, lo + ii, none⟩ = some (.int .i64 bot)) := Lib.hid (by
        rw [← add_none, ← hbot]; exact cell_later KBl.out (hce ii (by omega)))
      have wJ : IntKind.i64.wrap ((ii : Int) - 1) = (jj : Int) := by
        have := CE.out.cm; have := CE.out.nc
        rw [IntKind.wrap_i64]; omega
      have ixx : ∀ (q : Nat), q < ln → ∀ wy : World, (Instr.indexAt 69 (.slice (some ⟨lg, lo, none⟩) ln lc) (.int .i64 q)).run Try.prog wy = .ok (.pointer (some ⟨lg, lo + q, none⟩)) wy := fun q hq wy => by
        have h1 : (q : Int) < (ln : Int) := by omega
        have h0 : (0 : Int) ≤ (q : Int) := by omega
        simp [go_sem, h0, h1, Addr.add]
        try (intro h; omega)
      have ix0 := ixx jj (by omega)
      have ix1 := ixx ii lt
      have ST := Lib.hid (fun (o : List Int) (m : Mrgd (Bands.rowAt la top) (Bands.rowAt lb top) keep o) => (by
        have := HC.out.step AS.out LM.out i1 (by omega) WA.out WB.out RA.out RB.out (o := o) (by rw [← hj, htop]; exact m)
        rw [← hj, htop, hbot] at this
        exact this : CI lv la lb keep (ii + 1) (stk l ⟨top, bot, o⟩)))
      have NZ : Hid (∀ d ∈ l, d.es ≠ []) := Lib.hid (fun d m => (wf_ok HC.out.wf d m).ne)
      clear hce ixx htop hbot hj ji
      go_wp2_with fail
      have KB := Lib.hid (Below.refl wr.heap.size wr)
      have KT := Lib.hid (Tab.nil wr)
      refine wp_region_vals [some (.slice (some ⟨lg, lo, none⟩) ln lc), some (.int .i64 ii), some (.int .i64 jj), some (.pointer (some ⟨lg, lo + jj, none⟩)), some (.int .i64 top), some (.slice (some ⟨lg, lo, none⟩) ln lc), some (.int .i64 ii), some (.pointer (some ⟨lg, lo + ii, none⟩)), some (.int .i64 bot), some (.int .i64 top), some (.int .i64 bot)] (fun Lz _ wy => Below wr.heap.size wr wy ∧ Tab wy [])
        [some 22, some 23, some 24, some 25, some 26, some 27, some 28, some 29, some 30, some 10, some 11] (by kernel_rfl) (by kernel_rfl) (by kernel_rfl) (by kernel_rfl) (by kernel_rfl) (by kernel_rfl) ⟨KB.out.drew, KT.out.later ((Below.refl _ _).drew)⟩ (fun i o ho => ?_) (fun Lz vz wz hL hB => ?_)
      · match i, ho with
        | 0, ho =>
          obtain rfl := Option.some.inj ho
          intro Az Lz vz wy Kz Ez hB k
          have e8 : Az.eval (.tmp 8) = .slice (some ⟨lg, lo, none⟩) ln lc := Ez.out 8 (by kernel_rfl)
          exact wpo_val (v := .slice (some ⟨lg, lo, none⟩) ln lc) (run_move e8) (k _ _ rfl hB)
        | 1, ho =>
          obtain rfl := Option.some.inj ho
          intro Az Lz vz wy Kz Ez hB k
          have e9 : Az.eval (.tmp 9) = .int .i64 ii := Ez.out 9 (by kernel_rfl)
          exact wpo_val (v := .int .i64 ii) (run_move e9) (k _ _ rfl hB)
        | 2, ho =>
          obtain rfl := Option.some.inj ho
          intro Az Lz vz wy Kz Ez hB k
          have e23 : Az.eval (.tmp 23) = .int .i64 ii := Ez.dep 1 23 (by kernel_rfl) rfl
          exact wpo_val (v := .int .i64 jj) (run_bin e23 rfl (by simp [go_sem]) (by simp [go_sem, wJ])) (k _ _ rfl hB)
        | 3, ho =>
          obtain rfl := Option.some.inj ho
          intro Az Lz vz wy Kz Ez hB k
          have e22 : Az.eval (.tmp 22) = .slice (some ⟨lg, lo, none⟩) ln lc := Ez.dep 0 22 (by kernel_rfl) rfl
          have e24 : Az.eval (.tmp 24) = .int .i64 jj := Ez.dep 2 24 (by kernel_rfl) rfl
          exact wpo_val (v := .pointer (some ⟨lg, lo + jj, none⟩)) (run_index e22 e24 (ix0 wy)) (k _ _ rfl hB)
        | 4, ho =>
          obtain rfl := Option.some.inj ho
          intro Az Lz vz wy Kz Ez hB k
          have e25 : Az.eval (.tmp 25) = .pointer (some ⟨lg, lo + jj, none⟩) := Ez.dep 3 25 (by kernel_rfl) rfl
          exact wpo_val (v := .int .i64 top) (run_load e25 (by have c := cell_later hB.1 T0.out; simp [go_sem, c])) (k _ _ rfl hB)
        | 5, ho =>
          obtain rfl := Option.some.inj ho
          intro Az Lz vz wy Kz Ez hB k
          have e8 : Az.eval (.tmp 8) = .slice (some ⟨lg, lo, none⟩) ln lc := Ez.out 8 (by kernel_rfl)
          exact wpo_val (v := .slice (some ⟨lg, lo, none⟩) ln lc) (run_move e8) (k _ _ rfl hB)
        | 6, ho =>
          obtain rfl := Option.some.inj ho
          intro Az Lz vz wy Kz Ez hB k
          have e9 : Az.eval (.tmp 9) = .int .i64 ii := Ez.out 9 (by kernel_rfl)
          exact wpo_val (v := .int .i64 ii) (run_move e9) (k _ _ rfl hB)
        | 7, ho =>
          obtain rfl := Option.some.inj ho
          intro Az Lz vz wy Kz Ez hB k
          have e27 : Az.eval (.tmp 27) = .slice (some ⟨lg, lo, none⟩) ln lc := Ez.dep 5 27 (by kernel_rfl) rfl
          have e28 : Az.eval (.tmp 28) = .int .i64 ii := Ez.dep 6 28 (by kernel_rfl) rfl
          exact wpo_val (v := .pointer (some ⟨lg, lo + ii, none⟩)) (run_index e27 e28 (ix1 wy)) (k _ _ rfl hB)
        | 8, ho =>
          obtain rfl := Option.some.inj ho
          intro Az Lz vz wy Kz Ez hB k
          have e29 : Az.eval (.tmp 29) = .pointer (some ⟨lg, lo + ii, none⟩) := Ez.dep 7 29 (by kernel_rfl) rfl
          exact wpo_val (v := .int .i64 bot) (run_load e29 (by have c := cell_later hB.1 T1.out; simp [go_sem, c])) (k _ _ rfl hB)
        | 9, ho =>
          obtain rfl := Option.some.inj ho
          intro Az Lz vz wy Kz Ez hB k
          have e26 : Az.eval (.tmp 26) = .int .i64 top := Ez.dep 4 26 (by kernel_rfl) rfl
          exact wpo_val (v := .int .i64 top) (run_assign e26) (k _ _ rfl hB)
        | 10, ho =>
          obtain rfl := Option.some.inj ho
          intro Az Lz vz wy Kz Ez hB k
          have e30 : Az.eval (.tmp 30) = .int .i64 bot := Ez.dep 8 30 (by kernel_rfl) rfl
          exact wpo_val (v := .int .i64 bot) (run_assign e30) (k _ _ rfl hB)
        | n + 11, ho => simp at ho
      · obtain ⟨hk, hT⟩ := hB
        have KB := Lib.hid hk
        have KT := Lib.hid hT
        clear hk hT hL
        simp only [puts2, mix, Act.put, List.setIfInBounds_toArray, List.set_cons_zero, List.set_cons_succ, Nat.zero_add, Nat.reduceAdd, List.getElem?_cons_zero, List.getElem?_cons_succ]

        have HB0 : Hid (CmB wl la lb l top bot keep (.slice pe l.length ce) xs (fun _ => false) (fun _ => undef) wz.drew) := Lib.hid (CmB.start (bel_tr0 KBl.out KB.out) (owns_later HO.out KB.out) (HBL.out.later KB.out))
        clear KB KT
        go_wp2_with fail
        refine wp_region_vals [some (.slice pe l.length ce), some (.int .i64 top), some (.int .i64 bot), some (.agg #[va]), some (.int .i64 top), none, some (.agg #[vb]), some (.int .i64 top), none, some (.func (.func F) #[] #[]), none, none, none, none] (CmB wl la lb l top bot keep (.slice pe l.length ce) xs)
          [some 31, some 32, some 33, some 34, some 35, some 36, some 37, some 38, some 39, some 40, some 41, some 42, some 43, some 7] (by kernel_rfl) (by kernel_rfl) (by kernel_rfl) (by kernel_rfl) (by kernel_rfl) (by kernel_rfl) HB0.out (fun i o ho => ?_) (fun Lz vz wz hL hB => ?_)
        · match i, ho with
          | 0, ho =>
            obtain rfl := Option.some.inj ho
            intro Az Lz vz wy Kz Ez hB k
            have e7 : Az.eval (.tmp 7) = .slice pe l.length ce := Ez.keep1 7 13 (Ez.late 13 _ rfl (by kernel_rfl)) (by kernel_rfl)
            exact wpo_val (v := .slice pe l.length ce) (run_move e7) (k _ _ rfl (hB.other 0 _ (by decide)))
          | 1, ho =>
            obtain rfl := Option.some.inj ho
            intro Az Lz vz wy Kz Ez hB k
            have e10 : Az.eval (.tmp 10) = .int .i64 top := Ez.out 10 (by kernel_rfl)
            exact wpo_val (v := .int .i64 top) (run_move e10) (k _ _ rfl (hB.other 1 _ (by decide)))
          | 2, ho =>
            obtain rfl := Option.some.inj ho
            intro Az Lz vz wy Kz Ez hB k
            have e11 : Az.eval (.tmp 11) = .int .i64 bot := Ez.out 11 (by kernel_rfl)
            exact wpo_val (v := .int .i64 bot) (run_move e11) (k _ _ rfl (hB.other 2 _ (by decide)))
          | 3, ho =>
            obtain rfl := Option.some.inj ho
            intro Az Lz vz wy Kz Ez hB k
            have e3 : Az.eval (.tmp 3) = .pointer (some ⟨w.heap.size, 0, none⟩) := Ez.out 3 (by kernel_rfl)
            have c := cell_later hB.below CA.out
            exact wpo_val (v := .agg #[va]) (run_load e3 (by simp [go_sem, c])) (k _ _ rfl (hB.other 3 _ (by decide)))
          | 4, ho =>
            obtain rfl := Option.some.inj ho
            intro Az Lz vz wy Kz Ez hB k
            have e10 : Az.eval (.tmp 10) = .int .i64 top := Ez.out 10 (by kernel_rfl)
            exact wpo_val (v := .int .i64 top) (run_move e10) (k _ _ rfl (hB.other 4 _ (by decide)))
          | 5, ho =>
            obtain rfl := Option.some.inj ho
            intro Az Lz vz wy Kz Ez hB k
            have e34 : Az.eval (.tmp 34) = .agg #[va] := Ez.dep 3 34 (by kernel_rfl) rfl
            have e35 : Az.eval (.tmp 35) = .int .i64 top := Ez.dep 4 35 (by kernel_rfl) rfl
            refine wpo_call (run_callW (fun _ _ => by kernel_rfl)) (R := RowR wy la top) ?_ ?_
            · simp only [List.map_toArray, List.map_cons, List.map_nil, eval_const, e34, e35]
              exact row_any _ _ _ wy (HA.out.later (belT BL0.out hB.below)) WA.out
            · rintro ez w' ⟨ev, rfl, he, hb⟩
              exact ⟨_, rfl, k _ _ trivial ((hB.later hb).c5 he)⟩
          | 6, ho =>
            obtain rfl := Option.some.inj ho
            intro Az Lz vz wy Kz Ez hB k
            have e4 : Az.eval (.tmp 4) = .pointer (some ⟨w.heap.size + 1, 0, none⟩) := Ez.out 4 (by kernel_rfl)
            have c := cell_later hB.below CB.out
            exact wpo_val (v := .agg #[vb]) (run_load e4 (by simp [go_sem, c])) (k _ _ rfl (hB.other 6 _ (by decide)))
          | 7, ho =>
            obtain rfl := Option.some.inj ho
            intro Az Lz vz wy Kz Ez hB k
            have e10 : Az.eval (.tmp 10) = .int .i64 top := Ez.out 10 (by kernel_rfl)
            exact wpo_val (v := .int .i64 top) (run_move e10) (k _ _ rfl (hB.other 7 _ (by decide)))
          | 8, ho =>
            obtain rfl := Option.some.inj ho
            intro Az Lz vz wy Kz Ez hB k
            have e37 : Az.eval (.tmp 37) = .agg #[vb] := Ez.dep 6 37 (by kernel_rfl) rfl
            have e38 : Az.eval (.tmp 38) = .int .i64 top := Ez.dep 7 38 (by kernel_rfl) rfl
            refine wpo_call (run_callW (fun _ _ => by kernel_rfl)) (R := RowR wy lb top) ?_ ?_
            · simp only [List.map_toArray, List.map_cons, List.map_nil, eval_const, e37, e38]
              exact row_any _ _ _ wy (HB.out.later (belT BL0.out hB.below)) WB.out
            · rintro ez w' ⟨ev, rfl, he, hb⟩
              exact ⟨_, rfl, k _ _ trivial ((hB.later hb).c8 he)⟩
          | 9, ho =>
            obtain rfl := Option.some.inj ho
            intro Az Lz vz wy Kz Ez hB k
            have e2 : Az.eval (.tmp 2) = .func (.func F) #[] #[] := Ez.out 2 (by kernel_rfl)
            exact wpo_val (v := .func (.func F) #[] #[]) (run_move e2) (k _ _ rfl (hB.other 9 _ (by decide)))
          | 10, ho =>
            obtain rfl := Option.some.inj ho
            intro Az Lz vz wy Kz Ez hB k
            have e36 : Az.eval (.tmp 36) = vz 5 := Ez.dep 5 36 (by kernel_rfl) rfl
            have e39 : Az.eval (.tmp 39) = vz 8 := Ez.dep 8 39 (by kernel_rfl) rfl
            have e40 : Az.eval (.tmp 40) = .func (.func F) #[] #[] := Ez.dep 9 40 (by kernel_rfl) rfl
            have z11 : Lz 11 = false := Ez.late 11 _ rfl (by kernel_rfl)
            have z12 : Lz 12 = false := by
              cases h12 : Lz 12 with
              | false => rfl
              | true => rw [hB.ord h12] at z11; cases z11
            refine wpo_call (run_callW (fun _ _ => by kernel_rfl)) (R := fun e w' => ∃ o v, e = .returned v ∧ Mrgd (Bands.rowAt la top) (Bands.rowAt lb top) keep o ∧ EV w' v o ∧ Below wy.heap.size wy w') ?_ ?_
            · simp only [List.map_toArray, List.map_cons, List.map_nil, eval_const, e36, e39, e40]
              exact mergedE F keep KP.out _ _ la lb top wy (hB.r5 (Ez.had 5 (by kernel_rfl)) z12) (hB.r8 (Ez.had 8 (by kernel_rfl)) z12) WA.out WB.out RA.out RB.out
            · rintro ez w' ⟨o, ev, rfl, hm, he, hb⟩
              exact ⟨_, rfl, k _ _ trivial ((hB.later hb).c10 hm he z11)⟩
          | 11, ho =>
            obtain rfl := Option.some.inj ho
            intro Az Lz vz wy Kz Ez hB k
            have e32 : Az.eval (.tmp 32) = .int .i64 top := Ez.dep 1 32 (by kernel_rfl) rfl
            have e33 : Az.eval (.tmp 33) = .int .i64 bot := Ez.dep 2 33 (by kernel_rfl) rfl
            have e41 : Az.eval (.tmp 41) = vz 10 := Ez.dep 10 41 (by kernel_rfl) rfl
            obtain ⟨o10, _, a10, n10, c10, q10, _⟩ := hB.r10 (Ez.had 10 (by kernel_rfl)) (Ez.late 12 _ rfl (by kernel_rfl))
            exact wpo_val (v := .agg #[.int .i64 top, .int .i64 bot, vz 10]) (run_build (l' := #[(0, .int .i64 top), (1, .int .i64 bot), (2, vz 10)]) (by simp only [List.map_toArray, List.map_cons, List.map_nil, eval_const, e32, e33, e41]) (by rw [q10]; simp [go_sem])) (k _ _ trivial (hB.c11 (Ez.had 10 (by kernel_rfl))))
          | 12, ho =>
            obtain rfl := Option.some.inj ho
            intro Az Lz vz wy Kz Ez hB k
            have e31 : Az.eval (.tmp 31) = .slice pe l.length ce := Ez.dep 0 31 (by kernel_rfl) rfl
            have e42 : Az.eval (.tmp 42) = vz 11 := Ez.dep 11 42 (by kernel_rfl) rfl
            have z13 : Lz 13 = false := Ez.late 13 _ rfl (by kernel_rfl)
            have z12 : Lz 12 = false := Ez.not
            obtain ⟨ho, hbl⟩ := hB.own z12
            have h11 := Ez.had 11 (by kernel_rfl)
            obtain ⟨o, hm, he⟩ := hB.r10 (hB.ord2 h11) z12
            refine wpo_call (run_callW (fun _ _ => by kernel_rfl)) (R := StkR wy wl.heap.size l ⟨top, bot, o⟩) ?_ ?_
            · simp only [List.map_toArray, List.map_cons, List.map_nil, eval_const, e31, e42]
              rw [hB.r11 h11]
              exact stacked_any wl.heap.size _ _ _ l top bot _ o wy ho hbl rfl hB.below.size he (by have := LB.out; omega) NZ.out
            · rintro ez w' ⟨v, n, ys, rfl, h1, h2, h3, h4⟩
              exact ⟨_, rfl, k _ _ trivial (hB.c12 h4 hm h1 h2 h3 z13 h11)⟩
          | 13, ho =>
            obtain rfl := Option.some.inj ho
            intro Az Lz vz wy Kz Ez hB k
            have e43 : Az.eval (.tmp 43) = vz 12 := Ez.dep 12 43 (by kernel_rfl) rfl
            exact wpo_val (v := vz 12) (run_assign e43) (k _ _ trivial hB.c13)
          | n + 14, ho => simp at ho
        · obtain ⟨o, n2, ys, hm, ho, hbl, hn2⟩ := hB.r12 (hL 12 (by decide))
          have h13 := hB.r13 (hL 13 (by decide))
          have KBz := Lib.hid hB.below
          have HM := Lib.hid hm
          clear hB hL hm
          simp only [puts2, mix, Act.put, List.setIfInBounds_toArray, List.set_cons_zero, List.set_cons_succ, Nat.zero_add, Nat.reduceAdd, List.getElem?_cons_zero, List.getElem?_cons_succ, h13]
          obtain ⟨v2, hv2⟩ : ∃ v, vz 12 = v := ⟨_, rfl⟩
          rw [hv2] at ho
          simp only [hv2]
          clear h13
          obtain ⟨pe2, ce2, rfl⟩ : ∃ pe2 ce2, v2 = .slice pe2 n2 ce2 := by
            rcases Joins.ownsRow_forms ho with ⟨rfl, h⟩ | ⟨g, cap, rfl⟩
            · exact ⟨none, 0, by rw [h]⟩
            · exact ⟨_, cap, rfl⟩
          subst hn2
          have HO2 := Lib.hid ho
          have HB2 := Lib.hid hbl
          have C2 := Lib.hid (ST.out o HM.out)
          have hs2 := KBz.out.size
          clear ho hbl hv2
          go_wp2_with fail
          go_roundw
          case rel => exact ⟨ii + 1, stk l ⟨top, bot, o⟩, pe2, ce2, ys, rfl, by go_num, by omega, C2, HO2, HB2, hs2, KBz⟩
          case measure => simp [intOf]; omega
    · have nlt : ¬ (ii : Int) < (ln : Int) := by omega
      have hc : wr.cell? ⟨w.heap.size + 1 + 1, 0, none⟩ = some (.slice none 0 0) := by
        rw [World.cell?_of_block (KBl.out.block _ (Array.getElem?_eq_some_iff.1 CR.out).1)]
        simp [World.cell?, CR.out]
      have FIN : Hid (∀ u, CmbR w la lb keep (.returned (.agg #[.slice pe l.length ce])) (wr.setCell ⟨w.heap.size + 1 + 1, 0, none⟩ u)) := Lib.hid (fun u => by
        have hk : wr.heap[w.heap.size + 1 + 1]? = some (.cells #[.slice none 0 0] 26 (0, 0)) := (KBl.out.block _ (Array.getElem?_eq_some_iff.1 CR.out).1).trans CR.out
        have bs := BS.of_owns HO.out HBL.out rfl (by have := LB.out; omega)
        refine ⟨_, l, rfl, bs.setR hk hc u, HC.out.wf, HC.out.inr, HC.out.fin KP.out.no AS.out LM.out i1 (by omega), ?_⟩
        exact (belT BL0.out KBl.out).setCell (by show w.heap.size ≤ w.heap.size + 1 + 1; omega) u)
      have hf : wr.frozen? ⟨w.heap.size + 1 + 1, 0, none⟩ = false := by
        rw [World.frozen?_of_block (KBl.out.block _ (Array.getElem?_eq_some_iff.1 CR.out).1)]
        simp [World.frozen?, CR.out]
      have lt2 := World.block_lt_of_cell? wr _ hc
      go_wp2_with fail
      refine bodyPost_ret (v := .agg #[.slice pe l.length ce]) (by simp [results, Try.results38, go_sem, hc]) rfl ?_
      exact FIN.out _
end Go.Proofs.Ytjemnjboopabpaa
