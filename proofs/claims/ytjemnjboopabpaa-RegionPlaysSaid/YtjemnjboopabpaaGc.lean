/- Package region: bands in memory. -/
import Derived.Test.YtjemnjboopabpaaGa
import Derived.Lib.OwnKind
import Derived.Lib.SmallJoins
import Derived.Test.YtjemnjboopabpaaShelf
namespace Go.Proofs.Ytjemnjboopabpaa
open Go.RowKit Go.Proofs.Reg Go.Proofs.Big Go.Proofs.Bands
set_option linter.unusedVariables false
set_option linter.unusedSimpArgs false
set_option maxRecDepth 100000
theorem info_band : (Try.prog.info? 86).map (fun i => (i.zero, i.size, i.bytes)) = some (some (.agg #[.int .i64 0, .int .i64 0, .slice none 0 0]), 3, 40) := by kernel_rfl
theorem band_parts : ∃ i, Try.prog.info? 86 = some i ∧ i.zero = some (.agg #[.int .i64 0, .int .i64 0, .slice none 0 0]) ∧ i.size = 3 ∧ i.bytes = 40 := by
  have h := info_band
  cases hq : Try.prog.info? 86 with
  | none => rw [hq] at h; simp at h
  | some i =>
    rw [hq] at h
    simp only [Option.map_some, Option.some.injEq, Prod.mk.injEq] at h
    exact ⟨i, rfl, h.1, h.2.1, h.2.2⟩
/-- a band's cells -/
def bcs (t b : Int) (ev : Value) : List Value := [.int .i64 t, .int .i64 b, ev]
/-- cells read as bands -/
def BL (w : World) : List Bd → List Value → Prop
  | [], xs => xs = []
  | d :: l, xs => ∃ ev ys, xs = bcs d.t d.b ev ++ ys ∧ EV w ev d.es ∧ BL w l ys
theorem BL.len {w : World} : ∀ {l : List Bd} {xs : List Value}, BL w l xs → xs.length = 3 * l.length
  | [], xs, h => by cases h; rfl
  | d :: l, xs, h => by
    obtain ⟨ev, ys, rfl, _, k⟩ := h
    rw [List.length_append, k.len, List.length_cons]
    simp [bcs]
    omega
theorem BL.all {w w' : World} (hk : ∀ v es, EV w v es → EV w' v es) : ∀ {l : List Bd} {xs : List Value}, BL w l xs → BL w' l xs
  | [], xs, h => h
  | d :: l, xs, h => by
    obtain ⟨ev, ys, e, a, k⟩ := h
    exact ⟨ev, ys, e, hk _ _ a, BL.all hk k⟩
theorem BL.later {w w' : World} {l : List Bd} {xs : List Value} (h : BL w l xs) (hb : Below w.heap.size w w') : BL w' l xs := h.all fun _ _ a => a.later hb
theorem BL.snoc {w : World} {t b : Int} {ev : Value} {es : List Int} (he : EV w ev es) : ∀ {l : List Bd} {xs : List Value}, BL w l xs → BL w (l ++ [⟨t, b, es⟩]) (xs ++ bcs t b ev)
  | [], xs, h => by cases h; exact ⟨ev, [], by simp, he, rfl⟩
  | d :: l, xs, h => by
    obtain ⟨ev', ys, rfl, a, k⟩ := h
    exact ⟨ev', ys ++ bcs t b ev, by rw [List.append_assoc], a, BL.snoc he k⟩
theorem BL.last {w : World} {d : Bd} : ∀ {l : List Bd} {xs : List Value}, BL w (l ++ [d]) xs → ∃ ev ys, xs = ys ++ bcs d.t d.b ev ∧ EV w ev d.es ∧ BL w l ys
  | [], xs, h => by
    obtain ⟨ev, ys, rfl, a, k⟩ := h
    cases k
    exact ⟨ev, [], by simp, a, rfl⟩
  | c :: l, xs, h => by
    obtain ⟨ev', ys, rfl, a, k⟩ := h
    obtain ⟨ev, zs, rfl, e, m⟩ := BL.last k
    exact ⟨ev, bcs c.t c.b ev' ++ zs, by rw [List.append_assoc], e, ev', zs, rfl, a, m⟩
theorem BL.get {w : World} : ∀ {l : List Bd} {xs : List Value} (k : Nat) (d : Bd), BL w l xs → l[k]? = some d → ∃ ev, xs[3 * k]? = some (.int .i64 d.t) ∧ xs[3 * k + 1]? = some (.int .i64 d.b) ∧ xs[3 * k + 2]? = some ev ∧ EV w ev d.es
  | [], xs, k, d, h, e => by simp at e
  | c :: l, xs, 0, d, h, e => by
    obtain ⟨ev, ys, rfl, a, _⟩ := h
    simp only [List.getElem?_cons_zero, Option.some.injEq] at e
    subst e
    exact ⟨ev, rfl, rfl, rfl, a⟩
  | c :: l, xs, k + 1, d, h, e => by
    obtain ⟨ev', ys, rfl, _, m⟩ := h
    obtain ⟨ev, x0, x1, x2, a⟩ := BL.get k d m (by simpa using e)
    have s : ∀ j, (bcs c.t c.b ev' ++ ys)[j + 3]? = ys[j]? := fun j => by
      rw [List.getElem?_append_right (by simp [bcs])]
      simp [bcs]
    exact ⟨ev, by rw [show 3 * (k + 1) = 3 * k + 3 by omega, s, x0], by rw [show 3 * (k + 1) + 1 = 3 * k + 1 + 3 by omega, s, x1], by rw [show 3 * (k + 1) + 2 = 3 * k + 2 + 3 by omega, s, x2], a⟩
theorem stk_snoc (l : List Bd) (d c : Bd) : stk (l ++ [d]) c = if c.es = [] then l ++ [d] else if d.b = c.t ∧ d.es = c.es then l ++ [⟨d.t, c.b, d.es⟩] else l ++ [d, c] := by
  induction l with
  | nil => simp only [List.nil_append, stk]
  | cons e l ih =>
    cases l with
    | nil =>
      simp only [List.nil_append, List.cons_append] at ih ⊢
      rw [show stk (e :: [d]) c = e :: stk [d] c from rfl, ih]
      split
      · rfl
      · split <;> rfl
    | cons f l =>
      simp only [List.cons_append] at ih ⊢
      rw [show stk (e :: f :: (l ++ [d])) c = e :: stk (f :: (l ++ [d])) c from rfl, ih]
      split
      · rfl
      · split <;> rfl
theorem band_ne_int : (86 : TypeId) ≠ 3 := by decide
/-- a row of bands is the memory that changes -/
theorem EV.grown {w w' : World} {base : Nat} {v : Value} {n : Nat} {xs : List Value} (hown : w.ownsRow base 86 3 v n xs) (hg : w.grownBy w' v.ownBlock) {ev : Value} {es : List Int} (h : EV w ev es) : EV w' ev es := by
  refine h.kept fun g cs fz e => hg.block g (Array.getElem?_eq_some_iff.1 e).1 fun q => ?_
  obtain ⟨c', fz', e'⟩ := Lib.ownsRow_kind hown g q.symm
  rw [e] at e'
  simp only [Option.some.injEq, Obj.cells.injEq] at e'
  exact band_ne_int e'.2.1.symm
theorem owns_later {w w' : World} {base : Nat} {e : TypeId} {size : Nat} {v : Value} {n : Nat} {xs : List Value} (h : w.ownsRow base e size v n xs) (hb : Below w.heap.size w w') : w'.ownsRow base e size v n xs := by
  obtain ⟨hl, ⟨rfl, h0⟩ | ⟨g, cap, cur, rfl, h1, h2, h3⟩⟩ := h
  · exact ⟨hl, .inl ⟨rfl, h0⟩⟩
  · exact ⟨hl, .inr ⟨g, cap, cur, rfl, h1, (hb.block g (Array.getElem?_eq_some_iff.1 h2).1).trans h2, h3⟩⟩
/-- what stacking answers -/
def StkR (w : World) (base : Nat) (l : List Bd) (c : Bd) (e : Ending) (w' : World) : Prop :=
  ∃ v n xs, e = .returned v ∧ w'.ownsRow base 86 3 v n xs ∧ BL w' (stk l c) xs ∧ n = (stk l c).length ∧ Below base w w'
theorem stk_empty (l : List Bd) (c : Bd) (h : c.es = []) : stk l c = l := by
  rcases List.eq_nil_or_concat l with rfl | ⟨l, d, rfl⟩
  · simp [stk, h]
  · rw [List.concat_eq_append, stk_snoc, if_pos h]
theorem stacked_none (base : Nat) (v : Value) (n : Nat) (xs : List Value) (l : List Bd) (t b : Int) (ev : Value) (w : World) (hown : w.ownsRow base 86 3 v n xs) (hl : BL w l xs) (hn : n = l.length) (hb : base ≤ w.heap.size) (he : EV w ev []) :
    Calls Try.prog 43 #[v, .agg #[.int .i64 t, .int .i64 b, ev]] w (StkR w base l ⟨t, b, []⟩) := by
  have FIN : ∀ w', Below w.heap.size w w' → Hid (StkR w base l ⟨t, b, []⟩ (.returned v) w') := fun w' kb => Lib.hid (by
    refine ⟨v, n, xs, rfl, owns_later hown kb, ?_, ?_, ⟨kb.os, kb.tape, kb.output, kb.size, fun k hk => kb.block k (by omega)⟩⟩
    · rw [stk_empty _ _ rfl]; exact hl.later kb
    · rw [stk_empty _ _ rfl]; exact hn)
  obtain ⟨a, m, c, rfl, E, _⟩ := he
  have lm := E.r.hlen
  obtain rfl : m = 0 := by simpa using lm.symm
  clear E hl hown
  go_enter Try.func43, Try.ntmps43
  go_wp2_with fail
  go_returns
  refine (FIN _ ?_).out
  go_grown
theorem stk_app {w wz w1 : World} {base : Nat} {v v1 : Value} {n : Nat} {xs : List Value} {l : List Bd} {t b : Int} {ev : Value} {es : List Int} {o : Obj} (hown : w.ownsRow base 86 3 v n xs) (hl : BL w l xs) (hn : n = l.length) (hb : base ≤ w.heap.size) (he : EV w ev es)
    (kb : Below w.heap.size w wz) (hg : (wz.alloc o).grownBy w1 v.ownBlock) (h1 : w1.ownsRow base 86 3 v1 (n + 1) (xs ++ bcs t b ev)) (hs : stk l ⟨t, b, es⟩ = l ++ [⟨t, b, es⟩]) : StkR w base l ⟨t, b, es⟩ (.returned v1) w1 := by
  have hz : Below w.heap.size w (wz.alloc o) := kb.alloc kb.size o
  have oz := owns_later hown hz
  refine ⟨v1, n + 1, _, rfl, h1, ?_, ?_, ?_⟩
  · rw [hs]
    exact BL.snoc ((he.later hz).grown oz hg) ((hl.later hz).all fun _ _ a => a.grown oz hg)
  · rw [hs, List.length_append, hn]; rfl
  · refine ⟨hg.os.trans hz.os, hg.tape.trans hz.tape, hg.output.trans hz.output, Nat.le_trans hz.size hg.size, fun k hk => ?_⟩
    have hkz : k < (wz.alloc o).heap.size := Nat.lt_of_lt_of_le (Nat.lt_of_lt_of_le hk hb) hz.size
    exact (hg.block k hkz fun q => by have := (oz.lt k q.symm).1; omega).trans (hz.block k (by omega))
theorem stk_in {w wz : World} {base g n ce k : Nat} {ys : List Value} {l : List Bd} {d : Bd} {t b : Int} {dv : Value} {es : List Int} (hown : w.ownsRow base 86 3 (.slice (some ⟨g, 0, none⟩) n ce) n (ys ++ bcs d.t d.b dv)) (hl : BL w l ys) (hd : EV w dv d.es) (hn : n = l.length + 1) (hk : k = l.length) (hb : base ≤ w.heap.size)
    (kb : Below w.heap.size w wz) (ne : es ≠ []) (e1 : d.b = t) (e2 : d.es = es) : StkR w base (l ++ [d]) ⟨t, b, es⟩ (.returned (.slice (some ⟨g, 0, none⟩) n ce)) (wz.setCell ⟨g, 3 * k + 1, none⟩ (.int .i64 b)) := by
  have oz := owns_later hown kb
  obtain ⟨o2, gr⟩ := oz.stored (3 * k + 1) (.int .i64 b)
  have ly : ys.length = 3 * k := by rw [hl.len, hk]
  have st : (ys ++ bcs d.t d.b dv).set (3 * k + 1) (.int .i64 b) = ys ++ bcs d.t b dv := by
    rw [List.set_append_right _ _ (by omega), ly, show 3 * k + 1 - 3 * k = 1 by omega]
    rfl
  rw [st] at o2
  refine ⟨_, n, _, rfl, o2, ?_, ?_, ?_⟩
  · rw [stk_snoc, if_neg ne, if_pos ⟨e1, e2⟩]
    exact BL.snoc ((hd.later kb).grown oz gr) ((hl.later kb).all fun _ _ a => a.grown oz gr)
  · rw [stk_snoc, if_neg ne, if_pos ⟨e1, e2⟩, List.length_append, hn]; rfl
  · refine ⟨gr.os.trans kb.os, gr.tape.trans kb.tape, gr.output.trans kb.output, Nat.le_trans kb.size gr.size, fun j hj => ?_⟩
    exact (gr.block j (Nat.lt_of_lt_of_le (by omega) kb.size) fun q => by
      have := (oz.lt j q.symm).1; omega).trans (kb.block j (by omega))
theorem add_none (g o j : Nat) : (⟨g, o, none⟩ : Addr).add j = ⟨g, o + j, none⟩ := by simp [Addr.add]
theorem gequal_any (u v : Value) (es fs : List Int) (w : World) (hu : EV w u es) (hv : EV w v fs) (n1 : es ≠ []) (n2 : fs ≠ []) : Calls Try.prog 76 #[u, v] w fun e w' => e = .returned (.bool (decide (es = fs))) ∧ Below w.heap.size w w' := by
  obtain ⟨a, n, c, rfl, E, k⟩ := hu
  obtain ⟨a', m, c', rfl, F, k'⟩ := hv
  have ln := E.r.hlen
  have lm := F.r.hlen
  have p1 := List.length_pos_iff.2 n1
  have p2 := List.length_pos_iff.2 n2
  obtain ⟨g, o, cs, fz, rfl, hg⟩ := k (by omega)
  obtain ⟨g', o', cs', fz', rfl, hg'⟩ := k' (by omega)
  obtain ⟨q, hq, hc⟩ := E.r.addr (by omega)
  obtain ⟨q', hq', hc'⟩ := F.r.addr (by omega)
  have hq := Option.some.inj hq
  have hq' := Option.some.inj hq'
  subst hq hq'
  refine (Try.slices_Equal_int g o n c g' o' m c' es fs w (by omega) (by omega) E.r.hmax F.r.hmax (fun j hj => by rw [← add_none]; exact hc j (by omega)) (fun j hj => by rw [← add_none]; exact hc' j (by omega))).mono ?_
  rintro e w' ⟨rfl, z, rfl⟩
  refine ⟨?_, below_drewN (Below.refl _ _) _⟩
  rw [List.take_of_length_le (by omega), List.take_of_length_le (by omega)]
  by_cases h : es = fs
  · simp [h]
  · simp [h]
end Go.Proofs.Ytjemnjboopabpaa
