/- Package region: have two regions the same bands? -/
import Derived.Test.YtjemnjboopabpaaGqr
import Derived.Test.YtjemnjboopabpaaAreaQ
import Derived.WalkKit
import Derived.WalkSpells
import Derived.WalkLawsBesides
import Derived.Handy
import Derived.Lib.Hide
import Derived.LoopTactic
import Derived.Outline
namespace Go.Proofs.Ytjemnjboopabpaa
open Go.RowKit Go.Proofs.Reg Go.Proofs.Big Go.Proofs.Bands
set_option linter.unusedVariables false
set_option linter.unusedSimpArgs false
set_option maxRecDepth 100000
theorem bsame_any (t b t' b' : Int) (u v : Value) (es fs : List Int) (w : World) (hu : EV w u es) (hv : EV w v fs) (n1 : es ≠ []) (n2 : fs ≠ []) :
    Calls Try.prog 72 #[.agg #[.int .i64 t, .int .i64 b, u], .agg #[.int .i64 t', .int .i64 b', v]] w fun e w' => e = .returned (.bool (decide (t = t' ∧ b = b' ∧ es = fs))) ∧ Below w.heap.size w w' := by
  have HU := Lib.hid hu
  have HV := Lib.hid hv
  have N1 := Lib.hid n1
  have N2 := Lib.hid n2
  obtain ⟨ea, en, ec, rfl, _⟩ : ∃ ea en ec, u = .slice ea en ec ∧ True := by
    obtain ⟨a, n, c, e, _⟩ := hu
    exact ⟨a, n, c, e, trivial⟩
  obtain ⟨fa, fn, fc, rfl, _⟩ : ∃ ea en ec, v = .slice ea en ec ∧ True := by
    obtain ⟨a, n, c, e, _⟩ := hv
    exact ⟨a, n, c, e, trivial⟩
  clear hu hv n1 n2
  by_cases e1 : t = t'
  · subst e1
    by_cases e2 : b = b'
    · subst e2
      have GE := Lib.hid (fun w h k => gequal_any (.slice ea en ec) (.slice fa fn fc) es fs w h k N1.out N2.out)
      rw [show decide (t = t ∧ b = b ∧ es = fs) = decide (es = fs) from decide_eq_decide.2 (by simp)]
      go_enter Try.func72, Try.ntmps72
      go_wp2_with fail
      refine (GE.out _ (HU.out.later (by go_grown)) (HV.out.later (by go_grown))).mono ?_
      rintro _ w1 ⟨rfl, hb⟩
      have KB := Lib.hid (show Below w.heap.size w w1 from bel_tr0 (by go_grown) hb)
      clear hb
      go_wp2_with fail
      go_returns
      exact ⟨rfl, KB.out⟩
    · have e3 : (b == b') = false := by simpa using e2
      rw [decide_eq_false (by simp [e2])]
      clear e2
      go_enter Try.func72, Try.ntmps72
      go_wp2_with fail
      go_returns
      exact ⟨rfl, by go_grown⟩
  · have e3 : (t == t') = false := by simpa using e1
    rw [decide_eq_false (by simp [e1])]
    clear e1
    go_enter Try.func72, Try.ntmps72
    go_wp2_with fail
    go_returns
    exact ⟨rfl, by go_grown⟩
def SamR (w : World) (l m : List Bd) (e : Ending) (w' : World) : Prop := ∃ r, e = .returned (.bool r) ∧ (r = true ↔ l = m) ∧ Below w.heap.size w w'
theorem BS.form {w : World} {v : Value} {l : List Bd} (h : BS w v l) : ∃ a c, v = .slice a l.length c ∧ ∃ xs, BL w l xs ∧ (0 < l.length → ∃ g, a = some ⟨g, 0, none⟩ ∧ ∀ j u, xs[j]? = some u → w.cell? ⟨g, j, none⟩ = some u) := by
  obtain ⟨a, n, c, xs, rfl, h1, h2, h3, h4, h5⟩ := h
  subst h2
  exact ⟨a, c, rfl, xs, h1, h5⟩
set_option maxHeartbeats 2000000 in
theorem equalF_any (u v : Value) (l m : List Bd) (w : World) (hu : BS w u l) (hv : BS w v m) (wl : Wf l) (wm : Wf m) (lb : l.length ≤ 2147483648) :
    Calls Try.prog 71 #[u, v, .func (.func 72) #[] #[]] w (SamR w l m) := by
  obtain ⟨a, c, rfl, xs, h1, h2⟩ := hu.form
  obtain ⟨a', c', rfl, ys, k1, k2⟩ := hv.form
  have HL := Lib.hid h1
  have HM := Lib.hid k1
  have CL := Lib.hid h2
  have CM := Lib.hid k2
  have WL := Lib.hid wl
  have WM := Lib.hid wm
  clear hu hv h1 h2 k1 k2 wl wm
  obtain ⟨n, hn⟩ : ∃ n, l.length = n := ⟨_, rfl⟩
  obtain ⟨q, hq⟩ : ∃ q, m.length = q := ⟨_, rfl⟩
  rw [hn] at lb CL ⊢
  rw [hq] at CM ⊢
  have NL := Lib.hid hn
  have NM := Lib.hid hq
  by_cases e : n = q
  · subst e
    clear hn hq
    go_enter Try.func71, Try.ntmps71
    go_wp2_with fail
    go_loopw [17] (fun s17 wr => ∃ (j : Nat), s17 = .int .i64 j ∧ j ≤ n ∧ Hid (l.take j = m.take j) ∧ Hid (Below w.heap.size w wr)) (fun s17 _ => n - (intOf s17).toNat)
    case atStart => exact ⟨0, rfl, by omega, Lib.hid rfl, Lib.hid (Below.refl _ _)⟩
    case round =>
      obtain ⟨j, rfl, jn, HT, KB⟩ := hrel
      by_cases lt : j < n
      · have lt' : (j : Int) < (n : Int) := by omega
        obtain ⟨g, rfl, hcl⟩ := CL.out (by omega)
        obtain ⟨g', rfl, hcm⟩ := CM.out (by omega)
        obtain ⟨d, hd⟩ : ∃ d, l[j]? = some d := ⟨_, List.getElem?_eq_getElem (by have := NL.out; omega)⟩
        obtain ⟨f, hf⟩ : ∃ d, m[j]? = some d := ⟨_, List.getElem?_eq_getElem (by have := NM.out; omega)⟩
        obtain ⟨ev, x0, x1, x2, he⟩ := HL.out.get j d hd
        obtain ⟨fv, y0, y1, y2, hfe⟩ := HM.out.get j f hf
        obtain ⟨ea, en, ec, rfl, _⟩ : ∃ ea en ec, ev = .slice ea en ec ∧ True := by
          obtain ⟨a, n, c, e, _⟩ := he
          exact ⟨a, n, c, e, trivial⟩
        obtain ⟨fa, fn, fc, rfl, _⟩ : ∃ ea en ec, fv = .slice ea en ec ∧ True := by
          obtain ⟨a, n, c, e, _⟩ := hfe
          exact ⟨a, n, c, e, trivial⟩
        have c0 := cell_later KB.out (hcl _ _ x0)
        have c1 := cell_later KB.out (hcl _ _ x1)
        have c2 := cell_later KB.out (hcl _ _ x2)
        have d0 := cell_later KB.out (hcm _ _ y0)
        have d1 := cell_later KB.out (hcm _ _ y1)
        have d2 := cell_later KB.out (hcm _ _ y2)
        rw [show 3 * j = j * 3 by omega] at c0 c1 c2 d0 d1 d2
        have gl := World.block_lt_of_cell? wr _ c0
        have gl' := World.block_lt_of_cell? wr _ d0
        simp only at gl gl'
        have HE := Lib.hid (he.later KB.out)
        have HF := Lib.hid (hfe.later KB.out)
        have N1 := Lib.hid (wf_ok WL.out d (List.mem_of_getElem? hd)).ne
        have N2 := Lib.hid (wf_ok WM.out f (List.mem_of_getElem? hf)).ne
        obtain ⟨r, hr⟩ : ∃ r, decide (d.t = f.t ∧ d.b = f.b ∧ d.es = f.es) = r := ⟨_, rfl⟩
        have BE : Hid (∀ w2, Below wr.heap.size wr w2 → Calls Try.prog 72 #[.agg #[.int .i64 d.t, .int .i64 d.b, .slice ea en ec], .agg #[.int .i64 f.t, .int .i64 f.b, .slice fa fn fc]] w2 fun e w' => e = .returned (.bool r) ∧ Below w2.heap.size w2 w') := Lib.hid (fun w2 hb => by
          rw [← hr]; exact bsame_any _ _ _ _ _ _ _ _ w2 (HE.out.later hb) (HF.out.later hb) N1.out N2.out)
        have cf : ∀ w : World, (callFunc 72 #[.agg #[.int .i64 d.t, .int .i64 d.b, .slice ea en ec], .agg #[.int .i64 f.t, .int .i64 f.b, .slice fa fn fc]]).run Try.prog w = .ok (.enter 72 #[.agg #[.int .i64 d.t, .int .i64 d.b, .slice ea en ec], .agg #[.int .i64 f.t, .int .i64 f.b, .slice fa fn fc]]) w := fun _ => by kernel_rfl
        have HR := Lib.hid hr
        have HD := Lib.hid hd
        have HFd := Lib.hid hf
        clear x0 x1 x2 y0 y1 y2 hcl hcm he hfe hr hd hf
        cases r
        · have NE : Hid (SamR w l m (.returned (.bool false)) = SamR w l m (.returned (.bool false))) := Lib.hid rfl
          have DIF : Hid (l ≠ m) := Lib.hid (fun e => by
            subst e
            have := HFd.out
            rw [HD.out] at this
            cases this
            have := HR.out
            simp at this)
          go_wp2_with fail
          refine (BE.out _ (by go_grown)).mono ?_
          rintro _ w1 ⟨rfl, hb⟩
          have KB1 := Lib.hid (show Below w.heap.size w w1 from bel_tr0 (bel_tr0 KB.out (by go_grown)) hb)
          clear hb
          go_wp2_with fail
          go_returns
          exact ⟨false, rfl, ⟨fun h => (by cases h), fun h => absurd h DIF.out⟩, KB1.out⟩
        · have EQ : Hid (l.take (j + 1) = m.take (j + 1)) := Lib.hid (by
            have := of_decide_eq_true HR.out
            rw [List.take_add_one, List.take_add_one, HD.out, HFd.out, HT.out]
            obtain ⟨t1, b1, e1⟩ := d
            obtain ⟨t2, b2, e2⟩ := f
            obtain ⟨rfl, rfl, rfl⟩ := this
            rfl)
          go_wp2_with fail
          refine (BE.out _ (by go_grown)).mono ?_
          rintro _ w1 ⟨rfl, hb⟩
          have KB1 := Lib.hid (show Below w.heap.size w w1 from bel_tr0 (bel_tr0 KB.out (by go_grown)) hb)
          clear hb
          go_wp2_with fail
          go_roundw
          case rel => exact ⟨j + 1, by go_num, by omega, EQ, KB1⟩
          case measure => simp [intOf]; omega
      · obtain rfl : j = n := by omega
        have nlt : ¬ (j : Int) < (j : Int) := by omega
        have EQ : Hid (l = m) := Lib.hid (by
          have := HT.out
          have e1 : l.take j = l := by rw [← NL.out, List.take_length]
          have e2 : m.take j = m := by rw [← NM.out, List.take_length]
          rwa [e1, e2] at this)
        go_wp2_with fail
        go_returns
        exact ⟨true, rfl, ⟨fun _ => EQ.out, fun _ => rfl⟩, KB.out⟩
  · have e1 : ¬ (n : Int) = (q : Int) := by omega
    have e2 : ((n : Int) == (q : Int)) = false := by simpa using e1
    have e3 : ((n : Int) != (q : Int)) = true := by simpa using e1
    have DIF : Hid (l ≠ m) := Lib.hid (fun h => by subst h; omega)
    clear hn hq e
    go_enter Try.func71, Try.ntmps71
    go_wp2_with fail
    go_returns
    exact ⟨false, rfl, ⟨fun h => (by cases h), fun h => absurd h DIF.out⟩, Below.refl _ _⟩
set_option maxHeartbeats 1000000 in
/-- Same: two regions have the same pixels -/
theorem gsame_mid (u v : Value) (la lb : List Bd) (w : World) (hu : BS w u la) (hv : BS w v lb) (wa : Wf la) (wb : Wf lb) (ra : InR la) : Calls Try.prog 37 #[.agg #[u], .agg #[v]] w (SamR w la lb) := by
  have EF := Lib.hid (fun w h k => equalF_any u v la lb w h k wa wb (bands_len wa ra))
  have HU := Lib.hid hu
  have HV := Lib.hid hv
  obtain ⟨a, c, rfl, _⟩ := hu.form
  obtain ⟨a', c', rfl, _⟩ := hv.form
  clear wa ra wb hu hv
  go_enter Try.func37, Try.ntmps37
  go_wp2_with fail
  refine (EF.out _ (HU.out.later (by go_grown)) (HV.out.later (by go_grown))).mono ?_
  rintro _ w1 ⟨r, rfl, hr, hb⟩
  have HR := Lib.hid hr
  have KB := Lib.hid (show Below w.heap.size w w1 from bel_tr0 (by go_grown) hb)
  clear hr hb
  go_wp2_with fail
  go_returns
  exact ⟨r, rfl, HR.out, KB.out⟩
theorem gsame_any (va vb : Value) (la lb : List Bd) (w : World) (ha : Rg w va la) (hb : Rg w vb lb) : Calls Try.prog 37 #[va, vb] w fun e w' => (∃ r, e = .returned (.bool r) ∧ (r = true ↔ ∀ x y, hasP la x y = hasP lb x y)) ∧ Below w.heap.size w w' := by
  obtain ⟨⟨u, rfl, hu⟩, wa, ra⟩ := ha
  obtain ⟨⟨v, rfl, hv⟩, wb, rb⟩ := hb
  refine (gsame_mid u v la lb w hu hv wa wb ra).mono ?_
  rintro e w' ⟨r, he, hr, hb⟩
  exact ⟨⟨r, he, hr.trans ⟨fun h x y => by rw [h], fun h => bands_one wa wb h⟩⟩, hb⟩
end Go.Proofs.Ytjemnjboopabpaa
/- Package region: its calls, of sets of pixels. -/
namespace Go.Proofs.Ytjemnjboopabpaa
open Go.RowKit Go.Proofs.Reg Go.Proofs.Big Go.Proofs.Bands
set_option linter.unusedVariables false
set_option linter.unusedSimpArgs false
set_option maxRecDepth 100000
/-- a value is the region of these pixels -/
def IsR (w : World) (v : Value) (P : Int → Int → Bool) : Prop := ∃ l, Rg w v l ∧ ∀ x y, hasP l x y = P x y
theorem IsR.later {w w' : World} {v : Value} {P : Int → Int → Bool} (h : IsR w v P) (hb : Below w.heap.size w w') : IsR w' v P := by
  obtain ⟨l, a, b⟩ := h
  exact ⟨l, a.later hb, b⟩
theorem IsR.congr {w : World} {v : Value} {P Q : Int → Int → Bool} (h : IsR w v P) (e : ∀ x y, P x y = Q x y) : IsR w v Q := by
  obtain ⟨l, a, b⟩ := h
  exact ⟨l, a, fun x y => (b x y).trans (e x y)⟩
theorem IsR.form {w : World} {v : Value} {P : Int → Int → Bool} (h : IsR w v P) : ∃ a n c, v = .agg #[.slice a n c] := by
  obtain ⟨l, ⟨⟨u, rfl, bs⟩, _, _⟩, _⟩ := h
  obtain ⟨a, c, rfl, _⟩ := bs.form
  exact ⟨a, _, c, rfl⟩
theorem IsR.nil (w : World) : IsR w (.agg #[.slice none 0 0]) (fun _ _ => false) := ⟨[], Rg.nil w, fun x y => rfl⟩
theorem Rg.setR {w : World} {v : Value} {l : List Bd} (h : Rg w v l) {b : Nat} {cs : Array Value} {fz : Nat × Nat} (hk : w.heap[b]? = some (.cells cs 26 fz)) {x : Option Addr} {y z : Nat} (hs : w.cell? ⟨b, 0, none⟩ = some (.slice x y z)) (u : Value) : Rg (w.setCell ⟨b, 0, none⟩ u) v l := by
  obtain ⟨⟨v, rfl, bs⟩, wf, ir⟩ := h
  exact ⟨⟨v, rfl, bs.setR hk hs u⟩, wf, ir⟩
theorem IsR.setR {w : World} {v : Value} {P : Int → Int → Bool} (h : IsR w v P) {b : Nat} {cs : Array Value} {fz : Nat × Nat} (hk : w.heap[b]? = some (.cells cs 26 fz)) {x : Option Addr} {y z : Nat} (hs : w.cell? ⟨b, 0, none⟩ = some (.slice x y z)) (u : Value) : IsR (w.setCell ⟨b, 0, none⟩ u) v P := by
  obtain ⟨l, a, e⟩ := h
  exact ⟨l, a.setR hk hs u, e⟩
def IsE (P : Int → Int → Bool) (w : World) (e : Ending) (w' : World) : Prop := ∃ v, e = .returned v ∧ IsR w' v P ∧ Below w.heap.size w w'
theorem isr_two {f : FuncId} {k : Bool → Bool → Bool} {va vb : Value} {P Q : Int → Int → Bool} {w : World} (hc : ∀ la lb, Rg w va la → Rg w vb lb → Calls Try.prog f #[va, vb] w (TwoR w la lb k)) (ha : IsR w va P) (hb : IsR w vb Q) : Calls Try.prog f #[va, vb] w (IsE (fun x y => k (P x y) (Q x y)) w) := by
  obtain ⟨la, ra, pa⟩ := ha
  obtain ⟨lb, rb, pb⟩ := hb
  refine (hc la lb ra rb).mono ?_
  rintro e w' ⟨v, l, rfl, hr, hp, hb⟩
  exact ⟨v, rfl, ⟨l, hr, fun x y => by rw [hp, pa, pb]⟩, hb⟩
theorem isr_or {va vb : Value} {P Q : Int → Int → Bool} {w : World} (ha : IsR w va P) (hb : IsR w vb Q) : Calls Try.prog 15 #[va, vb] w (IsE (fun x y => orB (P x y) (Q x y)) w) := isr_two (fun la lb => gor_any va vb la lb w) ha hb
theorem isr_and {va vb : Value} {P Q : Int → Int → Bool} {w : World} (ha : IsR w va P) (hb : IsR w vb Q) : Calls Try.prog 12 #[va, vb] w (IsE (fun x y => andB (P x y) (Q x y)) w) := isr_two (fun la lb => gand_any va vb la lb w) ha hb
theorem isr_minus {va vb : Value} {P Q : Int → Int → Bool} {w : World} (ha : IsR w va P) (hb : IsR w vb Q) : Calls Try.prog 8 #[va, vb] w (IsE (fun x y => minusB (P x y) (Q x y)) w) := isr_two (fun la lb => gminus_any va vb la lb w) ha hb
theorem few_edges {l : List Bd} (hw : Wf l) {P : Int → Int → Bool} {S : List Int} (e : EdgeIn P S) (hS : S.length ≤ 1000) (h : ∀ x y, hasP l x y = P x y) : Few l := fun d m => Nat.le_trans (few_of hw e h d m) hS
theorem isr_area {v : Value} {P : Int → Int → Bool} {w : World} {S : List Int} (h : IsR w v P) (e : EdgeIn P S) (hS : S.length ≤ 1000) : Calls Try.prog 36 #[v] w fun e w' => e = .returned (.int .i64 (areaP P)) ∧ Below w.heap.size w w' := by
  obtain ⟨l, r, p⟩ := h
  have := garea_any v l w r (few_edges r.2 e hS p)
  rwa [show areaP (hasP l) = areaP P from areaP_congr p] at this
theorem isr_hull {v : Value} {P : Int → Int → Bool} {w : World} {S : List Int} {q : Q4} (h : IsR w v P) (e : EdgeIn P S) (hS : S.length ≤ 1000) (hq : Hl P q) : Calls Try.prog 48 #[v] w fun e w' => e = .returned (rv q.1 q.2.1 q.2.2.1 q.2.2.2) ∧ Below w.heap.size w w' := by
  obtain ⟨l, r, p⟩ := h
  refine (ghull_any v l w r (few_edges r.2 e hS p)).mono ?_
  rintro e w' ⟨⟨q', h', rfl⟩, hb⟩
  obtain rfl := hl_one (hl_congr h' p) hq
  exact ⟨rfl, hb⟩
theorem isr_move {v : Value} {P : Int → Int → Bool} {w : World} {S : List Int} {dx dy : Int} (h : IsR w v P) (e : EdgeIn P S) (hS : S.length ≤ 1000) (x0 : I64 dx) (y0 : I64 dy) : Calls Try.prog 13 #[v, .int .i64 dx, .int .i64 dy] w (IsE (fun x y => inG x y && P (x - nr dx) (y - nr dy)) w) := by
  obtain ⟨l, r, p⟩ := h
  refine (gmove_any v l dx dy w r (few_edges r.2 e hS p) x0 y0).mono ?_
  rintro e w' ⟨u, m, rfl, hr, hp, _, hb⟩
  exact ⟨u, rfl, ⟨m, hr, fun x y => by rw [hp, p]⟩, hb⟩
theorem isr_has {v : Value} {P : Int → Int → Bool} {w : World} (h : IsR w v P) (x y : Int) : Calls Try.prog 17 #[v, .int .i64 x, .int .i64 y] w fun e w' => e = .returned (.bool (P x y)) ∧ Below w.heap.size w w' := by
  obtain ⟨l, r, p⟩ := h
  rw [← p x y]
  exact ghas_any v l x y w r
theorem isr_same {va vb : Value} {P Q : Int → Int → Bool} {w : World} (ha : IsR w va P) (hb : IsR w vb Q) (r : Bool) (hr : r = true ↔ ∀ x y, P x y = Q x y) : Calls Try.prog 37 #[va, vb] w fun e w' => e = .returned (.bool r) ∧ Below w.heap.size w w' := by
  obtain ⟨la, ra, pa⟩ := ha
  obtain ⟨lb, rb, pb⟩ := hb
  refine (gsame_any va vb la lb w ra rb).mono ?_
  rintro e w' ⟨⟨s, rfl, hs⟩, hb⟩
  have : s = r := by
    have h : s = true ↔ r = true := by
      rw [hs, hr]
      exact ⟨fun h x y => by rw [← pa, ← pb, h], fun h x y => by rw [pa, pb, h]⟩
    cases s <;> cases r <;> simp at h ⊢
  subst this
  exact ⟨rfl, hb⟩
/-- rectangles as they should be -/
def Ok4 (r : Q4) : Prop := r = (0, 0, 0, 0) ∨ Fil r
theorem ok4_rgt {r : Q4} (h : Rgt r.1 r.2.1 r.2.2.1 r.2.2.2) : Ok4 r := by
  obtain ⟨a, b, c, d⟩ := r
  dsimp only at h
  rcases h with ⟨rfl, rfl, rfl, rfl⟩ | ⟨h0, h1, h2, h3, h4, h5⟩
  · exact .inl rfl
  · exact .inr ⟨h0, h1, h2, h3, h4, h5⟩
theorem rgt_ok4 {r : Q4} (h : Ok4 r) : Rgt r.1 r.2.1 r.2.2.1 r.2.2.2 := by
  rcases h with rfl | f
  · exact .inl ⟨rfl, rfl, rfl, rfl⟩
  · exact .inr ⟨f.x0, f.x1, f.x2, f.y0, f.y1, f.y2⟩
theorem pix_in {r : Q4} (h : Ok4 r) (x y : Int) : pix r x y = inQ r x y := by
  rcases h with rfl | f
  · unfold pix inQ lim
    exact decide_eq_decide.2 (by dsimp only; omega)
  · have := f.x0; have := f.x1; have := f.x2; have := f.y0; have := f.y1; have := f.y2
    unfold pix inQ lim
    exact decide_eq_decide.2 (by omega)
theorem any_in {rs : List Q4} (h : ∀ r ∈ rs, Ok4 r) (x y : Int) : anyP rs x y = anyQ rs x y := by
  induction rs with
  | nil => rfl
  | cons r rs ih =>
    have := ih fun s m => h s (by simp [m])
    unfold anyP anyQ at *
    rw [List.any_cons, List.any_cons, this, pix_in (h r (by simp))]
theorem ok4_i64 {r : Q4} (h : Ok4 r) : I64 r.1 ∧ I64 r.2.1 ∧ I64 r.2.2.1 ∧ I64 r.2.2.2 := (rgt_ok4 h).i64
theorem isr_of {v : Value} {rs : List Q4} {w : World} (h : RS w v rs) (hr : ∀ r ∈ rs, Ok4 r) (hl : rs.length < 1000000000000) : Calls Try.prog 9 #[v] w (IsE (anyQ rs) w) := by
  refine (gof_any rs v w hl h fun r m => ok4_i64 (hr r m)).mono ?_
  rintro e w' ⟨u, l, rfl, a, b, hb⟩
  exact ⟨u, rfl, ⟨l, a, fun x y => by rw [b, any_in hr]⟩, hb⟩
theorem hl_ok {r : Q4} (h : Ok4 r) : Hl (inQ r) r := by
  rcases h with rfl | f
  · refine .inl ⟨rfl, fun x y => ?_⟩
    unfold inQ
    exact decide_eq_false (by dsimp only; omega)
  · exact hl_fil f
/-- the intersection, the hull, a rectangle moved: as sets -/
theorem and_set {a b c d e f g h P Q R S : Int} (ka : Ok4 (a, b, c, d)) (kb : Ok4 (e, f, g, h)) (n : Nrm (max a e) (max b f) (min c g) (min d h) P Q R S) (x y : Int) : andB (inQ (a, b, c, d) x y) (inQ (e, f, g, h) x y) = inQ (P, Q, R, S) x y := by
  have l : ∀ m, lim m = limB m := fun m => rfl
  unfold Nrm at n
  rw [l, l, l, l] at n
  have ra := rgt_ok4 ka
  have rb := rgt_ok4 kb
  unfold Rgt at ra rb
  dsimp only at ra rb
  unfold andB inQ
  dsimp only
  rw [← Bool.decide_and]
  refine decide_eq_decide.2 ?_
  unfold limB at n
  rcases n with ⟨h1, h2, rfl, rfl, rfl, rfl⟩ | ⟨h1, rfl, rfl, rfl, rfl⟩
  · omega
  · omega
theorem move_set {a b c d P Q R S nx ny : Int} (ka : Ok4 (a, b, c, d)) (n : Nrm (a + nx) (b + ny) (c + nx) (d + ny) P Q R S) (x y : Int) : (inG x y && inQ (a, b, c, d) (x - nx) (y - ny)) = inQ (P, Q, R, S) x y := by
  have l : ∀ m, lim m = limB m := fun m => rfl
  unfold Nrm at n
  rw [l, l, l, l] at n
  unfold inG inQ
  dsimp only
  rw [← Bool.decide_and, ← Bool.decide_and]
  refine decide_eq_decide.2 ?_
  unfold limB at n
  rcases n with ⟨h1, h2, rfl, rfl, rfl, rfl⟩ | ⟨h1, rfl, rfl, rfl, rfl⟩
  · omega
  · omega
theorem or_hull {p q r : Q4} (kp : Ok4 p) (kq : Ok4 q) (h : HulR p.1 p.2.1 p.2.2.1 p.2.2.2 q.1 q.2.1 q.2.2.1 q.2.2.2 r.1 r.2.1 r.2.2.1 r.2.2.2) : Hl (fun x y => orB (inQ p x y) (inQ q x y)) r := by
  have o : ∀ a b, orB a b = (a || b) := fun a b => rfl
  unfold HulR at h
  rw [emB_iff, emB_iff] at h
  rcases h with ⟨z, h1, h2, h3, h4⟩ | ⟨z, z', h1, h2, h3, h4⟩ | ⟨z, z', h1, h2, h3, h4⟩
  · have := of_decide_eq_true z
    subst this
    have e : r = q := by
      obtain ⟨_, _, _, _⟩ := r; obtain ⟨_, _, _, _⟩ := q
      dsimp only at h1 h2 h3 h4
      rw [h1, h2, h3, h4]
    rw [e]
    exact hl_congr (hl_ok kq) fun x y => by rw [o, show inQ (0, 0, 0, 0) x y = false from decide_eq_false (by dsimp only; omega), Bool.false_or]
  · have := of_decide_eq_true z'
    subst this
    have e : r = p := by
      obtain ⟨_, _, _, _⟩ := r; obtain ⟨_, _, _, _⟩ := p
      dsimp only at h1 h2 h3 h4
      rw [h1, h2, h3, h4]
    rw [e]
    exact hl_congr (hl_ok kp) fun x y => by rw [o, show inQ (0, 0, 0, 0) x y = false from decide_eq_false (by dsimp only; omega), Bool.or_false]
  · have n1 := of_decide_eq_false z
    have n2 := of_decide_eq_false z'
    have fp : Fil p := by rcases kp with e | f; exact absurd e n1; exact f
    have fq : Fil q := by rcases kq with e | f; exact absurd e n2; exact f
    have := hl_more (hl_fil fp) fq
    rw [if_neg n1] at this
    have e : r = hulQ p q := by
      obtain ⟨_, _, _, _⟩ := r
      dsimp only at h1 h2 h3 h4
      unfold hulQ
      rw [h1, h2, h3, h4]
    rw [e]
    exact this
theorem size_ok {r : Q4} (h : Ok4 r) : areaP (inQ r) = (r.2.2.1 - r.1) * (r.2.2.2 - r.2.1) := by
  obtain ⟨a, b, c, d⟩ := r
  have hr := rgt_ok4 h
  unfold Rgt at hr
  dsimp only at hr ⊢
  exact area_rect (A := a) (B := b) (C := c) (D := d) (by omega) (by omega) (by omega) (by omega) (by omega) (by omega)
end Go.Proofs.Ytjemnjboopabpaa
namespace Go.Proofs.Ytjemnjboopabpaa
open Go.RowKit Go.Proofs.Reg Go.Proofs.Big Go.Proofs.Bands
/-- of the operations of a region those that answer a region, with their sets of pixels -/
def Rgs (ks : List Nat) (Ps : Nat → Int → Int → Bool) (L : Nat → Bool) (vz : Nat → Value) (w : World) : Prop := ∀ i ∈ ks, L i = true → IsR w (vz i) (Ps i)
theorem Rgs.start (ks : List Nat) (Ps : Nat → Int → Int → Bool) (vz : Nat → Value) (w : World) : Rgs ks Ps (fun _ => false) vz w := fun _ _ h => by cases h
theorem Rgs.later {ks : List Nat} {Ps : Nat → Int → Int → Bool} {L : Nat → Bool} {vz : Nat → Value} {w w' : World} (h : Rgs ks Ps L vz w) (hb : Below w.heap.size w w') : Rgs ks Ps L vz w' := fun i m l => (h i m l).later hb
theorem Rgs.other {ks : List Nat} {Ps : Nat → Int → Int → Bool} {L : Nat → Bool} {vz : Nat → Value} {w : World} (h : Rgs ks Ps L vz w) (j : Nat) (v : Value) (hj : j ∉ ks) : Rgs ks Ps (addL L j) (upd vz j v) w := fun i m l => by
  have ne : i ≠ j := fun e => hj (e ▸ m)
  have := h i m (by simpa [addL, ne] using l)
  simpa [upd, ne] using this
theorem Rgs.add {ks : List Nat} {Ps : Nat → Int → Int → Bool} {L : Nat → Bool} {vz : Nat → Value} {w : World} (h : Rgs ks Ps L vz w) (j : Nat) (v : Value) (hr : IsR w v (Ps j)) : Rgs ks Ps (addL L j) (upd vz j v) w := fun i m l => by
  by_cases e : i = j
  · subst e
    simpa [upd] using hr
  · have := h i m (by simpa [addL, e] using l)
    simpa [upd, e] using this
end Go.Proofs.Ytjemnjboopabpaa
