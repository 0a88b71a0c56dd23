/- Package region: the edges in a row. -/
import Derived.Test.YtjemnjboopabpaaGc
import Derived.Deep.QuietTactic
import Derived.BigQuiet
namespace Go.Proofs.Ytjemnjboopabpaa
open Go.RowKit Go.Proofs.Reg Go.Proofs.Big Go.Proofs.Bands
set_option linter.unusedVariables false
set_option linter.unusedSimpArgs false
set_option maxRecDepth 100000
/-- a value reads as bands -/
def BS (w : World) (v : Value) (l : List Bd) : Prop := ∃ a n c xs, v = .slice a n c ∧ BL w l xs ∧ n = l.length ∧ n < 1000000000000 ∧ n ≤ c ∧ (0 < n → ∃ g, a = some ⟨g, 0, none⟩ ∧ ∀ j u, xs[j]? = some u → w.cell? ⟨g, j, none⟩ = some u)
theorem BS.later {w w' : World} {v : Value} {l : List Bd} (h : BS w v l) (hb : Below w.heap.size w w') : BS w' v l := by
  obtain ⟨a, n, c, xs, rfl, h1, h2, h3, h4, h5⟩ := h
  refine ⟨a, n, c, xs, rfl, h1.later hb, h2, h3, h4, fun hn => ?_⟩
  obtain ⟨g, hg, hc⟩ := h5 hn
  exact ⟨g, hg, fun j u hj => cell_later hb (hc j u hj)⟩
theorem BS.nil (w : World) : BS w (.slice none 0 0) [] := ⟨none, 0, 0, [], rfl, rfl, rfl, by omega, by omega, fun h => by omega⟩
theorem BS.of_owns {w : World} {base : Nat} {v : Value} {n : Nat} {xs : List Value} {l : List Bd} (h : w.ownsRow base 86 3 v n xs) (hl : BL w l xs) (hn : n = l.length) (nb : n < 1000000000000) : BS w v l := by
  have h' := h
  obtain ⟨_, ⟨rfl, h0⟩ | ⟨g, cap, cur, rfl, _, _, hc, _⟩⟩ := h'
  · subst h0; exact ⟨none, 0, 0, xs, rfl, hl, hn, by omega, by omega, fun h => by omega⟩
  · refine ⟨_, n, cap, xs, rfl, hl, hn, nb, hc, fun _ => ⟨g, rfl, fun j u hj => ?_⟩⟩
    have hj' := (List.getElem?_eq_some_iff.1 hj).1
    have hx := h.1
    rw [h.cellAt j (by omega), hj]
theorem wf_get {l : List Bd} (h : Wf l) : ∀ (i j : Nat) (c d : Bd), l[i]? = some c → l[j]? = some d → i < j → c.b ≤ d.t := by
  induction l with
  | nil => intro i j c d e; simp at e
  | cons a l ih =>
    intro i j c d hi hj hij
    match i, j, hij with
    | 0, j + 1, _ =>
      simp only [List.getElem?_cons_zero, Option.some.injEq] at hi
      subst hi
      exact h.2.1 d (List.mem_of_getElem? (by simpa using hj))
    | i + 1, j + 1, hij => exact ih h.2.2.2 i j c d (by simpa using hi) (by simpa using hj) (by omega)
theorem wf_mem {l : List Bd} (h : Wf l) : ∀ c ∈ l, BdOk c := by
  induction l with
  | nil => intro c m; simp at m
  | cons a l ih =>
    intro c m
    rcases List.mem_cons.1 m with rfl | m
    · exact h.1
    · exact ih h.2.2.2 c m
/-- where a row lies by a band -/
def besB (t b y : Int) : Int := if b ≤ y then -1 else if y < t then 1 else 0
theorem beside_any (t b : Int) (ev : Value) (es : List Int) (y : Int) (w : World) (he : EV w ev es) : Calls Try.prog 81 #[.agg #[.int .i64 t, .int .i64 b, ev], .int .i64 y] w fun e w' => e = .returned (.int .i64 (besB t b y)) ∧ Below w.heap.size w w' := by
  obtain ⟨a, n, c, rfl, _⟩ := he
  by_cases h1 : b ≤ y
  · have e1 : besB t b y = -1 := by unfold besB; rw [if_pos h1]
    go_enter Try.func81, Try.ntmps81
    go_wp2_with fail
    go_returns
    try rw [e1]
    exact ⟨rfl, by go_grown⟩
  · have h1' : y < b := by omega
    by_cases h2 : y < t
    · have e1 : besB t b y = 1 := by unfold besB; rw [if_neg h1, if_pos h2]
      go_enter Try.func81, Try.ntmps81
      go_wp2_with fail
      go_returns
      try rw [e1]
      exact ⟨rfl, by go_grown⟩
    · have h2' : t ≤ y := by omega
      have e1 : besB t b y = 0 := by unfold besB; rw [if_neg h1, if_neg h2]
      go_enter Try.func81, Try.ntmps81
      go_wp2_with fail
      go_returns
      try rw [e1]
      exact ⟨rfl, by go_grown⟩
/-- what looking a row up answers -/
def SrR (w : World) (l : List Bd) (y : Int) (e : Ending) (w' : World) : Prop :=
  ∃ (i : Nat) (r : Bool), e = .returned (.tuple #[.int .i64 i, .bool r]) ∧ Below w.heap.size w w' ∧ (r = true → ∃ d, l[i]? = some d ∧ d.t ≤ y ∧ y < d.b) ∧ (r = false → ∀ d ∈ l, ¬ (d.t ≤ y ∧ y < d.b))
theorem search_any (v : Value) (l : List Bd) (y : Int) (w : World) (hv : BS w v l) (hw : Wf l) : Calls Try.prog 80 #[v, .int .i64 y, .func (.func 81) #[] #[]] w (SrR w l y) := by
  obtain ⟨a, n, c, xs, rfl, hl, hn, nb, nc, hc⟩ := hv
  have HL := Lib.hid hl
  have HW := Lib.hid hw
  have HN := Lib.hid hn
  have HC := Lib.hid hc
  clear hl hw hc hn
  go_enter Try.func80, Try.ntmps80
  go_wp2_with fail
  go_loopw [9, 10] (fun s9 s10 wr => ∃ i j : Nat, s9 = .int .i64 i ∧ s10 = .int .i64 j ∧ i ≤ j ∧ j ≤ n ∧ Hid (∀ k d, k < i → l[k]? = some d → d.b ≤ y) ∧ Hid (∀ k d, j ≤ k → l[k]? = some d → y < d.b) ∧ w.heap.size ≤ wr.heap.size ∧ Hid (Below w.heap.size w wr)) (fun s9 s10 _ => (intOf s10).toNat - (intOf s9).toNat)
  case atStart => exact ⟨0, n, rfl, rfl, by omega, by omega, Lib.hid (fun k d h => by omega), Lib.hid (fun k d h e => by
    have := (List.getElem?_eq_some_iff.1 e).1; have := HN.out; omega), Nat.le_refl _, Lib.hid (Below.refl _ _)⟩
  case round =>
    obtain ⟨i, j, rfl, rfl, ij, jn, HI, HJ, hsz, KB⟩ := hrel
    by_cases lt : i < j
    · have lt' : (i : Int) < (j : Int) := by omega
      obtain ⟨h, hh⟩ : ∃ h : Nat, h = (i + j) / 2 := ⟨_, rfl⟩
      have hb0 : i ≤ h := by omega
      have hb1 : h < j := by omega
      obtain ⟨g, rfl, hcl⟩ := HC.out (by omega)
      obtain ⟨d, hd⟩ : ∃ d, l[h]? = some d := ⟨_, List.getElem?_eq_getElem (by have := HN.out; omega)⟩
      obtain ⟨ev, x0, x1, x2, he⟩ := HL.out.get h d hd
      obtain ⟨ea, en, ec, rfl, _⟩ : ∃ ea en ec, ev = .slice ea en ec ∧ True := by
        obtain ⟨a, n, c, e, _⟩ := he
        exact ⟨a, n, c, e, trivial⟩
      have c0 := cell_later KB.out (hcl _ _ x0)
      have c1 := cell_later KB.out (hcl _ _ x1)
      have c2 := cell_later KB.out (hcl _ _ x2)
      rw [show 3 * h = (i + j) / 2 * 3 by omega] at c0 c1 c2
      have HE := Lib.hid (he.later KB.out)
      have HD := Lib.hid hd
      obtain ⟨u, hu⟩ : ∃ u, besB d.t d.b y = u := ⟨_, rfl⟩
      have BE : Hid (Calls Try.prog 81 #[.agg #[.int .i64 d.t, .int .i64 d.b, .slice ea en ec], .int .i64 y] wr fun e w' => e = .returned (.int .i64 u) ∧ Below wr.heap.size wr w') := Lib.hid (by rw [← hu]; exact beside_any _ _ _ _ y wr HE.out)
      have cf : ∀ w : World, (callFunc 81 #[.agg #[.int .i64 d.t, .int .i64 d.b, .slice ea en ec], .int .i64 y]).run Try.prog w = .ok (.enter 81 #[.agg #[.int .i64 d.t, .int .i64 d.b, .slice ea en ec], .int .i64 y]) w := fun _ => by kernel_rfl
      have x1 : (((i + j) / 2 : Nat) : Int) < (n : Int) := by omega
      clear x0 x2 hcl hd he
      by_cases up : u < 0
      · have up' : d.b ≤ y := by
          unfold besB at hu
          split at hu
          · assumption
          · split at hu <;> omega
        have HI' : Hid (∀ k c, k < (i + j) / 2 + 1 → l[k]? = some c → c.b ≤ y) := Lib.hid (fun k c hk hc => by
          by_cases kh : k = h
          · subst kh
            rw [HD.out] at hc
            cases hc
            exact up'
          · have := wf_get HW.out k h c d hc HD.out (by omega)
            have := (wf_mem HW.out d (List.mem_of_getElem? HD.out)).tb
            omega)
        clear hu
        go_wp2_with fail
        refine BE.out.mono ?_
        rintro _ w1 ⟨rfl, hb1⟩
        have KB1 := Lib.hid (bel_tr0 KB.out hb1)
        clear hb1
        go_wp2_with fail
        have hs1 := KB1.out.size
        go_roundw
        case rel => exact ⟨(i + j) / 2 + 1, j, by go_num, rfl, by omega, by omega, HI', HJ, hs1, KB1⟩
        case measure => simp [intOf]; omega
      · have dn' : y < d.b := by
          unfold besB at hu
          split at hu
          · omega
          · omega
        have HJ' : Hid (∀ k c, (i + j) / 2 ≤ k → l[k]? = some c → y < c.b) := Lib.hid (fun k c hk hc => by
          by_cases kh : k = h
          · subst kh
            rw [HD.out] at hc
            cases hc
            exact dn'
          · have := wf_get HW.out h k d c HD.out hc (by omega)
            have := (wf_mem HW.out c (List.mem_of_getElem? hc)).tb
            omega)
        clear hu
        go_wp2_with fail
        refine BE.out.mono ?_
        rintro _ w1 ⟨rfl, hb1⟩
        have KB1 := Lib.hid (bel_tr0 KB.out hb1)
        clear hb1
        go_wp2_with fail
        have hs1 := KB1.out.size
        go_roundw
        case rel => exact ⟨i, (i + j) / 2, rfl, by go_num, by omega, by omega, HI, HJ', hs1, KB1⟩
        case measure => simp [intOf]; omega
    · obtain rfl : i = j := by omega
      have nlt : ¬ (i : Int) < (i : Int) := by omega
      by_cases q : i < n
      · have q' : (i : Int) < (n : Int) := by omega
        obtain ⟨g, rfl, hcl⟩ := HC.out (by omega)
        obtain ⟨d, hd⟩ : ∃ d, l[i]? = some d := ⟨_, List.getElem?_eq_getElem (by have := HN.out; omega)⟩
        obtain ⟨ev, x0, x1, x2, he⟩ := HL.out.get i d hd
        obtain ⟨ea, en, ec, rfl, _⟩ : ∃ ea en ec, ev = .slice ea en ec ∧ True := by
          obtain ⟨a, n, c, e, _⟩ := he
          exact ⟨a, n, c, e, trivial⟩
        have c0 := cell_later KB.out (hcl _ _ x0)
        have c1 := cell_later KB.out (hcl _ _ x1)
        have c2 := cell_later KB.out (hcl _ _ x2)
        rw [show 3 * i = i * 3 by omega] at c0 c1 c2
        have HE := Lib.hid (he.later KB.out)
        have HD := Lib.hid hd
        obtain ⟨u, hu⟩ : ∃ u, besB d.t d.b y = u := ⟨_, rfl⟩
        have BE : Hid (Calls Try.prog 81 #[.agg #[.int .i64 d.t, .int .i64 d.b, .slice ea en ec], .int .i64 y] wr fun e w' => e = .returned (.int .i64 u) ∧ Below wr.heap.size wr w') := Lib.hid (by rw [← hu]; exact beside_any _ _ _ _ y wr HE.out)
        have cf : ∀ w : World, (callFunc 81 #[.agg #[.int .i64 d.t, .int .i64 d.b, .slice ea en ec], .int .i64 y]).run Try.prog w = .ok (.enter 81 #[.agg #[.int .i64 d.t, .int .i64 d.b, .slice ea en ec], .int .i64 y]) w := fun _ => by kernel_rfl
        have yb := HJ.out i d (Nat.le_refl _) hd
        have FIN : Hid (∀ w1, Below wr.heap.size wr w1 → SrR w l y (.returned (.tuple #[.int .i64 i, .bool (u == 0)])) w1) := Lib.hid (fun w1 hb1 => by
          refine ⟨i, _, rfl, bel_tr0 KB.out hb1, fun h => ⟨d, HD.out, ?_, yb⟩, fun h c m hc => ?_⟩
          · have h0 : u = 0 := by simpa using h
            unfold besB at hu
            rw [if_neg (by omega)] at hu
            split at hu <;> omega
          · have h0 : u ≠ 0 := by simpa using h
            have yt : y < d.t := by
              unfold besB at hu
              rw [if_neg (by omega)] at hu
              split at hu
              · assumption
              · omega
            obtain ⟨k, hk, rfl⟩ := List.mem_iff_getElem.1 m
            have gk : l[k]? = some l[k] := List.getElem?_eq_getElem hk
            by_cases k1 : k < i
            · have := HI.out k _ k1 gk; omega
            · by_cases k2 : k = i
              · subst k2
                rw [HD.out] at gk
                have := Option.some.inj gk
                rw [← this] at hc
                omega
              · have := wf_get HW.out i k d _ HD.out gk (by omega)
                have := (wf_mem HW.out d (List.mem_of_getElem? HD.out)).tb
                omega)
        clear x0 x1 x2 hcl hd he hu yb
        go_wp2_with fail
        refine BE.out.mono ?_
        rintro _ w1 ⟨rfl, hb1⟩
        have HB1 := Lib.hid hb1
        clear hb1
        go_wp2_with fail
        go_returns
        exact FIN.out _ HB1.out
      · have q' : ¬ (i : Int) < (n : Int) := by omega
        have FIN : Hid (SrR w l y (.returned (.tuple #[.int .i64 i, .bool false])) wr) := Lib.hid ⟨i, _, rfl, KB.out, fun h => by simp at h, fun _ c m hc => by
          obtain ⟨k, hk, rfl⟩ := List.mem_iff_getElem.1 m
          have := HI.out k _ (by have := HN.out; omega) (List.getElem?_eq_getElem hk)
          omega⟩
        go_wp2_with fail
        go_returns
        exact FIN.out
theorem rowAt_in {l : List Bd} (h : Wf l) {d : Bd} {y : Int} (m : d ∈ l) (h1 : d.t ≤ y) (h2 : y < d.b) : Bands.rowAt l y = d.es := by
  induction l with
  | nil => simp at m
  | cons c l ih =>
    rcases List.mem_cons.1 m with rfl | m
    · show (if _ then _ else _) = _
      rw [if_pos ⟨h1, h2⟩]
    · have := h.2.1 d m
      show (if _ then _ else _) = _
      rw [if_neg (by omega)]
      exact ih h.2.2.2 m
theorem rowAt_out {l : List Bd} {y : Int} (h : ∀ d ∈ l, ¬ (d.t ≤ y ∧ y < d.b)) : Bands.rowAt l y = [] := by
  induction l with
  | nil => rfl
  | cons c l ih =>
    show (if _ then _ else _) = _
    rw [if_neg (h c (by simp))]
    exact ih fun d m => h d (by simp [m])
/-- what a row's edges are -/
def RowR (w : World) (l : List Bd) (y : Int) (e : Ending) (w' : World) : Prop := ∃ ev, e = .returned ev ∧ EV w' ev (Bands.rowAt l y) ∧ Below w.heap.size w w'
theorem row_any (v : Value) (l : List Bd) (y : Int) (w : World) (hv : BS w v l) (hw : Wf l) : Calls Try.prog 50 #[.agg #[v], .int .i64 y] w (RowR w l y) := by
  have hv' := hv
  obtain ⟨a, n, c, xs, rfl, hl, hn, nb, nc, hc⟩ := hv'
  have HV := Lib.hid hv
  have HL := Lib.hid hl
  have HW := Lib.hid hw
  have HN := Lib.hid hn
  have HC := Lib.hid hc
  clear hv hl hw hc hn
  go_enter Try.func50, Try.ntmps50
  go_wp2_with fail
  refine (search_any _ l y _ (HV.out.later ?_) HW.out).mono ?_
  · go_grown
  rintro _ w1 ⟨i, r, rfl, hb, h1, h0⟩
  have c0 : w1.cell? ⟨w.heap.size, 0, none⟩ = some (.slice a n c) := by
    rw [World.cell?_of_block (hb.block w.heap.size (by simp))]
    simp
  have KB := Lib.hid (show Below w.heap.size w w1 from bel_tr0 (by go_grown) hb)
  have lt := World.block_lt_of_cell? w1 _ c0
  clear hb
  cases r with
  | false =>
    have FIN : Hid (RowR w l y (.returned (.slice none 0 0)) w1) := Lib.hid ⟨_, rfl, by rw [rowAt_out (h0 rfl)]; exact EV.nil _, KB.out⟩
    clear h0 h1
    go_wp2_with fail
    go_returns
    exact FIN.out
  | true =>
    obtain ⟨d, hd, d1, d2⟩ := h1 rfl
    have iN : i < n := by
      have := (List.getElem?_eq_some_iff.1 hd).1
      have := HN.out
      omega
    have iN' : (i : Int) < (n : Int) := by omega
    obtain ⟨g, rfl, hcl⟩ := HC.out (by omega)
    obtain ⟨ev, x0, x1, x2, he⟩ := HL.out.get i d hd
    have c2 := cell_later KB.out (hcl _ _ x2)
    rw [show 3 * i = i * 3 by omega] at c2
    have FIN : Hid (RowR w l y (.returned ev) w1) := Lib.hid ⟨_, rfl, by rw [rowAt_in HW.out (List.mem_of_getElem? hd) d1 d2]; exact he.later KB.out, KB.out⟩
    clear x0 x1 x2 hcl he h0 h1 hd
    go_wp2_with fail
    go_returns
    exact FIN.out
end Go.Proofs.Ytjemnjboopabpaa
