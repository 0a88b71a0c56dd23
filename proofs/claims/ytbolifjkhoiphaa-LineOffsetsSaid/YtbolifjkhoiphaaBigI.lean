/- The reference's big numbers: Down. -/
import Derived.Test.YtbolifjkhoiphaaBigH
import Derived.Test.YtbolifjkhoiphaaWideE
import Derived.WalkKit
import Derived.WalkSpells
import Derived.WalkLawsBesides
import Derived.Handy
import Derived.Lib.Hide
import Derived.Deep.QuietTactic
import Derived.BigQuiet
import Derived.LoopTactic
import Derived.Deep.LoopGhost
import Derived.Deep.RegionHeld3
import Derived.Deep.RegionWith
import Derived.Outline
import Derived.Deep.DeepCutAuto
namespace Go.Proofs.Ytbolifjkhoiphaa
open Go.RowKit Go.Proofs.Big
set_option linter.unusedVariables false
set_option maxRecDepth 100000
set_option linter.unusedSimpArgs false

theorem big_abs {w : World} {ng : Bool} {a : Option Addr} {l c : Nat} {n : Int} (h : BigV w ng a l c n) : BigV w false a l c (if n < 0 then -n else n) := by
  obtain ⟨xs, r, o, cn, v⟩ := h.rd
  have e : ¬ (if n < 0 then -n else n) < 0 := by split <;> omega
  exact ⟨⟨xs, r, o, cn, by rw [v, if_neg e]⟩, by rw [decide_eq_false e]⟩
theorem big_len0 {w : World} {ng : Bool} {a : Option Addr} {l c : Nat} {n : Int} (h : BigV w ng a l c n) : (l = 0 ↔ n = 0) := by
  obtain ⟨xs, r, o, cn, v⟩ := h.rd
  have e := val_zero_iff o cn
  have hl := r.hlen
  rw [v] at e
  constructor
  · intro h0
    have : xs = [] := List.length_eq_zero_iff.1 (by omega)
    have := e.2 this
    split at this <;> omega
  · intro h0
    have := e.1 (by rw [if_neg (by omega)]; exact h0)
    rw [this] at hl; simpa using hl.symm
/-- memory in the course of Down -/
structure DownW (w wr : World) (g : Nat) (ng : Bool) (a : Option Addr) (la ca : Nat) (mg : Bool) (b : Option Addr) (lb cb : Nat) (nq : Bool) (aq : Option Addr) (lq cq : Nat) (n m Q : Int) : Prop where
  A : BV wr w.heap.size ng a la ca
  B : BV wr (w.heap.size + 1) mg b lb cb
  R1 : BV wr (w.heap.size + 1 + 1) false none 0 0
  R2 : BV wr (w.heap.size + 1 + 1 + 1) false none 0 0
  Qv : BV wr g nq aq lq cq
  An : BigV wr ng a la ca n
  Bn : BigV wr mg b lb cb m
  Qn : BigV wr nq aq lq cq Q
  hg : w.heap.size + 1 + 1 + 1 < g
  bel : Below w.heap.size w wr
section
variable {w wr wx : World} {g : Nat} {a b aq a' : Option Addr} {la ca lb cb lq cq l' c' : Nat} {ng mg nq n' : Bool} {n m Q N : Int}
theorem DownW.later (h : DownW w wr g ng a la ca mg b lb cb nq aq lq cq n m Q) (k : Below wr.heap.size wr wx) : DownW w wx g ng a la ca mg b lb cb nq aq lq cq n m Q :=
  ⟨h.A.later k, h.B.later k, h.R1.later k, h.R2.later k, h.Qv.later k, h.An.later k, h.Bn.later k, h.Qn.later k, h.hg, h.bel.trans (k.mono h.bel.size)⟩
theorem DownW.setQ (h : DownW w wr g ng a la ca mg b lb cb nq aq lq cq n m Q) (k : BigV wr n' a' l' c' N) :
    DownW w ((wr.setCell ⟨g, 0, none⟩ (.bool n')).setCell ⟨g, 1, none⟩ (.slice a' l' c')) g ng a la ca mg b lb cb n' a' l' c' n m N := by
  have hg := h.hg
  exact ⟨h.A.other (by omega) _ _, h.B.other (by omega) _ _, h.R1.other (by omega) _ _, h.R2.other (by omega) _ _, h.Qv.set _ _ _ _, h.An.setBV h.Qv _ _, h.Bn.setBV h.Qv _ _, k.setBV h.Qv _ _, h.hg,
    (h.bel.setCell (by show w.heap.size ≤ g; omega) _).setCell (by show w.heap.size ≤ g; omega) _⟩
theorem DownW.six1 (h : DownW w wr g ng a la ca mg b lb cb nq aq lq cq n m Q) (x y : Value) : (fun w' : World => w'.cell? ⟨g, 0, none⟩ = some (.bool nq) ∧ w'.cell? ⟨g, 1, none⟩ = some (.slice aq lq cq) ∧ w'.cell? ⟨w.heap.size, 0, none⟩ = some (.bool ng) ∧ w'.cell? ⟨w.heap.size, 1, none⟩ = some (.slice a la ca) ∧ w'.cell? ⟨w.heap.size + 1, 0, none⟩ = some (.bool mg) ∧ w'.cell? ⟨w.heap.size + 1, 1, none⟩ = some (.slice b lb cb)) ((wr.setCell ⟨w.heap.size + 1 + 1, 0, none⟩ x).setCell ⟨w.heap.size + 1 + 1, 1, none⟩ y) := by
  have hg := h.hg
  have q := h.Qv.other (b' := w.heap.size + 1 + 1) (by omega) x y
  have p := h.A.other (b' := w.heap.size + 1 + 1) (by omega) x y
  have r := h.B.other (b' := w.heap.size + 1 + 1) (by omega) x y
  exact ⟨q.c0, q.c1, p.c0, p.c1, r.c0, r.c1⟩
theorem DownW.six2 (h : DownW w wr g ng a la ca mg b lb cb nq aq lq cq n m Q) (x y x' y' : Value) : (fun w' : World => w'.cell? ⟨g, 0, none⟩ = some (.bool nq) ∧ w'.cell? ⟨g, 1, none⟩ = some (.slice aq lq cq) ∧ w'.cell? ⟨w.heap.size, 0, none⟩ = some (.bool ng) ∧ w'.cell? ⟨w.heap.size, 1, none⟩ = some (.slice a la ca) ∧ w'.cell? ⟨w.heap.size + 1, 0, none⟩ = some (.bool mg) ∧ w'.cell? ⟨w.heap.size + 1, 1, none⟩ = some (.slice b lb cb)) ((((wr.setCell ⟨w.heap.size + 1 + 1, 0, none⟩ x).setCell ⟨w.heap.size + 1 + 1, 1, none⟩ y).setCell ⟨w.heap.size + 1 + 1 + 1, 0, none⟩ x').setCell ⟨w.heap.size + 1 + 1 + 1, 1, none⟩ y') := by
  have hg := h.hg
  have q := (h.Qv.other (b' := w.heap.size + 1 + 1) (by omega) x y).other (b' := w.heap.size + 1 + 1 + 1) (by omega) x' y'
  have p := (h.A.other (b' := w.heap.size + 1 + 1) (by omega) x y).other (b' := w.heap.size + 1 + 1 + 1) (by omega) x' y'
  have r := (h.B.other (b' := w.heap.size + 1 + 1) (by omega) x y).other (b' := w.heap.size + 1 + 1 + 1) (by omega) x' y'
  exact ⟨q.c0, q.c1, p.c0, p.c1, r.c0, r.c1⟩
end
theorem one_big (w : World) (t : TypeId) : BigV (w.alloc (.cells #[.int .u64 1] t)) true (some ⟨w.heap.size, 0, none⟩) 1 1 (-1) := by
  refine ⟨⟨[1], ⟨rfl, by decide, fun _ => ⟨w.heap.size, 0, rfl, ?_⟩⟩, fun x hx => ?_, .inr (by simp), by simp [val]⟩, by simp⟩
  · intro k hk
    obtain rfl : k = 0 := by omega
    simp [go_sem]
  · simp at hx; omega
set_option maxRecDepth 100000 in
set_option maxHeartbeats 8000000 in
theorem bdown_any (ng mg : Bool) (a b : Option Addr) (la ca lb cb : Nat) (n m q r Q R : Int) (w : World) (ha : BigV w ng a la ca n) (hb : BigV w mg b lb cb m) (n0 : -P 99 < n) (n1 : n < P 99) (m0 : -P 99 < m) (m1 : m < P 99) (mz : m ≠ 0)
    (hQ : Q = (if n < 0 then -n else n) / (if m < 0 then -m else m)) (hR : R = (if n < 0 then -n else n) % (if m < 0 then -m else m))
    (e0 : (ng == mg) = true → q = Q) (e1 : (ng == mg) = false → q = if R = 0 then -Q else -Q - 1) (er : r = n - q * m) (qs : Sm q) (ms : Sm (q * m)) (rs : Sm Q) :
    Calls Try.prog 89 #[.agg #[.bool ng, .slice a la ca], .agg #[.bool mg, .slice b lb cb]] w (RetBig2 w q r) := by
  have sa : la ≤ 99 := ha.len 99 n0 n1
  have sb : lb ≤ 99 := hb.len 99 m0 m1
  have R0 : 0 ≤ R := by rw [hR]; exact Int.emod_nonneg _ (by split <;> omega)
  have Q0 : 0 ≤ Q := by rw [hQ]; exact Int.ediv_nonneg (by split <;> omega) (by split <;> omega)
  have HA := Lib.hid ha
  have HB := Lib.hid hb
  have DV := Lib.hid (fun (w1 : World) (k : Below w.heap.size w w1) => divided_any a b la ca lb cb _ _ w1 (big_abs (ha.later k)) (big_abs (hb.later k)) (by split <;> omega) (by split <;> omega) (by split <;> omega) (by split <;> omega))
  have E := Lib.hid (And.intro hQ hR)
  have E1 := Lib.hid (And.intro e0 e1)
  have ER := Lib.hid er
  have SM := Lib.hid (And.intro qs (And.intro ms rs))
  have SMn : Hid (Sm (-(q * m))) := Lib.hid (by unfold Sm at ms ⊢; omega)
  clear ha hb hQ hR e0 e1 er qs ms rs
  go_enter Try.func89, Try.ntmps89
  go_wp2_with fail
  refine (DV.out _ (by go_grown)).mono ?_
  rintro e w1 ⟨nq, aq, lq, cq, nr, ar, lr, cr, rfl, hv1, hv2, hb1⟩
  rw [← E.out.1] at hv1
  rw [← E.out.2] at hv2
  have z1 := hb1.size
  simp only [World.size_alloc] at z1
  have b1 := (((BV.new w ng a la ca 112).alloc (.cells #[.bool mg, .slice b lb cb] 112)).alloc (.cells #[.bool false, .slice none 0 0] 112)).alloc (.cells #[.bool false, .slice none 0 0] 112)
  have b2 := ((BV.new (w.alloc (.cells #[.bool ng, .slice a la ca] 112)) mg b lb cb 112).alloc (.cells #[.bool false, .slice none 0 0] 112)).alloc (.cells #[.bool false, .slice none 0 0] 112)
  have b3 := (BV.new ((w.alloc (.cells #[.bool ng, .slice a la ca] 112)).alloc (.cells #[.bool mg, .slice b lb cb] 112)) false none 0 0 112).alloc (.cells #[.bool false, .slice none 0 0] 112)
  have b4 := BV.new (((w.alloc (.cells #[.bool ng, .slice a la ca] 112)).alloc (.cells #[.bool mg, .slice b lb cb] 112)).alloc (.cells #[.bool false, .slice none 0 0] 112)) false none 0 0 112
  simp only [World.size_alloc] at b1 b2 b3 b4
  have bq := (BV.new w1 nq aq lq cq 112).alloc (.cells #[.bool nr, .slice ar lr cr] 112)
  have br := BV.new (w1.alloc (.cells #[.bool nq, .slice aq lq cq] 112)) nr ar lr cr 112
  simp only [World.size_alloc] at br
  have b14 : Below w1.heap.size w1 ((w1.alloc (.cells #[.bool nq, .slice aq lq cq] 112)).alloc (.cells #[.bool nr, .slice ar lr cr] 112)) := by go_grown
  have b01 : Below w.heap.size w w1 := Below.trans (by go_grown) (hb1.mono (by simp; omega))
  have hD := Lib.hid (show DownW w ((w1.alloc (.cells #[.bool nq, .slice aq lq cq] 112)).alloc (.cells #[.bool nr, .slice ar lr cr] 112)) w1.heap.size ng a la ca mg b lb cb nq aq lq cq n m Q from
    ⟨(b1.later hb1).later b14, (b2.later hb1).later b14, (b3.later hb1).later b14, (b4.later hb1).later b14, bq, (HA.out.later b01).later b14, (HB.out.later b01).later b14, hv1.later b14, by omega, b01.trans (b14.mono b01.size)⟩)
  have LR := big_len0 hv2
  have BR := Lib.hid br
  have lgt : w.heap.size + 1 + 1 + 1 < w1.heap.size := by omega
  clear hv1 hv2 hb1 b1 b2 b3 b4 bq br b14 b01 HA HB DV
  obtain ⟨p0, p1, _, _⟩ := hD.out.A
  obtain ⟨p2, p3, _, _⟩ := hD.out.B
  go_upto_if 22 with fail
  go_cut [] (fun wx => ∃ (nq : Bool) (aq : Option Addr) (lq cq : Nat), Hid (DownW w wx w1.heap.size ng a la ca mg b lb cb nq aq lq cq n m q))
  case first =>
    cases ng <;> cases mg
    · have e := E1.out.1 rfl
      have F := Lib.hid (show DownW w _ w1.heap.size false a la ca false b lb cb nq aq lq cq n m q from by rw [e]; exact hD.out)
      clear e
      go_wp2_with fail
      go_meet
      exact ⟨nq, aq, lq, cq, F⟩
    · have EQ := Lib.hid (E1.out.2 rfl)
      obtain ⟨k0, k1, k2, k3⟩ := hD.out.Qv
      go_wp2_with fail
      refine (minus_any nq aq lq cq Q _ hD.out.Qn (Nat.le_trans (Sm.le hD.out.Qn SM.out.2.2) (by decide))).mono ?_
      rintro e w2 ⟨n2, a2, l2, c2, rfl, hv2, hb2⟩
      have hD2 := Lib.hid ((hD.out.later hb2).setQ hv2)
      have BR2 := Lib.hid ((BR.out.later hb2).other (b' := w1.heap.size) (by omega) (.bool n2) (.slice a2 l2 c2))
      clear k0 k1 k2 k3
      obtain ⟨k0, k1, k2, k3⟩ := (hD.out.later hb2).Qv
      obtain ⟨r0, r1, _, _⟩ := BR2.out
      clear hv2 hb2
      by_cases lz : lr = 0
      · have F := Lib.hid (show DownW w _ w1.heap.size false a la ca true b lb cb n2 a2 l2 c2 n m q from by rw [EQ.out, if_pos (LR.1 lz)]; exact hD2.out)
        have lz2 : ¬ 0 < (lr : Int) := by omega
        go_wp2_with fail
        go_meet
        exact ⟨n2, a2, l2, c2, F⟩
      · have lz2 : 0 < (lr : Int) := by omega
        have Rz : ¬ R = 0 := fun h => lz (LR.2 h)
        obtain ⟨j0, j1, j2, j3⟩ := hD2.out.Qv
        go_wp2_with fail
        have hD3 := Lib.hid (hD2.out.later ((Below.refl _ _).alloc (Nat.le_refl _) (.cells #[.int .u64 1] 118)))
        have OB := one_big ((w2.setCell ⟨w1.heap.size, 0, none⟩ (.bool n2)).setCell ⟨w1.heap.size, 1, none⟩ (.slice a2 l2 c2)) 118
        have SQ : Sm (-Q) := by have := SM.out.2.2; unfold Sm at this ⊢; omega
        refine (plus_any n2 true a2 (some ⟨w2.heap.size, 0, none⟩) l2 c2 1 1 (-Q) (-1) _ hD3.out.Qn (by simpa using OB) (Nat.le_trans (Sm.le hD3.out.Qn SQ) (by decide)) (by decide)).mono ?_
        rintro e w4 ⟨n4, a4, l4, c4, rfl, hv4, hb4⟩
        have hD4 := Lib.hid ((hD3.out.later hb4).setQ hv4)
        have F := Lib.hid (show DownW w _ w1.heap.size false a la ca true b lb cb n4 a4 l4 c4 n m q from by rw [EQ.out, if_neg Rz]; exact hD4.out)
        obtain ⟨i0, i1, i2, i3⟩ := (hD3.out.later hb4).Qv
        clear hv4 hb4 OB k0 k1 k2 k3 j0 j1 j2 j3
        go_wp2_with fail
        go_meet
        exact ⟨n4, a4, l4, c4, F⟩
    · have EQ := Lib.hid (E1.out.2 rfl)
      obtain ⟨k0, k1, k2, k3⟩ := hD.out.Qv
      go_wp2_with fail
      refine (minus_any nq aq lq cq Q _ hD.out.Qn (Nat.le_trans (Sm.le hD.out.Qn SM.out.2.2) (by decide))).mono ?_
      rintro e w2 ⟨n2, a2, l2, c2, rfl, hv2, hb2⟩
      have hD2 := Lib.hid ((hD.out.later hb2).setQ hv2)
      have BR2 := Lib.hid ((BR.out.later hb2).other (b' := w1.heap.size) (by omega) (.bool n2) (.slice a2 l2 c2))
      clear k0 k1 k2 k3
      obtain ⟨k0, k1, k2, k3⟩ := (hD.out.later hb2).Qv
      obtain ⟨r0, r1, _, _⟩ := BR2.out
      clear hv2 hb2
      by_cases lz : lr = 0
      · have F := Lib.hid (show DownW w _ w1.heap.size true a la ca false b lb cb n2 a2 l2 c2 n m q from by rw [EQ.out, if_pos (LR.1 lz)]; exact hD2.out)
        have lz2 : ¬ 0 < (lr : Int) := by omega
        go_wp2_with fail
        go_meet
        exact ⟨n2, a2, l2, c2, F⟩
      · have lz2 : 0 < (lr : Int) := by omega
        have Rz : ¬ R = 0 := fun h => lz (LR.2 h)
        obtain ⟨j0, j1, j2, j3⟩ := hD2.out.Qv
        go_wp2_with fail
        have hD3 := Lib.hid (hD2.out.later ((Below.refl _ _).alloc (Nat.le_refl _) (.cells #[.int .u64 1] 118)))
        have OB := one_big ((w2.setCell ⟨w1.heap.size, 0, none⟩ (.bool n2)).setCell ⟨w1.heap.size, 1, none⟩ (.slice a2 l2 c2)) 118
        have SQ : Sm (-Q) := by have := SM.out.2.2; unfold Sm at this ⊢; omega
        refine (plus_any n2 true a2 (some ⟨w2.heap.size, 0, none⟩) l2 c2 1 1 (-Q) (-1) _ hD3.out.Qn (by simpa using OB) (Nat.le_trans (Sm.le hD3.out.Qn SQ) (by decide)) (by decide)).mono ?_
        rintro e w4 ⟨n4, a4, l4, c4, rfl, hv4, hb4⟩
        have hD4 := Lib.hid ((hD3.out.later hb4).setQ hv4)
        have F := Lib.hid (show DownW w _ w1.heap.size true a la ca false b lb cb n4 a4 l4 c4 n m q from by rw [EQ.out, if_neg Rz]; exact hD4.out)
        obtain ⟨i0, i1, i2, i3⟩ := (hD3.out.later hb4).Qv
        clear hv4 hb4 OB k0 k1 k2 k3 j0 j1 j2 j3
        go_wp2_with fail
        go_meet
        exact ⟨n4, a4, l4, c4, F⟩
    · have e := E1.out.1 rfl
      have F := Lib.hid (show DownW w _ w1.heap.size true a la ca true b lb cb nq aq lq cq n m q from by rw [e]; exact hD.out)
      clear e
      go_wp2_with fail
      go_meet
      exact ⟨nq, aq, lq, cq, F⟩
  case rest =>
    obtain ⟨nq, aq, lq, cq, hD⟩ := hcut
    obtain ⟨k0, k1, _, _⟩ := hD.out.Qv
    obtain ⟨p0, p1, _, _⟩ := hD.out.A
    obtain ⟨p2, p3, _, _⟩ := hD.out.B
    obtain ⟨y0, y1, y2, y3⟩ := hD.out.R1
    obtain ⟨y4, y5, y6, y7⟩ := hD.out.R2
    go_wp2_with fail
    go_region_held3 (fun w' => w'.cell? ⟨w1.heap.size, 0, none⟩ = some (.bool nq) ∧ w'.cell? ⟨w1.heap.size, 1, none⟩ = some (.slice aq lq cq) ∧ w'.cell? ⟨w.heap.size, 0, none⟩ = some (.bool ng) ∧ w'.cell? ⟨w.heap.size, 1, none⟩ = some (.slice a la ca) ∧ w'.cell? ⟨w.heap.size + 1, 0, none⟩ = some (.bool mg) ∧ w'.cell? ⟨w.heap.size + 1, 1, none⟩ = some (.slice b lb cb)) (first | with_reducible exact HS3.out | with_reducible exact HS2.out | with_reducible exact HS1.out | with_reducible exact D7.out.six1 _ _ | with_reducible exact D7.out.six2 _ _ _ _ | (go_keep; done)) (first
      | (go_at_call 88; refine (times_any nq mg aq b lq cq lb cb q m _ (hD.out.later (below_undrew (Below.refl _ _))).Qn (hD.out.later (below_undrew (Below.refl _ _))).Bn (Nat.le_trans (Sm.le hD.out.Qn SM.out.1) (by decide)) (by omega)).mono ?_; rintro e w5 ⟨n5, a5, l5, c5, rfl, hv5, hb5⟩; have H5 := Lib.hid hv5; have D5 := Lib.hid (hD.out.later (below_undrew hb5)); have HS1 := Lib.hid (And.intro D5.out.Qv.c0 (And.intro D5.out.Qv.c1 (And.intro D5.out.A.c0 (And.intro D5.out.A.c1 (And.intro D5.out.B.c0 D5.out.B.c1))))); clear hv5 hb5)
      | (go_at_call 59; refine (minus_any n5 a5 l5 c5 (q * m) _ H5.out (Nat.le_trans (Sm.le H5.out SM.out.2.1) (by decide))).mono ?_; rintro e w6 ⟨n6, a6, l6, c6, rfl, hv6, hb6⟩; have H6 := Lib.hid hv6; have D6 := Lib.hid (D5.out.later hb6); have HS2 := Lib.hid (And.intro D6.out.Qv.c0 (And.intro D6.out.Qv.c1 (And.intro D6.out.A.c0 (And.intro D6.out.A.c1 (And.intro D6.out.B.c0 D6.out.B.c1))))); clear hv6 hb6)
      | (go_at_call 57; refine (plus_any ng n6 a a6 la ca l6 c6 n (-(q * m)) _ D6.out.An H6.out (by omega) (Nat.le_trans (Sm.le H6.out (SMn.out)) (by decide))).mono ?_; rintro e w7 ⟨n7, a7, l7, c7, rfl, hv7, hb7⟩; have H7 := Lib.hid hv7; have D7 := Lib.hid (D6.out.later hb7); have HS3 := Lib.hid (And.intro D7.out.Qv.c0 (And.intro D7.out.Qv.c1 (And.intro D7.out.A.c0 (And.intro D7.out.A.c1 (And.intro D7.out.B.c0 D7.out.B.c1))))); obtain ⟨y0, y1, y2, y3⟩ := D7.out.R1; obtain ⟨y4, y5, y6, y7⟩ := D7.out.R2; clear hv7 hb7))
    all_goals
      go_wp2_with fail
      have er := ER.out
      refine bodyPost_ret (v := .tuple #[.agg #[.bool nq, .slice aq lq cq], .agg #[.bool n7, .slice a7 l7 c7]]) (by simp [results, Try.results89, go_sem, y0, y1, y2, y3, y4, y5, y6, y7]) rfl ?_
      have v1 := D7.out.Qn.setBV D7.out.R1 (.bool nq) (.slice aq lq cq)
      have v2 := H7.out.setBV D7.out.R1 (.bool nq) (.slice aq lq cq)
      have r2 := D7.out.R2.other (b' := w.heap.size + 1 + 1) (by omega) (.bool nq) (.slice aq lq cq)
      have dr : ∀ wx : World, Below wx.heap.size wx wx.drew := fun wx => Below.drew (Below.refl _ _)
      have er' : n + -(q * m) = r := by omega
      rw [er'] at v2
      exact ⟨nq, aq, lq, cq, n7, a7, l7, c7, rfl, v1.setBV r2 _ _, v2.setBV r2 _ _, (((D7.out.bel.setCell (by show w.heap.size ≤ w.heap.size + 1 + 1; omega) _).setCell (by show w.heap.size ≤ w.heap.size + 1 + 1; omega) _).setCell (by show w.heap.size ≤ w.heap.size + 1 + 1 + 1; omega) _).setCell (by show w.heap.size ≤ w.heap.size + 1 + 1 + 1; omega) _⟩
end Go.Proofs.Ytbolifjkhoiphaa
