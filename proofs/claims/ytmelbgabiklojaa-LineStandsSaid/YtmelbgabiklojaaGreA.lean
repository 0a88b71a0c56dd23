/- LineGreedy: the law's own width, the closure under Try. Made by gen/grea.py. -/
import Derived.Test.YtmelbgabiklojaaStaQ
import Derived.Test.YtmelbgabiklojaaLinS
import Derived.WalkKit
import Derived.WalkSpells
import Derived.WalkLawsBesides
import Derived.Handy
import Derived.Lib.Hide
import Derived.Deep.QuietTactic
import Derived.BigQuiet
import Derived.LoopTactic
import Derived.RegionTactic
import Derived.BigRegion
import Derived.Outline
namespace Go.Proofs.Ytmelbgabiklojaa
open Go.RowKit Go.Proofs.Reg Go.Proofs.Big Lin
set_option linter.unusedVariables false
set_option linter.unusedSimpArgs false
set_option maxRecDepth 100000
/-- the width on the way -/
def pwF (l : List I4) (n i : Nat) : Int := if i < n then AS l 0 i else wd l 0 n
theorem pwF_zero (l : List I4) (n : Nat) : pwF l n 0 = 0 := by
  unfold pwF
  by_cases h : 0 < n
  · rw [if_pos h, AS]
  · obtain rfl : n = 0 := by omega
    rw [if_neg h]; unfold wd; rw [parts_nil _ _ _ _ (Nat.le_refl _)]; rfl
theorem pwF_mid {l : List I4} {n i : Nat} {x y z : Int} {b : Bool} (h : i + 1 < n) (hr : itm l i = (x, y, z, b)) : pwF l n (i + 1) = pwF l n i + x + y := by
  unfold pwF
  rw [if_pos h, if_pos (by omega), AS, Nat.zero_add, hr]
theorem pwF_last {l : List I4} {n i : Nat} {x y z : Int} {b : Bool} (h : i + 1 = n) (hr : itm l i = (x, y, z, b)) : pwF l n (i + 1) = pwF l n i + x := by
  unfold pwF
  have := AS_wd l 0 i
  rw [Nat.zero_add, hr] at this
  rw [if_neg (by omega), if_pos (by omega), ← h, ← this]
theorem pwF_rng {l : List I4} (h : Sml l) {n i : Nat} (hn : n = l.length) : 0 ≤ pwF l n i ∧ pwF l n i ≤ 10000000 := by
  have q := h.n
  unfold pwF
  split
  · have := AS_rng h 0 i; omega
  · have := wd_rng h 0 n (by omega); omega
theorem wide13_any (a : Option Addr) (n c : Nat) (l : List I4) (hs : Sml l) (w : World) (h : KS IK w (.slice a n c) l) :
    Calls Try.prog 17 #[.slice a n c] w fun e w' => e = .returned (.int .i64 (wd l 0 n)) ∧ w' = w := by
  obtain ⟨hn, hc, hm⟩ := h.len
  have HK := Lib.hid h
  have HS := Lib.hid hs
  have HN := Lib.hid hn
  have n40 : n ≤ 40 := by have := hs.n; omega
  clear h hs hn
  go_enter Try.func17, Try.ntmps17
  go_wp2_with fail
  go_loop [3, 4] (fun s3 s4 => ∃ (i : Nat) (s : Int), s4 = .int .i64 i ∧ s3 = .int .i64 s ∧ i ≤ n ∧ Hid (pwF l n i = s)) (fun _ s4 => n - (intOf s4).toNat)
  case atStart => exact ⟨0, 0, rfl, rfl, by omega, Lib.hid (pwF_zero l n)⟩
  case round =>
    obtain ⟨i, s, rfl, rfl, hin, HP⟩ := hrel
    have PR := pwF_rng HS.out (i := i) HN.out
    rw [HP.out] at PR
    obtain ⟨s0, s1⟩ := PR
    by_cases lt : i < n
    · have lt' : (i : Int) < (n : Int) := by omega
      obtain ⟨g, o, x, y, z, b, rfl, hit, hr, y0, y1, y2, y3⟩ := IK.at HK.out lt
      have SM := sml_itm HS.out i
      rw [hit] at SM
      obtain ⟨x0, x1, z0, z1⟩ := SM
      dsimp only at x0 x1 z0 z1
      have PM : Hid (i + 1 < n → pwF l n (i + 1) = s + x + y) := Lib.hid (fun h => by rw [pwF_mid h hit, HP.out])
      have PL : Hid (i + 1 = n → pwF l n (i + 1) = s + x) := Lib.hid (fun h => by rw [pwF_last h hit, HP.out])
      have ix : ∀ wy : World, (Instr.indexAt 25 (.slice (some ⟨g, o, none⟩) n c) (.int .i64 i)).run Try.prog wy = .ok (.pointer (some ⟨g, o + i * 4, none⟩)) wy := fun wy => by
        have k0 : (0 : Int) ≤ (i : Int) := by omega
        simp [go_sem, k0, lt', Addr.add]
        try omega
      clear hit hr y2 y3
      by_cases l2 : i + 1 < n
      · have l2' : (i : Int) + 1 < (n : Int) := by omega
        go_wp2_with fail
        go_round
        case rel => exact ⟨i + 1, s + x + y, by simp, rfl, by omega, Lib.hid (PM.out l2)⟩
        case measure => simp [intOf]; omega
      · have l2' : ¬ (i : Int) + 1 < (n : Int) := by omega
        go_wp2_with fail
        go_round
        case rel => exact ⟨i + 1, s + x, by simp, rfl, by omega, Lib.hid (PL.out (by omega))⟩
        case measure => simp [intOf]; omega
    · have e : i = n := by omega
      subst e
      have E : Hid (wd l 0 i = s) := Lib.hid (by rw [← HP.out]; unfold pwF; rw [if_neg (by omega)])
      have lt' : ¬ (i : Int) < (i : Int) := by omega
      go_wp2_with fail
      go_returns
      refine ⟨?_, rfl⟩
      rw [E.out]
      rfl
theorem ks_but' {α : Type} {K : Rk α} {bs : List Nat} {w w' : World} {a : Option Addr} {n c : Nat} {rs : List α} (h : KS K w (.slice a n c) rs) (hb : But bs w w') (ha : ∀ p : Addr, a = some p → 0 < n → p.block ∉ bs) : KS K w' (.slice a n c) rs := by
  obtain ⟨a', n', c', e, hn, hc, hm, h5⟩ := h
  simp only [Value.slice.injEq] at e
  obtain ⟨rfl, rfl, rfl⟩ := e
  refine ⟨_, _, _, rfl, hn, hc, hm, fun q => ?_⟩
  obtain ⟨g, o, rfl, hk⟩ := h5 q
  exact ⟨g, o, rfl, fun k r hr i x hx => hb.cell (show g ∉ bs from ha ⟨g, o, none⟩ rfl q) (hk k r hr i x hx)⟩
/-- what the region of the law's closure keeps -/
structure GrB (w : World) (b7 b8 b9 : Nat) (ls : List L4) (v d : Int) (L : Nat → Bool) (vz : Nat → Value) (wy : World) : Prop where
  but : But [b7, b8, b9] w wy
  x7 : L 7 = false → Var wy ⟨b7, 0, none⟩ (.slice none 0 0)
  x8 : Var wy ⟨b8, 0, none⟩ (.int .i64 (if L 8 = true then v else 0))
  x9 : Var wy ⟨b9, 0, none⟩ (.int .i64 (if L 9 = true then d else 0))
  ans : L 2 = true → ∃ a n c, vz 2 = .slice a n c ∧ KS LK wy (.slice a n c) ls ∧ ∀ p : Addr, a = some p → w.heap.size ≤ p.block
  fin : L 7 = true → Var wy ⟨b7, 0, none⟩ (vz 2)
section
variable {w : World} {b7 b8 b9 : Nat} {ls : List L4} {v d : Int} {L : Nat → Bool} {vz : Nat → Value} {wy w' : World}
theorem GrB.pure (h : GrB w b7 b8 b9 ls v d L vz wy) (j : Nat) (u : Value) (n2 : 2 ≠ j) (n7 : 7 ≠ j) (n8 : 8 ≠ j) (n9 : 9 ≠ j) (hb : Below wy.heap.size wy w') : GrB w b7 b8 b9 ls v d (addL L j) (upd vz j u) w' := by
  have a2 : addL L j 2 = L 2 := by simp [addL, n2]
  have a7 : addL L j 7 = L 7 := by simp [addL, n7]
  have a8 : addL L j 8 = L 8 := by simp [addL, n8]
  have a9 : addL L j 9 = L 9 := by simp [addL, n9]
  have u2 : upd vz j u 2 = vz 2 := by simp [upd, n2]
  refine ⟨h.but.later hb, fun q => (h.x7 (a7 ▸ q)).later hb, by rw [a8]; exact h.x8.later hb, by rw [a9]; exact h.x9.later hb, fun q => ?_, fun q => ?_⟩
  · obtain ⟨a, n, c, e, hk, hp⟩ := h.ans (a2 ▸ q)
    exact ⟨a, n, c, u2.trans e, hk.later hb, hp⟩
  · rw [u2]; exact (h.fin (a7 ▸ q)).later hb
theorem GrB.ret (h : GrB w b7 b8 b9 ls v d L vz wy) (z2 : L 2 = false) (z7 : L 7 = false) {u : Value} (hk : KS LK w' u ls) (hp : ∀ (p : Addr) (n c : Nat), u = .slice (some p) n c → wy.heap.size ≤ p.block) (hb : Below wy.heap.size wy w') : GrB w b7 b8 b9 ls v d (addL L 2) (upd vz 2 u) w' := by
  have a7 : addL L 2 7 = L 7 := by simp [addL]
  have a8 : addL L 2 8 = L 8 := by simp [addL]
  have a9 : addL L 2 9 = L 9 := by simp [addL]
  refine ⟨h.but.later hb, fun q => (h.x7 (a7 ▸ q)).later hb, by rw [a8]; exact h.x8.later hb, by rw [a9]; exact h.x9.later hb, fun q => ?_, fun q => ?_⟩
  · obtain ⟨a, n, c, e, _⟩ := id hk
    subst e
    exact ⟨a, n, c, by simp [upd], hk, fun p e => by subst e; exact Nat.le_trans h.but.size (hp p n c rfl)⟩
  · rw [a7, z7] at q; cases q
theorem GrB.ks (h : GrB w b7 b8 b9 ls v d L vz wy) {b : Nat} (hb : b < w.heap.size) (u : Value) : L 2 = true → ∃ a n c, vz 2 = .slice a n c ∧ KS LK (wy.setCell ⟨b, 0, none⟩ u) (.slice a n c) ls ∧ ∀ p : Addr, a = some p → w.heap.size ≤ p.block := fun q => by
  obtain ⟨a, n, c, e, hk, hp⟩ := h.ans q
  exact ⟨a, n, c, e, KS.aside hk (fun p _ _ e => by cases e; have := hp _ rfl; omega) 0 _, hp⟩
theorem GrB.put7 (h : GrB w b7 b8 b9 ls v d L vz wy) (ne : b7 ≠ b8 ∧ b7 ≠ b9 ∧ b8 ≠ b9) (lt : b7 < w.heap.size) (z7 : L 7 = false) (y2 : L 2 = true) {u : Value} : GrB w b7 b8 b9 ls v d (addL L 7) (upd vz 7 u) (wy.setCell ⟨b7, 0, none⟩ (vz 2)) := by
  have a2 : addL L 7 2 = L 2 := by simp [addL]
  have a7 : addL L 7 7 = true := by simp [addL]
  have a8 : addL L 7 8 = L 8 := by simp [addL]
  have a9 : addL L 7 9 = L 9 := by simp [addL]
  have u2 : upd vz 7 u 2 = vz 2 := by simp [upd]
  refine ⟨h.but.setCell (.inl (by simp)) _, fun q => (by rw [a7] at q; cases q), by rw [a8]; exact h.x8.other (fun e => ne.1 (by injection e)) _, by rw [a9]; exact h.x9.other (fun e => ne.2.1 (by injection e)) _, fun q => ?_, fun q => ?_⟩
  · rw [u2]; exact h.ks lt _ (a2 ▸ q)
  · rw [u2]; exact (h.x7 z7).set _
theorem GrB.put8 (h : GrB w b7 b8 b9 ls v d L vz wy) (ne : b7 ≠ b8 ∧ b7 ≠ b9 ∧ b8 ≠ b9) (lt : b8 < w.heap.size) {u : Value} : GrB w b7 b8 b9 ls v d (addL L 8) (upd vz 8 u) (wy.setCell ⟨b8, 0, none⟩ (.int .i64 v)) := by
  have a2 : addL L 8 2 = L 2 := by simp [addL]
  have a7 : addL L 8 7 = L 7 := by simp [addL]
  have a8 : addL L 8 8 = true := by simp [addL]
  have a9 : addL L 8 9 = L 9 := by simp [addL]
  have u2 : upd vz 8 u 2 = vz 2 := by simp [upd]
  refine ⟨h.but.setCell (.inl (by simp)) _, fun q => (h.x7 (a7 ▸ q)).other (fun e => ne.1 (by injection e with e; exact e.symm)) _, by rw [a8, if_pos rfl]; exact h.x8.set _, by rw [a9]; exact h.x9.other (fun e => ne.2.2 (by injection e)) _, fun q => ?_, fun q => ?_⟩
  · rw [u2]; exact h.ks lt _ (a2 ▸ q)
  · rw [u2]; exact (h.fin (a7 ▸ q)).other (fun e => ne.1 (by injection e with e; exact e.symm)) _
theorem GrB.put9 (h : GrB w b7 b8 b9 ls v d L vz wy) (ne : b7 ≠ b8 ∧ b7 ≠ b9 ∧ b8 ≠ b9) (lt : b9 < w.heap.size) {u : Value} : GrB w b7 b8 b9 ls v d (addL L 9) (upd vz 9 u) (wy.setCell ⟨b9, 0, none⟩ (.int .i64 d)) := by
  have a2 : addL L 9 2 = L 2 := by simp [addL]
  have a7 : addL L 9 7 = L 7 := by simp [addL]
  have a8 : addL L 9 8 = L 8 := by simp [addL]
  have a9 : addL L 9 9 = true := by simp [addL]
  have u2 : upd vz 9 u 2 = vz 2 := by simp [upd]
  refine ⟨h.but.setCell (.inl (by simp)) _, fun q => (h.x7 (a7 ▸ q)).other (fun e => ne.2.1 (by injection e with e; exact e.symm)) _, by rw [a8]; exact h.x8.other (fun e => ne.2.2 (by injection e with e; exact e.symm)) _, by rw [a9, if_pos rfl]; exact h.x9.set _, fun q => ?_, fun q => ?_⟩
  · rw [u2]; exact h.ks lt _ (a2 ▸ q)
  · rw [u2]; exact (h.fin (a7 ▸ q)).other (fun e => ne.2.1 (by injection e with e; exact e.symm)) _
end
/-- what the closure leaves -/
def GrQ (b7 b8 b9 B : Nat) (w : World) (ls : List L4) (v d : Int) (w' : World) : Prop := But [b7, b8, b9] w w' ∧ Var w' ⟨b8, 0, none⟩ (.int .i64 v) ∧ Var w' ⟨b9, 0, none⟩ (.int .i64 d) ∧ ∃ a n c, Var w' ⟨b7, 0, none⟩ (.slice a n c) ∧ KS LK w' (.slice a n c) ls ∧ ∀ p : Addr, a = some p → B ≤ p.block
set_option maxHeartbeats 4000000 in
theorem lg1_in (b5 b6 b7 b8 b9 : Nat) (a : Option Addr) (n c : Nat) (l : List I4) (av v d : Int) (ls : List L4) (hl : n ≤ 900000) (ha : In64 av) (hi : ∀ r ∈ l, InI r) (h1 : fillE l av 0 0 = some ls) (h2 : leastE l 0 0 = some v) (h3 : wid l 0 n = some d) (w : World) (hc5 : w.cell? ⟨b5, 0, none⟩ = some (.slice a n c)) (hc6 : w.cell? ⟨b6, 0, none⟩ = some (.int .i64 av)) (v7 : Var w ⟨b7, 0, none⟩ (.slice none 0 0)) (v8 : Var w ⟨b8, 0, none⟩ (.int .i64 0)) (v9 : Var w ⟨b9, 0, none⟩ (.int .i64 0)) (ne : b7 ≠ b8 ∧ b7 ≠ b9 ∧ b8 ≠ b9) (n5 : b5 ∉ [b7, b8, b9]) (n6 : b6 ∉ [b7, b8, b9]) (na : ∀ p : Addr, a = some p → 0 < n → p.block ∉ [b7, b8, b9]) (h : KS IK w (.slice a n c) l) :
    Calls Try.prog 13 #[.pointer (some ⟨b5, 0, none⟩), .pointer (some ⟨b6, 0, none⟩), .pointer (some ⟨b7, 0, none⟩), .pointer (some ⟨b8, 0, none⟩), .pointer (some ⟨b9, 0, none⟩)] w fun e w' => e = .returned (.tuple #[]) ∧ GrQ b7 b8 b9 w.heap.size w ls v d w' := by
  have FI := Lib.hid (fun w h => lfill_any a n c l av 0 hl ha ⟨by decide, by decide⟩ hi w h)
  have LE := Lib.hid (fun w h => lleast_any a n c l hl hi w h)
  have MO := Lib.hid (fun w h => lmost_any a n c l hl hi w h)
  rw [h1] at FI
  rw [h2] at LE
  rw [h3] at MO
  have HK := Lib.hid h
  have NE := Lib.hid ne
  have C5 := Lib.hid hc5
  have C6 := Lib.hid hc6
  have N5 := Lib.hid (show (⟨b5, 0, none⟩ : Addr).block ∉ [b7, b8, b9] from n5)
  have N6 := Lib.hid (show (⟨b6, 0, none⟩ : Addr).block ∉ [b7, b8, b9] from n6)
  have NA := Lib.hid na
  have L7 := Lib.hid (show b7 < w.heap.size from v7.lt)
  have L8 := Lib.hid (show b8 < w.heap.size from v8.lt)
  have L9 := Lib.hid (show b9 < w.heap.size from v9.lt)
  have MB : Hid (GrB w b7 b8 b9 ls v d (fun _ => false) (fun _ => undef) w.drew) := Lib.hid ⟨(But.refl _ _).drew, fun _ => v7.later (Below.refl _ _).drew, v8.later (Below.refl _ _).drew, v9.later (Below.refl _ _).drew, fun h => (by cases h), fun h => (by cases h)⟩
  clear h h1 h2 h3 ne hc5 hc6 n5 n6 na v7 v8 v9 hi
  go_enter Try.func13, Try.ntmps13
  go_wp2_with fail
  refine wp_region_vals [some (.slice a n c), some (.int .i64 av), none, some (.slice a n c), some (.int .i64 v), some (.slice a n c), some (.int .i64 d), some (undef), some (undef), some (undef)] (GrB w b7 b8 b9 ls v d)
    [some 5, some 6, some 7, some 8, some 9, some 10, some 11, none, none, none] (by kernel_rfl) (by kernel_rfl) (by kernel_rfl) (by kernel_rfl) (by kernel_rfl) (by kernel_rfl) MB.out (fun ie oe ho => ?_) (fun Lz vz wz hL hB => ?_)
  · match ie, ho with
    | 0, ho =>
      obtain rfl := Option.some.inj ho
      intro Az Lz vz wy Kz Ez hB k
      have e0 : Az.eval (.tmp 0) = .pointer (some ⟨b5, 0, none⟩) := Ez.out 0 (by kernel_rfl)
      have q0 := hB.but.cell N5.out C5.out
      exact wpo_val (v := .slice a n c) (run_load e0 (by simp [go_sem, q0])) (k _ _ rfl (hB.pure 0 _ (by decide) (by decide) (by decide) (by decide) (Below.refl _ _)))
    | 1, ho =>
      obtain rfl := Option.some.inj ho
      intro Az Lz vz wy Kz Ez hB k
      have e1 : Az.eval (.tmp 1) = .pointer (some ⟨b6, 0, none⟩) := Ez.out 1 (by kernel_rfl)
      have q0 := hB.but.cell N6.out C6.out
      exact wpo_val (v := .int .i64 av) (run_load e1 (by simp [go_sem, q0])) (k _ _ rfl (hB.pure 1 _ (by decide) (by decide) (by decide) (by decide) (Below.refl _ _)))
    | 2, ho =>
      obtain rfl := Option.some.inj ho
      intro Az Lz vz wy Kz Ez hB k
      have e5 : Az.eval (.tmp 5) = .slice a n c := Ez.dep 0 5 (by kernel_rfl) rfl
      have e6 : Az.eval (.tmp 6) = .int .i64 av := Ez.dep 1 6 (by kernel_rfl) rfl
      refine wpo_call (run_callW (fun _ _ => by kernel_rfl)) (R := fun ez w' => FiR wy.heap.size (some ls) ez w' ∧ Below wy.heap.size wy w') ?_ ?_
      · simp only [List.map_toArray, List.map_cons, List.map_nil, eval_const, e5, e6]
        exact FI.out wy (ks_but' HK.out hB.but NA.out)
      · rintro ez w' ⟨⟨u, rfl, hk, hp⟩, hb⟩
        exact ⟨_, rfl, k _ _ trivial (hB.ret Ez.not (Ez.late 7 _ rfl (by kernel_rfl)) hk hp hb)⟩
    | 3, ho =>
      obtain rfl := Option.some.inj ho
      intro Az Lz vz wy Kz Ez hB k
      have e0 : Az.eval (.tmp 0) = .pointer (some ⟨b5, 0, none⟩) := Ez.out 0 (by kernel_rfl)
      have q0 := hB.but.cell N5.out C5.out
      exact wpo_val (v := .slice a n c) (run_load e0 (by simp [go_sem, q0])) (k _ _ rfl (hB.pure 3 _ (by decide) (by decide) (by decide) (by decide) (Below.refl _ _)))
    | 4, ho =>
      obtain rfl := Option.some.inj ho
      intro Az Lz vz wy Kz Ez hB k
      have e8 : Az.eval (.tmp 8) = .slice a n c := Ez.dep 3 8 (by kernel_rfl) rfl
      refine wpo_call (run_callW (fun _ _ => by kernel_rfl)) (R := fun ez w' => ez = .returned (.int .i64 v) ∧ Below wy.heap.size wy w') ?_ ?_
      · simp only [List.map_toArray, List.map_cons, List.map_nil, eval_const, e8]
        exact LE.out wy (ks_but' HK.out hB.but NA.out)
      · rintro ez w' ⟨rfl, hb⟩
        exact ⟨_, rfl, k _ _ rfl (hB.pure 4 _ (by decide) (by decide) (by decide) (by decide) (hb))⟩
    | 5, ho =>
      obtain rfl := Option.some.inj ho
      intro Az Lz vz wy Kz Ez hB k
      have e0 : Az.eval (.tmp 0) = .pointer (some ⟨b5, 0, none⟩) := Ez.out 0 (by kernel_rfl)
      have q0 := hB.but.cell N5.out C5.out
      exact wpo_val (v := .slice a n c) (run_load e0 (by simp [go_sem, q0])) (k _ _ rfl (hB.pure 5 _ (by decide) (by decide) (by decide) (by decide) (Below.refl _ _)))
    | 6, ho =>
      obtain rfl := Option.some.inj ho
      intro Az Lz vz wy Kz Ez hB k
      have e10 : Az.eval (.tmp 10) = .slice a n c := Ez.dep 5 10 (by kernel_rfl) rfl
      refine wpo_call (run_callW (fun _ _ => by kernel_rfl)) (R := fun ez w' => ez = .returned (.int .i64 d) ∧ Below wy.heap.size wy w') ?_ ?_
      · simp only [List.map_toArray, List.map_cons, List.map_nil, eval_const, e10]
        exact MO.out wy (ks_but' HK.out hB.but NA.out)
      · rintro ez w' ⟨rfl, hb⟩
        exact ⟨_, rfl, k _ _ rfl (hB.pure 6 _ (by decide) (by decide) (by decide) (by decide) (hb))⟩
    | 7, ho =>
      obtain rfl := Option.some.inj ho
      intro Az Lz vz wy Kz Ez hB k
      have e2 : Az.eval (.tmp 2) = .pointer (some ⟨b7, 0, none⟩) := Ez.out 2 (by kernel_rfl)
      have e7 : Az.eval (.tmp 7) = vz 2 := Ez.dep 2 7 (by kernel_rfl) rfl
      obtain ⟨ua, un, uc, hv, hk, hp⟩ := hB.ans (Ez.had 2 (by kernel_rfl))
      obtain ⟨x7, f7⟩ := hB.x7 Ez.not
      refine wpo_skip (run_store e2 e7 (w' := wy.setCell ⟨b7, 0, none⟩ (vz 2)) ?_) (k _ _ rfl (hB.put7 NE.out L7.out Ez.not (Ez.had 2 (by kernel_rfl))))
      rw [hv]
      simp [go_sem, x7, f7]
    | 8, ho =>
      obtain rfl := Option.some.inj ho
      intro Az Lz vz wy Kz Ez hB k
      have e3 : Az.eval (.tmp 3) = .pointer (some ⟨b8, 0, none⟩) := Ez.out 3 (by kernel_rfl)
      have e9 : Az.eval (.tmp 9) = .int .i64 v := Ez.dep 4 9 (by kernel_rfl) rfl
      obtain ⟨x8, f8⟩ := hB.x8
      exact wpo_skip (run_store e3 e9 (by simp [go_sem, x8, f8])) (k _ _ rfl (hB.put8 NE.out L8.out))
    | 9, ho =>
      obtain rfl := Option.some.inj ho
      intro Az Lz vz wy Kz Ez hB k
      have e4 : Az.eval (.tmp 4) = .pointer (some ⟨b9, 0, none⟩) := Ez.out 4 (by kernel_rfl)
      have e11 : Az.eval (.tmp 11) = .int .i64 d := Ez.dep 6 11 (by kernel_rfl) rfl
      obtain ⟨x9, f9⟩ := hB.x9
      exact wpo_skip (run_store e4 e11 (by simp [go_sem, x9, f9])) (k _ _ rfl (hB.put9 NE.out L9.out))
    | ne + 10, ho => simp at ho
  obtain ⟨ua, un, uc, hv, hk, hp⟩ := hB.ans (hL 2 (by decide))
  have f7 := hB.fin (hL 7 (by decide))
  rw [hv] at f7
  have f8 := hB.x8
  have f9 := hB.x9
  rw [if_pos (hL 8 (by decide))] at f8
  rw [if_pos (hL 9 (by decide))] at f9
  have FIN : Hid (GrQ b7 b8 b9 w.heap.size w ls v d wz) := Lib.hid ⟨hB.but, f8, f9, ua, un, uc, f7, hk, hp⟩
  clear hL hB hv hk hp f7 f8 f9
  simp only [puts2, mix, Act.put, List.setIfInBounds_toArray, List.set_cons_zero, List.set_cons_succ, Nat.zero_add, Nat.reduceAdd, List.getElem?_cons_zero, List.getElem?_cons_succ]
  go_wp2_with fail
  go_end0
  exact ⟨rfl, FIN.out⟩
theorem lg1_try (b5 b6 b7 b8 b9 : Nat) (a : Option Addr) (n c : Nat) (l : List I4) (av v d : Int) (ls : List L4) (hl : n ≤ 900000) (ha : In64 av) (hi : ∀ r ∈ l, InI r) (h1 : fillE l av 0 0 = some ls) (h2 : leastE l 0 0 = some v) (h3 : wid l 0 n = some d) (w : World) (hc5 : w.cell? ⟨b5, 0, none⟩ = some (.slice a n c)) (hc6 : w.cell? ⟨b6, 0, none⟩ = some (.int .i64 av)) (v7 : Var w ⟨b7, 0, none⟩ (.slice none 0 0)) (v8 : Var w ⟨b8, 0, none⟩ (.int .i64 0)) (v9 : Var w ⟨b9, 0, none⟩ (.int .i64 0)) (ne : b7 ≠ b8 ∧ b7 ≠ b9 ∧ b8 ≠ b9) (n5 : b5 ∉ [b7, b8, b9]) (n6 : b6 ∉ [b7, b8, b9]) (na : ∀ p : Addr, a = some p → 0 < n → p.block ∉ [b7, b8, b9]) (h : KS IK w (.slice a n c) l) :
    Calls Try.prog 12 #[.func (.func 13) #[] #[.pointer (some ⟨b5, 0, none⟩), .pointer (some ⟨b6, 0, none⟩), .pointer (some ⟨b7, 0, none⟩), .pointer (some ⟨b8, 0, none⟩), .pointer (some ⟨b9, 0, none⟩)]] w fun e w' => e = .returned (.int .i64 0) ∧ GrQ b7 b8 b9 w.heap.size w ls v d w' := by
  have ba : Below w.heap.size w (w.alloc (.cells #[.int .i64 0] 28)) := (Below.refl _ _).alloc (Nat.le_refl _) _
  have l7 : b7 < w.heap.size := v7.lt
  have l8 : b8 < w.heap.size := v8.lt
  have l9 : b9 < w.heap.size := v9.lt
  have C := lg1_in b5 b6 b7 b8 b9 a n c l av v d ls hl ha hi h1 h2 h3 _ (kcell_on ba hc5) (kcell_on ba hc6) (v7.later ba) (v8.later ba) (v9.later ba) ne n5 n6 na (h.later ba)
  have ns : w.heap.size ∉ [b7, b8, b9] := fun m => by simp at m; omega
  refine (try_ret 13 _ w (GrQ b7 b8 b9 (w.alloc (.cells #[.int .i64 0] 28)).heap.size (w.alloc (.cells #[.int .i64 0] 28)) ls v d) (fun _ => by kernel_rfl) (C.mono ?_)).mono ?_
  · rintro e w' ⟨he, hq⟩
    have := (Var.new w (.int .i64 0) 28).but hq.1 ns
    exact ⟨he, hq, this.c, this.z⟩
  · rintro e w' ⟨he, w2, ⟨hb, q8, q9, ua, un, uc, q7, hk, hp⟩, rfl⟩
    have h1 : But [b7, b8, b9] w (w.alloc (.cells #[.int .i64 0] 28)) := (But.refl [b7, b8, b9] w).alloc _
    refine ⟨he, (h1.trans hb).setCell (.inr (Nat.le_refl _)) _, ?_, ?_, ua, un, uc, ?_, KS.aside hk (fun p _ _ e => by cases e; have := hp _ rfl; rw [World.size_alloc] at this; omega) 0 _, fun p e => by have := hp p e; rw [World.size_alloc] at this; omega⟩
    · exact q8.other (fun e => by injection e with e _; omega) _
    · exact q9.other (fun e => by injection e with e _; omega) _
    · exact q7.other (fun e => by injection e with e _; omega) _
end Go.Proofs.Ytmelbgabiklojaa
