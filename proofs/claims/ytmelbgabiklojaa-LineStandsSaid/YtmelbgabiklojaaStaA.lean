/- LineStands: the closures under Try. Made by gen/staa.py. -/
import Derived.Test.YtmelbgabiklojaaGreA
import Derived.WalkKit
import Derived.WalkSpells
import Derived.WalkLawsBesides
import Derived.Handy
import Derived.Lib.Hide
import Derived.Deep.QuietTactic
import Derived.BigQuiet
import Derived.LoopTactic
import Derived.RegionTactic
import Derived.BigRegion
import Derived.Outline
namespace Go.Proofs.Ytmelbgabiklojaa
open Go.RowKit Go.Proofs.Reg Go.Proofs.Big Lin
set_option linter.unusedVariables false
set_option linter.unusedSimpArgs false
set_option maxRecDepth 100000
/-- what the first closure leaves -/
def SlQ (bg B : Nat) (w : World) (ls : List L4) (w' : World) : Prop := But [bg] w w' ∧ ∃ a n c, Var w' ⟨bg, 0, none⟩ (.slice a n c) ∧ KS LK w' (.slice a n c) ls ∧ ∀ p : Addr, a = some p → B ≤ p.block
theorem ls1_in (b7 b9 b8 : Nat) (a : Option Addr) (n c : Nat) (l : List I4) (av : Int) (ls : List L4) (hl : n ≤ 900000) (ha : In64 av) (hi : ∀ r ∈ l, InI r) (hf : fillE l av 0 0 = some ls) (w : World) (h7 : w.cell? ⟨b7, 0, none⟩ = some (.slice a n c)) (h9 : w.cell? ⟨b9, 0, none⟩ = some (.int .i64 av)) (v8 : Var w ⟨b8, 0, none⟩ (.slice none 0 0)) (h : KS IK w (.slice a n c) l) :
    Calls Try.prog 18 #[.pointer (some ⟨b7, 0, none⟩), .pointer (some ⟨b9, 0, none⟩), .pointer (some ⟨b8, 0, none⟩)] w fun e w' => e = .returned (.tuple #[]) ∧ SlQ b8 w.heap.size w ls w' := by
  have FI := Lib.hid (lfill_any a n c l av 0 hl ha ⟨by decide, by decide⟩ hi w h)
  rw [hf] at FI
  have V8 := Lib.hid v8
  have l8 : b8 < w.heap.size := v8.lt
  clear hf hi h v8
  go_enter Try.func18, Try.ntmps18
  go_wp2_with fail
  refine FI.out.mono ?_
  rintro e w1 ⟨⟨u, rfl, hk, hp⟩, hb⟩
  have W8 := Lib.hid (V8.out.later hb)
  have B1 := Lib.hid (But.of (bs := [b8]) hb)
  obtain ⟨ua, un, uc, rfl, q1, q2, q3, q4⟩ := id hk
  clear q1 q2 q3 q4
  obtain ⟨c8, z8⟩ := W8.out
  have FIN : Hid (SlQ b8 w.heap.size w ls (w1.setCell ⟨b8, 0, none⟩ (.slice ua un uc))) := Lib.hid ⟨B1.out.setCell (.inl (by simp)) _, ua, un, uc, W8.out.set _, KS.aside hk (fun p _ _ e => by cases e; have := hp _ _ _ rfl; omega) 0 _, fun p e => by subst e; exact hp _ _ _ rfl⟩
  clear hk hp hb
  go_wp2_with fail
  go_end0
  exact ⟨rfl, FIN.out⟩
theorem ls1_try (b7 b9 b8 : Nat) (a : Option Addr) (n c : Nat) (l : List I4) (av : Int) (ls : List L4) (hl : n ≤ 900000) (ha : In64 av) (hi : ∀ r ∈ l, InI r) (hf : fillE l av 0 0 = some ls) (w : World) (h7 : w.cell? ⟨b7, 0, none⟩ = some (.slice a n c)) (h9 : w.cell? ⟨b9, 0, none⟩ = some (.int .i64 av)) (v8 : Var w ⟨b8, 0, none⟩ (.slice none 0 0)) (h : KS IK w (.slice a n c) l) :
    Calls Try.prog 12 #[.func (.func 18) #[] #[.pointer (some ⟨b7, 0, none⟩), .pointer (some ⟨b9, 0, none⟩), .pointer (some ⟨b8, 0, none⟩)]] w fun e w' => e = .returned (.int .i64 0) ∧ SlQ b8 w.heap.size w ls w' := by
  have ba : Below w.heap.size w (w.alloc (.cells #[.int .i64 0] 28)) := (Below.refl _ _).alloc (Nat.le_refl _) _
  have l8 : b8 < w.heap.size := v8.lt
  have C := ls1_in b7 b9 b8 a n c l av ls hl ha hi hf _ (kcell_on ba h7) (kcell_on ba h9) (v8.later ba) (h.later ba)
  have ns : w.heap.size ∉ [b8] := fun m => by simp at m; omega
  refine (try_ret 18 _ w (SlQ b8 (w.alloc (.cells #[.int .i64 0] 28)).heap.size (w.alloc (.cells #[.int .i64 0] 28)) ls) (fun _ => by kernel_rfl) (C.mono ?_)).mono ?_
  · rintro e w' ⟨he, hq⟩
    have := (Var.new w (.int .i64 0) 28).but hq.1 ns
    exact ⟨he, hq, this.c, this.z⟩
  · rintro e w' ⟨he, w2, ⟨hb, ua, un, uc, q8, hk, hp⟩, rfl⟩
    have h1 : But [b8] w (w.alloc (.cells #[.int .i64 0] 28)) := (But.refl [b8] w).alloc _
    exact ⟨he, (h1.trans hb).setCell (.inr (Nat.le_refl _)) _, ua, un, uc, q8.other (fun e => by injection e with e _; omega) _, KS.aside hk (fun p _ _ e => by cases e; have := hp _ rfl; rw [World.size_alloc] at this; omega) 0 _, fun p e => by have := hp p e; rw [World.size_alloc] at this; omega⟩
/-- what the region keeps that asks twice for the offsets -/
structure StB (w : World) (g1 g2 m : Nat) (os1 os2 : List Int) (L : Nat → Bool) (vz : Nat → Value) (wy : World) : Prop where
  but : But [g1, g2] w wy
  x1 : L 13 = false → Var wy ⟨g1, 0, none⟩ (.slice none 0 0)
  x2 : L 14 = false → Var wy ⟨g2, 0, none⟩ (.slice none 0 0)
  a1 : L 4 = true → ∃ b, vz 4 = .slice (some ⟨b, 0, none⟩) (m + 1) (m + 1) ∧ w.heap.size ≤ b ∧ OwnI wy b os1
  a2 : L 12 = true → ∃ b, vz 12 = .slice (some ⟨b, 0, none⟩) (m + 1) (m + 1) ∧ w.heap.size ≤ b ∧ OwnI wy b os2
  f1 : L 13 = true → Var wy ⟨g1, 0, none⟩ (vz 4)
  f2 : L 14 = true → Var wy ⟨g2, 0, none⟩ (vz 12)
section
variable {w : World} {g1 g2 m : Nat} {os1 os2 : List Int} {L : Nat → Bool} {vz : Nat → Value} {wy w' : World}
theorem StB.pure (h : StB w g1 g2 m os1 os2 L vz wy) (j : Nat) (u : Value) (n4 : 4 ≠ j) (n12 : 12 ≠ j) (n13 : 13 ≠ j) (n14 : 14 ≠ j) (hb : Below wy.heap.size wy w') : StB w g1 g2 m os1 os2 (addL L j) (upd vz j u) w' := by
  have a4 : addL L j 4 = L 4 := by simp [addL, n4]
  have a12 : addL L j 12 = L 12 := by simp [addL, n12]
  have a13 : addL L j 13 = L 13 := by simp [addL, n13]
  have a14 : addL L j 14 = L 14 := by simp [addL, n14]
  have u4 : upd vz j u 4 = vz 4 := by simp [upd, n4]
  have u12 : upd vz j u 12 = vz 12 := by simp [upd, n12]
  refine ⟨h.but.later hb, fun q => (h.x1 (a13 ▸ q)).later hb, fun q => (h.x2 (a14 ▸ q)).later hb, fun q => ?_, fun q => ?_, fun q => by rw [u4]; exact (h.f1 (a13 ▸ q)).later hb, fun q => by rw [u12]; exact (h.f2 (a14 ▸ q)).later hb⟩
  · obtain ⟨b, e, hb0, ho⟩ := h.a1 (a4 ▸ q); exact ⟨b, u4.trans e, hb0, ho.later hb⟩
  · obtain ⟨b, e, hb0, ho⟩ := h.a2 (a12 ▸ q); exact ⟨b, u12.trans e, hb0, ho.later hb⟩
theorem StB.ret1 (h : StB w g1 g2 m os1 os2 L vz wy) (z4 : L 4 = false) (z13 : L 13 = false) {b : Nat} (hb0 : wy.heap.size ≤ b) (ho : OwnI w' b os1) (hb : Below wy.heap.size wy w') : StB w g1 g2 m os1 os2 (addL L 4) (upd vz 4 (.slice (some ⟨b, 0, none⟩) (m + 1) (m + 1))) w' := by
  have a12 : addL L 4 12 = L 12 := by simp [addL]
  have a13 : addL L 4 13 = L 13 := by simp [addL]
  have a14 : addL L 4 14 = L 14 := by simp [addL]
  have u12 : upd vz 4 (.slice (some ⟨b, 0, none⟩) (m + 1) (m + 1)) 12 = vz 12 := by simp [upd]
  refine ⟨h.but.later hb, fun q => (h.x1 (a13 ▸ q)).later hb, fun q => (h.x2 (a14 ▸ q)).later hb, fun q => ⟨b, by simp [upd], Nat.le_trans h.but.size hb0, ho⟩, fun q => ?_, fun q => (by rw [a13, z13] at q; cases q), fun q => by rw [u12]; exact (h.f2 (a14 ▸ q)).later hb⟩
  obtain ⟨b, e, hb0, ho⟩ := h.a2 (a12 ▸ q); exact ⟨b, u12.trans e, hb0, ho.later hb⟩
theorem StB.ret2 (h : StB w g1 g2 m os1 os2 L vz wy) (z12 : L 12 = false) (z14 : L 14 = false) {b : Nat} (hb0 : wy.heap.size ≤ b) (ho : OwnI w' b os2) (hb : Below wy.heap.size wy w') : StB w g1 g2 m os1 os2 (addL L 12) (upd vz 12 (.slice (some ⟨b, 0, none⟩) (m + 1) (m + 1))) w' := by
  have a4 : addL L 12 4 = L 4 := by simp [addL]
  have a13 : addL L 12 13 = L 13 := by simp [addL]
  have a14 : addL L 12 14 = L 14 := by simp [addL]
  have u4 : upd vz 12 (.slice (some ⟨b, 0, none⟩) (m + 1) (m + 1)) 4 = vz 4 := by simp [upd]
  refine ⟨h.but.later hb, fun q => (h.x1 (a13 ▸ q)).later hb, fun q => (h.x2 (a14 ▸ q)).later hb, fun q => ?_, fun q => ⟨b, by simp [upd], Nat.le_trans h.but.size hb0, ho⟩, fun q => by rw [u4]; exact (h.f1 (a13 ▸ q)).later hb, fun q => (by rw [a14, z14] at q; cases q)⟩
  obtain ⟨b, e, hb0, ho⟩ := h.a1 (a4 ▸ q); exact ⟨b, u4.trans e, hb0, ho.later hb⟩
theorem StB.put1 (h : StB w g1 g2 m os1 os2 L vz wy) (ne : g1 ≠ g2) (lt : g1 < w.heap.size) (z13 : L 13 = false) (y4 : L 4 = true) {u : Value} : StB w g1 g2 m os1 os2 (addL L 13) (upd vz 13 u) (wy.setCell ⟨g1, 0, none⟩ (vz 4)) := by
  have a4 : addL L 13 4 = L 4 := by simp [addL]
  have a12 : addL L 13 12 = L 12 := by simp [addL]
  have a13 : addL L 13 13 = true := by simp [addL]
  have a14 : addL L 13 14 = L 14 := by simp [addL]
  have u4 : upd vz 13 u 4 = vz 4 := by simp [upd]
  have u12 : upd vz 13 u 12 = vz 12 := by simp [upd]
  refine ⟨h.but.setCell (.inl (by simp)) _, fun q => (by rw [a13] at q; cases q), fun q => (h.x2 (a14 ▸ q)).other (fun e => ne (by injection e)) _, fun q => ?_, fun q => ?_, fun q => by rw [u4]; exact (h.x1 z13).set _, fun q => by rw [u12]; exact (h.f2 (a14 ▸ q)).other (fun e => ne (by injection e)) _⟩
  · obtain ⟨b, e, hb0, ho⟩ := h.a1 (a4 ▸ q); exact ⟨b, u4.trans e, hb0, ownI_aside ho (by omega) 0 _⟩
  · obtain ⟨b, e, hb0, ho⟩ := h.a2 (a12 ▸ q); exact ⟨b, u12.trans e, hb0, ownI_aside ho (by omega) 0 _⟩
theorem StB.put2 (h : StB w g1 g2 m os1 os2 L vz wy) (ne : g1 ≠ g2) (lt : g2 < w.heap.size) (z14 : L 14 = false) (y12 : L 12 = true) {u : Value} : StB w g1 g2 m os1 os2 (addL L 14) (upd vz 14 u) (wy.setCell ⟨g2, 0, none⟩ (vz 12)) := by
  have a4 : addL L 14 4 = L 4 := by simp [addL]
  have a12 : addL L 14 12 = L 12 := by simp [addL]
  have a13 : addL L 14 13 = L 13 := by simp [addL]
  have a14 : addL L 14 14 = true := by simp [addL]
  have u4 : upd vz 14 u 4 = vz 4 := by simp [upd]
  have u12 : upd vz 14 u 12 = vz 12 := by simp [upd]
  refine ⟨h.but.setCell (.inl (by simp)) _, fun q => (h.x1 (a13 ▸ q)).other (fun e => ne (by injection e with e; exact e.symm)) _, fun q => (by rw [a14] at q; cases q), fun q => ?_, fun q => ?_, fun q => by rw [u4]; exact (h.f1 (a13 ▸ q)).other (fun e => ne (by injection e with e; exact e.symm)) _, fun q => by rw [u12]; exact (h.x2 z14).set _⟩
  · obtain ⟨b, e, hb0, ho⟩ := h.a1 (a4 ▸ q); exact ⟨b, u4.trans e, hb0, ownI_aside ho (by omega) 0 _⟩
  · obtain ⟨b, e, hb0, ho⟩ := h.a2 (a12 ▸ q); exact ⟨b, u12.trans e, hb0, ownI_aside ho (by omega) 0 _⟩
end
/-- what the second closure leaves -/
def StQ (g1 g2 m B : Nat) (w : World) (os1 os2 : List Int) (w' : World) : Prop := But [g1, g2] w w' ∧ ∃ p q, Var w' ⟨g1, 0, none⟩ (.slice (some ⟨p, 0, none⟩) (m + 1) (m + 1)) ∧ Var w' ⟨g2, 0, none⟩ (.slice (some ⟨q, 0, none⟩) (m + 1) (m + 1)) ∧ OwnI w' p os1 ∧ OwnI w' q os2 ∧ B ≤ p ∧ B ≤ q
set_option maxHeartbeats 4000000 in
theorem ls2_in (b7 b12 b9 b13 b5 g1 g2 m : Nat) (a : Option Addr) (n c : Nat) (l : List I4) (f t W H av tx mo : Int) (os1 os2 : List Int) (hav : 0 ≤ av ∧ av ≤ 65535) (hmo : 0 ≤ mo ∧ mo ≤ 255)
    (h1 : ∀ w, KS IK w (.slice a n c) l → Calls Try.prog 20 #[.slice a n c, .agg #[.int .i64 f, .int .i64 t, .int .i64 W, .int .i64 H], .int .i64 av, .int .i64 tx] w fun e w' => (∃ b, e = .returned (.slice (some ⟨b, 0, none⟩) (m + 1) (m + 1)) ∧ w.heap.size ≤ b ∧ OwnI w' b os1) ∧ Below w.heap.size w w')
    (h2 : ∀ w, KS IK w (.slice a n c) l → Calls Try.prog 20 #[.slice a n c, .agg #[.int .i64 f, .int .i64 t, .int .i64 W, .int .i64 H], .int .i64 (av + mo), .int .i64 tx] w fun e w' => (∃ b, e = .returned (.slice (some ⟨b, 0, none⟩) (m + 1) (m + 1)) ∧ w.heap.size ≤ b ∧ OwnI w' b os2) ∧ Below w.heap.size w w')
    (w : World) (hc7 : w.cell? ⟨b7, 0, none⟩ = some (.slice a n c)) (hcl : w.cell? ⟨b12, 0, none⟩ = some (.int .i64 f) ∧ w.cell? ⟨b12, 1, none⟩ = some (.int .i64 t) ∧ w.cell? ⟨b12, 2, none⟩ = some (.int .i64 W) ∧ w.cell? ⟨b12, 3, none⟩ = some (.int .i64 H)) (hc9 : w.cell? ⟨b9, 0, none⟩ = some (.int .i64 av)) (hc13 : w.cell? ⟨b13, 0, none⟩ = some (.int .i64 tx)) (hc5 : w.cell? ⟨b5, 0, none⟩ = some (.int .u8 mo))
    (v1 : Var w ⟨g1, 0, none⟩ (.slice none 0 0)) (v2 : Var w ⟨g2, 0, none⟩ (.slice none 0 0)) (ne : g1 ≠ g2) (n7 : b7 ∉ [g1, g2]) (n12 : b12 ∉ [g1, g2]) (n9 : b9 ∉ [g1, g2]) (n13 : b13 ∉ [g1, g2]) (n5 : b5 ∉ [g1, g2]) (na : ∀ p : Addr, a = some p → 0 < n → p.block ∉ [g1, g2]) (h : KS IK w (.slice a n c) l) :
    Calls Try.prog 19 #[.pointer (some ⟨b7, 0, none⟩), .pointer (some ⟨b12, 0, none⟩), .pointer (some ⟨b9, 0, none⟩), .pointer (some ⟨b13, 0, none⟩), .pointer (some ⟨b5, 0, none⟩), .pointer (some ⟨g1, 0, none⟩), .pointer (some ⟨g2, 0, none⟩)] w fun e w' => e = .returned (.tuple #[]) ∧ StQ g1 g2 m w.heap.size w os1 os2 w' := by
  have O1 := Lib.hid h1
  have O2 := Lib.hid h2
  have HK := Lib.hid h
  have NE := Lib.hid ne
  have C7 := Lib.hid hc7
  have CL := Lib.hid hcl
  have C9 := Lib.hid hc9
  have C13 := Lib.hid hc13
  have C5 := Lib.hid hc5
  have N7 := Lib.hid (show (⟨b7, 0, none⟩ : Addr).block ∉ [g1, g2] from n7)
  have N9 := Lib.hid (show (⟨b9, 0, none⟩ : Addr).block ∉ [g1, g2] from n9)
  have N13 := Lib.hid (show (⟨b13, 0, none⟩ : Addr).block ∉ [g1, g2] from n13)
  have N5 := Lib.hid (show (⟨b5, 0, none⟩ : Addr).block ∉ [g1, g2] from n5)
  have N12 := Lib.hid n12
  have NA := Lib.hid na
  have L1 := Lib.hid (show g1 < w.heap.size from v1.lt)
  have L2 := Lib.hid (show g2 < w.heap.size from v2.lt)
  have cv : ∀ wy : World, (convert 5 2 (.int .u8 mo)).run Try.prog wy = .ok (.int .i64 mo) wy := fun wy => by
    obtain ⟨m0, m1⟩ := hmo
    simp [go_sem, IntKind.wrap_i64]
    try omega
  have ad : ∀ wy : World, (binOp BinOp.add 2 (.int .i64 av) (.int .i64 mo)).run Try.prog wy = .ok (.int .i64 (av + mo)) wy := fun wy => by
    obtain ⟨m0, m1⟩ := hmo
    obtain ⟨a0, a1⟩ := hav
    simp [go_sem, IntKind.wrap_i64]
    try omega
  have MB : Hid (StB w g1 g2 m os1 os2 (fun _ => false) (fun _ => undef) w.drew) := Lib.hid ⟨(But.refl _ _).drew, fun _ => v1.later (Below.refl _ _).drew, fun _ => v2.later (Below.refl _ _).drew, fun h => (by cases h), fun h => (by cases h), fun h => (by cases h), fun h => (by cases h)⟩
  clear h h1 h2 ne hc7 hcl hc9 hc13 hc5 n7 n12 n9 n13 n5 na v1 v2 hav hmo
  go_enter Try.func19, Try.ntmps19
  go_wp2_with fail
  refine wp_region_vals [some (.slice a n c), some (.agg #[.int .i64 f, .int .i64 t, .int .i64 W, .int .i64 H]), some (.int .i64 av), some (.int .i64 tx), none, some (.slice a n c), some (.agg #[.int .i64 f, .int .i64 t, .int .i64 W, .int .i64 H]), some (.int .i64 av), some (.int .u8 mo), some (.int .i64 mo), some (.int .i64 (av + mo)), some (.int .i64 tx), none, some (undef), some (undef)] (StB w g1 g2 m os1 os2)
    [some 7, some 8, some 9, some 10, some 11, some 12, some 13, some 14, some 15, some 16, some 17, some 18, some 19, none, none] (by kernel_rfl) (by kernel_rfl) (by kernel_rfl) (by kernel_rfl) (by kernel_rfl) (by kernel_rfl) MB.out (fun ie oe ho => ?_) (fun Lz vz wz hL hB => ?_)
  · match ie, ho with
    | 0, ho =>
      obtain rfl := Option.some.inj ho
      intro Az Lz vz wy Kz Ez hB k
      have e0 : Az.eval (.tmp 0) = .pointer (some ⟨b7, 0, none⟩) := Ez.out 0 (by kernel_rfl)
      have q0 := hB.but.cell N7.out C7.out
      exact wpo_val (v := .slice a n c) (run_load e0 (by simp [go_sem, q0])) (k _ _ rfl (hB.pure 0 _ (by decide) (by decide) (by decide) (by decide) (Below.refl _ _)))
    | 1, ho =>
      obtain rfl := Option.some.inj ho
      intro Az Lz vz wy Kz Ez hB k
      have e1 : Az.eval (.tmp 1) = .pointer (some ⟨b12, 0, none⟩) := Ez.out 1 (by kernel_rfl)
      have q0 := hB.but.cell N12.out (p := ⟨b12, 0, none⟩) CL.out.1
      have q1 := hB.but.cell N12.out (p := ⟨b12, 1, none⟩) CL.out.2.1
      have q2 := hB.but.cell N12.out (p := ⟨b12, 2, none⟩) CL.out.2.2.1
      have q3 := hB.but.cell N12.out (p := ⟨b12, 3, none⟩) CL.out.2.2.2
      exact wpo_val (v := .agg #[.int .i64 f, .int .i64 t, .int .i64 W, .int .i64 H]) (run_load e1 (by simp [go_sem, q0, q1, q2, q3])) (k _ _ rfl (hB.pure 1 _ (by decide) (by decide) (by decide) (by decide) (Below.refl _ _)))
    | 2, ho =>
      obtain rfl := Option.some.inj ho
      intro Az Lz vz wy Kz Ez hB k
      have e2 : Az.eval (.tmp 2) = .pointer (some ⟨b9, 0, none⟩) := Ez.out 2 (by kernel_rfl)
      have q0 := hB.but.cell N9.out C9.out
      exact wpo_val (v := .int .i64 av) (run_load e2 (by simp [go_sem, q0])) (k _ _ rfl (hB.pure 2 _ (by decide) (by decide) (by decide) (by decide) (Below.refl _ _)))
    | 3, ho =>
      obtain rfl := Option.some.inj ho
      intro Az Lz vz wy Kz Ez hB k
      have e3 : Az.eval (.tmp 3) = .pointer (some ⟨b13, 0, none⟩) := Ez.out 3 (by kernel_rfl)
      have q0 := hB.but.cell N13.out C13.out
      exact wpo_val (v := .int .i64 tx) (run_load e3 (by simp [go_sem, q0])) (k _ _ rfl (hB.pure 3 _ (by decide) (by decide) (by decide) (by decide) (Below.refl _ _)))
    | 4, ho =>
      obtain rfl := Option.some.inj ho
      intro Az Lz vz wy Kz Ez hB k
      have e7 : Az.eval (.tmp 7) = .slice a n c := Ez.dep 0 7 (by kernel_rfl) rfl
      have e8 : Az.eval (.tmp 8) = .agg #[.int .i64 f, .int .i64 t, .int .i64 W, .int .i64 H] := Ez.dep 1 8 (by kernel_rfl) rfl
      have e9 : Az.eval (.tmp 9) = .int .i64 av := Ez.dep 2 9 (by kernel_rfl) rfl
      have e10 : Az.eval (.tmp 10) = .int .i64 tx := Ez.dep 3 10 (by kernel_rfl) rfl
      refine wpo_call (run_callW (fun _ _ => by kernel_rfl)) (R := fun ez w' => (∃ b, ez = .returned (.slice (some ⟨b, 0, none⟩) (m + 1) (m + 1)) ∧ wy.heap.size ≤ b ∧ OwnI w' b os1) ∧ Below wy.heap.size wy w') ?_ ?_
      · simp only [List.map_toArray, List.map_cons, List.map_nil, eval_const, e7, e8, e9, e10]
        exact O1.out wy (ks_but' HK.out hB.but NA.out)
      · rintro ez w' ⟨⟨b, rfl, hb0, ho⟩, hb⟩
        exact ⟨_, rfl, k _ _ trivial (hB.ret1 Ez.not (Ez.late 13 _ rfl (by kernel_rfl)) hb0 ho hb)⟩
    | 5, ho =>
      obtain rfl := Option.some.inj ho
      intro Az Lz vz wy Kz Ez hB k
      have e0 : Az.eval (.tmp 0) = .pointer (some ⟨b7, 0, none⟩) := Ez.out 0 (by kernel_rfl)
      have q0 := hB.but.cell N7.out C7.out
      exact wpo_val (v := .slice a n c) (run_load e0 (by simp [go_sem, q0])) (k _ _ rfl (hB.pure 5 _ (by decide) (by decide) (by decide) (by decide) (Below.refl _ _)))
    | 6, ho =>
      obtain rfl := Option.some.inj ho
      intro Az Lz vz wy Kz Ez hB k
      have e1 : Az.eval (.tmp 1) = .pointer (some ⟨b12, 0, none⟩) := Ez.out 1 (by kernel_rfl)
      have q0 := hB.but.cell N12.out (p := ⟨b12, 0, none⟩) CL.out.1
      have q1 := hB.but.cell N12.out (p := ⟨b12, 1, none⟩) CL.out.2.1
      have q2 := hB.but.cell N12.out (p := ⟨b12, 2, none⟩) CL.out.2.2.1
      have q3 := hB.but.cell N12.out (p := ⟨b12, 3, none⟩) CL.out.2.2.2
      exact wpo_val (v := .agg #[.int .i64 f, .int .i64 t, .int .i64 W, .int .i64 H]) (run_load e1 (by simp [go_sem, q0, q1, q2, q3])) (k _ _ rfl (hB.pure 6 _ (by decide) (by decide) (by decide) (by decide) (Below.refl _ _)))
    | 7, ho =>
      obtain rfl := Option.some.inj ho
      intro Az Lz vz wy Kz Ez hB k
      have e2 : Az.eval (.tmp 2) = .pointer (some ⟨b9, 0, none⟩) := Ez.out 2 (by kernel_rfl)
      have q0 := hB.but.cell N9.out C9.out
      exact wpo_val (v := .int .i64 av) (run_load e2 (by simp [go_sem, q0])) (k _ _ rfl (hB.pure 7 _ (by decide) (by decide) (by decide) (by decide) (Below.refl _ _)))
    | 8, ho =>
      obtain rfl := Option.some.inj ho
      intro Az Lz vz wy Kz Ez hB k
      have e4 : Az.eval (.tmp 4) = .pointer (some ⟨b5, 0, none⟩) := Ez.out 4 (by kernel_rfl)
      have q0 := hB.but.cell N5.out C5.out
      exact wpo_val (v := .int .u8 mo) (run_load e4 (by simp [go_sem, q0])) (k _ _ rfl (hB.pure 8 _ (by decide) (by decide) (by decide) (by decide) (Below.refl _ _)))
    | 9, ho =>
      obtain rfl := Option.some.inj ho
      intro Az Lz vz wy Kz Ez hB k
      have e15 : Az.eval (.tmp 15) = .int .u8 mo := Ez.dep 8 15 (by kernel_rfl) rfl
      exact wpo_val (v := .int .i64 mo) (run_conv e15 (cv wy)) (k _ _ rfl (hB.pure 9 _ (by decide) (by decide) (by decide) (by decide) (Below.refl _ _)))
    | 10, ho =>
      obtain rfl := Option.some.inj ho
      intro Az Lz vz wy Kz Ez hB k
      have e14 : Az.eval (.tmp 14) = .int .i64 av := Ez.dep 7 14 (by kernel_rfl) rfl
      have e16 : Az.eval (.tmp 16) = .int .i64 mo := Ez.dep 9 16 (by kernel_rfl) rfl
      exact wpo_val (v := .int .i64 (av + mo)) (run_bin e14 e16 (by simp [go_sem]) (ad wy)) (k _ _ rfl (hB.pure 10 _ (by decide) (by decide) (by decide) (by decide) (Below.refl _ _)))
    | 11, ho =>
      obtain rfl := Option.some.inj ho
      intro Az Lz vz wy Kz Ez hB k
      have e3 : Az.eval (.tmp 3) = .pointer (some ⟨b13, 0, none⟩) := Ez.out 3 (by kernel_rfl)
      have q0 := hB.but.cell N13.out C13.out
      exact wpo_val (v := .int .i64 tx) (run_load e3 (by simp [go_sem, q0])) (k _ _ rfl (hB.pure 11 _ (by decide) (by decide) (by decide) (by decide) (Below.refl _ _)))
    | 12, ho =>
      obtain rfl := Option.some.inj ho
      intro Az Lz vz wy Kz Ez hB k
      have e12 : Az.eval (.tmp 12) = .slice a n c := Ez.dep 5 12 (by kernel_rfl) rfl
      have e13 : Az.eval (.tmp 13) = .agg #[.int .i64 f, .int .i64 t, .int .i64 W, .int .i64 H] := Ez.dep 6 13 (by kernel_rfl) rfl
      have e17 : Az.eval (.tmp 17) = .int .i64 (av + mo) := Ez.dep 10 17 (by kernel_rfl) rfl
      have e18 : Az.eval (.tmp 18) = .int .i64 tx := Ez.dep 11 18 (by kernel_rfl) rfl
      refine wpo_call (run_callW (fun _ _ => by kernel_rfl)) (R := fun ez w' => (∃ b, ez = .returned (.slice (some ⟨b, 0, none⟩) (m + 1) (m + 1)) ∧ wy.heap.size ≤ b ∧ OwnI w' b os2) ∧ Below wy.heap.size wy w') ?_ ?_
      · simp only [List.map_toArray, List.map_cons, List.map_nil, eval_const, e12, e13, e17, e18]
        exact O2.out wy (ks_but' HK.out hB.but NA.out)
      · rintro ez w' ⟨⟨b, rfl, hb0, ho⟩, hb⟩
        exact ⟨_, rfl, k _ _ trivial (hB.ret2 Ez.not (Ez.late 14 _ rfl (by kernel_rfl)) hb0 ho hb)⟩
    | 13, ho =>
      obtain rfl := Option.some.inj ho
      intro Az Lz vz wy Kz Ez hB k
      have e5 : Az.eval (.tmp 5) = .pointer (some ⟨g1, 0, none⟩) := Ez.out 5 (by kernel_rfl)
      have e11 : Az.eval (.tmp 11) = vz 4 := Ez.dep 4 11 (by kernel_rfl) rfl
      obtain ⟨bb, hv, hb0, ho⟩ := hB.a1 (Ez.had 4 (by kernel_rfl))
      obtain ⟨x1, f1⟩ := hB.x1 Ez.not
      refine wpo_skip (run_store e5 e11 (w' := wy.setCell ⟨g1, 0, none⟩ (vz 4)) ?_) (k _ _ rfl (hB.put1 NE.out L1.out Ez.not (Ez.had 4 (by kernel_rfl))))
      rw [hv]
      simp [go_sem, x1, f1]
    | 14, ho =>
      obtain rfl := Option.some.inj ho
      intro Az Lz vz wy Kz Ez hB k
      have e6 : Az.eval (.tmp 6) = .pointer (some ⟨g2, 0, none⟩) := Ez.out 6 (by kernel_rfl)
      have e19 : Az.eval (.tmp 19) = vz 12 := Ez.dep 12 19 (by kernel_rfl) rfl
      obtain ⟨bb, hv, hb0, ho⟩ := hB.a2 (Ez.had 12 (by kernel_rfl))
      obtain ⟨x2, f2⟩ := hB.x2 Ez.not
      refine wpo_skip (run_store e6 e19 (w' := wy.setCell ⟨g2, 0, none⟩ (vz 12)) ?_) (k _ _ rfl (hB.put2 NE.out L2.out Ez.not (Ez.had 12 (by kernel_rfl))))
      rw [hv]
      simp [go_sem, x2, f2]
    | ne + 15, ho => simp at ho
  obtain ⟨p, hv1, hp, ho1⟩ := hB.a1 (hL 4 (by decide))
  obtain ⟨q, hv2, hq, ho2⟩ := hB.a2 (hL 12 (by decide))
  have f1 := hB.f1 (hL 13 (by decide))
  have f2 := hB.f2 (hL 14 (by decide))
  rw [hv1] at f1
  rw [hv2] at f2
  have FIN : Hid (StQ g1 g2 m w.heap.size w os1 os2 wz) := Lib.hid ⟨hB.but, p, q, f1, f2, ho1, ho2, hp, hq⟩
  clear hL hB hv1 hv2 hp hq ho1 ho2 f1 f2
  simp only [puts2, mix, Act.put, List.setIfInBounds_toArray, List.set_cons_zero, List.set_cons_succ, Nat.zero_add, Nat.reduceAdd, List.getElem?_cons_zero, List.getElem?_cons_succ]
  go_wp2_with fail
  go_end0
  exact ⟨rfl, FIN.out⟩
theorem ls2_try (b7 b12 b9 b13 b5 g1 g2 m : Nat) (a : Option Addr) (n c : Nat) (l : List I4) (f t W H av tx mo : Int) (os1 os2 : List Int) (hav : 0 ≤ av ∧ av ≤ 65535) (hmo : 0 ≤ mo ∧ mo ≤ 255)
    (h1 : ∀ w, KS IK w (.slice a n c) l → Calls Try.prog 20 #[.slice a n c, .agg #[.int .i64 f, .int .i64 t, .int .i64 W, .int .i64 H], .int .i64 av, .int .i64 tx] w fun e w' => (∃ b, e = .returned (.slice (some ⟨b, 0, none⟩) (m + 1) (m + 1)) ∧ w.heap.size ≤ b ∧ OwnI w' b os1) ∧ Below w.heap.size w w')
    (h2 : ∀ w, KS IK w (.slice a n c) l → Calls Try.prog 20 #[.slice a n c, .agg #[.int .i64 f, .int .i64 t, .int .i64 W, .int .i64 H], .int .i64 (av + mo), .int .i64 tx] w fun e w' => (∃ b, e = .returned (.slice (some ⟨b, 0, none⟩) (m + 1) (m + 1)) ∧ w.heap.size ≤ b ∧ OwnI w' b os2) ∧ Below w.heap.size w w')
    (w : World) (hc7 : w.cell? ⟨b7, 0, none⟩ = some (.slice a n c)) (hcl : w.cell? ⟨b12, 0, none⟩ = some (.int .i64 f) ∧ w.cell? ⟨b12, 1, none⟩ = some (.int .i64 t) ∧ w.cell? ⟨b12, 2, none⟩ = some (.int .i64 W) ∧ w.cell? ⟨b12, 3, none⟩ = some (.int .i64 H)) (hc9 : w.cell? ⟨b9, 0, none⟩ = some (.int .i64 av)) (hc13 : w.cell? ⟨b13, 0, none⟩ = some (.int .i64 tx)) (hc5 : w.cell? ⟨b5, 0, none⟩ = some (.int .u8 mo))
    (v1 : Var w ⟨g1, 0, none⟩ (.slice none 0 0)) (v2 : Var w ⟨g2, 0, none⟩ (.slice none 0 0)) (ne : g1 ≠ g2) (n7 : b7 ∉ [g1, g2]) (n12 : b12 ∉ [g1, g2]) (n9 : b9 ∉ [g1, g2]) (n13 : b13 ∉ [g1, g2]) (n5 : b5 ∉ [g1, g2]) (na : ∀ p : Addr, a = some p → 0 < n → p.block ∉ [g1, g2]) (h : KS IK w (.slice a n c) l) :
    Calls Try.prog 12 #[.func (.func 19) #[] #[.pointer (some ⟨b7, 0, none⟩), .pointer (some ⟨b12, 0, none⟩), .pointer (some ⟨b9, 0, none⟩), .pointer (some ⟨b13, 0, none⟩), .pointer (some ⟨b5, 0, none⟩), .pointer (some ⟨g1, 0, none⟩), .pointer (some ⟨g2, 0, none⟩)]] w fun e w' => e = .returned (.int .i64 0) ∧ StQ g1 g2 m w.heap.size w os1 os2 w' := by
  have ba : Below w.heap.size w (w.alloc (.cells #[.int .i64 0] 28)) := (Below.refl _ _).alloc (Nat.le_refl _) _
  have l1 : g1 < w.heap.size := v1.lt
  have l2 : g2 < w.heap.size := v2.lt
  have C := ls2_in b7 b12 b9 b13 b5 g1 g2 m a n c l f t W H av tx mo os1 os2 hav hmo h1 h2 _ (kcell_on ba hc7) ⟨kcell_on ba hcl.1, kcell_on ba hcl.2.1, kcell_on ba hcl.2.2.1, kcell_on ba hcl.2.2.2⟩ (kcell_on ba hc9) (kcell_on ba hc13) (kcell_on ba hc5) (v1.later ba) (v2.later ba) ne n7 n12 n9 n13 n5 na (h.later ba)
  have ns : w.heap.size ∉ [g1, g2] := fun m => by simp at m; omega
  refine (try_ret 19 _ w (StQ g1 g2 m (w.alloc (.cells #[.int .i64 0] 28)).heap.size (w.alloc (.cells #[.int .i64 0] 28)) os1 os2) (fun _ => by kernel_rfl) (C.mono ?_)).mono ?_
  · rintro e w' ⟨he, hq⟩
    have := (Var.new w (.int .i64 0) 28).but hq.1 ns
    exact ⟨he, hq, this.c, this.z⟩
  · rintro e w' ⟨he, w2, ⟨hb, p, q, q1, q2, o1, o2, hp, hq⟩, rfl⟩
    have h1 : But [g1, g2] w (w.alloc (.cells #[.int .i64 0] 28)) := (But.refl [g1, g2] w).alloc _
    rw [World.size_alloc] at hp hq
    exact ⟨he, (h1.trans hb).setCell (.inr (Nat.le_refl _)) _, p, q, q1.other (fun e => by injection e with e _; omega) _, q2.other (fun e => by injection e with e _; omega) _, ownI_aside o1 (by omega) 0 _, ownI_aside o2 (by omega) 0 _, by omega, by omega⟩
theorem gaps_gF {d : Int} {m : Nat} {j : Bool} : ∀ i, i < m → (gapsF d m j).getD i 0 = gF d m j (i + 1) - gF d m j i := by
  intro i hi
  have len : (parts5 d (List.replicate m 1)).length = m := by simp [parts5]
  unfold gapsF gF
  cases j
  · simp [List.getD_eq_getElem?_getD, List.getElem?_replicate]
    rw [if_pos (by omega)]; rfl
  · simp only [if_true]
    rw [List.getD_eq_getElem?_getD, List.getElem?_append_left (by rw [len]; exact hi), ← List.getD_eq_getElem?_getD, parts_get _ _ _ (by simpa using hi)]
    unfold part5 bnd
    have s : ∀ k : Nat, (List.replicate k (1 : Int)).sum = (k : Int) := fun k => by
      induction k with
      | zero => rfl
      | succ k ih => rw [List.replicate_succ, List.sum_cons, ih]; omega
    have tk : ∀ k, k ≤ m → ((List.replicate m (1 : Int)).take k).sum = (k : Int) := fun k hk => by
      rw [List.take_replicate, show min k m = k by omega, s]
    rw [s m, if_neg (by omega), tk (i + 1) (by omega), tk i (by omega)]
/-- Offsets of small items -/
theorem offs_small (a : Option Addr) (n c : Nat) (l : List I4) (hs : Sml l) (hi : ∀ r ∈ l, InI r) (hn : n = l.length) (f m : Nat) (H av tx d : Int) (j : Bool) (hm : f + m + 1 ≤ n) (hav : 0 ≤ av ∧ av ≤ 66000) (hd : av - wd l f (f + m + 1) = d) (hj : j = (tx == 4 && decide (0 < d) && decide (f + m + 1 < n))) (w : World) (h : KS IK w (.slice a n c) l) :
    Calls Try.prog 20 #[.slice a n c, .agg #[.int .i64 f, .int .i64 (f + m + 1 : Nat), .int .i64 (wd l f (f + m + 1)), .int .i64 H], .int .i64 av, .int .i64 tx] w fun e w' => (∃ b, e = .returned (.slice (some ⟨b, 0, none⟩) (m + 1) (m + 1)) ∧ w.heap.size ≤ b ∧ OwnI w' b (ovs l f m (indF d tx) d j)) ∧ Below w.heap.size w w' := by
  have n40 := hs.n
  have wr := wd_rng hs f (f + m + 1) (by omega)
  have dl : lenB (av - wd l f (f + m + 1)) = true := by simp [lenB]; omega
  have ir : -6000000 ≤ indF d tx ∧ indF d tx ≤ 200000 := by
    unfold indF; split
    · omega
    · split <;> omega
  have jd : j = true → 0 ≤ d := fun h => by
    rw [h] at hj
    have : (tx == 4 && decide (0 < d) && decide (f + m + 1 < n)) = true := hj.symm
    simp at this; omega
  have oa := offs_all hs f m (indF d tx) d j (gapsF d m j) (by omega) gaps_gF ir.1 ir.2 jd (by omega)
  have := loffs_any a n c l f m (wd l f (f + m + 1)) H av tx d 0 j hm (by omega) ⟨by omega, by omega⟩ ⟨by omega, by omega⟩ (.inl ⟨dl, hd.symm, rfl⟩) hj hi w h
  simp only [↓reduceIte, oa] at this
  refine this.mono ?_
  rintro e w' ⟨⟨b, he, hb, _, ho⟩, hbl⟩
  exact ⟨⟨b, he, hb, ho⟩, hbl⟩
end Go.Proofs.Ytmelbgabiklojaa
