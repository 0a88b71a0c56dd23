/- The walk of LineFills. Made by gen/linl.py. -/
import Derived.Test.YtbolifjkhoiphaaLinJK
import Derived.WalkKit
import Derived.WalkSpells
import Derived.WalkLawsBesides
import Derived.Handy
import Derived.Lib.Hide
import Derived.Deep.QuietTactic
import Derived.BigQuiet
import Derived.LoopTactic
import Derived.Outline
namespace Go.Proofs.Ytbolifjkhoiphaa
open Go.RowKit Go.Proofs.Reg Go.Proofs.Big Lin
set_option linter.unusedVariables false
set_option linter.unusedSimpArgs false
set_option maxRecDepth 100000
def lsF (o : Option (List L4)) : List L4 := match o with
  | some ls => ls
  | none => []
def erF {α : Type} (o : Option α) : Int := match o with
  | some _ => 0
  | none => 2
def LfQ (bg B : Nat) (w : World) (ls : List L4) (w' : World) : Prop := But [bg] w w' ∧ ∃ a n c, w'.cell? ⟨bg, 0, none⟩ = some (.slice a n c) ∧ KS LK w' (.slice a n c) ls ∧ ∀ p : Addr, a = some p → B ≤ p.block
set_option maxHeartbeats 4000000 in
theorem lf1_in (b7 b4 b5 b9 : Nat) (a : Option Addr) (n c : Nat) (l : List I4) (av low : Int) (hl : n ≤ 900000) (ha : In64 av) (hlow : In64 low) (hi : ∀ r ∈ l, InI r) (w : World) (h7 : w.cell? ⟨b7, 0, none⟩ = some (.slice a n c)) (h4 : w.cell? ⟨b4, 0, none⟩ = some (.int .i64 av)) (h5 : w.cell? ⟨b5, 0, none⟩ = some (.int .i64 low)) (v9 : Var w ⟨b9, 0, none⟩ (.slice none 0 0)) (h : KS IK w (.slice a n c) l) :
    Calls Try.prog 13 #[.pointer (some ⟨b7, 0, none⟩), .pointer (some ⟨b4, 0, none⟩), .pointer (some ⟨b5, 0, none⟩), .pointer (some ⟨b9, 0, none⟩)] w fun e w' => ((erF (fillE l av low 0) = 0 ∧ e = .returned (.tuple #[])) ∨ (erF (fillE l av low 0) ≠ 0 ∧ e = .panicked (gave (erF (fillE l av low 0))))) ∧ LfQ b9 w.heap.size w (lsF (fillE l av low 0)) w' := by
  have FI := Lib.hid (lfill_any a n c l av low hl ha hlow hi w h)
  have V9 := Lib.hid v9
  have l9 : b9 < w.heap.size := v9.lt
  obtain ⟨o, ho⟩ : ∃ o, fillE l av low 0 = o := ⟨_, rfl⟩
  rw [ho] at FI ⊢
  clear ho hi h v9
  go_enter Try.func13, Try.ntmps13
  go_wp2_with fail
  refine FI.out.mono ?_
  rintro e w1 ⟨hf, hb⟩
  have W9 := Lib.hid (V9.out.later hb)
  have B1 := Lib.hid (But.of (bs := [b9]) hb)
  cases o with
  | none =>
    obtain rfl : e = .panicked (gave 2) := hf
    exact ⟨rfl, .inr ⟨by decide, rfl⟩, B1.out, none, 0, 0, W9.out.c, KS.nil LK _ 0 (by decide) none, fun p e => by cases e⟩
  | some ls =>
    obtain ⟨u, rfl, hk, hp⟩ := hf
    obtain ⟨ua, un, uc, rfl, q1, q2, q3, q4⟩ := id hk
    clear q1 q2 q3 q4
    obtain ⟨c9, z9⟩ := W9.out
    have FIN : Hid (LfQ b9 w.heap.size w ls (w1.setCell ⟨b9, 0, none⟩ (.slice ua un uc))) := Lib.hid ⟨B1.out.setCell (.inl (by simp)) _, ua, un, uc, (W9.out.set _).c, KS.aside hk (fun p _ _ e => by cases e; have := hp _ _ _ rfl; omega) 0 _, fun p e => by subst e; exact hp _ _ _ rfl⟩
    clear hk hp hb
    go_wp2_with fail
    go_end0
    exact ⟨.inl ⟨rfl, rfl⟩, FIN.out⟩
theorem lf1_try (b7 b4 b5 b9 : Nat) (a : Option Addr) (n c : Nat) (l : List I4) (av low : Int) (hl : n ≤ 900000) (ha : In64 av) (hlow : In64 low) (hi : ∀ r ∈ l, InI r) (w : World) (h7 : w.cell? ⟨b7, 0, none⟩ = some (.slice a n c)) (h4 : w.cell? ⟨b4, 0, none⟩ = some (.int .i64 av)) (h5 : w.cell? ⟨b5, 0, none⟩ = some (.int .i64 low)) (v9 : Var w ⟨b9, 0, none⟩ (.slice none 0 0)) (h : KS IK w (.slice a n c) l) :
    Calls Try.prog 12 #[.func (.func 13) #[] #[.pointer (some ⟨b7, 0, none⟩), .pointer (some ⟨b4, 0, none⟩), .pointer (some ⟨b5, 0, none⟩), .pointer (some ⟨b9, 0, none⟩)]] w fun e w' => e = .returned (.int .i64 (erF (fillE l av low 0))) ∧ But [b9] w w' ∧ ∃ a n c, w'.cell? ⟨b9, 0, none⟩ = some (.slice a n c) ∧ KS LK w' (.slice a n c) (lsF (fillE l av low 0)) ∧ ∀ p : Addr, a = some p → w.heap.size ≤ p.block := by
  have ba : Below w.heap.size w (w.alloc (.cells #[.int .i64 0] 29)) := (Below.refl _ _).alloc (Nat.le_refl _) _
  have l9 : b9 < w.heap.size := v9.lt
  have C := lf1_in b7 b4 b5 b9 a n c l av low hl ha hlow hi _ (kcell_on ba h7) (kcell_on ba h4) (kcell_on ba h5) (v9.later ba) (h.later ba)
  have ns : w.heap.size ∉ [b9] := fun m => by simp at m; omega
  have E : ∀ w', But [b9] (w.alloc (.cells #[.int .i64 0] 29)) w' → w'.cell? ⟨w.heap.size, 0, none⟩ = some (.int .i64 0) ∧ w'.frozen? ⟨w.heap.size, 0, none⟩ = false := fun w' hb => by
    have := (Var.new w (.int .i64 0) 29).but hb ns
    exact ⟨this.c, this.z⟩
  have FI : ∀ (w2 : World) (x : Value), LfQ b9 (w.alloc (.cells #[.int .i64 0] 29)).heap.size (w.alloc (.cells #[.int .i64 0] 29)) (lsF (fillE l av low 0)) w2 → But [b9] w (w2.setCell ⟨w.heap.size, 0, none⟩ x) ∧ ∃ a n c, (w2.setCell ⟨w.heap.size, 0, none⟩ x).cell? ⟨b9, 0, none⟩ = some (.slice a n c) ∧ KS LK (w2.setCell ⟨w.heap.size, 0, none⟩ x) (.slice a n c) (lsF (fillE l av low 0)) ∧ ∀ p : Addr, a = some p → w.heap.size ≤ p.block := fun w2 x hq => by
    obtain ⟨hb, ua, un, uc, hu, hk, hp⟩ := hq
    have h1 : But [b9] w (w.alloc (.cells #[.int .i64 0] 29)) := (But.refl [b9] w).alloc _
    refine ⟨(h1.trans hb).setCell (.inr (Nat.le_refl _)) _, ua, un, uc, ?_, KS.aside hk (fun p _ _ e => by cases e; have := hp _ rfl; rw [World.size_alloc] at this; omega) 0 _, fun p e => by have := hp p e; rw [World.size_alloc] at this; omega⟩
    rw [World.cell?_setCell_other (h := fun e => by injection e with e _; omega)]; exact hu
  by_cases z : erF (fillE l av low 0) = 0
  · rw [z]
    refine (try_ret 13 _ w (LfQ b9 (w.alloc (.cells #[.int .i64 0] 29)).heap.size (w.alloc (.cells #[.int .i64 0] 29)) (lsF (fillE l av low 0))) (fun _ => by kernel_rfl) (C.mono ?_)).mono ?_
    · rintro e w' ⟨h | h, hq⟩
      · exact ⟨h.2, hq, E w' hq.1⟩
      · exact absurd z h.1
    · rintro e w' ⟨rfl, w2, hq, rfl⟩
      exact ⟨rfl, FI w2 _ hq⟩
  · refine (try_gave 13 _ (erF (fillE l av low 0)) w (LfQ b9 (w.alloc (.cells #[.int .i64 0] 29)).heap.size (w.alloc (.cells #[.int .i64 0] 29)) (lsF (fillE l av low 0))) (fun _ => by kernel_rfl) (C.mono ?_)).mono ?_
    · rintro e w' ⟨h | h, hq⟩
      · exact absurd h.1 z
      · exact ⟨h.2, hq, E w' hq.1⟩
    · rintro e w' ⟨rfl, w2, hq, rfl⟩
      obtain ⟨x1, ua, un, uc, x2, x3, x4⟩ := FI w2 (.int .i64 (erF (fillE l av low 0))) hq
      exact ⟨rfl, x1.alloc _, ua, un, uc, kcell_on (bel_newR _ _) x2, x3.later (bel_newR _ _), x4⟩
set_option maxHeartbeats 2000000 in
theorem lf2_try (b7 bx : Nat) (a : Option Addr) (n c : Nat) (o : Option Int) (v er : Int) (ht : Ts o v er) (w : World) (h7 : w.cell? ⟨b7, 0, none⟩ = some (.slice a n c)) (vx : Var w ⟨bx, 0, none⟩ (.int .i64 0)) (hF : ∀ wy, Below w.heap.size w wy → Calls Try.prog 16 #[.slice a n c] wy fun e w' => Told o e ∧ Below wy.heap.size wy w') :
    Calls Try.prog 12 #[.func (.func 15) #[] #[.pointer (some ⟨b7, 0, none⟩), .pointer (some ⟨bx, 0, none⟩)]] w fun e w' => e = .returned (.int .i64 er) ∧ But [bx] w w' ∧ w'.cell? ⟨bx, 0, none⟩ = some (.int .i64 v) := by
  have ba : Below w.heap.size w (w.alloc (.cells #[.int .i64 0] 29)) := (Below.refl _ _).alloc (Nat.le_refl _) _
  have lx : bx < w.heap.size := vx.lt
  have HF := Lib.hid (hF _ ba)
  have h7' := kcell_on ba h7
  have VX := Lib.hid (vx.later ba)
  have hbs : ∀ i ∈ [bx], i < w.heap.size := fun i hi => by obtain rfl := List.mem_singleton.1 hi; exact lx
  have hvs : ∀ x ∈ [((⟨bx, 0, none⟩ : Addr), Value.int .i64 v)], x.1.block < w.heap.size := fun x hx => by obtain rfl := List.mem_singleton.1 hx; exact lx
  clear hF h7 ba
  obtain ⟨w0, hw0⟩ : ∃ w0, w.alloc (.cells #[.int .i64 0] 29) = w0 := ⟨_, rfl⟩
  cases o with
  | some x =>
    obtain ⟨rfl, rfl⟩ := ht
    refine (tryB_ret 15 _ [bx] [(⟨bx, 0, none⟩, .int .i64 v)] w hbs hvs (fun _ => by kernel_rfl) ?_).mono (fun e w' h => ⟨h.1, h.2.1, (h.2.2 _ (List.mem_singleton.2 rfl)).c⟩)
    rw [hw0] at HF h7' VX ⊢
    clear hw0
    go_enter Try.func15, Try.ntmps15
    go_wp2_with fail
    refine HF.out.mono ?_
    rintro e w1 ⟨he, hb⟩
    obtain rfl : e = .returned (.int .i64 v) := he
    have W1 := Lib.hid (VX.out.later hb)
    have B1 := Lib.hid (But.of (bs := [bx]) hb)
    obtain ⟨c1, z1⟩ := W1.out
    clear hb
    go_wp2_with fail
    go_end0
    exact ⟨rfl, B1.out.setCell (.inl (by simp)) _, fun x hx => by obtain rfl := List.mem_singleton.1 hx; exact W1.out.set _⟩
  | none =>
    obtain ⟨rfl, rfl⟩ := ht
    refine (tryB_gave 15 _ 2 [bx] [(⟨bx, 0, none⟩, .int .i64 0)] w hbs hvs (fun _ => by kernel_rfl) ?_).mono (fun e w' h => ⟨h.1, h.2.1, (h.2.2 _ (List.mem_singleton.2 rfl)).c⟩)
    rw [hw0] at HF h7' VX ⊢
    clear hw0
    go_enter Try.func15, Try.ntmps15
    go_wp2_with fail
    refine HF.out.mono ?_
    rintro e w1 ⟨he, hb⟩
    obtain rfl : e = .panicked (gave 2) := he
    exact ⟨rfl, rfl, But.of (bs := [bx]) hb, fun x hx => by obtain rfl := List.mem_singleton.1 hx; exact VX.out.later hb⟩
set_option maxHeartbeats 2000000 in
theorem lf3_try (b7 bx : Nat) (a : Option Addr) (n c : Nat) (o : Option Int) (v er : Int) (ht : Ts o v er) (w : World) (h7 : w.cell? ⟨b7, 0, none⟩ = some (.slice a n c)) (vx : Var w ⟨bx, 0, none⟩ (.int .i64 0)) (hF : ∀ wy, Below w.heap.size w wy → Calls Try.prog 18 #[.slice a n c] wy fun e w' => Told o e ∧ Below wy.heap.size wy w') :
    Calls Try.prog 12 #[.func (.func 17) #[] #[.pointer (some ⟨b7, 0, none⟩), .pointer (some ⟨bx, 0, none⟩)]] w fun e w' => e = .returned (.int .i64 er) ∧ But [bx] w w' ∧ w'.cell? ⟨bx, 0, none⟩ = some (.int .i64 v) := by
  have ba : Below w.heap.size w (w.alloc (.cells #[.int .i64 0] 29)) := (Below.refl _ _).alloc (Nat.le_refl _) _
  have lx : bx < w.heap.size := vx.lt
  have HF := Lib.hid (hF _ ba)
  have h7' := kcell_on ba h7
  have VX := Lib.hid (vx.later ba)
  have hbs : ∀ i ∈ [bx], i < w.heap.size := fun i hi => by obtain rfl := List.mem_singleton.1 hi; exact lx
  have hvs : ∀ x ∈ [((⟨bx, 0, none⟩ : Addr), Value.int .i64 v)], x.1.block < w.heap.size := fun x hx => by obtain rfl := List.mem_singleton.1 hx; exact lx
  clear hF h7 ba
  obtain ⟨w0, hw0⟩ : ∃ w0, w.alloc (.cells #[.int .i64 0] 29) = w0 := ⟨_, rfl⟩
  cases o with
  | some x =>
    obtain ⟨rfl, rfl⟩ := ht
    refine (tryB_ret 17 _ [bx] [(⟨bx, 0, none⟩, .int .i64 v)] w hbs hvs (fun _ => by kernel_rfl) ?_).mono (fun e w' h => ⟨h.1, h.2.1, (h.2.2 _ (List.mem_singleton.2 rfl)).c⟩)
    rw [hw0] at HF h7' VX ⊢
    clear hw0
    go_enter Try.func17, Try.ntmps17
    go_wp2_with fail
    refine HF.out.mono ?_
    rintro e w1 ⟨he, hb⟩
    obtain rfl : e = .returned (.int .i64 v) := he
    have W1 := Lib.hid (VX.out.later hb)
    have B1 := Lib.hid (But.of (bs := [bx]) hb)
    obtain ⟨c1, z1⟩ := W1.out
    clear hb
    go_wp2_with fail
    go_end0
    exact ⟨rfl, B1.out.setCell (.inl (by simp)) _, fun x hx => by obtain rfl := List.mem_singleton.1 hx; exact W1.out.set _⟩
  | none =>
    obtain ⟨rfl, rfl⟩ := ht
    refine (tryB_gave 17 _ 2 [bx] [(⟨bx, 0, none⟩, .int .i64 0)] w hbs hvs (fun _ => by kernel_rfl) ?_).mono (fun e w' h => ⟨h.1, h.2.1, (h.2.2 _ (List.mem_singleton.2 rfl)).c⟩)
    rw [hw0] at HF h7' VX ⊢
    clear hw0
    go_enter Try.func17, Try.ntmps17
    go_wp2_with fail
    refine HF.out.mono ?_
    rintro e w1 ⟨he, hb⟩
    obtain rfl : e = .panicked (gave 2) := he
    exact ⟨rfl, rfl, But.of (bs := [bx]) hb, fun x hx => by obtain rfl := List.mem_singleton.1 hx; exact VX.out.later hb⟩
theorem ks_but {α : Type} {K : Rk α} {bs : List Nat} {w w' : World} {a : Option Addr} {n c : Nat} {rs : List α} (h : KS K w (.slice a n c) rs) (hb : But bs w w') (ha : ∀ p : Addr, a = some p → p.block ∉ bs) : KS K w' (.slice a n c) rs := by
  obtain ⟨a', n', c', e, hn, hc, hm, h5⟩ := h
  simp only [Value.slice.injEq] at e
  obtain ⟨rfl, rfl, rfl⟩ := e
  refine ⟨_, _, _, rfl, hn, hc, hm, fun q => ?_⟩
  obtain ⟨g, o, rfl, hk⟩ := h5 q
  exact ⟨g, o, rfl, fun k r hr i x hx => hb.cell (show g ∉ bs from ha ⟨g, o, none⟩ rfl) (hk k r hr i x hx)⟩
theorem fillE_len (l : List I4) (av low : Int) : ∀ (n a : Nat), l.length - a = n → ∀ ls, fillE l av low a = some ls → ls.length ≤ n := by
  intro n
  induction n using Nat.strongRecOn with
  | _ n ih =>
    intro a hn ls h
    by_cases lt : a < l.length
    · cases hx : firstE l av a with
      | none => rw [fillE_none l av low a lt hx] at h; cases h
      | some x =>
        rw [fillE_some l av low a x lt hx] at h
        obtain ⟨g1, g2⟩ := firstE_gt hx lt
        cases h' : fillE l av low x.1 with
        | none => rw [h'] at h; cases h
        | some r =>
          rw [h'] at h
          obtain rfl := Option.some.inj h
          have := ih (l.length - x.1) (by omega) x.1 rfl r h'
          rw [List.length_cons]
          omega
    · rw [fillE_out l av low a (by omega)] at h
      obtain rfl := Option.some.inj h
      exact Nat.zero_le _
theorem lsF_len (l : List I4) (av low : Int) (h : l.length ≤ 30) : (lsF (fillE l av low 0)).length ≤ 30 := by
  cases ho : fillE l av low 0 with
  | none => exact Nat.zero_le _
  | some ls =>
    have := fillE_len l av low _ 0 rfl ls ho
    show ls.length ≤ 30
    omega
theorem lk_at {w : World} {a : Option Addr} {n c : Nat} {l : List L4} (h : KS LK w (.slice a n c) l) {k : Nat} (lt : k < n) : ∃ g o x y z t, a = some ⟨g, o, none⟩ ∧ l[k]? = some (x, y, z, t) ∧ w.cell? ⟨g, o + k * 4, none⟩ = some (.int .i64 x) ∧ w.cell? ⟨g, o + k * 4 + 1, none⟩ = some (.int .i64 y) ∧ w.cell? ⟨g, o + k * 4 + 2, none⟩ = some (.int .i64 z) ∧ w.cell? ⟨g, o + k * 4 + 3, none⟩ = some (.int .i64 t) := by
  obtain ⟨a', n', c', e, hn, hc, hm, h5⟩ := h
  simp only [Value.slice.injEq] at e
  obtain ⟨rfl, rfl, rfl⟩ := e
  obtain ⟨g, o, rfl, hk⟩ := h5 (by omega)
  obtain ⟨⟨x, y, z, t⟩, hr⟩ : ∃ r, l[k]? = some r := ⟨_, List.getElem?_eq_getElem (by omega)⟩
  have H := hk k _ hr
  exact ⟨g, o, x, y, z, t, rfl, hr, H 0 _ rfl, H 1 _ rfl, H 2 _ rfl, H 3 _ rfl⟩
set_option maxHeartbeats 8000000 in
theorem law_fills (a0 : Option Addr) (n0 c0 : Nat) (l0 : List I4) (av low : Int) (ha : In64 av) (hlow : In64 low) (w : World) (hW : KS IK w (.slice a0 n0 c0) l0) (hi : ∀ r ∈ l0, InI r) :
    Calls Try.prog 3 #[.slice a0 n0 c0, .int .i64 av, .int .i64 low] w fun e w' => e = .returned (.bool true) ∧ Below w.heap.size w w' := by
  have hmf : ∀ (fn : Fn) (first cap : Array Value) (w : World), (Instr.makeFunc fn first cap).run Try.prog w = .ok (.func fn first cap) w := fun _ _ _ _ => rfl
  have SP := Lib.hid speaks13_any
  have HW := Lib.hid hW
  have HA := Lib.hid ha
  have HL := Lib.hid hlow
  obtain ⟨l, hl⟩ : ∃ l, l0.take 30 = l := ⟨_, rfl⟩
  have HI : Hid (∀ r ∈ l, InI r) := Lib.hid (fun r m => hi r (by rw [← hl] at m; exact List.mem_of_mem_take m))
  have HL30 : Hid (l.length ≤ 30) := Lib.hid (by rw [← hl, List.length_take]; omega)
  have HB13 := Lib.hid (fun w h => both13_any a0 n0 c0 l0 w h)
  rw [hl] at HB13
  clear hW hi hl ha hlow
  go_enter Try.func3, Try.ntmps3
  go_wp2_with fail
  refine (SP.out _).mono ?_
  rintro e w1 ⟨rfl, hb⟩
  have KB := Lib.hid (show Below w.heap.size w w1 from bel_tr0 (by go_grown) hb)
  have T1 : Hid (Tab w1 [(w.heap.size + 1, [.int .i64 low]), (w.heap.size, [.int .i64 av])]) := Lib.hid ((((Tab.nil w).new' _ _ rfl).new' _ _ (by simp)).later hb)
  clear hb
  go_wp2_with fail
  refine (HB13.out _ (HW.out.later KB.out)).mono ?_
  rintro e w2 ⟨u1, u2, rfl, k1, k2, hb⟩
  obtain ⟨a1, n1, c1, rfl, hn1, _, _, _⟩ := id k1
  obtain ⟨a2, n2, c2, rfl, hn2, _, _, _⟩ := id k2
  have KI1 := Lib.hid k1
  have KI2 := Lib.hid k2
  have N1 : n1 ≤ 30 := by have := HL30.out; omega
  have N2 : n2 ≤ 30 := by have := HL30.out; omega
  have E12 : Hid (n1 = l.length ∧ n2 = l.length) := Lib.hid ⟨hn1, hn2⟩
  have K2 := Lib.hid (bel_tr0 KB.out hb)
  have T2 := Lib.hid (T1.out.later hb)
  have lt2 : w.heap.size + 1 < w2.heap.size := T2.out.lt 0 rfl
  clear hb k1 k2 hn1 hn2 T1 KB
  go_wp2_with fail
  obtain ⟨b, hbq⟩ : ∃ b, w2.heap.size = b := ⟨_, rfl⟩
  obtain ⟨w3, hw3⟩ : ∃ x, (((w2.alloc (.cells #[.slice a1 n1 c1] 24)).alloc (.cells #[.slice none 0 0] 28)).alloc (.cells #[.int .i64 0] 2)).alloc (.cells #[.int .i64 0] 2) = x := ⟨_, rfl⟩
  have T3 : Hid (Tab w3 [(b + 3, [.int .i64 0]), (b + 2, [.int .i64 0]), (b + 1, [.slice none 0 0]), (b, [.slice a1 n1 c1]), (w.heap.size + 1, [.int .i64 low]), (w.heap.size, [.int .i64 av])]) := Lib.hid (by
    rw [← hw3, ← hbq]
    exact (((T2.out.new' _ _ rfl).new' _ _ (by simp)).new' _ _ (by simp)).new' _ _ (by simp))
  have B3 : Hid (Below w2.heap.size w2 w3) := Lib.hid (by rw [← hw3]; exact bel_tr0 (bel_tr0 (bel_tr0 (bel_newR _ _) (bel_newR _ _)) (bel_newR _ _)) (bel_newR _ _))
  have K3 := Lib.hid (bel_tr0 K2.out B3.out)
  have I13 := Lib.hid (KI1.out.later B3.out)
  have I23 := Lib.hid (KI2.out.later B3.out)
  rw [hw3]
  simp only [World.size_alloc, hbq]
  rw [hbq] at lt2
  have sb : w2.heap.size ≤ b := by omega
  clear hw3 hbq T2 K2
  have lw3 : b + 3 < w3.heap.size := T3.out.lt 0 rfl
  refine (lf1_try b w.heap.size (w.heap.size + 1) (b + 1) a1 n1 c1 l av low (by omega) HA.out HL.out HI.out _ (T3.out.cell 3 0 rfl rfl) (T3.out.cell 5 0 rfl rfl) (T3.out.cell 4 0 rfl rfl) ⟨T3.out.cell 2 0 rfl rfl, T3.out.froz 2 0 rfl rfl⟩ I13.out).mono ?_
  rintro e w4 ⟨rfl, hbut, ga, gn, gc, hg, hk, hgp⟩
  have K4 : Hid (Below w.heap.size w w4) := Lib.hid (But.below K3.out hbut K3.out.size (fun i hi => by simp at hi; omega))
  have G4 := Lib.hid hg
  have GK4 := Lib.hid hk
  have HGP := Lib.hid hgp
  have U4 : Hid (∀ q : Addr, q.block < b → w4.cell? q = w3.cell? q) := Lib.hid (fun q hq => World.cell?_of_block (hbut.block q.block (by omega) (fun m => by simp at m; omega)))
  have V4 : Hid (Var w4 ⟨b + 2, 0, none⟩ (.int .i64 0) ∧ Var w4 ⟨b + 3, 0, none⟩ (.int .i64 0) ∧ w4.cell? ⟨b, 0, none⟩ = some (.slice a1 n1 c1) ∧ w4.cell? ⟨w.heap.size + 1, 0, none⟩ = some (.int .i64 low) ∧ w4.cell? ⟨w.heap.size, 0, none⟩ = some (.int .i64 av)) := Lib.hid ⟨(Var.mk (T3.out.cell 1 0 rfl rfl) (T3.out.froz 1 0 rfl rfl)).but hbut (by simp), (Var.mk (T3.out.cell 0 0 rfl rfl) (T3.out.froz 0 0 rfl rfl)).but hbut (by simp), hbut.cell (by simp) (T3.out.cell 3 0 rfl rfl), hbut.cell (by simp; omega) (T3.out.cell 4 0 rfl rfl), hbut.cell (by simp; omega) (T3.out.cell 5 0 rfl rfl)⟩
  have B24 : Hid (Below w2.heap.size w2 w4) := Lib.hid (But.below B3.out hbut B3.out.size (fun i hi => by simp at hi; omega))
  clear hbut hg hk hgp U4 I13 I23 T3 K3 B3
  have c7 := V4.out.2.2.1
  go_wp2_with fail
  obtain ⟨vl, el, htl⟩ := ts_ex (leastE l 0 0)
  have HTL := Lib.hid htl
  refine (lf2_try b (b + 2) a1 n1 c1 (leastE l 0 0) vl el htl _ V4.out.2.2.1 V4.out.1 (fun wy hy => lleast_any a1 n1 c1 l (by omega) HI.out wy (KI1.out.later (bel_tr0 B24.out hy)))).mono ?_
  rintro e w5 ⟨rfl, hbut, hc5⟩
  have K5 : Hid (Below w.heap.size w w5) := Lib.hid (But.below K4.out hbut K4.out.size (fun i hi => by simp at hi; omega))
  have B25 : Hid (Below w2.heap.size w2 w5) := Lib.hid (But.below B24.out hbut B24.out.size (fun i hi => by simp at hi; omega))
  have B45 : Hid (But [b + 2] w4 w5) := Lib.hid hbut
  have C5 := Lib.hid hc5
  have V5 : Hid (Var w5 ⟨b + 3, 0, none⟩ (.int .i64 0) ∧ w5.cell? ⟨b, 0, none⟩ = some (.slice a1 n1 c1) ∧ w5.cell? ⟨w.heap.size + 1, 0, none⟩ = some (.int .i64 low) ∧ w5.cell? ⟨w.heap.size, 0, none⟩ = some (.int .i64 av)) := Lib.hid ⟨V4.out.2.1.but hbut (by simp), hbut.cell (by simp) V4.out.2.2.1, hbut.cell (by simp; omega) V4.out.2.2.2.1, hbut.cell (by simp; omega) V4.out.2.2.2.2⟩
  have G5 : Hid (w5.cell? ⟨b + 1, 0, none⟩ = some (.slice ga gn gc)) := Lib.hid (hbut.cell (by simp) G4.out)
  have GK5 : Hid (KS LK w5 (.slice ga gn gc) (lsF (fillE l av low 0))) := Lib.hid (ks_but GK4.out hbut (fun p e => by have := HGP.out p e; simp; omega))
  clear hbut hc5 V4 G4 GK4 K4 B24 c7 htl
  have c7 := V5.out.2.1
  go_wp2_with fail
  obtain ⟨vm, em, htm⟩ := ts_ex (wid l 0 n1)
  have HTM := Lib.hid htm
  refine (lf3_try b (b + 3) a1 n1 c1 (wid l 0 n1) vm em htm _ V5.out.2.1 V5.out.1 (fun wy hy => lmost_any a1 n1 c1 l (by omega) HI.out wy (KI1.out.later (bel_tr0 B25.out hy)))).mono ?_
  rintro e w6 ⟨rfl, hbut, hc6⟩
  have K6 : Hid (Below w.heap.size w w6) := Lib.hid (But.below K5.out hbut K5.out.size (fun i hi => by simp at hi; omega))
  have B26 : Hid (Below w2.heap.size w2 w6) := Lib.hid (But.below B25.out hbut B25.out.size (fun i hi => by simp at hi; omega))
  have C6 : Hid (w6.cell? ⟨b + 2, 0, none⟩ = some (.int .i64 vl) ∧ w6.cell? ⟨b + 3, 0, none⟩ = some (.int .i64 vm) ∧ w6.cell? ⟨b + 1, 0, none⟩ = some (.slice ga gn gc)) := Lib.hid ⟨hbut.cell (by simp) C5.out, hc6, hbut.cell (by simp) G5.out⟩
  have GK6 : Hid (KS LK w6 (.slice ga gn gc) (lsF (fillE l av low 0))) := Lib.hid (ks_but GK5.out hbut (fun p e => by have := HGP.out p e; simp; omega))
  have X4 := hbut.cell (p := ⟨w.heap.size, 0, none⟩) (by simp; omega) V5.out.2.2.2
  have X5 := hbut.cell (p := ⟨w.heap.size + 1, 0, none⟩) (by simp; omega) V5.out.2.2.1
  have KI6 := Lib.hid (KI2.out.later B26.out)
  clear hbut hc6 V5 G5 GK5 K5 B25 c7 htm C5 KI1 KI2 HGP B45
  go_wp2_with fail
  refine (r13fill_any a2 n2 c2 l av low (by omega) HA.out HL.out HI.out _ KI6.out).mono ?_
  rintro e w7 ⟨u, er, rfl, hfi, hb⟩
  have K7 := Lib.hid (bel_tr0 K6.out hb)
  have C7 : Hid (w7.cell? ⟨b + 2, 0, none⟩ = some (.int .i64 vl) ∧ w7.cell? ⟨b + 3, 0, none⟩ = some (.int .i64 vm) ∧ w7.cell? ⟨b + 1, 0, none⟩ = some (.slice ga gn gc)) := Lib.hid ⟨kcell_on hb C6.out.1, kcell_on hb C6.out.2.1, kcell_on hb C6.out.2.2⟩
  have GK7 := Lib.hid (GK6.out.later hb)
  have KI7 := Lib.hid (KI6.out.later hb)
  have FU : Hid (∃ ua un uc, u = .slice ua un uc ∧ KS LK w7 (.slice ua un uc) (lsF (fillE l av low 0)) ∧ er = erF (fillE l av low 0)) := Lib.hid (by
    cases ho : fillE l av low 0 with
    | none =>
      rw [ho] at hfi
      obtain ⟨rfl, rfl⟩ := hfi
      exact ⟨none, 0, 0, rfl, KS.nil LK _ 0 (by decide) none, rfl⟩
    | some ls =>
      rw [ho] at hfi
      obtain ⟨rfl, hk⟩ := hfi
      obtain ⟨ua, un, uc, rfl, _, _, _, _⟩ := id hk
      exact ⟨ua, un, uc, rfl, hk, rfl⟩)
  obtain ⟨ua, un, uc, rfl, hku, rfl⟩ := FU.out
  have HU := Lib.hid hku
  obtain ⟨ef, hef⟩ : ∃ ef, erF (fillE l av low 0) = ef := ⟨_, rfl⟩
  rw [hef]
  clear hb hfi FU hku C6 GK6 KI6 K6 X4 X5 hef
  go_wp2_with fail
  refine (r13least_any a2 n2 c2 l vl el (by omega) HI.out HTL.out _ KI7.out).mono ?_
  rintro e w8 ⟨rfl, hb⟩
  have K8 := Lib.hid (bel_tr0 K7.out hb)
  have C8 : Hid (w8.cell? ⟨b + 2, 0, none⟩ = some (.int .i64 vl) ∧ w8.cell? ⟨b + 3, 0, none⟩ = some (.int .i64 vm) ∧ w8.cell? ⟨b + 1, 0, none⟩ = some (.slice ga gn gc)) := Lib.hid ⟨kcell_on hb C7.out.1, kcell_on hb C7.out.2.1, kcell_on hb C7.out.2.2⟩
  have GK8 := Lib.hid (GK7.out.later hb)
  have KI8 := Lib.hid (KI7.out.later hb)
  have HU8 := Lib.hid (HU.out.later hb)
  clear hb C7 GK7 KI7 K7 HU
  go_wp2_with fail
  refine (r13width_any a2 n2 c2 l 0 n2 vm em (Nat.zero_le _) (Nat.le_refl _) (by omega) HI.out (by have := HTM.out; rwa [show n1 = n2 by have := E12.out; omega] at this) _ KI8.out).mono ?_
  rintro e w9 ⟨rfl, hb⟩
  have K9 := Lib.hid (bel_tr0 K8.out hb)
  have x0 := kcell_on hb C8.out.1
  have x1 := kcell_on hb C8.out.2.1
  have x2 := kcell_on hb C8.out.2.2
  have GK9 := Lib.hid (GK8.out.later hb)
  have HU9 := Lib.hid (HU8.out.later hb)
  have gun : gn = un := by have h1 := GK9.out.len.1; have h2 := HU9.out.len.1; omega
  subst gun
  have gl : gn ≤ 30 := by
    have h1 := GK9.out.len.1
    have := lsF_len l av low (by have := HL30.out; omega)
    omega
  clear hb C8 GK8 KI8 K8 HU8
  go_wp2_with fail
  go_loopw [21] (fun s21 wr => ∃ (i : Nat), s21 = .int .i64 i ∧ i ≤ gn ∧ ∃ nq, wr = w9.drewN nq) (fun s21 _ => gn - (intOf s21).toNat)
  case atStart => exact ⟨0, rfl, by omega, 0, rfl⟩
  case round =>
    obtain ⟨i, rfl, hin, nq0, rfl⟩ := hrel
    by_cases lt : i < gn
    · have lt' : (i : Int) < (gn : Int) := by omega
      obtain ⟨g1, o1, x, y, z, t, rfl, r1, y0, y1, y2, y3⟩ := lk_at GK9.out lt
      obtain ⟨g2, o2, x', y', z', t', rfl, r2, z0, z1, z2, z3⟩ := lk_at HU9.out lt
      rw [r1] at r2
      injection r2 with r2
      injection r2 with e1 r2
      injection r2 with e2 r2
      injection r2 with e3 e4
      subst e1 e2 e3 e4
      have ix1 : ∀ wy : World, (Instr.indexAt 28 (.slice (some ⟨g1, o1, none⟩) gn gc) (.int .i64 i)).run Try.prog wy = .ok (.pointer (some ⟨g1, o1 + i * 4, none⟩)) wy := fun wy => by
        have k0 : (0 : Int) ≤ (i : Int) := by omega
        simp [go_sem, k0, lt', Addr.add]
        try omega
      have ix2 : ∀ wy : World, (Instr.indexAt 33 (.slice (some ⟨g2, o2, none⟩) gn uc) (.int .i64 i)).run Try.prog wy = .ok (.pointer (some ⟨g2, o2 + i * 4, none⟩)) wy := fun wy => by
        have k0 : (0 : Int) ≤ (i : Int) := by omega
        simp [go_sem, k0, lt', Addr.add]
        try omega
      clear r1
      go_wp2_with fail
      go_quiet (fail)
      go_wp2_with fail
      go_roundw
      case rel => exact ⟨i + 1, by simp, by omega, _, rfl⟩
      case measure => simp [intOf]; omega
    · obtain rfl : i = gn := by omega
      go_wp2_with fail
      go_returns
      exact ⟨rfl, below_drewN K9.out _⟩
end Go.Proofs.Ytbolifjkhoiphaa
