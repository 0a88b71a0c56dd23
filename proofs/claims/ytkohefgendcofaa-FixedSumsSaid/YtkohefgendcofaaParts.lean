/- The closures of FixedParts. -/
import Derived.Test.YtkohefgendcofaaFixC
import Derived.WalkKit
import Derived.WalkSpells
import Derived.WalkLawsBesides
import Derived.Handy
import Derived.Lib.Hide
import Derived.Deep.QuietTactic
import Derived.BigQuiet
import Derived.LoopTactic
import Derived.Deep.RegionHeld3
import Derived.Deep.RegionWith
import Derived.Outline
import Derived.Deep.DeepCutAuto
namespace Go.Proofs.Ytkohefgendcofaa
open Go.RowKit Go.Proofs.Big Go.Proofs.Reg
set_option linter.unusedVariables false
set_option linter.unusedSimpArgs false
set_option maxRecDepth 100000
/-- five numbers in a box -/
structure PB (w : World) (b : Nat) (A N D P Q : Int) : Prop where
  c0 : w.cell? ⟨b, 0, none⟩ = some (.int .i64 A)
  c1 : w.cell? ⟨b, 1, none⟩ = some (.int .i64 N)
  c2 : w.cell? ⟨b, 2, none⟩ = some (.int .i64 D)
  c3 : w.cell? ⟨b, 3, none⟩ = some (.int .i64 P)
  c4 : w.cell? ⟨b, 4, none⟩ = some (.int .i64 Q)
theorem PB.lt {w : World} {b : Nat} {A N D P Q : Int} (h : PB w b A N D P Q) : b < w.heap.size := World.block_lt_of_cell? w _ h.c0
theorem PB.later {w w' : World} {b : Nat} {A N D P Q : Int} (h : PB w b A N D P Q) (k : Below w.heap.size w w') : PB w' b A N D P Q :=
  ⟨cell_later k h.c0, cell_later k h.c1, cell_later k h.c2, cell_later k h.c3, cell_later k h.c4⟩
theorem PB.but {bs : List Nat} {w w' : World} {b : Nat} {A N D P Q : Int} (h : PB w b A N D P Q) (k : But bs w w') (hb : b ∉ bs) : PB w' b A N D P Q :=
  ⟨k.cell hb h.c0, k.cell hb h.c1, k.cell hb h.c2, k.cell hb h.c3, k.cell hb h.c4⟩
/-- three numbers that are written -/
structure G3 (w : World) (g : Nat) (x y z : Int) : Prop where
  v0 : Var w ⟨g, 0, none⟩ (.int .i64 x)
  v1 : Var w ⟨g, 1, none⟩ (.int .i64 y)
  v2 : Var w ⟨g, 2, none⟩ (.int .i64 z)
theorem G3.lt {w : World} {g : Nat} {x y z : Int} (h : G3 w g x y z) : g < w.heap.size := h.v0.lt
theorem G3.later {w w' : World} {g : Nat} {x y z : Int} (h : G3 w g x y z) (k : Below w.heap.size w w') : G3 w' g x y z := ⟨h.v0.later k, h.v1.later k, h.v2.later k⟩
theorem G3.set0 {w : World} {g : Nat} {x y z : Int} (h : G3 w g x y z) (v : Int) : G3 (w.setCell ⟨g, 0, none⟩ (.int .i64 v)) g v y z :=
  ⟨h.v0.set _, h.v1.other (by simp) _, h.v2.other (by simp) _⟩
theorem G3.set1 {w : World} {g : Nat} {x y z : Int} (h : G3 w g x y z) (v : Int) : G3 (w.setCell ⟨g, 1, none⟩ (.int .i64 v)) g x v z :=
  ⟨h.v0.other (by simp) _, h.v1.set _, h.v2.other (by simp) _⟩
theorem G3.set2 {w : World} {g : Nat} {x y z : Int} (h : G3 w g x y z) (v : Int) : G3 (w.setCell ⟨g, 2, none⟩ (.int .i64 v)) g x y v :=
  ⟨h.v0.other (by simp) _, h.v1.other (by simp) _, h.v2.set _⟩
def three (g : Nat) (x y z : Int) : List (Addr × Value) := [(⟨g, 0, none⟩, .int .i64 x), (⟨g, 1, none⟩, .int .i64 y), (⟨g, 2, none⟩, .int .i64 z)]
theorem G3.vars {w : World} {g : Nat} {x y z : Int} (h : G3 w g x y z) : Vars w (three g x y z) := fun u hu => by
  rcases List.mem_cons.1 hu with rfl | hu
  · exact h.v0
  rcases List.mem_cons.1 hu with rfl | hu
  · exact h.v1
  obtain rfl : u = _ := List.mem_singleton.1 hu
  exact h.v2
theorem G3.of {w : World} {g : Nat} {x y z : Int} (h : Vars w (three g x y z)) : G3 w g x y z :=
  ⟨h _ (List.mem_cons_self ..), h _ (List.mem_cons_of_mem _ (List.mem_cons_self ..)), h _ (List.mem_cons_of_mem _ (List.mem_cons_of_mem _ (List.mem_singleton.2 rfl)))⟩
theorem three_lt {w : World} {g : Nat} (h : g < w.heap.size) (x y z : Int) : ∀ u ∈ three g x y z, u.1.block < w.heap.size := fun u hu => by
  rcases List.mem_cons.1 hu with rfl | hu
  · exact h
  rcases List.mem_cons.1 hu with rfl | hu
  · exact h
  obtain rfl : u = _ := List.mem_singleton.1 hu
  exact h
/-- Try of a closure that writes one of three numbers, or gives up -/
theorem try_three (F : FuncId) (cap : Array Value) (g : Nat) (er a b c x y z : Int) (w : World) (hg : g < w.heap.size) (hcf : ∀ w : World, (callFunc F cap).run Try.prog w = .ok (.enter F cap) w) (hv : er ≠ 0 → x = a ∧ y = b ∧ z = c)
    (h0 : er = 0 → Calls Try.prog F cap (w.alloc (.cells #[.int .i64 0] 43)) fun e w' => e = .returned (.tuple #[]) ∧ But [g] (w.alloc (.cells #[.int .i64 0] 43)) w' ∧ G3 w' g x y z)
    (h1 : er ≠ 0 → Calls Try.prog F cap (w.alloc (.cells #[.int .i64 0] 43)) fun e w' => e = .panicked (gave er) ∧ But [g] (w.alloc (.cells #[.int .i64 0] 43)) w' ∧ G3 w' g a b c) :
    Calls Try.prog 38 #[.func (.func F) #[] cap] w fun e w' => e = .returned (.int .i64 er) ∧ But [g] w w' ∧ G3 w' g x y z := by
  have hbs : ∀ i ∈ [g], i < w.heap.size := fun i hi => by
    obtain rfl : i = g := List.mem_singleton.1 hi
    exact hg
  by_cases z0 : er = 0
  · subst z0
    refine (tryB_ret F cap [g] (three g x y z) w hbs (three_lt hg x y z) hcf ((h0 rfl).mono ?_)).mono ?_
    · rintro e w' ⟨h, k, G⟩
      exact ⟨h, k, G.vars⟩
    · rintro e w' ⟨h, k, G⟩
      exact ⟨h, k, .of G⟩
  · obtain ⟨rfl, rfl, rfl⟩ := hv z0
    refine (tryB_gave F cap er [g] (three g x y z) w hbs (three_lt hg x y z) hcf ((h1 z0).mono ?_)).mono ?_
    · rintro e w' ⟨h, k, G⟩
      exact ⟨h, k, G.vars⟩
    · rintro e w' ⟨h, k, G⟩
      exact ⟨h, k, .of G⟩

set_option maxHeartbeats 1000000 in
theorem cl1_ret (b g : Nat) (A N D P Q v x y z : Int) (w : World) (hB : PB w b A N D P Q) (hG : G3 w g x y z) (hF : ∀ w, Calls Try.prog 48 #[.int .i64 A, .int .i64 N, .int .i64 D] w fun e w' => e = .returned (.int .i64 v) ∧ Below w.heap.size w w') :
    Calls Try.prog 47 #[.pointer (some ⟨b, 0, none⟩), .pointer (some ⟨g, 0, none⟩)] w fun e w' => e = .returned (.tuple #[]) ∧ But [g] w w' ∧ G3 w' g v y z := by
  have HF := Lib.hid hF
  have HG := Lib.hid hG
  obtain ⟨c0, c1, c2, c3, c4⟩ := hB
  clear hF hG
  go_enter Try.func47, Try.ntmps47
  go_wp2_with fail
  refine (HF.out _).mono ?_
  rintro e w1 ⟨rfl, hb1⟩
  have G1 := Lib.hid (HG.out.later hb1)
  have B1 := Lib.hid (But.of (bs := [g]) hb1)
  obtain ⟨g0, z0⟩ := G1.out.v0
  clear hb1 HF HG c0 c1 c2 c3 c4
  go_wp2_with fail
  go_end0
  exact ⟨rfl, B1.out.setCell (.inl (by simp)) _, G1.out.set0 v⟩
set_option maxHeartbeats 1000000 in
theorem cl1_gave (b g : Nat) (A N D P Q er x y z : Int) (w : World) (hB : PB w b A N D P Q) (hG : G3 w g x y z) (hF : ∀ w, Calls Try.prog 48 #[.int .i64 A, .int .i64 N, .int .i64 D] w fun e w' => e = .panicked (gave er) ∧ Below w.heap.size w w') :
    Calls Try.prog 47 #[.pointer (some ⟨b, 0, none⟩), .pointer (some ⟨g, 0, none⟩)] w fun e w' => e = .panicked (gave er) ∧ But [g] w w' ∧ G3 w' g x y z := by
  have HF := Lib.hid hF
  have HG := Lib.hid hG
  obtain ⟨c0, c1, c2, c3, c4⟩ := hB
  clear hF hG
  go_enter Try.func47, Try.ntmps47
  go_wp2_with fail
  refine (HF.out _).mono ?_
  rintro e w1 ⟨rfl, hb1⟩
  exact ⟨rfl, rfl, But.of (bs := [g]) hb1, HG.out.later hb1⟩
theorem cl1_any (b g : Nat) (A N D P Q v er x y z : Int) (w : World) (hB : PB w b A N D P Q) (hG : G3 w g 0 y z) (hF : ∀ w, Calls Try.prog 48 #[.int .i64 A, .int .i64 N, .int .i64 D] w fun e w' => Ends v er e ∧ Below w.heap.size w w') (hv : er ≠ 0 → v = 0) :
    Calls Try.prog 38 #[.func (.func 47) #[] #[.pointer (some ⟨b, 0, none⟩), .pointer (some ⟨g, 0, none⟩)]] w fun e w' => e = .returned (.int .i64 er) ∧ But [g] w w' ∧ G3 w' g v y z := by
  have ba : Below w.heap.size w (w.alloc (.cells #[.int .i64 0] 43)) := (Below.refl _ _).alloc (Nat.le_refl _) _
  refine try_three 47 _ g er 0 y z v y z w hG.lt (fun _ => by kernel_rfl) (fun h => by rw [hv h]; exact ⟨rfl, rfl, rfl⟩) (fun h => ?_) (fun h => ?_)
  · refine cl1_ret b g A N D P Q v 0 y z _ (hB.later ba) (hG.later ba) fun w => (hF w).mono ?_
    rintro e w' ⟨he, hb⟩
    rcases he with ⟨_, he⟩ | ⟨hn, _⟩
    · exact ⟨he, hb⟩
    · exact absurd h hn
  · refine cl1_gave b g A N D P Q er 0 y z _ (hB.later ba) (hG.later ba) fun w => (hF w).mono ?_
    rintro e w' ⟨he, hb⟩
    rcases he with ⟨hz, _⟩ | ⟨_, _, he⟩
    · exact absurd hz h
    · exact ⟨he, hb⟩
set_option maxHeartbeats 1000000 in
theorem cl2_ret (b g : Nat) (A N D P Q v x y z : Int) (w : World) (hB : PB w b A N D P Q) (hG : G3 w g x y z) (hF : ∀ w, Calls Try.prog 50 #[.int .i64 A, .agg #[.int .i64 P, .int .i64 Q]] w fun e w' => e = .returned (.int .i64 v) ∧ Below w.heap.size w w') :
    Calls Try.prog 49 #[.pointer (some ⟨b, 0, none⟩), .pointer (some ⟨g, 0, none⟩)] w fun e w' => e = .returned (.tuple #[]) ∧ But [g] w w' ∧ G3 w' g x v z := by
  have HF := Lib.hid hF
  have HG := Lib.hid hG
  obtain ⟨c0, c1, c2, c3, c4⟩ := hB
  clear hF hG
  go_enter Try.func49, Try.ntmps49
  go_wp2_with fail
  refine (HF.out _).mono ?_
  rintro e w1 ⟨rfl, hb1⟩
  have G1 := Lib.hid (HG.out.later hb1)
  have B1 := Lib.hid (But.of (bs := [g]) hb1)
  obtain ⟨g0, z0⟩ := G1.out.v1
  clear hb1 HF HG c0 c1 c2 c3 c4
  go_wp2_with fail
  go_end0
  exact ⟨rfl, B1.out.setCell (.inl (by simp)) _, G1.out.set1 v⟩
set_option maxHeartbeats 1000000 in
theorem cl2_gave (b g : Nat) (A N D P Q er x y z : Int) (w : World) (hB : PB w b A N D P Q) (hG : G3 w g x y z) (hF : ∀ w, Calls Try.prog 50 #[.int .i64 A, .agg #[.int .i64 P, .int .i64 Q]] w fun e w' => e = .panicked (gave er) ∧ Below w.heap.size w w') :
    Calls Try.prog 49 #[.pointer (some ⟨b, 0, none⟩), .pointer (some ⟨g, 0, none⟩)] w fun e w' => e = .panicked (gave er) ∧ But [g] w w' ∧ G3 w' g x y z := by
  have HF := Lib.hid hF
  have HG := Lib.hid hG
  obtain ⟨c0, c1, c2, c3, c4⟩ := hB
  clear hF hG
  go_enter Try.func49, Try.ntmps49
  go_wp2_with fail
  refine (HF.out _).mono ?_
  rintro e w1 ⟨rfl, hb1⟩
  exact ⟨rfl, rfl, But.of (bs := [g]) hb1, HG.out.later hb1⟩
theorem cl2_any (b g : Nat) (A N D P Q v er x y z : Int) (w : World) (hB : PB w b A N D P Q) (hG : G3 w g x 0 z) (hF : ∀ w, Calls Try.prog 50 #[.int .i64 A, .agg #[.int .i64 P, .int .i64 Q]] w fun e w' => Ends v er e ∧ Below w.heap.size w w') (hv : er ≠ 0 → v = 0) :
    Calls Try.prog 38 #[.func (.func 49) #[] #[.pointer (some ⟨b, 0, none⟩), .pointer (some ⟨g, 0, none⟩)]] w fun e w' => e = .returned (.int .i64 er) ∧ But [g] w w' ∧ G3 w' g x v z := by
  have ba : Below w.heap.size w (w.alloc (.cells #[.int .i64 0] 43)) := (Below.refl _ _).alloc (Nat.le_refl _) _
  refine try_three 49 _ g er x 0 z x v z w hG.lt (fun _ => by kernel_rfl) (fun h => by rw [hv h]; exact ⟨rfl, rfl, rfl⟩) (fun h => ?_) (fun h => ?_)
  · refine cl2_ret b g A N D P Q v x 0 z _ (hB.later ba) (hG.later ba) fun w => (hF w).mono ?_
    rintro e w' ⟨he, hb⟩
    rcases he with ⟨_, he⟩ | ⟨hn, _⟩
    · exact ⟨he, hb⟩
    · exact absurd h hn
  · refine cl2_gave b g A N D P Q er x 0 z _ (hB.later ba) (hG.later ba) fun w => (hF w).mono ?_
    rintro e w' ⟨he, hb⟩
    rcases he with ⟨hz, _⟩ | ⟨_, _, he⟩
    · exact absurd hz h
    · exact ⟨he, hb⟩
set_option maxHeartbeats 1000000 in
theorem cl3_ret (b g : Nat) (A N D P Q v x y z : Int) (w : World) (hB : PB w b A N D P Q) (hG : G3 w g x y z) (hF : ∀ w, Calls Try.prog 52 #[.int .i64 A] w fun e w' => e = .returned (.int .i64 v) ∧ Below w.heap.size w w') :
    Calls Try.prog 51 #[.pointer (some ⟨b, 0, none⟩), .pointer (some ⟨g, 0, none⟩)] w fun e w' => e = .returned (.tuple #[]) ∧ But [g] w w' ∧ G3 w' g x y v := by
  have HF := Lib.hid hF
  have HG := Lib.hid hG
  obtain ⟨c0, c1, c2, c3, c4⟩ := hB
  clear hF hG
  go_enter Try.func51, Try.ntmps51
  go_wp2_with fail
  refine (HF.out _).mono ?_
  rintro e w1 ⟨rfl, hb1⟩
  have G1 := Lib.hid (HG.out.later hb1)
  have B1 := Lib.hid (But.of (bs := [g]) hb1)
  obtain ⟨g0, z0⟩ := G1.out.v2
  clear hb1 HF HG c0 c1 c2 c3 c4
  go_wp2_with fail
  go_end0
  exact ⟨rfl, B1.out.setCell (.inl (by simp)) _, G1.out.set2 v⟩
set_option maxHeartbeats 1000000 in
theorem cl3_gave (b g : Nat) (A N D P Q er x y z : Int) (w : World) (hB : PB w b A N D P Q) (hG : G3 w g x y z) (hF : ∀ w, Calls Try.prog 52 #[.int .i64 A] w fun e w' => e = .panicked (gave er) ∧ Below w.heap.size w w') :
    Calls Try.prog 51 #[.pointer (some ⟨b, 0, none⟩), .pointer (some ⟨g, 0, none⟩)] w fun e w' => e = .panicked (gave er) ∧ But [g] w w' ∧ G3 w' g x y z := by
  have HF := Lib.hid hF
  have HG := Lib.hid hG
  obtain ⟨c0, c1, c2, c3, c4⟩ := hB
  clear hF hG
  go_enter Try.func51, Try.ntmps51
  go_wp2_with fail
  refine (HF.out _).mono ?_
  rintro e w1 ⟨rfl, hb1⟩
  exact ⟨rfl, rfl, But.of (bs := [g]) hb1, HG.out.later hb1⟩
theorem cl3_any (b g : Nat) (A N D P Q v er x y z : Int) (w : World) (hB : PB w b A N D P Q) (hG : G3 w g x y 0) (hF : ∀ w, Calls Try.prog 52 #[.int .i64 A] w fun e w' => Ends v er e ∧ Below w.heap.size w w') (hv : er ≠ 0 → v = 0) :
    Calls Try.prog 38 #[.func (.func 51) #[] #[.pointer (some ⟨b, 0, none⟩), .pointer (some ⟨g, 0, none⟩)]] w fun e w' => e = .returned (.int .i64 er) ∧ But [g] w w' ∧ G3 w' g x y v := by
  have ba : Below w.heap.size w (w.alloc (.cells #[.int .i64 0] 43)) := (Below.refl _ _).alloc (Nat.le_refl _) _
  refine try_three 51 _ g er x y 0 x y v w hG.lt (fun _ => by kernel_rfl) (fun h => by rw [hv h]; exact ⟨rfl, rfl, rfl⟩) (fun h => ?_) (fun h => ?_)
  · refine cl3_ret b g A N D P Q v x y 0 _ (hB.later ba) (hG.later ba) fun w => (hF w).mono ?_
    rintro e w' ⟨he, hb⟩
    rcases he with ⟨_, he⟩ | ⟨hn, _⟩
    · exact ⟨he, hb⟩
    · exact absurd h hn
  · refine cl3_gave b g A N D P Q er x y 0 _ (hB.later ba) (hG.later ba) fun w => (hF w).mono ?_
    rintro e w' ⟨he, hb⟩
    rcases he with ⟨hz, _⟩ | ⟨_, _, he⟩
    · exact absurd hz h
    · exact ⟨he, hb⟩
end Go.Proofs.Ytkohefgendcofaa
