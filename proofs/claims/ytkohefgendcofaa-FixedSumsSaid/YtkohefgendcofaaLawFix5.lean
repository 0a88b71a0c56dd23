/- FixedSums: the closures and the walk. -/
import Derived.Test.YtkohefgendcofaaRefF
import Derived.Test.YtkohefgendcofaaSpk4
import Derived.WalkKit
import Derived.WalkSpells
import Derived.WalkLawsBesides
import Derived.Handy
import Derived.Lib.Hide
import Derived.LaidEql
import Derived.Deep.QuietTactic
import Derived.BigQuiet
import Derived.LoopTactic
import Derived.RegionTactic
import Derived.BigRegion
import Derived.Deep.RegionHeld3
import Derived.Deep.RegionWith
import Derived.Outline
import Derived.Deep.DeepCutAuto
namespace Go.Proofs.Ytkohefgendcofaa
open Go.RowKit Go.Proofs.Big Go.Proofs.Reg
set_option linter.unusedVariables false
set_option linter.unusedSimpArgs false
set_option maxRecDepth 100000
theorem fadd_ends (s : Option Addr) (len cap : Nat) (xs : List Int) (o : Option Int) (v er : Int) (w : World) (R : Ri w s len cap xs) (hx : Hid (∀ x ∈ xs, -9223372036854775808 ≤ x ∧ x ≤ 9223372036854775807)) (ho : Hid (addAll 0 xs = o)) (ht : Ts o v er) :
    Calls Try.prog 40 #[.slice s len cap] w fun e w' => Ends v er e ∧ Below w.heap.size w w' := by
  refine (fadd_any s len cap xs o w R hx ho).mono ?_
  rintro e w' ⟨h, rfl⟩
  exact ⟨ends_ts ht h, Below.refl _ _⟩

set_option maxHeartbeats 1000000 in
theorem sm1_ret (bl g : Nat) (s : Option Addr) (len : Nat) (cap : Nat) (v x y z : Int) (w : World) (h0 : w.cell? ⟨bl, 0, none⟩ = some (.slice s len cap)) (hG : G3 w g x y z) (hF : Calls Try.prog 40 #[.slice s len cap] w fun e w' => e = .returned (.int .i64 v) ∧ Below w.heap.size w w') :
    Calls Try.prog 39 #[.pointer (some ⟨bl, 0, none⟩), .pointer (some ⟨g, 0, none⟩)] w fun e w' => e = .returned (.tuple #[]) ∧ But [g] w w' ∧ G3 w' g v y z := by
  have HF := Lib.hid hF
  have HG := Lib.hid hG
  clear hF hG
  go_enter Try.func39, Try.ntmps39
  go_wp2_with fail
  refine HF.out.mono ?_
  rintro e w1 ⟨rfl, hb1⟩
  have G1 := Lib.hid (HG.out.later hb1)
  have B1 := Lib.hid (But.of (bs := [g]) hb1)
  obtain ⟨g0, z0⟩ := G1.out.v0
  clear hb1 HF HG h0
  go_wp2_with fail
  go_end0
  exact ⟨rfl, B1.out.setCell (.inl (by simp)) _, G1.out.set0 v⟩
set_option maxHeartbeats 1000000 in
theorem sm1_gave (bl g : Nat) (s : Option Addr) (len : Nat) (cap : Nat) (er x y z : Int) (w : World) (h0 : w.cell? ⟨bl, 0, none⟩ = some (.slice s len cap)) (hG : G3 w g x y z) (hF : Calls Try.prog 40 #[.slice s len cap] w fun e w' => e = .panicked (gave er) ∧ Below w.heap.size w w') :
    Calls Try.prog 39 #[.pointer (some ⟨bl, 0, none⟩), .pointer (some ⟨g, 0, none⟩)] w fun e w' => e = .panicked (gave er) ∧ But [g] w w' ∧ G3 w' g x y z := by
  have HF := Lib.hid hF
  have HG := Lib.hid hG
  clear hF hG
  go_enter Try.func39, Try.ntmps39
  go_wp2_with fail
  refine HF.out.mono ?_
  rintro e w1 ⟨rfl, hb1⟩
  exact ⟨rfl, rfl, But.of (bs := [g]) hb1, HG.out.later hb1⟩
theorem sm1_any (bl g : Nat) (s : Option Addr) (len : Nat) (cap : Nat) (v er x y z : Int) (w : World) (h0 : w.cell? ⟨bl, 0, none⟩ = some (.slice s len cap)) (hG : G3 w g 0 y z) (hF : ∀ w1, Below w.heap.size w w1 → Calls Try.prog 40 #[.slice s len cap] w1 fun e w' => Ends v er e ∧ Below w1.heap.size w1 w') (hv : er ≠ 0 → v = 0) :
    Calls Try.prog 38 #[.func (.func 39) #[] #[.pointer (some ⟨bl, 0, none⟩), .pointer (some ⟨g, 0, none⟩)]] w fun e w' => e = .returned (.int .i64 er) ∧ But [g] w w' ∧ G3 w' g v y z := by
  have hba : Below w.heap.size w (w.alloc (.cells #[.int .i64 0] 43)) := (Below.refl _ _).alloc (Nat.le_refl _) _
  refine try_three 39 _ g er 0 y z v y z w hG.lt (fun _ => by kernel_rfl) (fun h => by rw [hv h]; exact ⟨rfl, rfl, rfl⟩) (fun h => ?_) (fun h => ?_)
  · refine sm1_ret bl g s len cap v 0 y z _ (cell_later hba h0) (hG.later hba) ((hF _ hba).mono ?_)
    rintro e w' ⟨he, hb⟩
    rcases he with ⟨_, he⟩ | ⟨hn, _⟩
    · exact ⟨he, hb⟩
    · exact absurd h hn
  · refine sm1_gave bl g s len cap er 0 y z _ (cell_later hba h0) (hG.later hba) ((hF _ hba).mono ?_)
    rintro e w' ⟨he, hb⟩
    rcases he with ⟨hz, _⟩ | ⟨_, _, he⟩
    · exact absurd hz h
    · exact ⟨he, hb⟩
set_option maxHeartbeats 1000000 in
theorem sm2_ret (ba bb g : Nat) (a : Int) (b : Int) (v x y z : Int) (w : World) (h0 : w.cell? ⟨ba, 0, none⟩ = some (.int .i64 a)) (h1 : w.cell? ⟨bb, 0, none⟩ = some (.int .i64 b)) (hG : G3 w g x y z) (hF : Calls Try.prog 42 #[.int .i64 a, .int .i64 b] w fun e w' => e = .returned (.int .i64 v) ∧ Below w.heap.size w w') :
    Calls Try.prog 41 #[.pointer (some ⟨ba, 0, none⟩), .pointer (some ⟨bb, 0, none⟩), .pointer (some ⟨g, 0, none⟩)] w fun e w' => e = .returned (.tuple #[]) ∧ But [g] w w' ∧ G3 w' g x v z := by
  have HF := Lib.hid hF
  have HG := Lib.hid hG
  clear hF hG
  go_enter Try.func41, Try.ntmps41
  go_wp2_with fail
  refine HF.out.mono ?_
  rintro e w1 ⟨rfl, hb1⟩
  have G1 := Lib.hid (HG.out.later hb1)
  have B1 := Lib.hid (But.of (bs := [g]) hb1)
  obtain ⟨g0, z0⟩ := G1.out.v1
  clear hb1 HF HG h0 h1
  go_wp2_with fail
  go_end0
  exact ⟨rfl, B1.out.setCell (.inl (by simp)) _, G1.out.set1 v⟩
set_option maxHeartbeats 1000000 in
theorem sm2_gave (ba bb g : Nat) (a : Int) (b : Int) (er x y z : Int) (w : World) (h0 : w.cell? ⟨ba, 0, none⟩ = some (.int .i64 a)) (h1 : w.cell? ⟨bb, 0, none⟩ = some (.int .i64 b)) (hG : G3 w g x y z) (hF : Calls Try.prog 42 #[.int .i64 a, .int .i64 b] w fun e w' => e = .panicked (gave er) ∧ Below w.heap.size w w') :
    Calls Try.prog 41 #[.pointer (some ⟨ba, 0, none⟩), .pointer (some ⟨bb, 0, none⟩), .pointer (some ⟨g, 0, none⟩)] w fun e w' => e = .panicked (gave er) ∧ But [g] w w' ∧ G3 w' g x y z := by
  have HF := Lib.hid hF
  have HG := Lib.hid hG
  clear hF hG
  go_enter Try.func41, Try.ntmps41
  go_wp2_with fail
  refine HF.out.mono ?_
  rintro e w1 ⟨rfl, hb1⟩
  exact ⟨rfl, rfl, But.of (bs := [g]) hb1, HG.out.later hb1⟩
theorem sm2_any (ba bb g : Nat) (a : Int) (b : Int) (v er x y z : Int) (w : World) (h0 : w.cell? ⟨ba, 0, none⟩ = some (.int .i64 a)) (h1 : w.cell? ⟨bb, 0, none⟩ = some (.int .i64 b)) (hG : G3 w g x 0 z) (hF : ∀ w1, Below w.heap.size w w1 → Calls Try.prog 42 #[.int .i64 a, .int .i64 b] w1 fun e w' => Ends v er e ∧ Below w1.heap.size w1 w') (hv : er ≠ 0 → v = 0) :
    Calls Try.prog 38 #[.func (.func 41) #[] #[.pointer (some ⟨ba, 0, none⟩), .pointer (some ⟨bb, 0, none⟩), .pointer (some ⟨g, 0, none⟩)]] w fun e w' => e = .returned (.int .i64 er) ∧ But [g] w w' ∧ G3 w' g x v z := by
  have hba : Below w.heap.size w (w.alloc (.cells #[.int .i64 0] 43)) := (Below.refl _ _).alloc (Nat.le_refl _) _
  refine try_three 41 _ g er x 0 z x v z w hG.lt (fun _ => by kernel_rfl) (fun h => by rw [hv h]; exact ⟨rfl, rfl, rfl⟩) (fun h => ?_) (fun h => ?_)
  · refine sm2_ret ba bb g a b v x 0 z _ (cell_later hba h0) (cell_later hba h1) (hG.later hba) ((hF _ hba).mono ?_)
    rintro e w' ⟨he, hb⟩
    rcases he with ⟨_, he⟩ | ⟨hn, _⟩
    · exact ⟨he, hb⟩
    · exact absurd h hn
  · refine sm2_gave ba bb g a b er x 0 z _ (cell_later hba h0) (cell_later hba h1) (hG.later hba) ((hF _ hba).mono ?_)
    rintro e w' ⟨he, hb⟩
    rcases he with ⟨hz, _⟩ | ⟨_, _, he⟩
    · exact absurd hz h
    · exact ⟨he, hb⟩
set_option maxHeartbeats 1000000 in
theorem sm3_ret (ba g : Nat) (a : Int) (v x y z : Int) (w : World) (h0 : w.cell? ⟨ba, 0, none⟩ = some (.int .i64 a)) (hG : G3 w g x y z) (hF : Calls Try.prog 44 #[.int .i64 a] w fun e w' => e = .returned (.int .i64 v) ∧ Below w.heap.size w w') :
    Calls Try.prog 43 #[.pointer (some ⟨ba, 0, none⟩), .pointer (some ⟨g, 0, none⟩)] w fun e w' => e = .returned (.tuple #[]) ∧ But [g] w w' ∧ G3 w' g x y v := by
  have HF := Lib.hid hF
  have HG := Lib.hid hG
  clear hF hG
  go_enter Try.func43, Try.ntmps43
  go_wp2_with fail
  refine HF.out.mono ?_
  rintro e w1 ⟨rfl, hb1⟩
  have G1 := Lib.hid (HG.out.later hb1)
  have B1 := Lib.hid (But.of (bs := [g]) hb1)
  obtain ⟨g0, z0⟩ := G1.out.v2
  clear hb1 HF HG h0
  go_wp2_with fail
  go_end0
  exact ⟨rfl, B1.out.setCell (.inl (by simp)) _, G1.out.set2 v⟩
set_option maxHeartbeats 1000000 in
theorem sm3_gave (ba g : Nat) (a : Int) (er x y z : Int) (w : World) (h0 : w.cell? ⟨ba, 0, none⟩ = some (.int .i64 a)) (hG : G3 w g x y z) (hF : Calls Try.prog 44 #[.int .i64 a] w fun e w' => e = .panicked (gave er) ∧ Below w.heap.size w w') :
    Calls Try.prog 43 #[.pointer (some ⟨ba, 0, none⟩), .pointer (some ⟨g, 0, none⟩)] w fun e w' => e = .panicked (gave er) ∧ But [g] w w' ∧ G3 w' g x y z := by
  have HF := Lib.hid hF
  have HG := Lib.hid hG
  clear hF hG
  go_enter Try.func43, Try.ntmps43
  go_wp2_with fail
  refine HF.out.mono ?_
  rintro e w1 ⟨rfl, hb1⟩
  exact ⟨rfl, rfl, But.of (bs := [g]) hb1, HG.out.later hb1⟩
theorem sm3_any (ba g : Nat) (a : Int) (v er x y z : Int) (w : World) (h0 : w.cell? ⟨ba, 0, none⟩ = some (.int .i64 a)) (hG : G3 w g x y 0) (hF : ∀ w1, Below w.heap.size w w1 → Calls Try.prog 44 #[.int .i64 a] w1 fun e w' => Ends v er e ∧ Below w1.heap.size w1 w') (hv : er ≠ 0 → v = 0) :
    Calls Try.prog 38 #[.func (.func 43) #[] #[.pointer (some ⟨ba, 0, none⟩), .pointer (some ⟨g, 0, none⟩)]] w fun e w' => e = .returned (.int .i64 er) ∧ But [g] w w' ∧ G3 w' g x y v := by
  have hba : Below w.heap.size w (w.alloc (.cells #[.int .i64 0] 43)) := (Below.refl _ _).alloc (Nat.le_refl _) _
  refine try_three 43 _ g er x y 0 x y v w hG.lt (fun _ => by kernel_rfl) (fun h => by rw [hv h]; exact ⟨rfl, rfl, rfl⟩) (fun h => ?_) (fun h => ?_)
  · refine sm3_ret ba g a v x y 0 _ (cell_later hba h0) (hG.later hba) ((hF _ hba).mono ?_)
    rintro e w' ⟨he, hb⟩
    rcases he with ⟨_, he⟩ | ⟨hn, _⟩
    · exact ⟨he, hb⟩
    · exact absurd h hn
  · refine sm3_gave ba g a er x y 0 _ (cell_later hba h0) (hG.later hba) ((hF _ hba).mono ?_)
    rintro e w' ⟨he, hb⟩
    rcases he with ⟨hz, _⟩ | ⟨_, _, he⟩
    · exact absurd hz h
    · exact ⟨he, hb⟩
section
variable {ops : Array Oper} {a0 : Act} {w0 : World} {kind : Nat → Kind} {o : Oper}
theorem ok_cellA {t : Tmp} {p : Addr} {v : Value} {x : Option Tmp} {ty : TypeId} {ps : String} {af : Array Edge} {gd : Option (Nat × Bool)} (ht : (ops.all fun o => o.dst != some t) = true) (he : a0.eval (.tmp t) = .pointer (some p)) (hc : w0.cell? p = some v) :
    OpOk Try.prog ops a0 w0 kind ⟨x, .load 2 (.tmp t), ty, ps, af, gd⟩ (constK v) := by
  refine ok_const fun A L val w env facts hb => ?_
  have e1 := env.out t ht
  rw [he] at e1
  have c := cell_later hb hc
  simp only [execOp, e1]
  simp [go_sem, c]
theorem ok_moveKp {j : Nat} {t : Tmp} {c : Value} {x : Option Tmp} {ty : TypeId} {ps : String} {af : Array Edge} {gd : Option (Nat × Bool)} (hj : dstAt ops j = some t) (hd : depB ⟨x, .move (.tmp t), ty, ps, af, gd⟩ j = true) (hk : kind j = keptK c) :
    OpOk Try.prog ops a0 w0 kind ⟨x, .move (.tmp t), ty, ps, af, gd⟩ (constK c) := by
  refine ok_const fun A L val w env facts hb => ?_
  rw [← dep_kept env facts j t _ hd hj hk]
  rfl
theorem ok_ext0 {j : Nat} {t : Tmp} {c d : Value} {x : Option Tmp} {ty : TypeId} {ps : String} {af : Array Edge} {gd : Option (Nat × Bool)} (hj : dstAt ops j = some t) (hd : depB ⟨x, .extract (.tmp t) 0, ty, ps, af, gd⟩ j = true) (hk : kind j = constK (.tuple #[c, d])) :
    OpOk Try.prog ops a0 w0 kind ⟨x, .extract (.tmp t) 0, ty, ps, af, gd⟩ (constK c) := by
  refine ok_const fun A L val w env facts hb => ?_
  have e1 := dep_const env facts j t _ hd hj hk
  simp only [execOp, e1]
  simp [go_sem]
theorem ok_ext1 {j : Nat} {t : Tmp} {c d : Value} {x : Option Tmp} {ty : TypeId} {ps : String} {af : Array Edge} {gd : Option (Nat × Bool)} (hj : dstAt ops j = some t) (hd : depB ⟨x, .extract (.tmp t) 1, ty, ps, af, gd⟩ j = true) (hk : kind j = constK (.tuple #[c, d])) :
    OpOk Try.prog ops a0 w0 kind ⟨x, .extract (.tmp t) 1, ty, ps, af, gd⟩ (constK d) := by
  refine ok_const fun A L val w env facts hb => ?_
  have e1 := dep_const env facts j t _ hd hj hk
  simp only [execOp, e1]
  simp [go_sem]
end
/-- the three boxes of the arguments -/
structure SB (w : World) (bl ba bb : Nat) (s : Option Addr) (n cap : Nat) (A B : Int) : Prop where
  c0 : w.cell? ⟨bl, 0, none⟩ = some (.slice s n cap)
  c1 : w.cell? ⟨ba, 0, none⟩ = some (.int .i64 A)
  c2 : w.cell? ⟨bb, 0, none⟩ = some (.int .i64 B)
theorem SB.later {w w' : World} {bl ba bb : Nat} {s : Option Addr} {n cap : Nat} {A B : Int} (h : SB w bl ba bb s n cap A B) (k : Below w.heap.size w w') : SB w' bl ba bb s n cap A B :=
  ⟨cell_later k h.c0, cell_later k h.c1, cell_later k h.c2⟩
theorem SB.but {bs : List Nat} {w w' : World} {bl ba bb : Nat} {s : Option Addr} {n cap : Nat} {A B : Int} (h : SB w bl ba bb s n cap A B) (k : But bs w w') (b0 : bl ∉ bs) (b1 : ba ∉ bs) (b2 : bb ∉ bs) : SB w' bl ba bb s n cap A B :=
  ⟨k.cell b0 h.c0, k.cell b1 h.c1, k.cell b2 h.c2⟩
theorem Ri.take {w : World} {a : Option Addr} {len cap : Nat} {xs : List Int} (h : Ri w a len cap xs) (n : Nat) (hn : n ≤ len) : Ri w a n cap (xs.take n) :=
  ⟨by rw [List.length_take, h.hlen]; omega, by have := h.hmax; omega, fun k => by
    obtain ⟨p, e, c⟩ := h.addr (by omega)
    refine ⟨p, e, fun j hj => ?_⟩
    rw [List.getD_eq_getElem?_getD, List.getElem?_take_of_lt hj, ← List.getD_eq_getElem?_getD]
    exact c j (by omega)⟩
set_option maxHeartbeats 4000000 in
theorem law_sums (s : Option Addr) (len cap : Nat) (xs : List Int) (A B : Int) (w : World) (R : Ri w s len cap xs) (hlc : len ≤ cap) (hcm : cap ≤ 9223372036854775807) (hx : Hid (∀ x ∈ xs, -9223372036854775808 ≤ x ∧ x ≤ 9223372036854775807)) (a0 : -9223372036854775808 ≤ A) (a1 : A ≤ 9223372036854775807) (b0 : -9223372036854775808 ≤ B) (b1 : B ≤ 9223372036854775807) :
    Calls Try.prog 7 #[.slice s len cap, .int .i64 A, .int .i64 B] w fun e w' => e = .returned (.bool true) ∧ Below w.heap.size w w' := by
  obtain ⟨n, hn, nl, n20⟩ : ∃ n : Nat, n = (if len ≤ 20 then len else 20) ∧ n ≤ len ∧ n ≤ 20 := ⟨_, rfl, by split <;> omega, by split <;> omega⟩
  have RN := Lib.hid (R.take n nl)
  have HX : Hid (∀ x ∈ xs.take n, -9223372036854775808 ≤ x ∧ x ≤ 9223372036854775807) := Lib.hid fun x m => hx.out x (List.mem_of_mem_take m)
  have hl := R.hlen
  obtain ⟨o, ho⟩ : ∃ o, addAll 0 (xs.take n) = o := ⟨_, rfl⟩
  have HO := Lib.hid ho
  obtain ⟨v1, e1, t1⟩ := ts_ex o
  obtain ⟨v2, e2, t2⟩ := tl_ex (A - B)
  obtain ⟨v3, e3, t3⟩ := tl_ex A
  have T1 := Lib.hid t1
  have T2 := Lib.hid t2
  have T3 := Lib.hid t3
  have Z1 : Hid (e1 ≠ 0 → v1 = 0) := Lib.hid fun z => by
    cases o with
    | some q => exact absurd t1.2 z
    | none => exact t1.1
  have Z2 := Lib.hid t2.zero'
  have Z3 := Lib.hid t3.zero'
  have hmf : ∀ (fn : Fn) (first cap : Array Value) (w : World), (Instr.makeFunc fn first cap).run Try.prog w = .ok (.func fn first cap) w := fun _ _ _ _ => rfl
  clear t1 t2 t3 ho R
  go_enter Try.func7, Try.ntmps7
  go_wp2_with fail
  refine (speaks4_any _).mono ?_
  rintro e w1 ⟨rfl, hb1⟩
  have c0 : w1.cell? ⟨w.heap.size, 0, none⟩ = some (.slice s len cap) := cell_later hb1 (by simp [go_sem])
  have f0 : w1.frozen? ⟨w.heap.size, 0, none⟩ = false := by rw [hb1.frozen (by simp; omega)]; simp [go_sem]
  have c1 : w1.cell? ⟨w.heap.size + 1, 0, none⟩ = some (.int .i64 A) := cell_later hb1 (by simp [go_sem])
  have c2 : w1.cell? ⟨w.heap.size + 1 + 1, 0, none⟩ = some (.int .i64 B) := cell_later hb1 (by simp [go_sem])
  have z1 := hb1.size
  simp only [World.size_alloc] at z1
  have K1 : Hid (Below w.heap.size w w1) := Lib.hid (Below.trans (by go_grown) (hb1.mono (by simp only [World.size_alloc]; omega)))
  clear hb1
  have hmin : (min (len : Int) 20).toNat = n := by rw [hn]; split <;> omega
  clear hn
  go_wp2_with fail
  have B1 := Lib.hid (show SB ((w1.setCell ⟨w.heap.size, 0, none⟩ (.slice s n cap)).alloc (.cells #[.int .i64 0, .int .i64 0, .int .i64 0] 64)) w.heap.size (w.heap.size + 1) (w.heap.size + 1 + 1) s n cap A B from
    ⟨keep_alloc (World.cell?_setCell_same _ _ _ c0), keep_alloc (by rw [World.cell?_setCell_other _ _ _ _ (by simp)]; exact c1), keep_alloc (by rw [World.cell?_setCell_other _ _ _ _ (by simp)]; exact c2)⟩)
  have G1 := Lib.hid (show G3 ((w1.setCell ⟨w.heap.size, 0, none⟩ (.slice s n cap)).alloc (.cells #[.int .i64 0, .int .i64 0, .int .i64 0] 64)) w1.heap.size 0 0 0 from ⟨⟨by simp [go_sem], by simp [go_sem]⟩, ⟨by simp [go_sem], by simp [go_sem]⟩, ⟨by simp [go_sem], by simp [go_sem]⟩⟩)
  have K2 : Hid (Below w.heap.size w ((w1.setCell ⟨w.heap.size, 0, none⟩ (.slice s n cap)).alloc (.cells #[.int .i64 0, .int .i64 0, .int .i64 0] 64))) := Lib.hid (by
    have k := K1.out.setCell (p := ⟨w.heap.size, 0, none⟩) (Nat.le_refl _) (.slice s n cap)
    exact k.alloc k.size _)
  have N0 : Hid (w.heap.size ∉ [w1.heap.size]) := Lib.hid (by simp; omega)
  have N1 : Hid (w.heap.size + 1 ∉ [w1.heap.size]) := Lib.hid (by simp; omega)
  have N2 : Hid (w.heap.size + 1 + 1 ∉ [w1.heap.size]) := Lib.hid (by simp; omega)
  have LG : Hid (∀ i ∈ [w1.heap.size], w.heap.size ≤ i) := Lib.hid (by simp; omega)
  clear c0 c1 c2 f0 z1 K1 hmin
  refine (sm1_any w.heap.size w1.heap.size s n cap v1 e1 0 0 0 _ B1.out.c0 G1.out (fun w9 hb => fadd_ends s n cap (xs.take n) o v1 e1 w9 (RN.out.later (K2.out.trans (hb.mono K2.out.size))) HX HO T1.out) Z1.out).mono ?_
  rintro e w2 ⟨rfl, hb2, hg2⟩
  have B2 := Lib.hid (B1.out.but hb2 N0.out N1.out N2.out)
  have G2 := Lib.hid hg2
  have K3 := Lib.hid (But.below K2.out hb2 K2.out.size LG.out)
  clear hb2 hg2 B1 G1 K2
  go_wp2_with fail
  refine (sm2_any (w.heap.size + 1) (w.heap.size + 1 + 1) w1.heap.size A B v2 e2 v1 0 0 _ B2.out.c1 B2.out.c2 G2.out (fun w9 hb => fsub_ends A B v2 e2 a0 a1 b0 b1 T2.out w9) Z2.out).mono ?_
  rintro e w3 ⟨rfl, hb3, hg3⟩
  have B3 := Lib.hid (B2.out.but hb3 N0.out N1.out N2.out)
  have G3' := Lib.hid hg3
  have K4 := Lib.hid (But.below K3.out hb3 K3.out.size LG.out)
  clear hb3 hg3 B2 G2 K3
  go_wp2_with fail
  refine (sm3_any (w.heap.size + 1) w1.heap.size A v3 e3 v1 v2 0 _ B3.out.c1 G3'.out (fun w9 hb => fof_ends A v3 e3 T3.out w9) Z3.out).mono ?_
  rintro e w4 ⟨rfl, hb4, hg4⟩
  have B4 := Lib.hid (B3.out.but hb4 N0.out N1.out N2.out)
  have G4 := Lib.hid hg4
  have K5 := Lib.hid (But.below K4.out hb4 K4.out.size LG.out)
  clear hb4 hg4 B3 G3' K4
  obtain ⟨c0, c1, c2⟩ := B4.out
  go_wp2_with fail
  refine (r4add_any s n cap (xs.take n) o v1 e1 _ (RN.out.later K5.out) HX HO T1).mono ?_
  rintro e w5 ⟨rfl, hb5⟩
  have B5 := Lib.hid (B4.out.later hb5)
  have G5 := Lib.hid (G4.out.later hb5)
  have K6 := Lib.hid (bel_trans K5.out hb5)
  clear hb5 B4 G4 K5 c0 c1 c2
  have SA := Lib.hid (sm_of A (by omega) (by omega))
  have SBB := Lib.hid (sm_of B (by omega) (by omega))
  have SNB := Lib.hid (sm_of (-B) (by omega) (by omega))
  have SD := Lib.hid (sm_of (A + -B) (by omega) (by omega))
  have T2' : Hid (Tl (A + -B) v2 e2) := Lib.hid (by have := T2.out; rwa [Int.sub_eq_add_neg] at this)
  go_wp2_with fail
  refine wp_region_kinds [constK (.int .i64 A), bigK A, constK (.int .i64 B), bigK B, bigK (-B), bigK (A + -B), keptK (.tuple #[.int .i64 v2, .int .i64 e2]), constK (.tuple #[.int .i64 v2, .int .i64 e2]), constK (.int .i64 v2), constK (.int .i64 e2), constK (.int .i64 v2), constK (.int .i64 e2)]
    [some 36, some 37, some 38, some 39, some 40, some 41, some 42, some 35, some 43, some 44, some 13, some 14] (by kernel_rfl) (by kernel_rfl) (by kernel_rfl) (by kernel_rfl) (by kernel_rfl) (by kernel_rfl) (by kernel_rfl) (fun i o ho => ?_) (fun val2 w6 hf hne hb => ?_)
  · match i, ho with
    | 0, ho =>
      obtain rfl := Option.some.inj ho
      exact ok_cellA (by kernel_rfl) rfl B5.out.c1
    | 1, ho =>
      obtain rfl := Option.some.inj ho
      refine ok_big (fun _ _ => by kernel_rfl) fun A' L val w env facts hb => ?_
      rw [map1, dep_const env facts 0 36 _ (by kernel_rfl) rfl rfl]
      exact bof_any A a0 a1 w
    | 2, ho =>
      obtain rfl := Option.some.inj ho
      exact ok_cellA (by kernel_rfl) rfl B5.out.c2
    | 3, ho =>
      obtain rfl := Option.some.inj ho
      refine ok_big (fun _ _ => by kernel_rfl) fun A' L val w env facts hb => ?_
      rw [map1, dep_const env facts 2 38 _ (by kernel_rfl) rfl rfl]
      exact bof_any B b0 b1 w
    | 4, ho =>
      obtain rfl := Option.some.inj ho
      refine ok_big (fun _ _ => by kernel_rfl) fun A' L val w env facts hb => ?_
      obtain ⟨ng2, a2, l2, c2, e2, v2⟩ := dep_big env facts 3 39 _ (by kernel_rfl) rfl rfl
      rw [map1, e2]
      exact minus_any ng2 a2 l2 c2 B w v2 (Nat.le_trans (Sm.le v2 SBB.out) (by decide))
    | 5, ho =>
      obtain rfl := Option.some.inj ho
      refine ok_big (fun _ _ => by kernel_rfl) fun A' L val w env facts hb => ?_
      obtain ⟨ng2, a2, l2, c2, e2, v2⟩ := dep_big env facts 1 37 _ (by kernel_rfl) rfl rfl
      obtain ⟨ng3, a3, l3, c3, e3, v3⟩ := dep_big env facts 4 40 _ (by kernel_rfl) rfl rfl
      rw [map2, e2, e3]
      exact plus_any ng2 ng3 a2 a3 l2 c2 l3 c3 A (-B) w v2 v3 (Nat.le_trans (Sm.le v2 SA.out) (by decide)) (Nat.le_trans (Sm.le v3 SNB.out) (by decide))
    | 6, ho =>
      obtain rfl := Option.some.inj ho
      refine ok_kept (fun _ _ => by kernel_rfl) fun A' L val w env facts hb => ?_
      obtain ⟨ng2, a2, l2, c2, e2', v2'⟩ := dep_big env facts 5 41 _ (by kernel_rfl) rfl rfl
      rw [map1, e2']
      exact told4_any ng2 a2 l2 c2 (A + -B) v2 e2 w v2' (Nat.le_trans (Sm.le v2' SD.out) (by decide)) T2'.out
    | 7, ho =>
      obtain rfl := Option.some.inj ho
      exact ok_moveKp (j := 6) rfl (by kernel_rfl) rfl
    | 8, ho =>
      obtain rfl := Option.some.inj ho
      exact ok_ext0 (j := 7) rfl (by kernel_rfl) rfl
    | 9, ho =>
      obtain rfl := Option.some.inj ho
      exact ok_ext1 (j := 7) rfl (by kernel_rfl) rfl
    | 10, ho =>
      obtain rfl := Option.some.inj ho
      exact ok_assignC (j := 8) rfl (by kernel_rfl) rfl
    | 11, ho =>
      obtain rfl := Option.some.inj ho
      exact ok_assignC (j := 9) rfl (by kernel_rfl) rfl
    | n + 12, ho => simp at ho
  have F10 : val2 10 = .int .i64 v2 := hf 10 (by decide)
  have F11 : val2 11 = .int .i64 e2 := hf 11 (by decide)
  have B6 := Lib.hid (B5.out.later hb)
  have G6 := Lib.hid (G5.out.later hb)
  have K7 := Lib.hid (bel_trans K6.out hb)
  simp only [puts2, Act.put, List.setIfInBounds_toArray, List.set_cons_zero, List.set_cons_succ, Nat.zero_add, Nat.reduceAdd]
  rw [F10, F11]
  clear hf hne hb F10 F11 B5 G5 K6
  obtain ⟨c0, c1, c2⟩ := B6.out
  go_wp2_with fail
  refine (bof_any A a0 a1 _).mono ?_
  rintro e w7 ⟨ng7, a7, l7, c7, rfl, hv7, hb7⟩
  have V7 := Lib.hid hv7
  have G7 := Lib.hid (G6.out.later hb7)
  have K8 := Lib.hid (bel_trans K7.out hb7)
  clear hv7 hb7 B6 G6 K7 c0 c1 c2
  go_wp2_with fail
  refine (told4_any ng7 a7 l7 c7 A v3 e3 _ V7.out (Nat.le_trans (Sm.le V7.out SA.out) (by decide)) T3.out).mono ?_
  rintro e w8 ⟨rfl, hb8⟩
  have G8 := Lib.hid (G7.out.later hb8)
  have K9 := Lib.hid (bel_trans K8.out hb8)
  clear hb8 G7 K8 V7
  have heq := arr3_eql v1 v2 v3
  obtain ⟨⟨g0, _⟩, ⟨g1, _⟩, ⟨g2, _⟩⟩ := G8.out
  go_wp2_with fail
  go_returns
  exact ⟨rfl, K9.out⟩
end Go.Proofs.Ytkohefgendcofaa
