/- Package share: the closure of Split, and Split. -/
import Derived.Test.YtmelbgabiklojaaShareB
import Derived.WalkKit
import Derived.WalkSpells
import Derived.WalkLawsBesides
import Derived.Handy
import Derived.Lib.Hide
import Derived.Deep.QuietTactic
import Derived.BigQuiet
import Derived.LoopTactic
import Derived.Defers
import Derived.Recover
import Derived.Outline
namespace Go.Proofs.Ytmelbgabiklojaa
open Go.RowKit Go.Proofs.Reg
set_option linter.unusedVariables false
set_option linter.unusedSimpArgs false
set_option maxRecDepth 100000
/-- a length, and weights that sum to no more than there may be -/
def okT (T : Int) : Prop := -17592186044416 ≤ T ∧ T ≤ 17592186044416
def okS (xs : List Int) : Prop := xs.sum ≤ 4611686018427387904
/-- what the closure of Split leaves -/
def Spl (w : World) (sb len : Nat) (T : Int) (xs : List Int) (e : Ending) (w' : World) : Prop :=
  But [sb] w w' ∧ ((okT T ∧ okS xs ∧ e = .returned (.tuple #[]) ∧ ∃ b, Var w' ⟨sb, 0, none⟩ (.slice (some ⟨b, 0, none⟩) len len) ∧ w.heap.size ≤ b ∧ OwnI w' b (parts5 T xs)) ∨ (¬ (okT T ∧ okS xs) ∧ e = .panicked (gave 2) ∧ Var w' ⟨sb, 0, none⟩ (.slice none 0 0)))
set_option maxHeartbeats 2000000 in
theorem split1_any (tb wb sb : Nat) (a : Option Addr) (len cap : Nat) (xs : List Int) (T : Int) (w : World) (VT : Var w ⟨tb, 0, none⟩ (.int .i64 T)) (VW : Var w ⟨wb, 0, none⟩ (.slice a len cap)) (VS : Var w ⟨sb, 0, none⟩ (.slice none 0 0))
    (h : Ri w a len cap xs) (hlen : len ≤ 1024) (hx : ∀ x ∈ xs, 0 ≤ x ∧ x ≤ 9223372036854775807) :
    Calls Try.prog 71 #[.pointer (some ⟨tb, 0, none⟩), .pointer (some ⟨wb, 0, none⟩), .pointer (some ⟨sb, 0, none⟩)] w (Spl w sb len T xs) := by
  have HT := Lib.hid VT
  have HW := Lib.hid VW
  have HS := Lib.hid VS
  have H := Lib.hid h
  have HX := Lib.hid hx
  have sl := VS.lt
  clear VT VW VS h hx
  go_enter Try.func71, Try.ntmps71
  go_wp2_with fail
  refine wp_region_vals [some (.int .i64 T), some (.int .i64 T), some (.slice a len cap), some (.slice a len cap), some (.int .i64 xs.sum), none, none]
    (fun Lz vz wy => (Lz 1 = true → okT T) ∧ (Lz 4 = true → okS xs) ∧ But [sb] w wy ∧ (Lz 6 = false → Below w.heap.size w wy) ∧ (Lz 5 = true → ∃ b, vz 5 = .slice (some ⟨b, 0, none⟩) len len ∧ w.heap.size ≤ b ∧ OwnI wy b (parts5 T xs) ∧ (Lz 6 = true → Var wy ⟨sb, 0, none⟩ (.slice (some ⟨b, 0, none⟩) len len))))
    [some 3, some 4, some 5, some 6, some 7, some 8, none] (by kernel_rfl) (by kernel_rfl) (by kernel_rfl) (by kernel_rfl) (by kernel_rfl) (by kernel_rfl) ⟨fun h => (by cases h), fun h => (by cases h), (But.refl _ _).drew, fun _ => (Below.refl _ _).drew, fun h => (by cases h)⟩ (fun i o ho => ?_) (fun Lz vz wz hL hB => ?_)
  · match i, ho with
    | 0, ho =>
      obtain rfl := Option.some.inj ho
      intro Az Lz vz wy Kz Ez hB k
      have z6 : Lz 6 = false := Ez.late 6 _ rfl (by kernel_rfl)
      have e0 : Az.eval (.tmp 0) = .pointer (some ⟨tb, 0, none⟩) := Ez.out 0 (by kernel_rfl)
      have c := (HT.out.later (hB.2.2.2.1 z6)).c
      exact wpo_val (v := .int .i64 T) (run_load e0 (by simp [go_sem, c])) (k _ _ rfl hB)
    | 1, ho =>
      obtain rfl := Option.some.inj ho
      intro Az Lz vz wy Kz Ez hB k
      have z6 : Lz 6 = false := Ez.late 6 _ rfl (by kernel_rfl)
      have e3 : Az.eval (.tmp 3) = .int .i64 T := Ez.dep 0 3 (by kernel_rfl) rfl
      by_cases c : okT T
      · refine wpo_call (run_callW (fun _ _ => by kernel_rfl)) (R := fun e w' => e = .returned (.int .i64 T) ∧ w' = wy) ?_ ?_
        · simp only [List.map_toArray, List.map_cons, List.map_nil, eval_const, e3]
          exact fof_ok T c.1 c.2 wy
        · rintro e w' ⟨rfl, rfl⟩
          exact ⟨_, rfl, k _ _ rfl ⟨fun _ => c, hB.2⟩⟩
      · refine wpo_call_p (run_callW (fun _ _ => by kernel_rfl)) (R := fun e w' => e = .panicked (gave 2) ∧ w' = wy) ?_ ?_
        · simp only [List.map_toArray, List.map_cons, List.map_nil, eval_const, e3]
          exact fof_no T (by unfold okT at c; omega) wy
        · rintro e w' ⟨rfl, rfl⟩
          exact .inr ⟨_, rfl, Ez.defs, hB.2.2.1, .inr ⟨fun h => c h.1, rfl, HS.out.later (hB.2.2.2.1 z6)⟩⟩
    | 2, ho =>
      obtain rfl := Option.some.inj ho
      intro Az Lz vz wy Kz Ez hB k
      have z6 : Lz 6 = false := Ez.late 6 _ rfl (by kernel_rfl)
      have e1 : Az.eval (.tmp 1) = .pointer (some ⟨wb, 0, none⟩) := Ez.out 1 (by kernel_rfl)
      have c := (HW.out.later (hB.2.2.2.1 z6)).c
      exact wpo_val (v := .slice a len cap) (run_load e1 (by simp [go_sem, c])) (k _ _ rfl hB)
    | 3, ho =>
      obtain rfl := Option.some.inj ho
      intro Az Lz vz wy Kz Ez hB k
      have z6 : Lz 6 = false := Ez.late 6 _ rfl (by kernel_rfl)
      have e1 : Az.eval (.tmp 1) = .pointer (some ⟨wb, 0, none⟩) := Ez.out 1 (by kernel_rfl)
      have c := (HW.out.later (hB.2.2.2.1 z6)).c
      exact wpo_val (v := .slice a len cap) (run_load e1 (by simp [go_sem, c])) (k _ _ rfl hB)
    | 4, ho =>
      obtain rfl := Option.some.inj ho
      intro Az Lz vz wy Kz Ez hB k
      have z6 : Lz 6 = false := Ez.late 6 _ rfl (by kernel_rfl)
      have e6 : Az.eval (.tmp 6) = .slice a len cap := Ez.dep 3 6 (by kernel_rfl) rfl
      have R := ri_later H.out (hB.2.2.2.1 z6)
      refine wpo_call_p (run_callW (fun _ _ => by kernel_rfl)) (R := fun e w' => Sum62 xs.sum e ∧ w' = wy) ?_ ?_
      · simp only [List.map_toArray, List.map_cons, List.map_nil, eval_const, e6]
        exact ssum_any a len cap xs wy R HX.out
      · rintro e w' ⟨hs | hs, rfl⟩
        · obtain ⟨h1, rfl⟩ := hs
          exact .inl ⟨_, rfl, k _ _ rfl ⟨hB.1, fun _ => h1, hB.2.2⟩⟩
        · obtain ⟨h1, rfl⟩ := hs
          exact .inr ⟨_, rfl, Ez.defs, hB.2.2.1, .inr ⟨fun h => by have := h.2; unfold okS at this; omega, rfl, HS.out.later (hB.2.2.2.1 z6)⟩⟩
    | 5, ho =>
      obtain rfl := Option.some.inj ho
      intro Az Lz vz wy Kz Ez hB k
      have z6 : Lz 6 = false := Ez.late 6 _ rfl (by kernel_rfl)
      have e4 : Az.eval (.tmp 4) = .int .i64 T := Ez.dep 1 4 (by kernel_rfl) rfl
      have e5 : Az.eval (.tmp 5) = .slice a len cap := Ez.dep 2 5 (by kernel_rfl) rfl
      have e7 : Az.eval (.tmp 7) = .int .i64 xs.sum := Ez.dep 4 7 (by kernel_rfl) rfl
      have cT := hB.1 (Ez.had 1 (by kernel_rfl))
      have cS := hB.2.1 (Ez.had 4 (by kernel_rfl))
      have bl := hB.2.2.2.1 z6
      have R := ri_later H.out bl
      refine wpo_call (run_callW (fun _ _ => by kernel_rfl)) (R := fun e w' => (∃ b, e = .returned (.slice (some ⟨b, 0, none⟩) len len) ∧ wy.heap.size ≤ b ∧ OwnI w' b (parts5 T xs)) ∧ Below wy.heap.size wy w') ?_ ?_
      · simp only [List.map_toArray, List.map_cons, List.map_nil, eval_const, e4, e5, e7]
        exact sparts_any a len cap xs T wy R hlen HX.out cS cT.1 cT.2
      · rintro e w' ⟨⟨b, rfl, hb1, hb2⟩, hb⟩
        refine ⟨_, rfl, k _ _ trivial ⟨hB.1, hB.2.1, hB.2.2.1.later hb, fun _ => bel_tr0 bl hb, fun _ => ⟨b, rfl, Nat.le_trans bl.size hb1, hb2, fun h => ?_⟩⟩⟩
        have h' : Lz 6 = true := h
        rw [z6] at h'
        cases h'
    | 6, ho =>
      obtain rfl := Option.some.inj ho
      intro Az Lz vz wy Kz Ez hB k
      have z6 : Lz 6 = false := Ez.not
      obtain ⟨b, hv, hb1, hb2, _⟩ := hB.2.2.2.2 (Ez.had 5 (by kernel_rfl))
      have e2 : Az.eval (.tmp 2) = .pointer (some ⟨sb, 0, none⟩) := Ez.out 2 (by kernel_rfl)
      have e8 : Az.eval (.tmp 8) = .slice (some ⟨b, 0, none⟩) len len := (Ez.dep 5 8 (by kernel_rfl) rfl).trans hv
      have vs := HS.out.later (hB.2.2.2.1 z6)
      obtain ⟨c, f⟩ := vs
      refine wpo_skip (w' := wy.setCell ⟨sb, 0, none⟩ (.slice (some ⟨b, 0, none⟩) len len)) (run_store e2 e8 (by simp [go_sem, c, f])) (k _ _ trivial ⟨hB.1, hB.2.1, hB.2.2.1.setCell (.inl (by simp)) _, fun h => ?_, fun _ => ⟨b, hv, hb1, ?_, fun _ => Var.set ⟨c, f⟩ _⟩⟩)
      · exact absurd (show addL Lz 6 6 = false from h) (by simp [addL])
      · have bs : b ≠ sb := by omega
        exact ⟨fun j hj => by rw [World.cell?_setCell_other (h := fun x => by injection x with x; omega)]; exact hb2.cell j hj, fun j hj => by simpa [go_sem] using hb2.froz j hj, by simpa using hb2.lt⟩
    | n + 7, ho => simp at ho
  · obtain ⟨h1, h2, h3, _, h5⟩ := hB
    obtain ⟨b, _, hb1, hb2, hb3⟩ := h5 (hL 5 (by decide))
    have P := Lib.hid (h1 (hL 1 (by decide)))
    have Q := Lib.hid (h2 (hL 4 (by decide)))
    have K := Lib.hid h3
    have O := Lib.hid hb2
    have V := Lib.hid (hb3 (hL 6 (by decide)))
    clear h1 h2 h3 h5 hb2 hb3 hL
    go_wp2_with fail
    go_end0
    exact ⟨K.out, .inl ⟨P.out, Q.out, rfl, b, V.out, hb1, O.out⟩⟩
theorem OwnI.other {w : World} {b : Nat} {os : List Int} (h : OwnI w b os) {q : Addr} (hq : q.block ≠ b) (v : Value) : OwnI (w.setCell q v) b os :=
  ⟨fun j hj => by rw [World.cell?_setCell_other (h := fun x => hq (by rw [x]))]; exact h.cell j hj, fun j hj => by simpa [go_sem] using h.froz j hj, by simpa using h.lt⟩
/-- Try of it -/
theorem try_split (tb wb sb : Nat) (a : Option Addr) (len cap : Nat) (xs : List Int) (T : Int) (w : World) (VT : Var w ⟨tb, 0, none⟩ (.int .i64 T)) (VW : Var w ⟨wb, 0, none⟩ (.slice a len cap)) (VS : Var w ⟨sb, 0, none⟩ (.slice none 0 0))
    (h : Ri w a len cap xs) (hlen : len ≤ 1024) (hx : ∀ x ∈ xs, 0 ≤ x ∧ x ≤ 9223372036854775807) :
    Calls Try.prog 12 #[.func (.func 71) #[] #[.pointer (some ⟨tb, 0, none⟩), .pointer (some ⟨wb, 0, none⟩), .pointer (some ⟨sb, 0, none⟩)]] w fun e w' =>
      But [sb] w w' ∧ ((okT T ∧ okS xs ∧ e = .returned (.int .i64 0) ∧ ∃ b, Var w' ⟨sb, 0, none⟩ (.slice (some ⟨b, 0, none⟩) len len) ∧ w.heap.size < b ∧ OwnI w' b (parts5 T xs)) ∨ (¬ (okT T ∧ okS xs) ∧ e = .returned (.int .i64 2) ∧ Var w' ⟨sb, 0, none⟩ (.slice none 0 0))) := by
  have ba : Below w.heap.size w (w.alloc (.cells #[.int .i64 0] 28)) := (Below.refl _ _).alloc (Nat.le_refl _) _
  have sl := VS.lt
  simp only at sl
  have C := split1_any tb wb sb a len cap xs T _ (VT.later ba) (VW.later ba) (VS.later ba) (ri_later h ba) hlen hx
  have ns : w.heap.size ∉ [sb] := by simp; omega
  have vn := Var.new w (.int .i64 0) 28
  by_cases k : okT T ∧ okS xs
  · refine (try_ret 71 _ w (fun w' => But [sb] (w.alloc (.cells #[.int .i64 0] 28)) w' ∧ ∃ b, Var w' ⟨sb, 0, none⟩ (.slice (some ⟨b, 0, none⟩) len len) ∧ w.heap.size < b ∧ OwnI w' b (parts5 T xs)) (fun _ => by kernel_rfl) (C.mono ?_)).mono ?_
    · rintro e w' ⟨hb, h1 | h1⟩
      · obtain ⟨_, _, rfl, b, v, hb1, o⟩ := h1
        have := vn.but hb ns
        rw [World.size_alloc] at hb1
        exact ⟨rfl, ⟨hb, b, v, by omega, o⟩, this.c, this.z⟩
      · exact absurd k h1.1
    · rintro e w' ⟨rfl, w2, ⟨hb, b, v, hb1, o⟩, rfl⟩
      refine ⟨((But.refl _ _).alloc _ |>.trans hb).setCell (.inr (Nat.le_refl _)) _, .inl ⟨k.1, k.2, rfl, b, v.other (fun x => by injection x with x; omega) _, hb1, o.other (by simp; omega) _⟩⟩
  · refine (try_gave 71 _ 2 w (fun w' => But [sb] (w.alloc (.cells #[.int .i64 0] 28)) w' ∧ Var w' ⟨sb, 0, none⟩ (.slice none 0 0)) (fun _ => by kernel_rfl) (C.mono ?_)).mono ?_
    · rintro e w' ⟨hb, h1 | h1⟩
      · exact absurd ⟨h1.1, h1.2.1⟩ k
      · obtain ⟨_, rfl, v⟩ := h1
        have := vn.but hb ns
        exact ⟨rfl, ⟨hb, v⟩, this.c, this.z⟩
    · rintro e w' ⟨rfl, w2, ⟨hb, v⟩, rfl⟩
      exact ⟨(((But.refl _ _).alloc _ |>.trans hb).setCell (.inr (Nat.le_refl _)) _).alloc _, .inr ⟨k, rfl, (v.other (fun x => by injection x with x; omega) _).alloc _⟩⟩
/-- what Split answers -/
def SplR (w : World) (len : Nat) (T : Int) (xs : List Int) (e : Ending) (w' : World) : Prop :=
  Below w.heap.size w w' ∧ ((1024 < len ∧ e = .returned (.tuple #[.slice none 0 0, .int .i64 8])) ∨ (len ≤ 1024 ∧ negB xs = true ∧ e = .returned (.tuple #[.slice none 0 0, .int .i64 1])) ∨
    (len ≤ 1024 ∧ negB xs = false ∧ okT T ∧ okS xs ∧ ∃ b, e = .returned (.tuple #[.slice (some ⟨b, 0, none⟩) len len, .int .i64 0]) ∧ w.heap.size ≤ b ∧ OwnI w' b (parts5 T xs)) ∨
    (len ≤ 1024 ∧ negB xs = false ∧ ¬ (okT T ∧ okS xs) ∧ e = .returned (.tuple #[.slice none 0 0, .int .i64 2])))
theorem neg_false {xs : List Int} (h : negB xs = false) : ∀ x ∈ xs, 0 ≤ x := fun x m => by
  unfold negB at h
  rw [List.any_eq_false] at h
  have := h x m
  simpa using this
set_option maxHeartbeats 2000000 in
theorem ssplit_any (a : Option Addr) (len cap : Nat) (xs : List Int) (T : Int) (w : World) (h : Ri w a len cap xs) (hx : ∀ x ∈ xs, -9223372036854775808 ≤ x ∧ x ≤ 9223372036854775807) :
    Calls Try.prog 64 #[.int .i64 T, .slice a len cap] w (SplR w len T xs) := by
  have hmf : ∀ (fn : Fn) (first cap : Array Value) (w : World), (Instr.makeFunc fn first cap).run Try.prog w = .ok (.func fn first cap) w := fun _ _ _ _ => rfl
  have H := Lib.hid h
  have HX := Lib.hid hx
  have hm := h.hmax
  clear h hx
  by_cases c : 1024 < len
  · have cl : (1024 : Int) < (len : Int) := by omega
    go_enter Try.func64, Try.ntmps64
    go_wp2_with fail
    go_returns
    exact ⟨by go_grown, .inl ⟨c, rfl⟩⟩
  · have cl : ¬ (1024 : Int) < (len : Int) := by omega
    have c' : len ≤ 1024 := by omega
    have KB2 : Hid (Below w.heap.size w ((w.alloc (.cells #[.int .i64 T] 2)).alloc (.cells #[.slice a len cap] 37))) := Lib.hid (by go_grown)
    have R2 := Lib.hid (ri_later H.out KB2.out)
    have C := Lib.hid (scontains_any a len cap xs _ R2.out)
    cases n : negB xs
    · rw [n] at C
      have VT : Hid (Var ((w.alloc (.cells #[.int .i64 T] 2)).alloc (.cells #[.slice a len cap] 37)) ⟨w.heap.size, 0, none⟩ (.int .i64 T)) := Lib.hid ((Var.new w _ _).alloc _)
      have VW : Hid (Var ((w.alloc (.cells #[.int .i64 T] 2)).alloc (.cells #[.slice a len cap] 37)) ⟨w.heap.size + 1, 0, none⟩ (.slice a len cap)) := Lib.hid (by
        have := Var.new (w.alloc (.cells #[.int .i64 T] 2)) (.slice a len cap) 37
        rwa [World.size_alloc] at this)
      have VS : Hid (Var (((w.alloc (.cells #[.int .i64 T] 2)).alloc (.cells #[.slice a len cap] 37)).alloc (.cells #[.slice none 0 0] 37)) ⟨w.heap.size + 1 + 1, 0, none⟩ (.slice none 0 0)) := Lib.hid (by
        have := Var.new ((w.alloc (.cells #[.int .i64 T] 2)).alloc (.cells #[.slice a len cap] 37)) (.slice none 0 0) 37
        rwa [World.size_alloc, World.size_alloc] at this)
      have TR := Lib.hid (try_split w.heap.size (w.heap.size + 1) (w.heap.size + 1 + 1) a len cap xs T _ (VT.out.alloc _) (VW.out.alloc _) VS.out (ri_later R2.out (bel_new _ _)) c' (fun x m => ⟨neg_false n x m, (HX.out x m).2⟩))
      have NN := Lib.hid n
      clear n VT VW VS R2
      go_enter Try.func64, Try.ntmps64
      go_wp2_with fail
      refine C.out.mono ?_
      rintro e w1 ⟨rfl, rfl⟩
      go_wp2_with fail
      refine TR.out.mono ?_
      rintro e w2 ⟨hb, hr⟩
      have KB : Hid (Below w.heap.size w w2) := Lib.hid (But.below (KB2.out.alloc (by simp; omega) _) hb (by simp; omega) (fun i m => by have := List.mem_singleton.1 m; omega))
      clear hb
      rcases hr with ⟨o1, o2, rfl, b, v, hb1, o⟩ | ⟨no, rfl, v⟩
      · have hv := v.c
        have O := Lib.hid o
        have B1 : Hid (w.heap.size ≤ b) := Lib.hid (by simp only [World.size_alloc] at hb1; omega)
        clear o v hb1
        go_wp2_with fail
        go_returns
        exact ⟨KB.out, .inr (.inr (.inl ⟨c', NN.out, o1, o2, b, rfl, B1.out, O.out⟩))⟩
      · have hv := v.c
        have NO := Lib.hid no
        clear v no
        go_wp2_with fail
        go_returns
        exact ⟨KB.out, .inr (.inr (.inr ⟨c', NN.out, NO.out, rfl⟩))⟩
    · rw [n] at C
      have NN := Lib.hid n
      clear n
      go_enter Try.func64, Try.ntmps64
      go_wp2_with fail
      refine C.out.mono ?_
      rintro e w1 ⟨rfl, rfl⟩
      go_wp2_with fail
      go_returns
      exact ⟨KB2.out, .inr (.inl ⟨c', NN.out, rfl⟩)⟩
end Go.Proofs.Ytmelbgabiklojaa
