/- Package width. Made by gen/wida.py. -/
import Derived.Test.YtmelbgabiklojaaWidQ
import Derived.Test.YtmelbgabiklojaaSums
import Derived.Test.YtmelbgabiklojaaLinA
import Derived.Test.YtmelbgabiklojaaRegW
import Derived.WalkKit
import Derived.WalkSpells
import Derived.WalkLawsBesides
import Derived.Handy
import Derived.Lib.Hide
import Derived.Deep.QuietTactic
import Derived.BigQuiet
import Derived.LoopTactic
import Derived.RegionTactic
import Derived.BigRegion
import Derived.Outline
import Derived.Deep.DeepCutAuto
import Derived.Deep.CutBlock
namespace Go.Proofs.Ytmelbgabiklojaa
open Go.RowKit Go.Proofs.Reg Go.Proofs.Big Wid
set_option linter.unusedVariables false
set_option linter.unusedSimpArgs false
set_option maxRecDepth 100000
/-- a length, or giving up -/
def TzR (n : Int) (e : Ending) : Prop := (lnB n = true ∧ e = .returned (.int .i64 n)) ∨ (lnB n = false ∧ e = .panicked (gave 2))
theorem lnB_rng {x : Int} (h : lnB x = true) : -17592186044416 ≤ x ∧ x ≤ 17592186044416 := by simpa [lnB] using h
theorem lnB_out {x : Int} (h : lnB x = false) : ¬ (-17592186044416 ≤ x ∧ x ≤ 17592186044416) := fun c => by rw [lnB_yes c] at h; cases h
theorem fof15 (n : Int) (w : World) : Calls Try.prog 58 #[.int .i64 n] w fun e w' => TzR n e ∧ w' = w := by
  cases h : lnB n
  · have := lnB_out h
    exact (fof_no n (by omega) w).mono fun e w' ⟨he, hw⟩ => ⟨.inr ⟨h, he⟩, hw⟩
  · have := lnB_rng h
    exact (fof_ok n this.1 this.2 w).mono fun e w' ⟨he, hw⟩ => ⟨.inl ⟨h, he⟩, hw⟩
theorem wterm_any (n : Int) (a : Bool) (w : World) : Calls Try.prog 77 #[.int .i64 n, .bool a] w fun e w' => TzR (tz n a) e ∧ w' = w := by
  have FO := Lib.hid fof15
  cases a
  · go_enter Try.func77, Try.ntmps77
    go_wp2_with fail
    refine (FO.out n _).mono ?_
    rintro e w1 ⟨⟨h, rfl⟩ | ⟨h, rfl⟩, rfl⟩
    · go_wp2_with fail
      go_returns
      exact ⟨.inl ⟨h, rfl⟩, rfl⟩
    · exact ⟨rfl, .inr ⟨h, rfl⟩, rfl⟩
  · go_enter Try.func77, Try.ntmps77
    go_wp2_with fail
    go_returns
    exact ⟨.inl ⟨rfl, rfl⟩, rfl⟩
/-- what a region keeps that finds two lengths and stores them -/
structure TmB (w : World) (T : Bool → Bool → List (Nat × List Value)) (oA oE : Bool) (i j s1 s2 : Nat) (L : Nat → Bool) (wy : World) : Prop where
  bel : Below w.heap.size w wy
  tab : Tab wy (T (L s1) (L s2))
  o1 : L i = true → oA = true
  o2 : L j = true → oE = true
section
variable {w : World} {T : Bool → Bool → List (Nat × List Value)} {oA oE : Bool} {i j s1 s2 : Nat} {L : Nat → Bool} {wy w' : World}
theorem TmB.pure (h : TmB w T oA oE i j s1 s2 L wy) (k : Nat) (n1 : i ≠ k) (n2 : j ≠ k) (n3 : s1 ≠ k) (n4 : s2 ≠ k) (hb : Below wy.heap.size wy w') : TmB w T oA oE i j s1 s2 (addL L k) w' := by
  have a1 : addL L k i = L i := by simp [addL, n1]
  have a2 : addL L k j = L j := by simp [addL, n2]
  have a3 : addL L k s1 = L s1 := by simp [addL, n3]
  have a4 : addL L k s2 = L s2 := by simp [addL, n4]
  exact ⟨bel_tr0 h.bel hb, by rw [a3, a4]; exact h.tab.later hb, fun q => h.o1 (a1 ▸ q), fun q => h.o2 (a2 ▸ q)⟩
theorem TmB.call1 (h : TmB w T oA oE i j s1 s2 L wy) (n2 : j ≠ i) (n3 : s1 ≠ i) (n4 : s2 ≠ i) (ho : oA = true) : TmB w T oA oE i j s1 s2 (addL L i) wy := by
  have a2 : addL L i j = L j := by simp [addL, n2]
  have a3 : addL L i s1 = L s1 := by simp [addL, n3]
  have a4 : addL L i s2 = L s2 := by simp [addL, n4]
  exact ⟨h.bel, by rw [a3, a4]; exact h.tab, fun _ => ho, fun q => h.o2 (a2 ▸ q)⟩
theorem TmB.call2 (h : TmB w T oA oE i j s1 s2 L wy) (n1 : i ≠ j) (n3 : s1 ≠ j) (n4 : s2 ≠ j) (ho : oE = true) : TmB w T oA oE i j s1 s2 (addL L j) wy := by
  have a1 : addL L j i = L i := by simp [addL, n1]
  have a3 : addL L j s1 = L s1 := by simp [addL, n3]
  have a4 : addL L j s2 = L s2 := by simp [addL, n4]
  exact ⟨h.bel, by rw [a3, a4]; exact h.tab, fun q => h.o1 (a1 ▸ q), fun _ => ho⟩
theorem TmB.put1 (h : TmB w T oA oE i j s1 s2 L wy) (n1 : i ≠ s1) (n2 : j ≠ s1) (n4 : s2 ≠ s1) {b k : Nat} {v : Value} (hb : w.heap.size ≤ b) (ht : Tab (wy.setCell ⟨b, k, none⟩ v) (T true (L s2))) : TmB w T oA oE i j s1 s2 (addL L s1) (wy.setCell ⟨b, k, none⟩ v) := by
  have a1 : addL L s1 i = L i := by simp [addL, n1]
  have a2 : addL L s1 j = L j := by simp [addL, n2]
  have a3 : addL L s1 s1 = true := by simp [addL]
  have a4 : addL L s1 s2 = L s2 := by simp [addL, n4]
  exact ⟨h.bel.setCell hb _, by rw [a3, a4]; exact ht, fun q => h.o1 (a1 ▸ q), fun q => h.o2 (a2 ▸ q)⟩
theorem TmB.put2 (h : TmB w T oA oE i j s1 s2 L wy) (n1 : i ≠ s2) (n2 : j ≠ s2) (n3 : s1 ≠ s2) {b k : Nat} {v : Value} (hb : w.heap.size ≤ b) (ht : Tab (wy.setCell ⟨b, k, none⟩ v) (T (L s1) true)) : TmB w T oA oE i j s1 s2 (addL L s2) (wy.setCell ⟨b, k, none⟩ v) := by
  have a1 : addL L s2 i = L i := by simp [addL, n1]
  have a2 : addL L s2 j = L j := by simp [addL, n2]
  have a3 : addL L s2 s1 = L s1 := by simp [addL, n3]
  have a4 : addL L s2 s2 = true := by simp [addL]
  exact ⟨h.bel.setCell hb _, by rw [a3, a4]; exact ht, fun q => h.o1 (a1 ▸ q), fun q => h.o2 (a2 ▸ q)⟩
end
/-- all terms are lengths -/
def fitT (A W L R E : Int) (a al ar : Bool) : Bool := lnB A && (lnB E && (lnB (tz W a) && (lnB (tz L al) && lnB (tz R ar))))
section
variable {A W L R E : Int} {a al ar : Bool}
theorem bad_A (h : lnB A = false) : fitT A W L R E a al ar = false := by unfold fitT; rw [h]; rfl
theorem bad_E (h : lnB E = false) : fitT A W L R E a al ar = false := by unfold fitT; rw [h]; simp
theorem bad_W (h : lnB (tz W a) = false) : fitT A W L R E a al ar = false := by unfold fitT; rw [h]; simp
theorem bad_L (h : lnB (tz L al) = false) : fitT A W L R E a al ar = false := by unfold fitT; rw [h]; simp
theorem bad_R (h : lnB (tz R ar) = false) : fitT A W L R E a al ar = false := by unfold fitT; rw [h]; simp
theorem fitT_ok (h1 : lnB A = true) (h2 : lnB E = true) (h3 : lnB (tz W a) = true) (h4 : lnB (tz L al) = true) (h5 : lnB (tz R ar) = true) : fitT A W L R E a al ar = true := by unfold fitT; rw [h1, h2, h3, h4, h5]; rfl
theorem fitT_all (h : fitT A W L R E a al ar = true) : lnB A = true ∧ lnB E = true ∧ lnB (tz W a) = true ∧ lnB (tz L al) = true ∧ lnB (tz R ar) = true := by
  unfold fitT at h; simpa using h
theorem once_bad (h : fitT A W L R E a al ar = false) : onceE A W L R E a al ar = none := by
  unfold onceE
  rw [show fitO A W L R E a al ar = false from ?_]; rfl
  unfold fitO
  unfold fitT at h
  cases c1 : lnB A <;> cases c2 : lnB E <;> cases c3 : lnB (tz W a) <;> cases c4 : lnB (tz L al) <;> cases c5 : lnB (tz R ar) <;> simp_all
theorem once_bad2 (h : sumsB A (tz W a) (tz L al) (tz R ar) E a al ar = false) : onceE A W L R E a al ar = none := by
  unfold onceE
  rw [show fitO A W L R E a al ar = false from ?_]; rfl
  unfold fitO; rw [h]; simp
theorem once_good (h : fitT A W L R E a al ar = true) (k : sumsB A (tz W a) (tz L al) (tz R ar) E a al ar = true) : onceE A W L R E a al ar = some (onceT A W L R E a al ar) := by
  obtain ⟨h1, h2, h3, h4, h5⟩ := fitT_all h
  unfold onceE
  rw [show fitO A W L R E a al ar = true from ?_]; rfl
  unfold fitO; rw [h1, h2, h3, h4, h5, k]; rfl
end
/-- terms that are lengths, or giving up -/
def TrR (A W L R E Lo Hi : Int) (a al ar bd : Bool) (e : Ending) : Prop :=
  (fitT A W L R E a al ar = true ∧ e = .returned (.agg #[.int .i64 A, .int .i64 (tz W a), .bool a, .int .i64 (tz L al), .int .i64 (tz R ar), .bool al, .bool ar, .int .i64 E, .int .i64 Lo, .int .i64 Hi, .bool bd])) ∨ (fitT A W L R E a al ar = false ∧ e = .panicked (gave 2))
set_option maxHeartbeats 4000000 in
theorem wterms_any (A W L R E Lo Hi : Int) (a al ar bd : Bool) (w : World) :
    Calls Try.prog 67 #[.agg #[.int .i64 A, .int .i64 W, .bool a, .int .i64 L, .int .i64 R, .bool al, .bool ar, .int .i64 E, .int .i64 Lo, .int .i64 Hi, .bool bd]] w fun e w' => TrR A W L R E Lo Hi a al ar bd e ∧ Below w.heap.size w w' := by
  have FO := Lib.hid fof15
  have TZ := Lib.hid wterm_any
  go_enter Try.func67, Try.ntmps67
  go_wp2_with fail
  have MB : Hid (TmB w (fun _ _ => [(w.heap.size + 1, [.int .i64 0, .int .i64 0, .bool false, .int .i64 0, .int .i64 0, .bool false, .bool false, .int .i64 0, .int .i64 0, .int .i64 0, .bool false]), (w.heap.size, [.int .i64 A, .int .i64 W, .bool a, .int .i64 L, .int .i64 R, .bool al, .bool ar, .int .i64 E, .int .i64 Lo, .int .i64 Hi, .bool bd])]) (lnB A) (lnB E) 2 5 7 9 (fun _ => false) (((w.alloc (.cells #[.int .i64 A, .int .i64 W, .bool a, .int .i64 L, .int .i64 R, .bool al, .bool ar, .int .i64 E, .int .i64 Lo, .int .i64 Hi, .bool bd] 78)).alloc (.cells #[.int .i64 0, .int .i64 0, .bool false, .int .i64 0, .int .i64 0, .bool false, .bool false, .int .i64 0, .int .i64 0, .int .i64 0, .bool false] 78)).drew)) := Lib.hid ⟨(bel_tr0 (bel_newR _ _) (bel_newR _ _)).drew, by exact (((Tab.nil w).new' _ _ rfl).new' _ _ (by simp)).later ((Below.refl _ _).drew), fun h => (by cases h), fun h => (by cases h)⟩
  refine wp_region_vals [some (.pointer (some ⟨w.heap.size, 0, none⟩)), some (.int .i64 A), some (.int .i64 A), some (.pointer (some ⟨w.heap.size, 7, none⟩)), some (.int .i64 E), some (.int .i64 E), some (.pointer (some ⟨w.heap.size, 0, none⟩)), some (undef), some (.pointer (some ⟨w.heap.size, 7, none⟩)), some (undef)] (fun Lz vz wy => TmB w (fun _ _ => [(w.heap.size + 1, [.int .i64 0, .int .i64 0, .bool false, .int .i64 0, .int .i64 0, .bool false, .bool false, .int .i64 0, .int .i64 0, .int .i64 0, .bool false]), (w.heap.size, [.int .i64 A, .int .i64 W, .bool a, .int .i64 L, .int .i64 R, .bool al, .bool ar, .int .i64 E, .int .i64 Lo, .int .i64 Hi, .bool bd])]) (lnB A) (lnB E) 2 5 7 9 Lz wy)
    [some 3, some 4, some 5, some 6, some 7, some 8, some 9, none, some 10, none] (by kernel_rfl) (by kernel_rfl) (by kernel_rfl) (by kernel_rfl) (by kernel_rfl) (by kernel_rfl) MB.out (fun ie oe ho => ?_) (fun Lz vz wz hL hB => ?_)
  · match ie, ho with
    | 0, ho =>
      obtain rfl := Option.some.inj ho
      intro Az Lz vz wy Kz Ez hB k
      have e1 : Az.eval (.tmp 1) = .pointer (some ⟨w.heap.size, 0, none⟩) := Ez.out 1 (by kernel_rfl)
      exact wpo_val (v := .pointer (some ⟨w.heap.size, 0, none⟩)) (run_field e1 (by simp [go_sem])) (k _ _ rfl (hB.pure 0 (by decide) (by decide) (by decide) (by decide) (Below.refl _ _)))
    | 1, ho =>
      obtain rfl := Option.some.inj ho
      intro Az Lz vz wy Kz Ez hB k
      have e3 : Az.eval (.tmp 3) = .pointer (some ⟨w.heap.size, 0, none⟩) := Ez.dep 0 3 (by kernel_rfl) rfl
      have q0 := hB.tab.cell 1 0 rfl rfl
      exact wpo_val (v := .int .i64 A) (run_load e3 (by simp [go_sem, q0])) (k _ _ rfl (hB.pure 1 (by decide) (by decide) (by decide) (by decide) (Below.refl _ _)))
    | 2, ho =>
      obtain rfl := Option.some.inj ho
      intro Az Lz vz wy Kz Ez hB k
      have e4 : Az.eval (.tmp 4) = .int .i64 A := Ez.dep 1 4 (by kernel_rfl) rfl
      refine wpo_call_p (run_callW (fun _ _ => by kernel_rfl)) (R := fun ez w' => TzR A ez ∧ w' = wy) ?_ ?_
      · simp only [List.map_toArray, List.map_cons, List.map_nil, eval_const, e4]
        exact FO.out A wy
      · rintro ez w' ⟨⟨hq, rfl⟩ | ⟨hq, rfl⟩, rfl⟩
        · exact .inl ⟨_, rfl, k _ _ rfl (hB.call1 (by decide) (by decide) (by decide) hq)⟩
        · exact .inr ⟨_, rfl, Ez.defs, .inr ⟨bad_A hq, rfl⟩, hB.bel⟩
    | 3, ho =>
      obtain rfl := Option.some.inj ho
      intro Az Lz vz wy Kz Ez hB k
      have e1 : Az.eval (.tmp 1) = .pointer (some ⟨w.heap.size, 0, none⟩) := Ez.out 1 (by kernel_rfl)
      exact wpo_val (v := .pointer (some ⟨w.heap.size, 7, none⟩)) (run_field e1 (by simp [go_sem])) (k _ _ rfl (hB.pure 3 (by decide) (by decide) (by decide) (by decide) (Below.refl _ _)))
    | 4, ho =>
      obtain rfl := Option.some.inj ho
      intro Az Lz vz wy Kz Ez hB k
      have e6 : Az.eval (.tmp 6) = .pointer (some ⟨w.heap.size, 7, none⟩) := Ez.dep 3 6 (by kernel_rfl) rfl
      have q0 := hB.tab.cell 1 7 rfl rfl
      exact wpo_val (v := .int .i64 E) (run_load e6 (by simp [go_sem, q0])) (k _ _ rfl (hB.pure 4 (by decide) (by decide) (by decide) (by decide) (Below.refl _ _)))
    | 5, ho =>
      obtain rfl := Option.some.inj ho
      intro Az Lz vz wy Kz Ez hB k
      have e7 : Az.eval (.tmp 7) = .int .i64 E := Ez.dep 4 7 (by kernel_rfl) rfl
      refine wpo_call_p (run_callW (fun _ _ => by kernel_rfl)) (R := fun ez w' => TzR E ez ∧ w' = wy) ?_ ?_
      · simp only [List.map_toArray, List.map_cons, List.map_nil, eval_const, e7]
        exact FO.out E wy
      · rintro ez w' ⟨⟨hq, rfl⟩ | ⟨hq, rfl⟩, rfl⟩
        · exact .inl ⟨_, rfl, k _ _ rfl (hB.call2 (by decide) (by decide) (by decide) hq)⟩
        · exact .inr ⟨_, rfl, Ez.defs, .inr ⟨bad_E hq, rfl⟩, hB.bel⟩
    | 6, ho =>
      obtain rfl := Option.some.inj ho
      intro Az Lz vz wy Kz Ez hB k
      have e1 : Az.eval (.tmp 1) = .pointer (some ⟨w.heap.size, 0, none⟩) := Ez.out 1 (by kernel_rfl)
      exact wpo_val (v := .pointer (some ⟨w.heap.size, 0, none⟩)) (run_field e1 (by simp [go_sem])) (k _ _ rfl (hB.pure 6 (by decide) (by decide) (by decide) (by decide) (Below.refl _ _)))
    | 7, ho =>
      obtain rfl := Option.some.inj ho
      intro Az Lz vz wy Kz Ez hB k
      have e9 : Az.eval (.tmp 9) = .pointer (some ⟨w.heap.size, 0, none⟩) := Ez.dep 6 9 (by kernel_rfl) rfl
      have e5 : Az.eval (.tmp 5) = .int .i64 A := Ez.dep 2 5 (by kernel_rfl) rfl
      have q0 := hB.tab.cell 1 0 rfl rfl
      have q1 := hB.tab.froz 1 0 rfl rfl
      exact wpo_skip (run_store e9 e5 (by simp [go_sem, q0, q1])) (k _ _ rfl (hB.put1 (by decide) (by decide) (by decide) (by omega) (hB.tab.set1 1 0 (.int .i64 A) rfl (by simp))))
    | 8, ho =>
      obtain rfl := Option.some.inj ho
      intro Az Lz vz wy Kz Ez hB k
      have e1 : Az.eval (.tmp 1) = .pointer (some ⟨w.heap.size, 0, none⟩) := Ez.out 1 (by kernel_rfl)
      exact wpo_val (v := .pointer (some ⟨w.heap.size, 7, none⟩)) (run_field e1 (by simp [go_sem])) (k _ _ rfl (hB.pure 8 (by decide) (by decide) (by decide) (by decide) (Below.refl _ _)))
    | 9, ho =>
      obtain rfl := Option.some.inj ho
      intro Az Lz vz wy Kz Ez hB k
      have e10 : Az.eval (.tmp 10) = .pointer (some ⟨w.heap.size, 7, none⟩) := Ez.dep 8 10 (by kernel_rfl) rfl
      have e8 : Az.eval (.tmp 8) = .int .i64 E := Ez.dep 5 8 (by kernel_rfl) rfl
      have q0 := hB.tab.cell 1 7 rfl rfl
      have q1 := hB.tab.froz 1 7 rfl rfl
      exact wpo_skip (run_store e10 e8 (by simp [go_sem, q0, q1])) (k _ _ rfl (hB.put2 (by decide) (by decide) (by decide) (by omega) (hB.tab.set1 1 7 (.int .i64 E) rfl (by simp))))
    | ne + 10, ho => simp at ho
  have q1 := hB.o1 (hL 2 (by decide))
  have q2 := hB.o2 (hL 5 (by decide))
  have KB := Lib.hid hB.bel
  have KT := Lib.hid hB.tab
  clear hB hL MB
  simp only [puts2, mix, Act.put, List.setIfInBounds_toArray, List.set_cons_zero, List.set_cons_succ, Nat.zero_add, Nat.reduceAdd, List.getElem?_cons_zero, List.getElem?_cons_succ]
  have c1 := KT.out.cell 1 1 rfl rfl
  have c2 := KT.out.cell 1 2 rfl rfl
  have f1 := KT.out.froz 1 1 rfl rfl
  go_wp2_with fail
  refine (TZ.out W a _).mono ?_
  rintro e w1 ⟨⟨q3, rfl⟩ | ⟨q3, rfl⟩, rfl⟩
  · go_wp2_with fail
    have MB : Hid (TmB w (fun x y => [(w.heap.size + 1, [.int .i64 0, .int .i64 0, .bool false, .int .i64 0, .int .i64 0, .bool false, .bool false, .int .i64 0, .int .i64 0, .int .i64 0, .bool false]), (w.heap.size, [.int .i64 A, .int .i64 (tz W a), .bool a, .int .i64 (if x = true then tz L al else L), .int .i64 (if y = true then tz R ar else R), .bool al, .bool ar, .int .i64 E, .int .i64 Lo, .int .i64 Hi, .bool bd])]) (lnB (tz L al)) (lnB (tz R ar)) 4 9 11 13 (fun _ => false) ((w1.setCell ⟨w.heap.size, 1, none⟩ (.int .i64 (tz W a))).drew)) := Lib.hid ⟨(KB.out.setCell (Nat.le_refl _) _).drew, by exact (KT.out.set1 1 1 (.int .i64 (tz W a)) rfl (by simp)).later ((Below.refl _ _).drew), fun h => (by cases h), fun h => (by cases h)⟩
    clear KB KT c1 c2 f1
    refine wp_region_vals [some (.pointer (some ⟨w.heap.size, 3, none⟩)), some (.int .i64 L), some (.pointer (some ⟨w.heap.size, 5, none⟩)), some (.bool al), some (.int .i64 (tz L al)), some (.pointer (some ⟨w.heap.size, 4, none⟩)), some (.int .i64 R), some (.pointer (some ⟨w.heap.size, 6, none⟩)), some (.bool ar), some (.int .i64 (tz R ar)), some (.pointer (some ⟨w.heap.size, 3, none⟩)), some (undef), some (.pointer (some ⟨w.heap.size, 4, none⟩)), some (undef)] (fun Lz vz wy => TmB w (fun x y => [(w.heap.size + 1, [.int .i64 0, .int .i64 0, .bool false, .int .i64 0, .int .i64 0, .bool false, .bool false, .int .i64 0, .int .i64 0, .int .i64 0, .bool false]), (w.heap.size, [.int .i64 A, .int .i64 (tz W a), .bool a, .int .i64 (if x = true then tz L al else L), .int .i64 (if y = true then tz R ar else R), .bool al, .bool ar, .int .i64 E, .int .i64 Lo, .int .i64 Hi, .bool bd])]) (lnB (tz L al)) (lnB (tz R ar)) 4 9 11 13 Lz wy)
      [some 17, some 18, some 19, some 20, some 21, some 22, some 23, some 24, some 25, some 26, some 27, none, some 28, none] (by kernel_rfl) (by kernel_rfl) (by kernel_rfl) (by kernel_rfl) (by kernel_rfl) (by kernel_rfl) MB.out (fun ie oe ho => ?_) (fun Lz vz wz hL hB => ?_)
    · match ie, ho with
      | 0, ho =>
        obtain rfl := Option.some.inj ho
        intro Az Lz vz wy Kz Ez hB k
        have e1 : Az.eval (.tmp 1) = .pointer (some ⟨w.heap.size, 0, none⟩) := Ez.out 1 (by kernel_rfl)
        exact wpo_val (v := .pointer (some ⟨w.heap.size, 3, none⟩)) (run_field e1 (by simp [go_sem])) (k _ _ rfl (hB.pure 0 (by decide) (by decide) (by decide) (by decide) (Below.refl _ _)))
      | 1, ho =>
        obtain rfl := Option.some.inj ho
        intro Az Lz vz wy Kz Ez hB k
        have e17 : Az.eval (.tmp 17) = .pointer (some ⟨w.heap.size, 3, none⟩) := Ez.dep 0 17 (by kernel_rfl) rfl
        have q0 := (by have q := hB.tab.cell 1 3 rfl rfl; rw [show Lz 11 = false from Ez.late 11 _ rfl (by kernel_rfl)] at q; exact q : wy.cell? ⟨w.heap.size, 3, none⟩ = some (.int .i64 L))
        exact wpo_val (v := .int .i64 L) (run_load e17 (by simp [go_sem, q0])) (k _ _ rfl (hB.pure 1 (by decide) (by decide) (by decide) (by decide) (Below.refl _ _)))
      | 2, ho =>
        obtain rfl := Option.some.inj ho
        intro Az Lz vz wy Kz Ez hB k
        have e1 : Az.eval (.tmp 1) = .pointer (some ⟨w.heap.size, 0, none⟩) := Ez.out 1 (by kernel_rfl)
        exact wpo_val (v := .pointer (some ⟨w.heap.size, 5, none⟩)) (run_field e1 (by simp [go_sem])) (k _ _ rfl (hB.pure 2 (by decide) (by decide) (by decide) (by decide) (Below.refl _ _)))
      | 3, ho =>
        obtain rfl := Option.some.inj ho
        intro Az Lz vz wy Kz Ez hB k
        have e19 : Az.eval (.tmp 19) = .pointer (some ⟨w.heap.size, 5, none⟩) := Ez.dep 2 19 (by kernel_rfl) rfl
        have q0 := hB.tab.cell 1 5 rfl rfl
        exact wpo_val (v := .bool al) (run_load e19 (by simp [go_sem, q0])) (k _ _ rfl (hB.pure 3 (by decide) (by decide) (by decide) (by decide) (Below.refl _ _)))
      | 4, ho =>
        obtain rfl := Option.some.inj ho
        intro Az Lz vz wy Kz Ez hB k
        have e18 : Az.eval (.tmp 18) = .int .i64 L := Ez.dep 1 18 (by kernel_rfl) rfl
        have e20 : Az.eval (.tmp 20) = .bool al := Ez.dep 3 20 (by kernel_rfl) rfl
        refine wpo_call_p (run_callW (fun _ _ => by kernel_rfl)) (R := fun ez w' => TzR (tz L al) ez ∧ w' = wy) ?_ ?_
        · simp only [List.map_toArray, List.map_cons, List.map_nil, eval_const, e18, e20]
          exact TZ.out L al wy
        · rintro ez w' ⟨⟨hq, rfl⟩ | ⟨hq, rfl⟩, rfl⟩
          · exact .inl ⟨_, rfl, k _ _ rfl (hB.call1 (by decide) (by decide) (by decide) hq)⟩
          · exact .inr ⟨_, rfl, Ez.defs, .inr ⟨bad_L hq, rfl⟩, hB.bel⟩
      | 5, ho =>
        obtain rfl := Option.some.inj ho
        intro Az Lz vz wy Kz Ez hB k
        have e1 : Az.eval (.tmp 1) = .pointer (some ⟨w.heap.size, 0, none⟩) := Ez.out 1 (by kernel_rfl)
        exact wpo_val (v := .pointer (some ⟨w.heap.size, 4, none⟩)) (run_field e1 (by simp [go_sem])) (k _ _ rfl (hB.pure 5 (by decide) (by decide) (by decide) (by decide) (Below.refl _ _)))
      | 6, ho =>
        obtain rfl := Option.some.inj ho
        intro Az Lz vz wy Kz Ez hB k
        have e22 : Az.eval (.tmp 22) = .pointer (some ⟨w.heap.size, 4, none⟩) := Ez.dep 5 22 (by kernel_rfl) rfl
        have q0 := (by have q := hB.tab.cell 1 4 rfl rfl; rw [show Lz 13 = false from Ez.late 13 _ rfl (by kernel_rfl)] at q; exact q : wy.cell? ⟨w.heap.size, 4, none⟩ = some (.int .i64 R))
        exact wpo_val (v := .int .i64 R) (run_load e22 (by simp [go_sem, q0])) (k _ _ rfl (hB.pure 6 (by decide) (by decide) (by decide) (by decide) (Below.refl _ _)))
      | 7, ho =>
        obtain rfl := Option.some.inj ho
        intro Az Lz vz wy Kz Ez hB k
        have e1 : Az.eval (.tmp 1) = .pointer (some ⟨w.heap.size, 0, none⟩) := Ez.out 1 (by kernel_rfl)
        exact wpo_val (v := .pointer (some ⟨w.heap.size, 6, none⟩)) (run_field e1 (by simp [go_sem])) (k _ _ rfl (hB.pure 7 (by decide) (by decide) (by decide) (by decide) (Below.refl _ _)))
      | 8, ho =>
        obtain rfl := Option.some.inj ho
        intro Az Lz vz wy Kz Ez hB k
        have e24 : Az.eval (.tmp 24) = .pointer (some ⟨w.heap.size, 6, none⟩) := Ez.dep 7 24 (by kernel_rfl) rfl
        have q0 := hB.tab.cell 1 6 rfl rfl
        exact wpo_val (v := .bool ar) (run_load e24 (by simp [go_sem, q0])) (k _ _ rfl (hB.pure 8 (by decide) (by decide) (by decide) (by decide) (Below.refl _ _)))
      | 9, ho =>
        obtain rfl := Option.some.inj ho
        intro Az Lz vz wy Kz Ez hB k
        have e23 : Az.eval (.tmp 23) = .int .i64 R := Ez.dep 6 23 (by kernel_rfl) rfl
        have e25 : Az.eval (.tmp 25) = .bool ar := Ez.dep 8 25 (by kernel_rfl) rfl
        refine wpo_call_p (run_callW (fun _ _ => by kernel_rfl)) (R := fun ez w' => TzR (tz R ar) ez ∧ w' = wy) ?_ ?_
        · simp only [List.map_toArray, List.map_cons, List.map_nil, eval_const, e23, e25]
          exact TZ.out R ar wy
        · rintro ez w' ⟨⟨hq, rfl⟩ | ⟨hq, rfl⟩, rfl⟩
          · exact .inl ⟨_, rfl, k _ _ rfl (hB.call2 (by decide) (by decide) (by decide) hq)⟩
          · exact .inr ⟨_, rfl, Ez.defs, .inr ⟨bad_R hq, rfl⟩, hB.bel⟩
      | 10, ho =>
        obtain rfl := Option.some.inj ho
        intro Az Lz vz wy Kz Ez hB k
        have e1 : Az.eval (.tmp 1) = .pointer (some ⟨w.heap.size, 0, none⟩) := Ez.out 1 (by kernel_rfl)
        exact wpo_val (v := .pointer (some ⟨w.heap.size, 3, none⟩)) (run_field e1 (by simp [go_sem])) (k _ _ rfl (hB.pure 10 (by decide) (by decide) (by decide) (by decide) (Below.refl _ _)))
      | 11, ho =>
        obtain rfl := Option.some.inj ho
        intro Az Lz vz wy Kz Ez hB k
        have e27 : Az.eval (.tmp 27) = .pointer (some ⟨w.heap.size, 3, none⟩) := Ez.dep 10 27 (by kernel_rfl) rfl
        have e21 : Az.eval (.tmp 21) = .int .i64 (tz L al) := Ez.dep 4 21 (by kernel_rfl) rfl
        have q0 := hB.tab.cell 1 3 rfl rfl
        have q1 := hB.tab.froz 1 3 rfl rfl
        exact wpo_skip (run_store e27 e21 (by simp [go_sem, q0, q1])) (k _ _ rfl (hB.put1 (by decide) (by decide) (by decide) (by omega) (hB.tab.set1 1 3 (.int .i64 (tz L al)) rfl (by simp))))
      | 12, ho =>
        obtain rfl := Option.some.inj ho
        intro Az Lz vz wy Kz Ez hB k
        have e1 : Az.eval (.tmp 1) = .pointer (some ⟨w.heap.size, 0, none⟩) := Ez.out 1 (by kernel_rfl)
        exact wpo_val (v := .pointer (some ⟨w.heap.size, 4, none⟩)) (run_field e1 (by simp [go_sem])) (k _ _ rfl (hB.pure 12 (by decide) (by decide) (by decide) (by decide) (Below.refl _ _)))
      | 13, ho =>
        obtain rfl := Option.some.inj ho
        intro Az Lz vz wy Kz Ez hB k
        have e28 : Az.eval (.tmp 28) = .pointer (some ⟨w.heap.size, 4, none⟩) := Ez.dep 12 28 (by kernel_rfl) rfl
        have e26 : Az.eval (.tmp 26) = .int .i64 (tz R ar) := Ez.dep 9 26 (by kernel_rfl) rfl
        have q0 := hB.tab.cell 1 4 rfl rfl
        have q1 := hB.tab.froz 1 4 rfl rfl
        exact wpo_skip (run_store e28 e26 (by simp [go_sem, q0, q1])) (k _ _ rfl (hB.put2 (by decide) (by decide) (by decide) (by omega) (hB.tab.set1 1 4 (.int .i64 (tz R ar)) rfl (by simp))))
      | ne + 14, ho => simp at ho
    have q4 := hB.o1 (hL 4 (by decide))
    have q5 := hB.o2 (hL 9 (by decide))
    have KB := Lib.hid hB.bel
    have KT := Lib.hid hB.tab
    simp only [hL 11 (by decide), hL 13 (by decide), if_true] at KT
    have OK := Lib.hid (fitT_ok q1 q2 q3 q4 q5)
    clear hB hL MB q1 q2 q3 q4 q5
    simp only [puts2, mix, Act.put, List.setIfInBounds_toArray, List.set_cons_zero, List.set_cons_succ, Nat.zero_add, Nat.reduceAdd, List.getElem?_cons_zero, List.getElem?_cons_succ]
    have c0 := KT.out.cell 1 0 rfl rfl
    have c1 := KT.out.cell 1 1 rfl rfl
    have c2 := KT.out.cell 1 2 rfl rfl
    have c3 := KT.out.cell 1 3 rfl rfl
    have c4 := KT.out.cell 1 4 rfl rfl
    have c5 := KT.out.cell 1 5 rfl rfl
    have c6 := KT.out.cell 1 6 rfl rfl
    have c7 := KT.out.cell 1 7 rfl rfl
    have c8 := KT.out.cell 1 8 rfl rfl
    have c9 := KT.out.cell 1 9 rfl rfl
    have c10 := KT.out.cell 1 10 rfl rfl
    have d0 := KT.out.cell 0 0 rfl rfl
    have f0 := KT.out.froz 0 0 rfl rfl
    have d1 := KT.out.cell 0 1 rfl rfl
    have f1 := KT.out.froz 0 1 rfl rfl
    have d2 := KT.out.cell 0 2 rfl rfl
    have f2 := KT.out.froz 0 2 rfl rfl
    have d3 := KT.out.cell 0 3 rfl rfl
    have f3 := KT.out.froz 0 3 rfl rfl
    have d4 := KT.out.cell 0 4 rfl rfl
    have f4 := KT.out.froz 0 4 rfl rfl
    have d5 := KT.out.cell 0 5 rfl rfl
    have f5 := KT.out.froz 0 5 rfl rfl
    have d6 := KT.out.cell 0 6 rfl rfl
    have f6 := KT.out.froz 0 6 rfl rfl
    have d7 := KT.out.cell 0 7 rfl rfl
    have f7 := KT.out.froz 0 7 rfl rfl
    have d8 := KT.out.cell 0 8 rfl rfl
    have f8 := KT.out.froz 0 8 rfl rfl
    have d9 := KT.out.cell 0 9 rfl rfl
    have f9 := KT.out.froz 0 9 rfl rfl
    have d10 := KT.out.cell 0 10 rfl rfl
    have f10 := KT.out.froz 0 10 rfl rfl
    have lt := KT.out.lt 0 rfl
    have FIN : Hid (∀ x0 x1 x2 x3 x4 x5 x6 x7 x8 x9 x10, Below w.heap.size w (((((((((((wz.setCell ⟨w.heap.size + 1, 0, none⟩ x0).setCell ⟨w.heap.size + 1, 1, none⟩ x1).setCell ⟨w.heap.size + 1, 2, none⟩ x2).setCell ⟨w.heap.size + 1, 3, none⟩ x3).setCell ⟨w.heap.size + 1, 4, none⟩ x4).setCell ⟨w.heap.size + 1, 5, none⟩ x5).setCell ⟨w.heap.size + 1, 6, none⟩ x6).setCell ⟨w.heap.size + 1, 7, none⟩ x7).setCell ⟨w.heap.size + 1, 8, none⟩ x8).setCell ⟨w.heap.size + 1, 9, none⟩ x9).setCell ⟨w.heap.size + 1, 10, none⟩ x10)) := Lib.hid (fun x0 x1 x2 x3 x4 x5 x6 x7 x8 x9 x10 => (((((((((((KB.out.setCell (by show w.heap.size ≤ w.heap.size + 1; omega) _).setCell (by show w.heap.size ≤ w.heap.size + 1; omega) _).setCell (by show w.heap.size ≤ w.heap.size + 1; omega) _).setCell (by show w.heap.size ≤ w.heap.size + 1; omega) _).setCell (by show w.heap.size ≤ w.heap.size + 1; omega) _).setCell (by show w.heap.size ≤ w.heap.size + 1; omega) _).setCell (by show w.heap.size ≤ w.heap.size + 1; omega) _).setCell (by show w.heap.size ≤ w.heap.size + 1; omega) _).setCell (by show w.heap.size ≤ w.heap.size + 1; omega) _).setCell (by show w.heap.size ≤ w.heap.size + 1; omega) _).setCell (by show w.heap.size ≤ w.heap.size + 1; omega) _))
    go_wp2_with fail
    refine bodyPost_ret (v := .agg #[.int .i64 A, .int .i64 (tz W a), .bool a, .int .i64 (tz L al), .int .i64 (tz R ar), .bool al, .bool ar, .int .i64 E, .int .i64 Lo, .int .i64 Hi, .bool bd]) (by simp [results, Try.results67, go_sem, d0, d1, d2, d3, d4, d5, d6, d7, d8, d9, d10, lt]) rfl ?_
    exact ⟨.inl ⟨OK.out, rfl⟩, FIN.out _ _ _ _ _ _ _ _ _ _ _⟩
  · exact ⟨rfl, .inr ⟨bad_W q3, rfl⟩, KB.out⟩
end Go.Proofs.Ytmelbgabiklojaa
