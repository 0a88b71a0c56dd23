/- Package width: the equation solved once. Made by gen/wida.py. -/
import Derived.Test.YtmelbgabiklojaaWidA
import Derived.WalkKit
import Derived.WalkSpells
import Derived.WalkLawsBesides
import Derived.Handy
import Derived.Lib.Hide
import Derived.Deep.QuietTactic
import Derived.BigQuiet
import Derived.LoopTactic
import Derived.RegionTactic
import Derived.BigRegion
import Derived.Outline
import Derived.Deep.DeepCutAuto
import Derived.Deep.CutBlock
namespace Go.Proofs.Ytmelbgabiklojaa
open Go.RowKit Go.Proofs.Reg Go.Proofs.Big Wid
set_option linter.unusedVariables false
set_option linter.unusedSimpArgs false
set_option maxRecDepth 100000
def S4 (x y z u : Int) : Bool := lnB (x + y) && (lnB (x + y + z) && lnB (x + y + z + u))
def S3 (x y z : Int) : Bool := lnB (x + y) && lnB (x + y + z)
theorem rowcell {w : World} {g : Nat} {cs : List Value} {t : TypeId} (h : w.heap[g]? = some (.cells cs.toArray t (0, 0))) {k : Nat} {v : Value} (hv : cs[k]? = some v) : w.cell? ((⟨g, 0, none⟩ : Addr).add k) = some v := by
  rw [show (⟨g, 0, none⟩ : Addr).add k = ⟨g, k, none⟩ by simp [Addr.add]; try omega]
  simp [World.cell?, h, hv]
theorem ri_row {w : World} {g n : Nat} {xs : List Int} {cs : List Value} (h : w.heap[g]? = some (.cells cs.toArray 2 (0, 0))) (hc : cs = xs.map (Value.int .i64)) (hn : xs.length = n) (hm : n ≤ 1000000) : Ri w (some ⟨g, 0, none⟩) n n xs :=
  ⟨hn, by omega, fun _ => ⟨_, rfl, fun k hk => rowcell h (by rw [hc, List.getElem?_map, List.getElem?_eq_getElem (by omega), List.getD_eq_getElem?_getD, List.getElem?_eq_getElem (by omega)]; rfl)⟩⟩
theorem addAll_b {s x : Int} {xs : List Int} : addAll s (x :: xs) = if lnB (s + x) = true then addAll (s + x) xs else none := by
  rw [addAll]
  by_cases h : -17592186044416 ≤ s + x ∧ s + x ≤ 17592186044416
  · rw [if_pos h, if_pos (lnB_yes h)]
  · rw [if_neg h, lnB_no h, if_neg (by decide)]
theorem add4_any (x y z u : Int) (hx : lnB x = true) (hy : In64 y) (hz : In64 z) (hu : In64 u) (g : Nat) (w : World) (hg : w.heap[g]? = some (.cells #[.int .i64 x, .int .i64 y, .int .i64 z, .int .i64 u] 2 (0, 0))) :
    Calls Try.prog 41 #[.slice (some ⟨g, 0, none⟩) 4 4] w fun e w' => ((S4 x y z u = true ∧ e = .returned (.int .i64 (x + y + z + u))) ∨ (S4 x y z u = false ∧ e = .panicked (gave 2))) ∧ w' = w := by
  have hx' := lnB_rng hx
  refine (fadd_any _ 4 4 [x, y, z, u] _ w (ri_row hg rfl rfl (by decide)) (Lib.hid (fun v hv => ?_)) (Lib.hid rfl)).mono ?_
  · simp at hv
    rcases hv with rfl | rfl | rfl | rfl
    · omega
    · exact hy
    · exact hz
    · exact hu
  · rintro e w' ⟨he, hw⟩
    refine ⟨?_, hw⟩
    rw [addAll_b, Int.zero_add, if_pos hx, addAll_b, addAll_b, addAll_b, addAll] at he
    unfold S4
    cases c1 : lnB (x + y)
    · rw [c1, if_neg (by decide)] at he; exact .inr ⟨rfl, he⟩
    · rw [c1, if_pos rfl] at he
      cases c2 : lnB (x + y + z)
      · rw [c2, if_neg (by decide)] at he; exact .inr ⟨rfl, he⟩
      · rw [c2, if_pos rfl] at he
        cases c3 : lnB (x + y + z + u)
        · rw [c3, if_neg (by decide)] at he; exact .inr ⟨rfl, he⟩
        · rw [c3, if_pos rfl] at he; exact .inl ⟨rfl, he⟩
theorem add3_any (x y z : Int) (hx : lnB x = true) (hy : In64 y) (hz : In64 z) (g : Nat) (w : World) (hg : w.heap[g]? = some (.cells #[.int .i64 x, .int .i64 y, .int .i64 z] 2 (0, 0))) :
    Calls Try.prog 41 #[.slice (some ⟨g, 0, none⟩) 3 3] w fun e w' => ((S3 x y z = true ∧ e = .returned (.int .i64 (x + y + z))) ∨ (S3 x y z = false ∧ e = .panicked (gave 2))) ∧ w' = w := by
  have hx' := lnB_rng hx
  refine (fadd_any _ 3 3 [x, y, z] _ w (ri_row hg rfl rfl (by decide)) (Lib.hid (fun v hv => ?_)) (Lib.hid rfl)).mono ?_
  · simp at hv
    rcases hv with rfl | rfl | rfl
    · omega
    · exact hy
    · exact hz
  · rintro e w' ⟨he, hw⟩
    refine ⟨?_, hw⟩
    rw [addAll_b, Int.zero_add, if_pos hx, addAll_b, addAll_b, addAll] at he
    unfold S3
    cases c1 : lnB (x + y)
    · rw [c1, if_neg (by decide)] at he; exact .inr ⟨rfl, he⟩
    · rw [c1, if_pos rfl] at he
      cases c2 : lnB (x + y + z)
      · rw [c2, if_neg (by decide)] at he; exact .inr ⟨rfl, he⟩
      · rw [c2, if_pos rfl] at he; exact .inl ⟨rfl, he⟩
theorem sub15 (a b : Int) (ha : lnB a = true) (hb : lnB b = true) (w : World) : Calls Try.prog 38 #[.int .i64 a, .int .i64 b] w fun e w' => TzR (a - b) e ∧ Below w.heap.size w w' := by
  have ha' := lnB_rng ha
  have hb' := lnB_rng hb
  have q : lenB (a - b) = lnB (a - b) := by unfold lenB lnB; rw [Bool.and_comm]
  cases h : lnB (a - b)
  · refine (fsub_ends a b 0 2 (by omega) (by omega) (by omega) (by omega) (.inr ⟨q.trans h, rfl, rfl⟩) w).mono ?_
    rintro e w' ⟨he, hw⟩
    rcases he with ⟨h0, _⟩ | ⟨_, _, he⟩
    · cases h0
    · exact ⟨.inr ⟨h, he⟩, hw⟩
  · refine (fsub_ends a b (a - b) 0 (by omega) (by omega) (by omega) (by omega) (.inl ⟨q.trans h, rfl, rfl⟩) w).mono ?_
    rintro e w' ⟨he, hw⟩
    rcases he with ⟨_, he⟩ | ⟨h0, _⟩
    · exact ⟨.inl ⟨h, he⟩, hw⟩
    · exact absurd rfl h0
/-- what a region keeps that builds a slice, adds it up and takes the sum from something -/
structure BsL (w : World) (T : List (Nat × List Value)) (cs : Array Value) (n : Nat) (oS oD : Bool) (ib ia js : Nat) (L : Nat → Bool) (vz : Nat → Value) (wy : World) : Prop where
  bel : Below w.heap.size w wy
  tab : Tab wy T
  bs : L ib = true → ∃ g, vz ib = .slice (some ⟨g, 0, none⟩) n n ∧ wy.heap[g]? = some (.cells cs 2 (0, 0))
  o1 : L ia = true → oS = true
  o2 : L js = true → oD = true
section
variable {w : World} {T : List (Nat × List Value)} {cs : Array Value} {n : Nat} {oS oD : Bool} {ib ia js : Nat} {L : Nat → Bool} {vz : Nat → Value} {wy w' : World}
theorem BsL.pure (h : BsL w T cs n oS oD ib ia js L vz wy) (k : Nat) (v : Value) (n1 : ib ≠ k) (n2 : ia ≠ k) (n3 : js ≠ k) (hb : Below wy.heap.size wy w') : BsL w T cs n oS oD ib ia js (addL L k) (upd vz k v) w' := by
  have a1 : addL L k ib = L ib := by simp [addL, n1]
  have a2 : addL L k ia = L ia := by simp [addL, n2]
  have a3 : addL L k js = L js := by simp [addL, n3]
  have u1 : upd vz k v ib = vz ib := by simp [upd, n1]
  refine ⟨bel_tr0 h.bel hb, h.tab.later hb, fun q => ?_, fun q => h.o1 (a2 ▸ q), fun q => h.o2 (a3 ▸ q)⟩
  obtain ⟨g, e, hg⟩ := h.bs (a1 ▸ q)
  exact ⟨g, u1.trans e, (hb.block g (Array.getElem?_eq_some_iff.1 hg).1).trans hg⟩
theorem BsL.build (h : BsL w T cs n oS oD ib ia js L vz wy) (n2 : ia ≠ ib) (n3 : js ≠ ib) : BsL w T cs n oS oD ib ia js (addL L ib) (upd vz ib (.slice (some ⟨wy.heap.size, 0, none⟩) n n)) (wy.alloc (.cells cs 2)) := by
  have a2 : addL L ib ia = L ia := by simp [addL, n2]
  have a3 : addL L ib js = L js := by simp [addL, n3]
  exact ⟨bel_tr0 h.bel (bel_newR wy _), h.tab.later (bel_newR wy _), fun _ => ⟨wy.heap.size, by simp [upd], heap_alloc_new _ _⟩, fun q => h.o1 (a2 ▸ q), fun q => h.o2 (a3 ▸ q)⟩
theorem BsL.ok1 (h : BsL w T cs n oS oD ib ia js L vz wy) (v : Value) (n1 : ib ≠ ia) (n3 : js ≠ ia) (ho : oS = true) : BsL w T cs n oS oD ib ia js (addL L ia) (upd vz ia v) wy := by
  have a1 : addL L ia ib = L ib := by simp [addL, n1]
  have a3 : addL L ia js = L js := by simp [addL, n3]
  have u1 : upd vz ia v ib = vz ib := by simp [upd, n1]
  refine ⟨h.bel, h.tab, fun q => ?_, fun _ => ho, fun q => h.o2 (a3 ▸ q)⟩
  obtain ⟨g, e, hg⟩ := h.bs (a1 ▸ q)
  exact ⟨g, u1.trans e, hg⟩
theorem BsL.ok2 (h : BsL w T cs n oS oD ib ia js L vz wy) (v : Value) (n1 : ib ≠ js) (n2 : ia ≠ js) (hb : Below wy.heap.size wy w') (ho : oD = true) : BsL w T cs n oS oD ib ia js (addL L js) (upd vz js v) w' := by
  have a1 : addL L js ib = L ib := by simp [addL, n1]
  have a2 : addL L js ia = L ia := by simp [addL, n2]
  have u1 : upd vz js v ib = vz ib := by simp [upd, n1]
  refine ⟨bel_tr0 h.bel hb, h.tab.later hb, fun q => ?_, fun q => h.o1 (a2 ▸ q), fun _ => ho⟩
  obtain ⟨g, e, hg⟩ := h.bs (a1 ▸ q)
  exact ⟨g, u1.trans e, (hb.block g (Array.getElem?_eq_some_iff.1 hg).1).trans hg⟩
end
section
variable {P : Program} {A : Act} {w w' : World} {x : Option Tmp} {ty : TypeId} {ps : String} {af : Array Edge} {gd : Option (Nat × Bool)} {p q r s : Operand} {u v c d e : Value} {t t' : TypeId} {ts : Array TypeId}
theorem run_bsl4 (e1 : A.eval p = u) (e2 : A.eval q = c) (e3 : A.eval r = d) (e4 : A.eval s = e) (h : (Instr.buildSlice t 4 #[(0, u), (1, c), (2, d), (3, e)]).run P w = .ok v w') : (execOp A.eval ⟨x, .buildSlice t 4 #[(0, p), (1, q), (2, r), (3, s)], ty, ps, af, gd⟩).run P w = .ok (.value v) w' := by
  simp only [execOp, List.map_toArray, List.map_cons, List.map_nil, e1, e2, e3, e4]; exact run_then h
theorem run_bsl3 (e1 : A.eval p = u) (e2 : A.eval q = c) (e3 : A.eval r = d) (h : (Instr.buildSlice t 3 #[(0, u), (1, c), (2, d)]).run P w = .ok v w') : (execOp A.eval ⟨x, .buildSlice t 3 #[(0, p), (1, q), (2, r)], ty, ps, af, gd⟩).run P w = .ok (.value v) w' := by
  simp only [execOp, List.map_toArray, List.map_cons, List.map_nil, e1, e2, e3]; exact run_then h
end
/-- a solution, or giving up -/
def OcR (o : Option (Int × Int × Int)) (e : Ending) : Prop := match o with
  | some x => e = .returned (.agg #[.int .i64 x.1, .int .i64 x.2.1, .int .i64 x.2.2])
  | none => e = .panicked (gave 2)
section
variable {A w0 l r E : Int} {a al ar : Bool}
theorem sums_bad1 (h : S4 l w0 E r = false) : sumsB A w0 l r E a al ar = false := by
  unfold sumsB; unfold S4 at h
  cases c1 : lnB (l + w0) <;> cases c2 : lnB (l + w0 + E) <;> cases c3 : lnB (l + w0 + E + r) <;> simp_all
theorem sums_bad2 (h : lnB (A - (l + w0 + E + r)) = false) : sumsB A w0 l r E a al ar = false := by
  unfold sumsB restW; rw [h]; simp
theorem sums_bad3 (h : S3 (lW (A - (l + w0 + E + r)) l a al ar) (wW (A - (l + w0 + E + r)) w0 a) E = false) : sumsB A w0 l r E a al ar = false := by
  unfold sumsB restW; unfold S3 at h
  generalize lW (A - (l + w0 + E + r)) l a al ar = l' at *
  generalize wW (A - (l + w0 + E + r)) w0 a = w' at *
  cases c1 : lnB (l' + w') <;> cases c2 : lnB (l' + w' + E) <;> simp_all
theorem sums_bad4 (h : lnB (A - (lW (A - (l + w0 + E + r)) l a al ar + wW (A - (l + w0 + E + r)) w0 a + E)) = false) : sumsB A w0 l r E a al ar = false := by
  unfold sumsB restW; rw [h]; simp
theorem sums_good (h1 : S4 l w0 E r = true) (h2 : lnB (A - (l + w0 + E + r)) = true) (h3 : S3 (lW (A - (l + w0 + E + r)) l a al ar) (wW (A - (l + w0 + E + r)) w0 a) E = true) (h4 : lnB (A - (lW (A - (l + w0 + E + r)) l a al ar + wW (A - (l + w0 + E + r)) w0 a + E)) = true) : sumsB A w0 l r E a al ar = true := by
  unfold S4 at h1; unfold S3 at h3
  simp only [Bool.and_eq_true] at h1 h3
  unfold sumsB restW
  rw [h1.1, h1.2.1, h1.2.2, h2, h3.1, h3.2, h4]; rfl
theorem S4_last (h : S4 l w0 E r = true) : lnB (l + w0 + E + r) = true := by
  unfold S4 at h; simp only [Bool.and_eq_true] at h; exact h.2.2
theorem S3_last (h : S3 l w0 E = true) : lnB (l + w0 + E) = true := by
  unfold S3 at h; simp only [Bool.and_eq_true] at h; exact h.2
theorem lW_ln {d : Int} (hd : lnB d = true) (hl : lnB l = true) : lnB (lW d l a al ar) = true := by
  have := lnB_rng hd
  have := lnB_rng hl
  refine lnB_yes ?_
  unfold lW
  repeat' split
  all_goals omega
theorem wW_ln {d : Int} (hd : lnB d = true) (hl : lnB w0 = true) : lnB (wW d w0 a) = true := by
  have := lnB_rng hd
  have := lnB_rng hl
  refine lnB_yes ?_
  unfold wW
  split
  all_goals omega
theorem ln_in {x : Int} (h : lnB x = true) : In64 x := by
  have := lnB_rng h
  exact ⟨by omega, by omega⟩
end
set_option maxHeartbeats 16000000 in
theorem wsolved_any (A W L R E Lo Hi : Int) (a al ar bd : Bool) (w : World) :
    Calls Try.prog 59 #[.agg #[.int .i64 A, .int .i64 W, .bool a, .int .i64 L, .int .i64 R, .bool al, .bool ar, .int .i64 E, .int .i64 Lo, .int .i64 Hi, .bool bd]] w fun e w' => OcR (onceE A W L R E a al ar) e ∧ Below w.heap.size w w' := by
  have WT := Lib.hid (wterms_any A W L R E Lo Hi a al ar bd)
  obtain ⟨O, hO⟩ : ∃ O, onceE A W L R E a al ar = O := ⟨_, rfl⟩
  have HO := Lib.hid hO
  rw [hO]
  clear hO
  go_enter Try.func59, Try.ntmps59
  go_wp2_with fail
  have KB0 : Hid (Below w.heap.size w ((w.alloc (.cells #[.int .i64 A, .int .i64 W, .bool a, .int .i64 L, .int .i64 R, .bool al, .bool ar, .int .i64 E, .int .i64 Lo, .int .i64 Hi, .bool bd] 78)).alloc (.cells #[.int .i64 0, .int .i64 0, .int .i64 0] 73))) := Lib.hid (bel_tr0 (bel_newR _ _) (bel_newR _ _))
  have KT0 : Hid (Tab ((w.alloc (.cells #[.int .i64 A, .int .i64 W, .bool a, .int .i64 L, .int .i64 R, .bool al, .bool ar, .int .i64 E, .int .i64 Lo, .int .i64 Hi, .bool bd] 78)).alloc (.cells #[.int .i64 0, .int .i64 0, .int .i64 0] 73)) [(w.heap.size + 1, [.int .i64 0, .int .i64 0, .int .i64 0]), (w.heap.size, [.int .i64 A, .int .i64 W, .bool a, .int .i64 L, .int .i64 R, .bool al, .bool ar, .int .i64 E, .int .i64 Lo, .int .i64 Hi, .bool bd])]) := Lib.hid (((Tab.nil w).new' _ _ rfl).new' _ _ (by simp))
  refine (WT.out _).mono ?_
  rintro e w1 ⟨he, hb⟩
  have KB1 := Lib.hid (bel_tr0 KB0.out hb)
  have KT1 := Lib.hid (KT0.out.later hb)
  clear hb KB0 KT0
  rcases he with ⟨hq, rfl⟩ | ⟨hq, rfl⟩
  case inr => exact ⟨rfl, by rw [← HO.out, once_bad hq]; exact ⟨rfl, KB1.out⟩⟩
  have FT := Lib.hid hq
  obtain ⟨hA, hE, hw0, hl, hr⟩ := fitT_all hq
  have HA := Lib.hid hA
  have HL := Lib.hid hl
  have HW := Lib.hid hw0
  have HE := Lib.hid hE
  have HR := Lib.hid hr
  obtain ⟨w0, hw⟩ : ∃ x, tz W a = x := ⟨_, rfl⟩
  obtain ⟨l, hll⟩ : ∃ x, tz L al = x := ⟨_, rfl⟩
  obtain ⟨r, hrr⟩ : ∃ x, tz R ar = x := ⟨_, rfl⟩
  have HB : Hid (sumsB A w0 l r E a al ar = false → O = none) := Lib.hid (fun h => by rw [← HO.out]; exact once_bad2 (by rw [hw, hll, hrr]; exact h))
  have HG : Hid (sumsB A w0 l r E a al ar = true → O = some (wW (A - (l + w0 + E + r)) w0 a, lW (A - (l + w0 + E + r)) l a al ar, A - (lW (A - (l + w0 + E + r)) l a al ar + wW (A - (l + w0 + E + r)) w0 a + E))) := Lib.hid (fun h => by
    rw [← HO.out, once_good FT.out (by rw [hw, hll, hrr]; exact h)]
    unfold onceT restW; rw [hw, hll, hrr])
  rw [hw] at HW ⊢
  rw [hll] at HL ⊢
  rw [hrr] at HR ⊢
  have SU : Hid (S4 l w0 E r = true → ∀ wy, Calls Try.prog 38 #[.int .i64 A, .int .i64 (l + w0 + E + r)] wy fun e w' => TzR (A - (l + w0 + E + r)) e ∧ Below wy.heap.size wy w') := Lib.hid (fun h wy => sub15 A _ HA.out (S4_last h) wy)
  have AD : Hid (∀ (g : Nat) (wy : World), wy.heap[g]? = some (.cells #[.int .i64 l, .int .i64 w0, .int .i64 E, .int .i64 r] 2 (0, 0)) → Calls Try.prog 41 #[.slice (some ⟨g, 0, none⟩) 4 4] wy fun e w' => ((S4 l w0 E r = true ∧ e = .returned (.int .i64 (l + w0 + E + r))) ∨ (S4 l w0 E r = false ∧ e = .panicked (gave 2))) ∧ w' = wy) := Lib.hid (fun g wy hg => add4_any l w0 E r HL.out (ln_in HW.out) (ln_in HE.out) (ln_in HR.out) g wy hg)
  have BA : Hid (S4 l w0 E r = false → OcR O (.panicked (gave 2))) := Lib.hid (fun h => by rw [HB.out (sums_bad1 h)]; rfl)
  have BS : Hid (S4 l w0 E r = true → lnB (A - (l + w0 + E + r)) = false → OcR O (.panicked (gave 2))) := Lib.hid (fun _ h => by rw [HB.out (sums_bad2 h)]; rfl)
  clear hA hE hw0 hl hr hq hw hll hrr HO FT WT
  have MB : Hid (BsL w [(w.heap.size + 1, [.int .i64 0, .int .i64 0, .int .i64 0]), (w.heap.size, [.int .i64 A, .int .i64 w0, .bool a, .int .i64 l, .int .i64 r, .bool al, .bool ar, .int .i64 E, .int .i64 Lo, .int .i64 Hi, .bool bd])] #[.int .i64 l, .int .i64 w0, .int .i64 E, .int .i64 r] 4 (S4 l w0 E r) (lnB (A - (l + w0 + E + r))) 10 11 12 (fun _ => false) (fun _ => undef) (((((((((((w1.setCell ⟨w.heap.size, 0, none⟩ (.int .i64 A)).setCell ⟨w.heap.size, 1, none⟩ (.int .i64 w0)).setCell ⟨w.heap.size, 2, none⟩ (.bool a)).setCell ⟨w.heap.size, 3, none⟩ (.int .i64 l)).setCell ⟨w.heap.size, 4, none⟩ (.int .i64 r)).setCell ⟨w.heap.size, 5, none⟩ (.bool al)).setCell ⟨w.heap.size, 6, none⟩ (.bool ar)).setCell ⟨w.heap.size, 7, none⟩ (.int .i64 E)).setCell ⟨w.heap.size, 8, none⟩ (.int .i64 Lo)).setCell ⟨w.heap.size, 9, none⟩ (.int .i64 Hi)).setCell ⟨w.heap.size, 10, none⟩ (.bool bd)).drew) := Lib.hid ⟨((((((((((((KB1.out.setCell (Nat.le_refl _) _).setCell (Nat.le_refl _) _).setCell (Nat.le_refl _) _).setCell (Nat.le_refl _) _).setCell (Nat.le_refl _) _).setCell (Nat.le_refl _) _).setCell (Nat.le_refl _) _).setCell (Nat.le_refl _) _).setCell (Nat.le_refl _) _).setCell (Nat.le_refl _) _).setCell (Nat.le_refl _) _)).drew, ((((((((((((KT1.out.set1 1 0 (.int .i64 A) rfl (by simp)).set1 1 1 (.int .i64 w0) rfl (by simp)).set1 1 2 (.bool a) rfl (by simp)).set1 1 3 (.int .i64 l) rfl (by simp)).set1 1 4 (.int .i64 r) rfl (by simp)).set1 1 5 (.bool al) rfl (by simp)).set1 1 6 (.bool ar) rfl (by simp)).set1 1 7 (.int .i64 E) rfl (by simp)).set1 1 8 (.int .i64 Lo) rfl (by simp)).set1 1 9 (.int .i64 Hi) rfl (by simp)).set1 1 10 (.bool bd) rfl (by simp))).later (Below.refl _ _).drew, fun h => (by cases h), fun h => (by cases h), fun h => (by cases h)⟩
  have c0 := KT1.out.cell 1 0 rfl rfl
  have f0 := KT1.out.froz 1 0 rfl rfl
  have c1 := KT1.out.cell 1 1 rfl rfl
  have f1 := KT1.out.froz 1 1 rfl rfl
  have c2 := KT1.out.cell 1 2 rfl rfl
  have f2 := KT1.out.froz 1 2 rfl rfl
  have c3 := KT1.out.cell 1 3 rfl rfl
  have f3 := KT1.out.froz 1 3 rfl rfl
  have c4 := KT1.out.cell 1 4 rfl rfl
  have f4 := KT1.out.froz 1 4 rfl rfl
  have c5 := KT1.out.cell 1 5 rfl rfl
  have f5 := KT1.out.froz 1 5 rfl rfl
  have c6 := KT1.out.cell 1 6 rfl rfl
  have f6 := KT1.out.froz 1 6 rfl rfl
  have c7 := KT1.out.cell 1 7 rfl rfl
  have f7 := KT1.out.froz 1 7 rfl rfl
  have c8 := KT1.out.cell 1 8 rfl rfl
  have f8 := KT1.out.froz 1 8 rfl rfl
  have c9 := KT1.out.cell 1 9 rfl rfl
  have f9 := KT1.out.froz 1 9 rfl rfl
  have c10 := KT1.out.cell 1 10 rfl rfl
  have f10 := KT1.out.froz 1 10 rfl rfl
  go_wp2_with fail
  clear c0 f0 c1 f1 c2 f2 c3 f3 c4 f4 c5 f5 c6 f6 c7 f7 c8 f8 c9 f9 c10 f10 KB1 KT1
  refine wp_region_vals [some (.pointer (some ⟨w.heap.size, 0, none⟩)), some (.int .i64 A), some (.pointer (some ⟨w.heap.size, 3, none⟩)), some (.int .i64 l), some (.pointer (some ⟨w.heap.size, 1, none⟩)), some (.int .i64 w0), some (.pointer (some ⟨w.heap.size, 7, none⟩)), some (.int .i64 E), some (.pointer (some ⟨w.heap.size, 4, none⟩)), some (.int .i64 r), none, some (.int .i64 (l + w0 + E + r)), some (.int .i64 (A - (l + w0 + E + r))), some (.int .i64 (A - (l + w0 + E + r)))] (BsL w [(w.heap.size + 1, [.int .i64 0, .int .i64 0, .int .i64 0]), (w.heap.size, [.int .i64 A, .int .i64 w0, .bool a, .int .i64 l, .int .i64 r, .bool al, .bool ar, .int .i64 E, .int .i64 Lo, .int .i64 Hi, .bool bd])] #[.int .i64 l, .int .i64 w0, .int .i64 E, .int .i64 r] 4 (S4 l w0 E r) (lnB (A - (l + w0 + E + r))) 10 11 12)
    [some 7, some 8, some 9, some 10, some 11, some 12, some 13, some 14, some 15, some 16, some 17, some 18, some 19, some 3] (by kernel_rfl) (by kernel_rfl) (by kernel_rfl) (by kernel_rfl) (by kernel_rfl) (by kernel_rfl) MB.out (fun ie oe ho => ?_) (fun Lz vz wz hL hB => ?_)
  · match ie, ho with
    | 0, ho =>
      obtain rfl := Option.some.inj ho
      intro Az Lz vz wy Kz Ez hB k
      have e1 : Az.eval (.tmp 1) = .pointer (some ⟨w.heap.size, 0, none⟩) := Ez.out 1 (by kernel_rfl)
      exact wpo_val (v := .pointer (some ⟨w.heap.size, 0, none⟩)) (run_field e1 (by simp [go_sem])) (k _ _ rfl (hB.pure 0 _ (by decide) (by decide) (by decide) (Below.refl _ _)))
    | 1, ho =>
      obtain rfl := Option.some.inj ho
      intro Az Lz vz wy Kz Ez hB k
      have e7 : Az.eval (.tmp 7) = .pointer (some ⟨w.heap.size, 0, none⟩) := Ez.dep 0 7 (by kernel_rfl) rfl
      have q0 := hB.tab.cell 1 0 rfl rfl
      exact wpo_val (v := .int .i64 A) (run_load e7 (by simp [go_sem, q0])) (k _ _ rfl (hB.pure 1 _ (by decide) (by decide) (by decide) (Below.refl _ _)))
    | 2, ho =>
      obtain rfl := Option.some.inj ho
      intro Az Lz vz wy Kz Ez hB k
      have e1 : Az.eval (.tmp 1) = .pointer (some ⟨w.heap.size, 0, none⟩) := Ez.out 1 (by kernel_rfl)
      exact wpo_val (v := .pointer (some ⟨w.heap.size, 3, none⟩)) (run_field e1 (by simp [go_sem])) (k _ _ rfl (hB.pure 2 _ (by decide) (by decide) (by decide) (Below.refl _ _)))
    | 3, ho =>
      obtain rfl := Option.some.inj ho
      intro Az Lz vz wy Kz Ez hB k
      have e9 : Az.eval (.tmp 9) = .pointer (some ⟨w.heap.size, 3, none⟩) := Ez.dep 2 9 (by kernel_rfl) rfl
      have q0 := hB.tab.cell 1 3 rfl rfl
      exact wpo_val (v := .int .i64 l) (run_load e9 (by simp [go_sem, q0])) (k _ _ rfl (hB.pure 3 _ (by decide) (by decide) (by decide) (Below.refl _ _)))
    | 4, ho =>
      obtain rfl := Option.some.inj ho
      intro Az Lz vz wy Kz Ez hB k
      have e1 : Az.eval (.tmp 1) = .pointer (some ⟨w.heap.size, 0, none⟩) := Ez.out 1 (by kernel_rfl)
      exact wpo_val (v := .pointer (some ⟨w.heap.size, 1, none⟩)) (run_field e1 (by simp [go_sem])) (k _ _ rfl (hB.pure 4 _ (by decide) (by decide) (by decide) (Below.refl _ _)))
    | 5, ho =>
      obtain rfl := Option.some.inj ho
      intro Az Lz vz wy Kz Ez hB k
      have e11 : Az.eval (.tmp 11) = .pointer (some ⟨w.heap.size, 1, none⟩) := Ez.dep 4 11 (by kernel_rfl) rfl
      have q0 := hB.tab.cell 1 1 rfl rfl
      exact wpo_val (v := .int .i64 w0) (run_load e11 (by simp [go_sem, q0])) (k _ _ rfl (hB.pure 5 _ (by decide) (by decide) (by decide) (Below.refl _ _)))
    | 6, ho =>
      obtain rfl := Option.some.inj ho
      intro Az Lz vz wy Kz Ez hB k
      have e1 : Az.eval (.tmp 1) = .pointer (some ⟨w.heap.size, 0, none⟩) := Ez.out 1 (by kernel_rfl)
      exact wpo_val (v := .pointer (some ⟨w.heap.size, 7, none⟩)) (run_field e1 (by simp [go_sem])) (k _ _ rfl (hB.pure 6 _ (by decide) (by decide) (by decide) (Below.refl _ _)))
    | 7, ho =>
      obtain rfl := Option.some.inj ho
      intro Az Lz vz wy Kz Ez hB k
      have e13 : Az.eval (.tmp 13) = .pointer (some ⟨w.heap.size, 7, none⟩) := Ez.dep 6 13 (by kernel_rfl) rfl
      have q0 := hB.tab.cell 1 7 rfl rfl
      exact wpo_val (v := .int .i64 E) (run_load e13 (by simp [go_sem, q0])) (k _ _ rfl (hB.pure 7 _ (by decide) (by decide) (by decide) (Below.refl _ _)))
    | 8, ho =>
      obtain rfl := Option.some.inj ho
      intro Az Lz vz wy Kz Ez hB k
      have e1 : Az.eval (.tmp 1) = .pointer (some ⟨w.heap.size, 0, none⟩) := Ez.out 1 (by kernel_rfl)
      exact wpo_val (v := .pointer (some ⟨w.heap.size, 4, none⟩)) (run_field e1 (by simp [go_sem])) (k _ _ rfl (hB.pure 8 _ (by decide) (by decide) (by decide) (Below.refl _ _)))
    | 9, ho =>
      obtain rfl := Option.some.inj ho
      intro Az Lz vz wy Kz Ez hB k
      have e15 : Az.eval (.tmp 15) = .pointer (some ⟨w.heap.size, 4, none⟩) := Ez.dep 8 15 (by kernel_rfl) rfl
      have q0 := hB.tab.cell 1 4 rfl rfl
      exact wpo_val (v := .int .i64 r) (run_load e15 (by simp [go_sem, q0])) (k _ _ rfl (hB.pure 9 _ (by decide) (by decide) (by decide) (Below.refl _ _)))
    | 10, ho =>
      obtain rfl := Option.some.inj ho
      intro Az Lz vz wy Kz Ez hB k
      have e10 : Az.eval (.tmp 10) = .int .i64 l := Ez.dep 3 10 (by kernel_rfl) rfl
      have e12 : Az.eval (.tmp 12) = .int .i64 w0 := Ez.dep 5 12 (by kernel_rfl) rfl
      have e14 : Az.eval (.tmp 14) = .int .i64 E := Ez.dep 7 14 (by kernel_rfl) rfl
      have e16 : Az.eval (.tmp 16) = .int .i64 r := Ez.dep 9 16 (by kernel_rfl) rfl
      exact wpo_val (run_bsl4 e10 e12 e14 e16 (by simp [go_sem])) (k _ _ trivial (hB.build (by decide) (by decide)))
    | 11, ho =>
      obtain rfl := Option.some.inj ho
      intro Az Lz vz wy Kz Ez hB k
      have e17 : Az.eval (.tmp 17) = vz 10 := Ez.dep 10 17 (by kernel_rfl) rfl
      obtain ⟨q, hq, hg⟩ := hB.bs (Ez.had 10 (by kernel_rfl))
      refine wpo_call_p (run_callW (fun _ _ => by kernel_rfl)) (R := fun ez w' => ((S4 l w0 E r = true ∧ ez = .returned (.int .i64 (l + w0 + E + r))) ∨ (S4 l w0 E r = false ∧ ez = .panicked (gave 2))) ∧ w' = wy) ?_ ?_
      · simp only [List.map_toArray, List.map_cons, List.map_nil, eval_const, e17, hq]
        exact AD.out q wy hg
      · rintro ez w' ⟨⟨hq, rfl⟩ | ⟨hq, rfl⟩, rfl⟩
        · exact .inl ⟨_, rfl, k _ _ rfl (hB.ok1 _ (by decide) (by decide) hq)⟩
        · exact .inr ⟨_, rfl, Ez.defs, BA.out hq, hB.bel⟩
    | 12, ho =>
      obtain rfl := Option.some.inj ho
      intro Az Lz vz wy Kz Ez hB k
      have e8 : Az.eval (.tmp 8) = .int .i64 A := Ez.dep 1 8 (by kernel_rfl) rfl
      have e18 : Az.eval (.tmp 18) = .int .i64 (l + w0 + E + r) := Ez.dep 11 18 (by kernel_rfl) rfl
      have h1 := hB.o1 (Ez.had 11 (by kernel_rfl))
      refine wpo_call_p (run_callW (fun _ _ => by kernel_rfl)) (R := fun ez w' => TzR (A - (l + w0 + E + r)) ez ∧ Below wy.heap.size wy w') ?_ ?_
      · simp only [List.map_toArray, List.map_cons, List.map_nil, eval_const, e8, e18]
        exact SU.out h1 wy
      · rintro ez w' ⟨⟨hq, rfl⟩ | ⟨hq, rfl⟩, hb⟩
        · exact .inl ⟨_, rfl, k _ _ rfl (hB.ok2 _ (by decide) (by decide) hb hq)⟩
        · exact .inr ⟨_, rfl, Ez.defs, BS.out h1 hq, bel_tr0 hB.bel hb⟩
    | 13, ho =>
      obtain rfl := Option.some.inj ho
      intro Az Lz vz wy Kz Ez hB k
      have e19 : Az.eval (.tmp 19) = .int .i64 (A - (l + w0 + E + r)) := Ez.dep 12 19 (by kernel_rfl) rfl
      exact wpo_val (v := .int .i64 (A - (l + w0 + E + r))) (run_assign e19) (k _ _ rfl (hB.pure 13 _ (by decide) (by decide) (by decide) (Below.refl _ _)))
    | ne + 14, ho => simp at ho
  have q1 := hB.o1 (hL 11 (by decide))
  have q2 := hB.o2 (hL 12 (by decide))
  have KB := Lib.hid hB.bel
  have KT := Lib.hid hB.tab
  clear hB hL MB BA BS SU AD
  simp only [puts2, mix, Act.put, List.setIfInBounds_toArray, List.set_cons_zero, List.set_cons_succ, Nat.zero_add, Nat.reduceAdd, List.getElem?_cons_zero, List.getElem?_cons_succ]
  have Q1 := Lib.hid q1
  have Q2 := Lib.hid q2
  obtain ⟨d, hd⟩ : ∃ d, A - (l + w0 + E + r) = d := ⟨_, rfl⟩
  rw [hd] at HG Q2 ⊢
  have HD := Lib.hid hd
  clear q1 q2 hd
  have LB := Lib.hid (lnB_rng Q2.out)
  obtain ⟨d0, d1⟩ := lnB_rng Q2.out
  go_upto_block 0 with fail
  go_cut [] (fun wx => ∃ wq, wq = wx ∧ Hid (Tab wx [(w.heap.size + 1, [.int .i64 0, .int .i64 0, .int .i64 0]), (w.heap.size, [.int .i64 A, .int .i64 (wW d w0 a), .bool a, .int .i64 (lW d l a al ar), .int .i64 r, .bool al, .bool ar, .int .i64 E, .int .i64 Lo, .int .i64 Hi, .bool bd])]) ∧ Hid (Below w.heap.size w wx))
  case first =>
    have c1 := KT.out.cell 1 1 rfl rfl
    have c2 := KT.out.cell 1 2 rfl rfl
    have c3 := KT.out.cell 1 3 rfl rfl
    have c5 := KT.out.cell 1 5 rfl rfl
    have c6 := KT.out.cell 1 6 rfl rfl
    have f1 := KT.out.froz 1 1 rfl rfl
    have f3 := KT.out.froz 1 3 rfl rfl
    cases a
    · by_cases p : 0 < d
      · cases al
        · go_wp2_with fail
          go_meet
          exact ⟨_, rfl, Lib.hid (by unfold wW lW; simp only [p, if_true, Bool.false_eq_true, if_false]; exact KT.out), KB⟩
        · cases ar
          · go_wp2_with fail
            go_meet
            exact ⟨_, rfl, Lib.hid (by unfold wW lW; simp only [p, if_true, Bool.false_eq_true, if_false]; exact KT.out.set1 1 3 _ rfl (by simp)), Lib.hid (KB.out.setCell (Nat.le_refl _) _)⟩
          · have t2 : d.tdiv 2 = d / 2 := Int.tdiv_eq_ediv_of_nonneg (by omega)
            go_wp2_with fail
            go_meet
            exact ⟨_, rfl, Lib.hid (by unfold wW lW; simp only [p, if_true, Bool.false_eq_true, if_false]; rw [← t2]; exact KT.out.set1 1 3 _ rfl (by simp)), Lib.hid (KB.out.setCell (Nat.le_refl _) _)⟩
      · go_wp2_with fail
        go_meet
        exact ⟨_, rfl, Lib.hid (by unfold wW lW; simp only [if_neg (show ¬ 0 < d by omega), if_true, Bool.false_eq_true, if_false]; exact KT.out), KB⟩
    · go_wp2_with fail
      go_meet
      exact ⟨_, rfl, Lib.hid (by unfold wW lW; simp only [if_true]; exact KT.out.set1 1 1 _ rfl (by simp)), Lib.hid (KB.out.setCell (Nat.le_refl _) _)⟩
  case rest =>
    obtain ⟨wq, rfl, KT2, KB2⟩ := hcut
    have HL' : Hid (lnB (lW d l a al ar) = true) := Lib.hid (lW_ln Q2.out HL.out)
    have HW' : Hid (lnB (wW d w0 a) = true) := Lib.hid (wW_ln Q2.out HW.out)
    have HB' : Hid (S3 (lW d l a al ar) (wW d w0 a) E = false ∨ lnB (A - (lW d l a al ar + wW d w0 a + E)) = false → O = none) := Lib.hid (fun h => HB.out (by
      rcases h with h | h
      · rw [← HD.out] at h; exact sums_bad3 h
      · rw [← HD.out] at h; exact sums_bad4 h))
    have HG' : Hid (S3 (lW d l a al ar) (wW d w0 a) E = true → lnB (A - (lW d l a al ar + wW d w0 a + E)) = true → O = some (wW d w0 a, lW d l a al ar, A - (lW d l a al ar + wW d w0 a + E))) := Lib.hid (fun h k => HG.out (sums_good Q1.out (by rw [HD.out]; exact Q2.out) (by rw [HD.out]; exact h) (by rw [HD.out]; exact k)))
    generalize lW d l a al ar = l' at *
    generalize wW d w0 a = v' at *
    have SU : Hid (S3 l' v' E = true → ∀ wy, Calls Try.prog 38 #[.int .i64 A, .int .i64 (l' + v' + E)] wy fun e w' => TzR (A - (l' + v' + E)) e ∧ Below wy.heap.size wy w') := Lib.hid (fun h wy => sub15 A _ HA.out (S3_last h) wy)
    have AD : Hid (∀ (g : Nat) (wy : World), wy.heap[g]? = some (.cells #[.int .i64 l', .int .i64 v', .int .i64 E] 2 (0, 0)) → Calls Try.prog 41 #[.slice (some ⟨g, 0, none⟩) 3 3] wy fun e w' => ((S3 l' v' E = true ∧ e = .returned (.int .i64 (l' + v' + E))) ∨ (S3 l' v' E = false ∧ e = .panicked (gave 2))) ∧ w' = wy) := Lib.hid (fun g wy hg => add3_any l' v' E HL'.out (ln_in HW'.out) (ln_in HE.out) g wy hg)
    have BA : Hid (S3 l' v' E = false → OcR O (.panicked (gave 2))) := Lib.hid (fun h => by rw [HB'.out (.inl h)]; rfl)
    have BS : Hid (S3 l' v' E = true → lnB (A - (l' + v' + E)) = false → OcR O (.panicked (gave 2))) := Lib.hid (fun _ h => by rw [HB'.out (.inr h)]; rfl)
    clear HB HG KT KB d0 d1 Q1 Q2 LB HD
    have MB : Hid (BsL w [(w.heap.size + 1, [.int .i64 0, .int .i64 0, .int .i64 0]), (w.heap.size, [.int .i64 A, .int .i64 v', .bool a, .int .i64 l', .int .i64 r, .bool al, .bool ar, .int .i64 E, .int .i64 Lo, .int .i64 Hi, .bool bd])] #[.int .i64 l', .int .i64 v', .int .i64 E] 3 (S3 l' v' E) (lnB (A - (l' + v' + E))) 8 9 10 (fun _ => false) (fun _ => undef) wq.drew) := Lib.hid ⟨KB2.out.drew, KT2.out.later (Below.refl _ _).drew, fun h => (by cases h), fun h => (by cases h), fun h => (by cases h)⟩
    go_wp2_with fail
    refine wp_region_vals [some (.pointer (some ⟨w.heap.size, 0, none⟩)), some (.int .i64 A), some (.pointer (some ⟨w.heap.size, 3, none⟩)), some (.int .i64 (l')), some (.pointer (some ⟨w.heap.size, 1, none⟩)), some (.int .i64 (v')), some (.pointer (some ⟨w.heap.size, 7, none⟩)), some (.int .i64 E), none, some (.int .i64 (l' + v' + E)), some (.int .i64 (A - (l' + v' + E))), some (.int .i64 (A - (l' + v' + E)))] (BsL w [(w.heap.size + 1, [.int .i64 0, .int .i64 0, .int .i64 0]), (w.heap.size, [.int .i64 A, .int .i64 v', .bool a, .int .i64 l', .int .i64 r, .bool al, .bool ar, .int .i64 E, .int .i64 Lo, .int .i64 Hi, .bool bd])] #[.int .i64 (l'), .int .i64 (v'), .int .i64 E] 3 (S3 l' v' E) (lnB (A - (l' + v' + E))) 8 9 10)
      [some 49, some 50, some 51, some 52, some 53, some 54, some 55, some 56, some 57, some 58, some 59, some 4] (by kernel_rfl) (by kernel_rfl) (by kernel_rfl) (by kernel_rfl) (by kernel_rfl) (by kernel_rfl) MB.out (fun ie oe ho => ?_) (fun Lz vz wz hL hB => ?_)
    · match ie, ho with
      | 0, ho =>
        obtain rfl := Option.some.inj ho
        intro Az Lz vz wy Kz Ez hB k
        have e1 : Az.eval (.tmp 1) = .pointer (some ⟨w.heap.size, 0, none⟩) := Ez.out 1 (by kernel_rfl)
        exact wpo_val (v := .pointer (some ⟨w.heap.size, 0, none⟩)) (run_field e1 (by simp [go_sem])) (k _ _ rfl (hB.pure 0 _ (by decide) (by decide) (by decide) (Below.refl _ _)))
      | 1, ho =>
        obtain rfl := Option.some.inj ho
        intro Az Lz vz wy Kz Ez hB k
        have e49 : Az.eval (.tmp 49) = .pointer (some ⟨w.heap.size, 0, none⟩) := Ez.dep 0 49 (by kernel_rfl) rfl
        have q0 := hB.tab.cell 1 0 rfl rfl
        exact wpo_val (v := .int .i64 A) (run_load e49 (by simp [go_sem, q0])) (k _ _ rfl (hB.pure 1 _ (by decide) (by decide) (by decide) (Below.refl _ _)))
      | 2, ho =>
        obtain rfl := Option.some.inj ho
        intro Az Lz vz wy Kz Ez hB k
        have e1 : Az.eval (.tmp 1) = .pointer (some ⟨w.heap.size, 0, none⟩) := Ez.out 1 (by kernel_rfl)
        exact wpo_val (v := .pointer (some ⟨w.heap.size, 3, none⟩)) (run_field e1 (by simp [go_sem])) (k _ _ rfl (hB.pure 2 _ (by decide) (by decide) (by decide) (Below.refl _ _)))
      | 3, ho =>
        obtain rfl := Option.some.inj ho
        intro Az Lz vz wy Kz Ez hB k
        have e51 : Az.eval (.tmp 51) = .pointer (some ⟨w.heap.size, 3, none⟩) := Ez.dep 2 51 (by kernel_rfl) rfl
        have q0 := hB.tab.cell 1 3 rfl rfl
        exact wpo_val (v := .int .i64 (l')) (run_load e51 (by simp [go_sem, q0])) (k _ _ rfl (hB.pure 3 _ (by decide) (by decide) (by decide) (Below.refl _ _)))
      | 4, ho =>
        obtain rfl := Option.some.inj ho
        intro Az Lz vz wy Kz Ez hB k
        have e1 : Az.eval (.tmp 1) = .pointer (some ⟨w.heap.size, 0, none⟩) := Ez.out 1 (by kernel_rfl)
        exact wpo_val (v := .pointer (some ⟨w.heap.size, 1, none⟩)) (run_field e1 (by simp [go_sem])) (k _ _ rfl (hB.pure 4 _ (by decide) (by decide) (by decide) (Below.refl _ _)))
      | 5, ho =>
        obtain rfl := Option.some.inj ho
        intro Az Lz vz wy Kz Ez hB k
        have e53 : Az.eval (.tmp 53) = .pointer (some ⟨w.heap.size, 1, none⟩) := Ez.dep 4 53 (by kernel_rfl) rfl
        have q0 := hB.tab.cell 1 1 rfl rfl
        exact wpo_val (v := .int .i64 (v')) (run_load e53 (by simp [go_sem, q0])) (k _ _ rfl (hB.pure 5 _ (by decide) (by decide) (by decide) (Below.refl _ _)))
      | 6, ho =>
        obtain rfl := Option.some.inj ho
        intro Az Lz vz wy Kz Ez hB k
        have e1 : Az.eval (.tmp 1) = .pointer (some ⟨w.heap.size, 0, none⟩) := Ez.out 1 (by kernel_rfl)
        exact wpo_val (v := .pointer (some ⟨w.heap.size, 7, none⟩)) (run_field e1 (by simp [go_sem])) (k _ _ rfl (hB.pure 6 _ (by decide) (by decide) (by decide) (Below.refl _ _)))
      | 7, ho =>
        obtain rfl := Option.some.inj ho
        intro Az Lz vz wy Kz Ez hB k
        have e55 : Az.eval (.tmp 55) = .pointer (some ⟨w.heap.size, 7, none⟩) := Ez.dep 6 55 (by kernel_rfl) rfl
        have q0 := hB.tab.cell 1 7 rfl rfl
        exact wpo_val (v := .int .i64 E) (run_load e55 (by simp [go_sem, q0])) (k _ _ rfl (hB.pure 7 _ (by decide) (by decide) (by decide) (Below.refl _ _)))
      | 8, ho =>
        obtain rfl := Option.some.inj ho
        intro Az Lz vz wy Kz Ez hB k
        have e52 : Az.eval (.tmp 52) = .int .i64 (l') := Ez.dep 3 52 (by kernel_rfl) rfl
        have e54 : Az.eval (.tmp 54) = .int .i64 (v') := Ez.dep 5 54 (by kernel_rfl) rfl
        have e56 : Az.eval (.tmp 56) = .int .i64 E := Ez.dep 7 56 (by kernel_rfl) rfl
        exact wpo_val (run_bsl3 e52 e54 e56 (by simp [go_sem])) (k _ _ trivial (hB.build (by decide) (by decide)))
      | 9, ho =>
        obtain rfl := Option.some.inj ho
        intro Az Lz vz wy Kz Ez hB k
        have e57 : Az.eval (.tmp 57) = vz 8 := Ez.dep 8 57 (by kernel_rfl) rfl
        obtain ⟨q, hq, hg⟩ := hB.bs (Ez.had 8 (by kernel_rfl))
        refine wpo_call_p (run_callW (fun _ _ => by kernel_rfl)) (R := fun ez w' => ((S3 l' v' E = true ∧ ez = .returned (.int .i64 (l' + v' + E))) ∨ (S3 l' v' E = false ∧ ez = .panicked (gave 2))) ∧ w' = wy) ?_ ?_
        · simp only [List.map_toArray, List.map_cons, List.map_nil, eval_const, e57, hq]
          exact AD.out q wy hg
        · rintro ez w' ⟨⟨hq, rfl⟩ | ⟨hq, rfl⟩, rfl⟩
          · exact .inl ⟨_, rfl, k _ _ rfl (hB.ok1 _ (by decide) (by decide) hq)⟩
          · exact .inr ⟨_, rfl, Ez.defs, BA.out hq, hB.bel⟩
      | 10, ho =>
        obtain rfl := Option.some.inj ho
        intro Az Lz vz wy Kz Ez hB k
        have e50 : Az.eval (.tmp 50) = .int .i64 A := Ez.dep 1 50 (by kernel_rfl) rfl
        have e58 : Az.eval (.tmp 58) = .int .i64 (l' + v' + E) := Ez.dep 9 58 (by kernel_rfl) rfl
        have h1 := hB.o1 (Ez.had 9 (by kernel_rfl))
        refine wpo_call_p (run_callW (fun _ _ => by kernel_rfl)) (R := fun ez w' => TzR (A - (l' + v' + E)) ez ∧ Below wy.heap.size wy w') ?_ ?_
        · simp only [List.map_toArray, List.map_cons, List.map_nil, eval_const, e50, e58]
          exact SU.out h1 wy
        · rintro ez w' ⟨⟨hq, rfl⟩ | ⟨hq, rfl⟩, hb⟩
          · exact .inl ⟨_, rfl, k _ _ rfl (hB.ok2 _ (by decide) (by decide) hb hq)⟩
          · exact .inr ⟨_, rfl, Ez.defs, BS.out h1 hq, bel_tr0 hB.bel hb⟩
      | 11, ho =>
        obtain rfl := Option.some.inj ho
        intro Az Lz vz wy Kz Ez hB k
        have e59 : Az.eval (.tmp 59) = .int .i64 (A - (l' + v' + E)) := Ez.dep 10 59 (by kernel_rfl) rfl
        exact wpo_val (v := .int .i64 (A - (l' + v' + E))) (run_assign e59) (k _ _ rfl (hB.pure 11 _ (by decide) (by decide) (by decide) (Below.refl _ _)))
      | ne + 12, ho => simp at ho
    have q1 := hB.o1 (hL 9 (by decide))
    have q2 := hB.o2 (hL 10 (by decide))
    have KB := Lib.hid hB.bel
    have KT := Lib.hid hB.tab
    have HO := Lib.hid (HG'.out q1 q2)
    clear hB hL MB BA BS SU AD KT2 KB2 q1 q2
    simp only [puts2, mix, Act.put, List.setIfInBounds_toArray, List.set_cons_zero, List.set_cons_succ, Nat.zero_add, Nat.reduceAdd, List.getElem?_cons_zero, List.getElem?_cons_succ]
    have c1 := KT.out.cell 1 1 rfl rfl
    have c3 := KT.out.cell 1 3 rfl rfl
    have d0 := KT.out.cell 0 0 rfl rfl
    have d1 := KT.out.cell 0 1 rfl rfl
    have d2 := KT.out.cell 0 2 rfl rfl
    have f0 := KT.out.froz 0 0 rfl rfl
    have f1 := KT.out.froz 0 1 rfl rfl
    have f2 := KT.out.froz 0 2 rfl rfl
    have lt := KT.out.lt 0 rfl
    have FIN : Hid (∀ x y z, Below w.heap.size w (((wz.setCell ⟨w.heap.size + 1, 0, none⟩ x).setCell ⟨w.heap.size + 1, 1, none⟩ y).setCell ⟨w.heap.size + 1, 2, none⟩ z)) := Lib.hid (fun x y z => ((KB.out.setCell (by show w.heap.size ≤ w.heap.size + 1; omega) _).setCell (by show w.heap.size ≤ w.heap.size + 1; omega) _).setCell (by show w.heap.size ≤ w.heap.size + 1; omega) _)
    go_wp2_with fail
    refine bodyPost_ret (v := .agg #[.int .i64 v', .int .i64 l', .int .i64 (A - (l' + v' + E))]) (by simp [results, Try.results59, go_sem, d0, d1, d2, lt]) rfl ?_
    exact ⟨by rw [HO.out]; rfl, FIN.out _ _ _⟩
end Go.Proofs.Ytmelbgabiklojaa
