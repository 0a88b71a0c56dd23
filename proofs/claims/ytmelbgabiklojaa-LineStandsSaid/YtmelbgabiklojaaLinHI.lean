/- Package line: where a line's items stand. -/
import Derived.Test.YtmelbgabiklojaaLinBD
import Derived.Test.YtmelbgabiklojaaLinO
import Derived.Test.YtmelbgabiklojaaShareD
import Derived.Test.YtmelbgabiklojaaSums
import Derived.WalkKit
import Derived.WalkSpells
import Derived.WalkLawsBesides
import Derived.Handy
import Derived.Lib.Hide
import Derived.Deep.QuietTactic
import Derived.BigQuiet
import Derived.LoopTactic
import Derived.Outline
import Derived.Deep.DeepCutAuto
import Derived.Deep.CutBlock
namespace Go.Proofs.Ytmelbgabiklojaa
open Go.RowKit Go.Proofs.Reg Go.Proofs.Big Lin
set_option linter.unusedVariables false
set_option linter.unusedSimpArgs false
set_option maxRecDepth 100000
theorem lindent_any (d t : Int) (hd : Ln d) (w : World) :
    Calls Try.prog 40 #[.int .i64 d, .int .i64 t] w fun e w' => e = .returned (.int .i64 (indF d t)) ∧ Below w.heap.size w w' := by
  obtain ⟨d0, d1⟩ := hd
  by_cases h2 : t = 2
  · subst h2
    go_enter Try.func40, Try.ntmps40
    go_wp2_with fail
    go_returns
    exact ⟨rfl, Below.refl _ _⟩
  · have b2 : (t == 2) = false := by simpa using h2
    by_cases h3 : t = 3
    · subst h3
      have P : Hid (∀ w, Calls Try.prog 57 #[.int .i64 d, .int .i64 1, .int .i64 2] w fun e w' => e = .returned (.int .i64 (d / 2)) ∧ Below w.heap.size w w') := Lib.hid (fun w => by
        refine (fpart_any d 1 2 (d / 2) (d % 2) (by omega) (by omega) (by decide) (by decide) (by decide) (by decide) (by decide) (by omega) (by omega) w).mono ?_
        rintro e w' ⟨h, hb⟩
        rw [asLen, if_pos (by omega)] at h
        exact ⟨h, hb⟩)
      go_enter Try.func40, Try.ntmps40
      go_wp2_with fail
      refine (P.out _).mono ?_
      rintro e w1 ⟨rfl, hb⟩
      have K := Lib.hid hb
      clear hb
      go_wp2_with fail
      go_returns
      exact ⟨rfl, K.out⟩
    · have b3 : (t == 3) = false := by simpa using h3
      have e : indF d t = 0 := by unfold indF; rw [if_neg h2, if_neg h3]
      rw [e]
      clear h2 h3 e
      go_enter Try.func40, Try.ntmps40
      go_wp2_with fail
      go_returns
      exact ⟨rfl, Below.refl _ _⟩
theorem own_copy {w : World} {b m n : Nat} {ps : List Int} (h : OwnI w b (List.replicate n 0)) (hp : ps.length = m) (hm : m ≤ n) : OwnI (w.setCells b 0 (ps.map (Value.int .i64))) b (ps ++ List.replicate (n - m) 0) := by
  have g : ∀ (k j : Nat), (List.replicate k (0 : Int)).getD j 0 = 0 := fun k j => by
    rw [List.getD_eq_getElem?_getD, List.getElem?_replicate]
    split <;> rfl
  have hs : ∀ j, j < (ps.map (Value.int .i64)).length → (w.cell? ⟨b, 0 + j, none⟩).isSome = true := fun j hj => by
    rw [List.length_map] at hj
    rw [Nat.zero_add, h.cell j (by rw [List.length_replicate]; omega)]; rfl
  refine ⟨fun j hj => ?_, fun j hj => ?_, ?_⟩
  · rw [List.length_append, List.length_replicate] at hj
    by_cases c1 : j < m
    · have := World.cell?_setCells_in b (ps.map (Value.int .i64)) 0 w hs j (by rw [List.length_map]; omega)
      rw [Nat.zero_add] at this
      rw [this, List.getElem_map, List.getD_eq_getElem?_getD, List.getElem?_append_left (by omega), List.getElem?_eq_getElem (by omega)]
      rfl
    · rw [World.cell?_setCells_out b _ 0 w _ (fun _ _ => by simp; omega), h.cell j (by rw [List.length_replicate]; omega), g, List.getD_eq_getElem?_getD, List.getElem?_append_right (by omega), ← List.getD_eq_getElem?_getD, g]
  · rw [World.frozen?_setCells]
    exact h.froz j (by rw [List.length_append, List.length_replicate] at hj; rw [List.length_replicate]; omega)
  · have : ∀ (vs : List Value) (o : Nat) (w : World), (w.setCells b o vs).heap.size = w.heap.size := by
      intro vs
      induction vs with
      | nil => intros; rfl
      | cons v r ih => intro o w; rw [World.setCells, ih]; simp
    rw [this]
    exact h.lt
set_option maxHeartbeats 4000000 in
theorem ljust_any (d : Int) (m : Nat) (hd : Ln d) (hm : m ≤ 1000) (w : World) :
    Calls Try.prog 39 #[.int .i64 d, .int .i64 (m + 1 : Nat)] w fun e w' => (∃ b, e = .returned (.slice (some ⟨b, 0, none⟩) (m + 1) (m + 1)) ∧ w.heap.size ≤ b ∧ OwnI w' b (parts5 d (List.replicate m 1) ++ [0])) ∧ Below w.heap.size w w' := by
  have EV := Lib.hid (seven_any d m)
  have HD := Lib.hid hd
  have hmk := make_ints (m + 1) (by omega)
  have ms : (m : Int) + 1 - 1 = m := by omega
  have ms2 : ((m + 1 : Nat) : Int) = (m : Int) + 1 := by omega
  have ml : (m : Int) ≤ 1000 := by omega
  rw [ms2] at hmk ⊢
  clear hd
  go_enter Try.func39, Try.ntmps39
  go_wp2_with fail
  refine (EV.out _).mono ?_
  rintro e w1 ⟨hb, h⟩
  have H : Hid (∃ b, e = .returned (.tuple #[.slice (some ⟨b, 0, none⟩) m m, .int .i64 0]) ∧ w.heap.size ≤ b ∧ OwnI w1 b (parts5 d (List.replicate m 1))) := Lib.hid (by
    rcases h with ⟨h, _⟩ | ⟨h, _⟩ | ⟨m', e', _, _, b, h1, h2, h3⟩ | ⟨_, _, h, _⟩
    · omega
    · omega
    · obtain rfl : m = m' := by omega
      exact ⟨b, h1, h2, h3⟩
    · exact absurd HD.out h)
  have K1 := Lib.hid hb
  clear h hb
  obtain ⟨b, rfl, hb0, ho⟩ := H.out
  have HO := Lib.hid ho
  have HB0 := Lib.hid hb0
  clear ho hb0 H
  go_wp2_with fail
  refine (fail_ok _).mono ?_
  rintro _ w2 ⟨rfl, hw⟩
  obtain rfl := hw.symm
  clear hw
  have O2 : Hid (OwnI (w1.alloc (.cells (madeCells #[.int .i64 0] (m + 1)) 2)) w1.heap.size (List.replicate (m + 1) 0)) := Lib.hid (OwnI.new w1 (m + 1) 2)
  have S2 := Lib.hid (HO.out.later (bel_newR w1 (.cells (madeCells #[.int .i64 0] (m + 1)) 2)))
  have pl : (parts5 d (List.replicate m 1)).length = m := by simp [parts5]
  have PL := Lib.hid pl
  have cp : ∀ ty, (Builtin.copy_ #[37, 37] ty #[.slice (some ⟨w1.heap.size, 0, none⟩) (m + 1) (m + 1), .slice (some ⟨b, 0, none⟩) m m]).run Try.prog (w1.alloc (.cells (madeCells #[.int .i64 0] (m + 1)) 2)) = .ok (.int .i64 (m : Int)) ((w1.alloc (.cells (madeCells #[.int .i64 0] (m + 1)) 2)).setCells w1.heap.size 0 ((parts5 d (List.replicate m 1)).map (Value.int .i64))) := fun ty => by
    have := run_copy_cells (P := Try.prog) (w1.alloc (.cells (madeCells #[.int .i64 0] (m + 1)) 2)) 37 37 ty 2 w1.heap.size 0 (m + 1) (m + 1) ⟨b, 0, none⟩ m m ((parts5 d (List.replicate m 1)).map (Value.int .i64)) Try.underlying37 size_i64
      (by rw [List.length_map, PL.out]; show m = min m (m + 1); omega)
      (fun j v hj => by
        have lt := (List.getElem?_eq_some_iff.1 hj).1
        rw [List.length_map] at lt
        rw [kadd_none', Nat.zero_add, S2.out.cell j lt]
        rw [List.getElem?_map, List.getElem?_eq_getElem lt] at hj
        rw [List.getD_eq_getElem?_getD, List.getElem?_eq_getElem lt]
        exact hj)
      (fun j hj => by
        rw [List.length_map, PL.out] at hj
        rw [Nat.zero_add, O2.out.cell j (by rw [List.length_replicate]; omega)]; rfl)
      (fun j hj => by
        rw [List.length_map, PL.out] at hj
        rw [Nat.zero_add]; exact O2.out.froz j (by rw [List.length_replicate]; omega))
      (fun v hv => by obtain ⟨_, _, rfl⟩ := List.mem_map.1 hv; rfl)
    rw [List.length_map, PL.out] at this
    exact this
  have FIN : Hid (OwnI ((w1.alloc (.cells (madeCells #[.int .i64 0] (m + 1)) 2)).setCells w1.heap.size 0 ((parts5 d (List.replicate m 1)).map (Value.int .i64))) w1.heap.size (parts5 d (List.replicate m 1) ++ [0]) ∧ Below w.heap.size w ((w1.alloc (.cells (madeCells #[.int .i64 0] (m + 1)) 2)).setCells w1.heap.size 0 ((parts5 d (List.replicate m 1)).map (Value.int .i64)))) := Lib.hid ⟨by
    have := own_copy O2.out pl (by omega)
    rwa [show m + 1 - m = 1 by omega] at this, Below.setCells (bel_tr0 K1.out (bel_newR _ _)) K1.out.size _ _⟩
  have hsz := K1.out.size
  clear pl O2 S2
  go_wp2_with fail
  go_returns
  exact ⟨⟨_, rfl, hsz, FIN.out.1⟩, FIN.out.2⟩
end Go.Proofs.Ytmelbgabiklojaa
/- Package line: Offsets. Made by gen/lini.py. -/
namespace Go.Proofs.Ytmelbgabiklojaa
open Go.RowKit Go.Proofs.Reg Go.Proofs.Big Lin
set_option linter.unusedVariables false
set_option linter.unusedSimpArgs false
set_option maxRecDepth 100000
theorem fadd4 (x y z u : Int) (o : Option Int) (hx : Ln x) (hy : In64 y) (hz : In64 z) (hu : In64 u) (ho : adds x [y, z, u] = o) (g : Nat) (w : World) (hg : w.heap[g]? = some (.cells #[.int .i64 x, .int .i64 y, .int .i64 z, .int .i64 u] 2 (0, 0))) :
    Calls Try.prog 41 #[.slice (some ⟨g, 0, none⟩) 4 4] w fun e w' => Told o e ∧ w' = w := by
  obtain ⟨x0, x1⟩ := hx
  refine fadd_any _ 4 4 [x, y, z, u] o w ⟨rfl, by decide, fun _ => ⟨_, rfl, fun k hk => ?_⟩⟩ (Lib.hid (fun v hv => ?_)) (Lib.hid (by rw [addAll_adds, adds_yes (by rw [Int.zero_add]; exact ⟨x0, x1⟩), Int.zero_add]; exact ho))
  · rw [kadd_none', Nat.zero_add]
    have : k = 0 ∨ k = 1 ∨ k = 2 ∨ k = 3 := by omega
    rcases this with rfl | rfl | rfl | rfl <;> simp [World.cell?, hg]
  · simp at hv
    rcases hv with rfl | rfl | rfl | rfl
    · omega
    · exact hy
    · exact hz
    · exact hu
/-- the offsets so far -/
def osA (done : List Int) (at_ : Int) (k : Nat) : List Int := done ++ at_ :: List.replicate k 0
theorem osA_get (done : List Int) (at_ : Int) (k : Nat) : (osA done at_ k).getD done.length 0 = at_ := by
  unfold osA
  rw [List.getD_eq_getElem?_getD, List.getElem?_append_right (Nat.le_refl _), Nat.sub_self]; rfl
theorem osA_len (done : List Int) (at_ : Int) (k : Nat) : (osA done at_ k).length = done.length + k + 1 := by
  unfold osA
  rw [List.length_append, List.length_cons, List.length_replicate]; omega
theorem osA_set (done : List Int) (at_ a2 : Int) (k : Nat) : (osA done at_ (k + 1)).set (done.length + 1) a2 = osA (done ++ [at_]) a2 k := by
  unfold osA
  rw [List.set_append_right _ _ (by omega), show done.length + 1 - done.length = 0 + 1 by omega, List.set_cons_succ, List.replicate_succ, List.set_cons_zero, List.append_assoc]
  rfl
/-- what the region keeps that finds the next offset -/
structure OsB (w : World) (b bg b14 i : Nat) (done : List Int) (at_ : Int) (m : Nat) (x1 x2 x3 : Int) (bb : Bool) (gi : Int) (gs : List Int) (a2 : Int) (L : Nat → Bool) (vz : Nat → Value) (wy : World) : Prop where
  bel : Below w.heap.size w wy
  wb : w.heap.size ≤ b
  ne1 : b14 ≠ b
  ne2 : bg ≠ b
  own0 : L 18 = false → OwnI wy b (osA done at_ (m - i))
  own1 : L 18 = true → OwnI wy b ((osA done at_ (m - i)).set (i + 1) a2)
  src : Tab wy [(b14, [.int .i64 x1, .int .i64 x2, .int .i64 x3, .bool bb])]
  gap : OwnI wy bg gs
  bs : L 15 = true → L 18 = false → ∃ g, vz 15 = .slice (some ⟨g, 0, none⟩) 4 4 ∧ wy.heap[g]? = some (.cells #[.int .i64 at_, .int .i64 x1, .int .i64 x2, .int .i64 gi] 2 (0, 0))
theorem no_add {L : Nat → Bool} {j i : Nat} (h : L j = false) (ne : j ≠ i) : addL L i j = false := by simp [addL, ne, h]
section
variable {w : World} {b bg b14 i : Nat} {done : List Int} {at_ : Int} {m : Nat} {x1 x2 x3 : Int} {bb : Bool} {gi : Int} {gs : List Int} {a2 : Int} {L : Nat → Bool} {vz : Nat → Value} {wy w' : World}
theorem OsB.at (h : OsB w b bg b14 i done at_ m x1 x2 x3 bb gi gs a2 L vz wy) (z : L 18 = false) (hi : done.length = i) : wy.cell? ⟨b, i, none⟩ = some (.int .i64 at_) := by
  have := (h.own0 z).cell i (by rw [osA_len]; omega)
  rw [← hi, osA_get] at this
  rw [← hi]; exact this
theorem OsB.gp (h : OsB w b bg b14 i done at_ m x1 x2 x3 bb gi gs a2 L vz wy) (hg : i < gs.length ∧ gs.getD i 0 = gi) : wy.cell? ⟨bg, i, none⟩ = some (.int .i64 gi) := by
  have := h.gap.cell i hg.1
  rw [hg.2] at this; exact this
theorem OsB.st (h : OsB w b bg b14 i done at_ m x1 x2 x3 bb gi gs a2 L vz wy) (z : L 18 = false) (hl : done.length = i ∧ i < m) : wy.cell? ⟨b, i + 1, none⟩ = some (.int .i64 ((osA done at_ (m - i)).getD (i + 1) 0)) ∧ wy.frozen? ⟨b, i + 1, none⟩ = false :=
  ⟨(h.own0 z).cell (i + 1) (by rw [osA_len]; omega), (h.own0 z).froz (i + 1) (by rw [osA_len]; omega)⟩
theorem OsB.pure (h : OsB w b bg b14 i done at_ m x1 x2 x3 bb gi gs a2 L vz wy) (j : Nat) (v : Value) (n15 : 15 ≠ j) (n18 : 18 ≠ j) (hb : Below wy.heap.size wy w') : OsB w b bg b14 i done at_ m x1 x2 x3 bb gi gs a2 (addL L j) (upd vz j v) w' := by
  have a15 : addL L j 15 = L 15 := by simp [addL, n15]
  have a18 : addL L j 18 = L 18 := by simp [addL, n18]
  have u15 : upd vz j v 15 = vz 15 := by simp [upd, n15]
  refine ⟨bel_tr0 h.bel hb, h.wb, h.ne1, h.ne2, fun q => (h.own0 (a18 ▸ q)).later hb, fun q => (h.own1 (a18 ▸ q)).later hb, h.src.later hb, h.gap.later hb, fun q r => ?_⟩
  obtain ⟨g, e, hg⟩ := h.bs (a15 ▸ q) (a18 ▸ r)
  exact ⟨g, u15.trans e, (hb.block g (Array.getElem?_eq_some_iff.1 hg).1).trans hg⟩
theorem OsB.build (h : OsB w b bg b14 i done at_ m x1 x2 x3 bb gi gs a2 L vz wy) (z : L 18 = false) : OsB w b bg b14 i done at_ m x1 x2 x3 bb gi gs a2 (addL L 15) (upd vz 15 (.slice (some ⟨wy.heap.size, 0, none⟩) 4 4)) (wy.alloc (.cells #[.int .i64 at_, .int .i64 x1, .int .i64 x2, .int .i64 gi] 2)) := by
  have hb := bel_newR wy (.cells #[.int .i64 at_, .int .i64 x1, .int .i64 x2, .int .i64 gi] 2)
  have a18 : addL L 15 18 = L 18 := by simp [addL]
  exact ⟨bel_tr0 h.bel hb, h.wb, h.ne1, h.ne2, fun q => (h.own0 (a18 ▸ q)).later hb, fun q => (h.own1 (a18 ▸ q)).later hb, h.src.later hb, h.gap.later hb, fun _ _ => ⟨wy.heap.size, by simp [upd], heap_alloc_new _ _⟩⟩
theorem ownI_aside (h : OwnI wy bg gs) (ne : bg ≠ b) (j : Nat) (v : Value) : OwnI (wy.setCell ⟨b, j, none⟩ v) bg gs :=
  ⟨fun k hk => by rw [World.cell?_setCell_other (h := fun x => by injection x with x _; exact ne x.symm)]; exact h.cell k hk, fun k hk => by rw [World.frozen?_setCell]; exact h.froz k hk, by simpa [World.setCell] using h.lt⟩
theorem OsB.put (h : OsB w b bg b14 i done at_ m x1 x2 x3 bb gi gs a2 L vz wy) (z : L 18 = false) (hl : done.length = i ∧ i < m) {v : Value} : OsB w b bg b14 i done at_ m x1 x2 x3 bb gi gs a2 (addL L 18) (upd vz 18 v) (wy.setCell ⟨b, i + 1, none⟩ (.int .i64 a2)) := by
  refine ⟨h.bel.setCell h.wb _, h.wb, h.ne1, h.ne2, fun q => ?_, fun _ => (h.own0 z).set (i + 1) a2 (by rw [osA_len]; omega), ?_, ownI_aside h.gap h.ne2 _ _, fun _ q => ?_⟩
  · simp [addL] at q
  · intro k b' vs hk i' v' hv'
    match k, hk with
    | 0, hk =>
      simp at hk
      obtain ⟨rfl, rfl⟩ := hk
      obtain ⟨p0, p1⟩ := h.src 0 _ _ rfl i' v' hv'
      exact ⟨by rw [World.cell?_setCell_other (h := fun x => by injection x with x _; exact h.ne1 x.symm)]; exact p0, by rw [World.frozen?_setCell]; exact p1⟩
    | k + 1, hk => simp at hk
  · simp [addL] at q
end
section
variable {P : Program} {A : Act} {w w' : World} {x : Option Tmp} {ty : TypeId} {ps : String} {af : Array Edge} {gd : Option (Nat × Bool)} {p q r s : Operand} {u v c d e : Value} {t t' : TypeId} {ts : Array TypeId}
theorem run_bsl4 (e1 : A.eval p = u) (e2 : A.eval q = c) (e3 : A.eval r = d) (e4 : A.eval s = e) (h : (Instr.buildSlice t 4 #[(0, u), (1, c), (2, d), (3, e)]).run P w = .ok v w') : (execOp A.eval ⟨x, .buildSlice t 4 #[(0, p), (1, q), (2, r), (3, s)], ty, ps, af, gd⟩).run P w = .ok (.value v) w' := by
  simp only [execOp, List.map_toArray, List.map_cons, List.map_nil, e1, e2, e3, e4]; exact run_then h
end
/-- the gaps of a line -/
def gapsF (d : Int) (m : Nat) (j : Bool) : List Int := if j then parts5 d (List.replicate m 1) ++ [0] else List.replicate (m + 1) 0
theorem gapsF_len (d : Int) (m : Nat) (j : Bool) : (gapsF d m j).length = m + 1 := by unfold gapsF; cases j <;> simp [parts5]
theorem parts_rng {T : Int} {xs : List Int} (ht : Ln T) (hx : ∀ x ∈ xs, 0 ≤ x) : ∀ p ∈ parts5 T xs, In64 p := by
  intro p hp
  obtain ⟨k, _, rfl⟩ := List.mem_map.1 hp
  unfold part5
  by_cases z : xs.sum = 0
  · rw [if_pos z]; exact ⟨by decide, by decide⟩
  · rw [if_neg z]
    have s0 := sum_nonneg hx
    have h1 := bnd_range hx (by omega) ht.1 ht.2 (k + 1)
    have h2 := bnd_range hx (by omega) ht.1 ht.2 k
    exact ⟨by omega, by omega⟩
theorem gapsF_rng {d : Int} {m : Nat} {j : Bool} (hd : Ln d) : ∀ x ∈ gapsF d m j, In64 x := by
  intro x hx
  unfold gapsF at hx
  cases j
  · have := List.eq_of_mem_replicate hx
    subst this; exact ⟨by decide, by decide⟩
  · simp only [if_true, List.mem_append, List.mem_singleton] at hx
    rcases hx with hx | rfl
    · exact parts_rng hd (fun y hy => by rw [List.eq_of_mem_replicate hy]; decide) x hx
    · exact ⟨by decide, by decide⟩
/-- what Offsets answers for a line -/
def OfR (B : Nat) (m : Nat) (o : Option (List Int)) (e : Ending) (w' : World) : Prop := match o with
  | some os => ∃ b, e = .returned (.slice (some ⟨b, 0, none⟩) (m + 1) (m + 1)) ∧ B ≤ b ∧ os.length = m + 1 ∧ OwnI w' b os
  | none => e = .panicked (gave 2)
theorem loffs_bad (a : Option Addr) (n c : Nat) (F T W H avail text : Int) (hn : n ≤ 1000000) (hb : F < 0 ∨ (n : Int) < T ∨ T ≤ F) (w : World) :
    Calls Try.prog 20 #[.slice a n c, .agg #[.int .i64 F, .int .i64 T, .int .i64 W, .int .i64 H], .int .i64 avail, .int .i64 text] w fun e w' => e = .returned (.slice none 0 0) ∧ Below w.heap.size w w' := by
  have q : F < 0 ∨ (¬ F < 0 ∧ (n : Int) < T) ∨ (¬ F < 0 ∧ ¬ (n : Int) < T ∧ T ≤ F) := by omega
  rcases q with q1 | ⟨q1, q2⟩ | ⟨q1, q2, q3⟩
  all_goals
    clear hb
    go_enter Try.func20, Try.ntmps20
    go_wp2_with fail
    go_returns
    exact ⟨rfl, by go_grown⟩
set_option maxHeartbeats 16000000 in
theorem loffs_any (a : Option Addr) (n c : Nat) (l : List I4) (f m : Nat) (W H avail text d er : Int) (j : Bool) (hm : f + m + 1 ≤ n) (hl : n ≤ 1000) (hW : In64 W) (hA : In64 avail) (hT : Tl (avail - W) d er) (hj : j = (text == 4 && decide (0 < d) && decide (f + m + 1 < n))) (hi : ∀ r ∈ l, InI r) (w : World) (h : KS IK w (.slice a n c) l) :
    Calls Try.prog 20 #[.slice a n c, .agg #[.int .i64 f, .int .i64 (f + m + 1 : Nat), .int .i64 W, .int .i64 H], .int .i64 avail, .int .i64 text] w fun e w' => (if er = 0 then OfR w.heap.size m (offs l f (gapsF d m j) m 0 (indF d text)) e w' else e = .panicked (gave er)) ∧ Below w.heap.size w w' := by
  obtain ⟨hn, hc, hmx⟩ := h.len
  have HK := Lib.hid h
  have HN := Lib.hid hn
  have HI := Lib.hid hi
  obtain ⟨g, o, _, _, _, _, rfl, _, _, _, _, _, _⟩ := IK.at h (show f < n by omega)
  have FS := Lib.hid (fsub_ends avail W d er hA.1 hA.2 hW.1 hW.2 hT)
  have HT := Lib.hid hT
  obtain ⟨T, hTT⟩ : ∃ T : Int, ((f + m + 1 : Nat) : Int) = T := ⟨_, rfl⟩
  have t0 : ¬ (f : Int) < 0 := by omega
  have t1 : ¬ (n : Int) < T := by omega
  have t2 : ¬ T ≤ (f : Int) := by omega
  have sl : ∀ wy : World, (Instr.sliceAt 25 (.slice (some ⟨g, o, none⟩) n c) (some (.int .i64 f)) (some (.int .i64 T)) none).run Try.prog wy = .ok (.slice (some ⟨g, o + f * 4, none⟩) (m + 1) (c - f)) wy := fun wy => by
    have k0 : (0 : Int) ≤ (f : Int) := by omega
    have k1 : (f : Int) ≤ T := by omega
    have k2 : T ≤ (c : Int) := by omega
    have k3 : 0 ≤ T := by omega
    have k4 : ¬ c = f := by omega
    have k5 : ¬ f = c := by omega
    have k6 : T.toNat = f + m + 1 := by omega
    have k7 : f + m + 1 - f = m + 1 := by omega
    have k8 : f ≤ f + m + 1 := by omega
    simp [go_sem, k0, k1, k2, k3, k4, k5, k6, k7, k8, Addr.add]
    try omega
  have sl2 : ∀ wy : World, (Instr.sliceAt 25 (.slice (some ⟨g, o + f * 4, none⟩) (m + 1) (c - f)) none (some (.int .i64 m)) none).run Try.prog wy = .ok (.slice (some ⟨g, o + f * 4, none⟩) m (c - f)) wy := fun wy => by
    have k0 : (0 : Int) ≤ (m : Int) := by omega
    have k1 : (m : Int) ≤ ((c - f : Nat) : Int) := by omega
    have k2 : m ≤ c - f := by omega
    simp [go_sem, k0, k1, k2, Addr.add]
    try omega
  have hmk := make_ints (m + 1) (by omega)
  have hmm : ((m + 1 : Nat) : Int) = (m : Int) + 1 := by omega
  rw [hmm] at hmk
  have ml : (m : Int) ≤ 1000 := by omega
  have LI := Lib.hid (fun hd w => lindent_any d text hd w)
  have LJ := Lib.hid (fun hd w => ljust_any d m hd (by omega) w)
  rw [hmm] at LJ
  have HTT := Lib.hid hTT
  rw [hTT]
  have HJ := Lib.hid hj
  clear h hi hn hTT hT hj hmm hW hA
  by_cases hz : er = 0
  case neg =>
    simp only [if_neg hz]
    go_enter Try.func20, Try.ntmps20
    go_wp2_with fail
    refine (FS.out _).mono ?_
    rintro e w1 ⟨he, hb⟩
    have K1 : Hid (Below w.heap.size w w1) := Lib.hid (bel_tr0 (bel_newR _ _) hb)
    rcases he with ⟨h0, _⟩ | ⟨_, _, rfl⟩
    · exact absurd h0 hz
    · exact ⟨rfl, rfl, K1.out⟩
  case pos =>
    subst hz
    simp only [↓reduceIte]
    have LD : Hid (Ln d) := Lib.hid (by
      rcases HT.out with ⟨h, rfl, _⟩ | ⟨_, _, h⟩
      · exact lenB_true h
      · cases h)
    obtain ⟨R, hR⟩ : ∃ R, offs l f (gapsF d m j) m 0 (indF d text) = R := ⟨_, rfl⟩
    have HR := Lib.hid hR
    simp only [hR]
    clear hR
    go_enter Try.func20, Try.ntmps20
    go_wp2_with fail
    refine (FS.out _).mono ?_
    rintro e w1 ⟨he, hb⟩
    have K1 : Hid (Below w.heap.size w w1) := Lib.hid (bel_tr0 (bel_newR _ _) hb)
    have T1 : Hid (Tab w1 [(w.heap.size, [.int .i64 f, .int .i64 T, .int .i64 W, .int .i64 H])]) := Lib.hid (((Tab.nil w).new' _ _ rfl).later hb)
    clear hb
    obtain rfl : e = .returned (.int .i64 d) := by
      rcases he with ⟨_, h⟩ | ⟨h, _⟩
      · exact h
      · exact absurd rfl h
    clear he
    have c1 := T1.out.cell 0 1 rfl rfl
    obtain ⟨ld0, ld1⟩ := LD.out
    have lw1 : w.heap.size < w1.heap.size := T1.out.lt 0 rfl
    go_upto_region 6 with fail
    obtain ⟨bz, hbz⟩ : ∃ bz, w1.heap.size = bz := ⟨_, rfl⟩
    obtain ⟨w2, hw2⟩ : ∃ w2, w1.alloc (.cells (madeCells #[.int .i64 0] (m + 1)) 2) = w2 := ⟨_, rfl⟩
    have OZ : Hid (OwnI w2 bz (List.replicate (m + 1) 0)) := Lib.hid (by rw [← hw2, ← hbz]; exact OwnI.new w1 (m + 1) 2)
    have K2 : Hid (Below w.heap.size w w2) := Lib.hid (by rw [← hw2]; exact bel_tr0 K1.out (bel_newR _ _))
    have T2 : Hid (Tab w2 [(w.heap.size, [.int .i64 f, .int .i64 T, .int .i64 W, .int .i64 H])]) := Lib.hid (by rw [← hw2]; exact T1.out.later (bel_newR _ _))
    rw [hw2, hbz]
    have lbz : w.heap.size ≤ bz := by omega
    clear hw2 hbz c1 T1 K1 lw1 hmk sl
    go_cut [57] (fun s57 wx => s57 = .bool j ∧ wx = w2)
    case first =>
      have c1 := T2.out.cell 0 1 rfl rfl
      by_cases a1 : text = 4
      · subst a1
        by_cases a2 : 0 < d
        · by_cases a3 : T < (n : Int)
          · obtain rfl : j = true := by rw [HJ.out]; simp [a2]; have := HTT.out; omega
            go_wp2_with fail
            go_meet
            exact ⟨rfl, rfl⟩
          · obtain rfl : j = false := by rw [HJ.out]; simp; intro _; have := HTT.out; omega
            go_wp2_with fail
            go_meet
            exact ⟨rfl, rfl⟩
        · obtain rfl : j = false := by rw [HJ.out]; simp [a2]
          go_wp2_with fail
          go_meet
          exact ⟨rfl, rfl⟩
      · have b1 : (text == 4) = false := by simpa using a1
        obtain rfl : j = false := by rw [HJ.out, b1]; rfl
        clear a1
        go_wp2_with fail
        go_meet
        exact ⟨rfl, rfl⟩
    case rest =>
      obtain ⟨rfl, rfl⟩ := hcut
      go_upto_if 57 with fail
      go_cut [11] (fun s11 wx => ∃ (bg : Nat) (wq : World), wq = wx ∧ s11 = .slice (some ⟨bg, 0, none⟩) (m + 1) (m + 1) ∧ w.heap.size ≤ bg ∧ Hid (OwnI wx bg (gapsF d m j)) ∧ Hid (Below w.heap.size w wx))
      case first =>
        cases j
        · go_wp2_with fail
          go_meet
          exact ⟨bz, _, rfl, rfl, lbz, Lib.hid (by unfold gapsF; exact OZ.out), K2⟩
        · go_wp2_with fail
          refine (LJ.out LD.out _).mono ?_
          rintro e w3 ⟨⟨b3, rfl, hb3, ho3⟩, hb⟩
          have O3 : Hid (OwnI w3 b3 (gapsF d m true)) := Lib.hid (by unfold gapsF; exact ho3)
          have K3 := Lib.hid (bel_tr0 K2.out hb)
          have lb3 : w.heap.size ≤ b3 := by have := K2.out.size; omega
          clear ho3 hb
          go_wp2_with fail
          go_meet
          exact ⟨b3, _, rfl, rfl, lb3, O3, K3⟩
      case rest =>
        obtain ⟨bg, wq, rfl, rfl, lbg, OG, K3⟩ := hcut
        clear OZ T2 K2
        have hmk := make_ints (m + 1) (by omega)
        rw [show ((m + 1 : Nat) : Int) = (m : Int) + 1 by omega] at hmk
        obtain ⟨gs, hgs⟩ : ∃ gs, gapsF d m j = gs := ⟨_, rfl⟩
        have GL : Hid (gs.length = m + 1) := Lib.hid (by rw [← hgs]; exact gapsF_len d m j)
        have GI64 : Hid (∀ x ∈ gs, In64 x) := Lib.hid (by rw [← hgs]; exact gapsF_rng LD.out)
        rw [hgs] at OG HR
        clear hgs LJ
        go_wp2_with fail
        refine (LI.out LD.out _).mono ?_
        rintro e w5 ⟨rfl, hb⟩
        obtain ⟨b, hbq⟩ : ∃ b, wq.heap.size = b := ⟨_, rfl⟩
        have O5 : Hid (OwnI w5 b (List.replicate (m + 1) 0)) := Lib.hid (by rw [← hbq]; exact (OwnI.new wq (m + 1) 2).later hb)
        have G5 : Hid (OwnI w5 bg gs) := Lib.hid ((OG.out.later (bel_newR _ _)).later hb)
        have K5 : Hid (Below w.heap.size w w5) := Lib.hid (bel_tr0 (bel_tr0 K3.out (bel_newR _ _)) hb)
        have lbw : w.heap.size ≤ b := by rw [← hbq]; exact K3.out.size
        have nbg : bg ≠ b := by have := OG.out.lt; omega
        rw [hbq]
        clear hb hbq OG K3 LI hmk
        obtain ⟨x0, hx0⟩ : ∃ x0, indF d text = x0 := ⟨_, rfl⟩
        have LX : Hid (Ln x0) := Lib.hid (by rw [← hx0]; exact indF_rng LD.out)
        rw [hx0] at HR ⊢
        clear hx0
        have ixo : ∀ (k : Nat), k < m + 1 → ∀ wy : World, (Instr.indexAt 37 (.slice (some ⟨b, 0, none⟩) (m + 1) (m + 1)) (.int .i64 k)).run Try.prog wy = .ok (.pointer (some ⟨b, k, none⟩)) wy := fun k hk wy => by
          have k0 : (0 : Int) ≤ (k : Int) := by omega
          have k1 : (k : Int) < (m : Int) + 1 := by omega
          simp [go_sem, k0, k1, Addr.add]
          try omega
        have IXO := Lib.hid ixo
        have ix0 : ∀ wy : World, (Instr.indexAt 37 (.slice (some ⟨b, 0, none⟩) (m + 1) (m + 1)) (.int .i64 0)).run Try.prog wy = .ok (.pointer (some ⟨b, 0, none⟩)) wy := fun wy => IXO.out 0 (by omega) wy
        have IXG : Hid (∀ (k : Nat), k < m + 1 → ∀ wy : World, (Instr.indexAt 37 (.slice (some ⟨bg, 0, none⟩) (m + 1) (m + 1)) (.int .i64 k)).run Try.prog wy = .ok (.pointer (some ⟨bg, k, none⟩)) wy) := Lib.hid (fun k hk wy => by
          have k0 : (0 : Int) ≤ (k : Int) := by omega
          have k1 : (k : Int) < (m : Int) + 1 := by omega
          simp [go_sem, k0, k1, Addr.add]
          try omega)
        clear ixo
        have c0 := O5.out.cell 0 (by simp)
        have f0 := O5.out.froz 0 (by simp)
        rw [show (List.replicate (m + 1) (0 : Int)).getD 0 0 = 0 by simp [List.replicate_succ]] at c0
        have O6 : Hid (OwnI (w5.setCell ⟨b, 0, none⟩ (.int .i64 x0)) b (osA [] x0 (m - 0))) := Lib.hid (by
          have := O5.out.set 0 x0 (by simp)
          rw [List.replicate_succ, List.set_cons_zero] at this
          exact this)
        have G6 : Hid (OwnI (w5.setCell ⟨b, 0, none⟩ (.int .i64 x0)) bg gs) := Lib.hid (ownI_aside G5.out nbg 0 (.int .i64 x0))
        have K6 : Hid (Below w.heap.size w (w5.setCell ⟨b, 0, none⟩ (.int .i64 x0))) := Lib.hid (K5.out.setCell lbw _)
        have ms1 : (m : Int) + 1 - 1 = m := by omega
        go_wp2_with fail
        go_loopw [76] (fun s76 wx => ∃ (i : Nat) (done : List Int) (at_ : Int), s76 = .int .i64 i ∧ i ≤ m ∧ Hid (done.length = i) ∧ Hid (Ln at_) ∧ Hid ((offs l f gs (m - i) i at_).map (fun r => done ++ r) = R) ∧ Hid (OwnI wx b (osA done at_ (m - i))) ∧ Hid (OwnI wx bg gs) ∧ Hid (Below w.heap.size w wx)) (fun s76 _ => m - (intOf s76).toNat)
        case atStart => exact ⟨0, [], x0, rfl, by omega, Lib.hid rfl, LX, Lib.hid (by rw [Nat.sub_zero, HR.out]; cases R <;> rfl), O6, G6, K6⟩
        case round =>
          clear O6 G6 K6 O5 G5 K5 c0 f0 ix0 LX
          obtain ⟨i, done, at_, rfl, hin, DL, LA, ER, HO, HG, HB⟩ := hrel
          by_cases lt : i < m
          · have lt' : (i : Int) < (m : Int) := by omega
            obtain ⟨g', o', x1, x2, x3, bb, e1, hit, _, y0, y1, y2, y3⟩ := IK.at HK.out (show f + i < n by omega)
            simp only [Option.some.injEq, Addr.mk.injEq] at e1
            obtain ⟨rfl, rfl, _⟩ := e1
            have I12 : Hid (In64 x1 ∧ In64 x2) := Lib.hid (by have := inI_itm HI.out (show f + i < l.length by have := HN.out; omega); rw [hit] at this; exact ⟨this.1, this.2.1⟩)
            have I1 := Lib.hid I12.out.1
            have I2 := Lib.hid I12.out.2
            obtain ⟨gi, hgi⟩ : ∃ gi, gs.getD i 0 = gi := ⟨_, rfl⟩
            have GI : Hid (i < gs.length ∧ gs.getD i 0 = gi) := Lib.hid ⟨by rw [GL.out]; omega, hgi⟩
            have IG : Hid (In64 gi) := Lib.hid (by
              rw [← hgi, List.getD_eq_getElem?_getD, List.getElem?_eq_getElem GI.out.1]
              exact GI64.out _ (List.getElem_mem _))
            have AL : Hid (done.length = i ∧ i < m) := Lib.hid ⟨DL.out, lt⟩
            have AT : Hid (done.length = i) := DL
            have mi : m - i = (m - (i + 1)) + 1 := by omega
            have ixg := IXG.out i (by omega)
            have ixo := IXO.out i (by omega)
            have ixp : ∀ wy : World, (Instr.indexAt 37 (.slice (some ⟨b, 0, none⟩) (m + 1) (m + 1)) (.int .i64 ((i : Int) + 1))).run Try.prog wy = .ok (.pointer (some ⟨b, i + 1, none⟩)) wy := fun wy => by
              have := IXO.out (i + 1) (by omega) wy
              rwa [show ((i + 1 : Nat) : Int) = (i : Int) + 1 by omega] at this
            have ix : ∀ wy : World, (Instr.indexAt 25 (.slice (some ⟨g, o + f * 4, none⟩) m (c - f)) (.int .i64 i)).run Try.prog wy = .ok (.pointer (some ⟨g, o + (f + i) * 4, none⟩)) wy := fun wy => by
              have k0 : (0 : Int) ≤ (i : Int) := by omega
              rw [show o + (f + i) * 4 = o + f * 4 + i * 4 by omega]
              simp [go_sem, k0, lt', Addr.add]
              try omega
            have c0 := kcell_on HB.out y0
            have c1 := kcell_on HB.out y1
            have c2 := kcell_on HB.out y2
            have c3 := kcell_on HB.out y3
            obtain ⟨b14, hb14⟩ : ∃ b14, wr.heap.size = b14 := ⟨_, rfl⟩
            have HIT := Lib.hid hit
            have nb : b14 ≠ b := by have := HO.out.lt; omega
            cases had : adds at_ [x1, x2, gi] with
            | none =>
              have AD := Lib.hid had
              have : R = none := by
                rw [← ER.out, mi, offs_none (by rw [HIT.out, GI.out.2]; exact AD.out)]; rfl
              subst this
              have MB : Hid (OsB w b bg b14 i done at_ m x1 x2 x3 bb gi gs 0 (fun _ => false) (fun _ => undef) (wr.alloc (.cells #[.int .i64 x1, .int .i64 x2, .int .i64 x3, .bool bb] 35)).drew) := Lib.hid ⟨(bel_tr0 HB.out (bel_newR _ _)).drew, lbw, nb, nbg, fun _ => (HO.out.later (bel_newR _ _)).later ((Below.refl _ _).drew), fun h => (by cases h), (by rw [← hb14]; exact ((Tab.nil wr).new' _ _ rfl).later ((Below.refl _ _).drew)), (HG.out.later (bel_newR _ _)).later ((Below.refl _ _).drew), fun h => (by cases h)⟩
              clear hit y0 y1 y2 y3 hgi had
              go_wp2_with fail
              try rw [hb14]
              refine wp_region_vals [some (.slice (some ⟨b, 0, none⟩) (m + 1) (m + 1)), some (.int .i64 (i : Int)), some (.int .i64 ((i : Int) + 1)), some (.slice (some ⟨b, 0, none⟩) (m + 1) (m + 1)), some (.int .i64 (i : Int)), some (.pointer (some ⟨b, i, none⟩)), some (.int .i64 at_), some (.pointer (some ⟨b14, 0, none⟩)), some (.int .i64 x1), some (.pointer (some ⟨b14, 1, none⟩)), some (.int .i64 x2), some (.slice (some ⟨bg, 0, none⟩) (m + 1) (m + 1)), some (.int .i64 (i : Int)), some (.pointer (some ⟨bg, i, none⟩)), some (.int .i64 gi), none, some (.int .i64 0), some (.pointer (some ⟨b, i + 1, none⟩)), some (undef)] (fun Lz vz wy => OsB w b bg b14 i done at_ m x1 x2 x3 bb gi gs 0 Lz vz wy ∧ Lz 16 = false)
                [some 81, some 82, some 83, some 84, some 85, some 86, some 87, some 88, some 89, some 90, some 91, some 92, some 93, some 94, some 95, some 96, some 97, some 98, none] (by kernel_rfl) (by kernel_rfl) (by kernel_rfl) (by kernel_rfl) (by kernel_rfl) (by kernel_rfl) ⟨MB.out, rfl⟩ (fun ie oe ho => ?_) (fun Lz vz wz hL hB => ?_)
              · match ie, ho with
                | 0, ho =>
                  obtain rfl := Option.some.inj ho
                  intro Az Lz vz wy Kz Ez hB k
                  have e12 : Az.eval (.tmp 12) = .slice (some ⟨b, 0, none⟩) (m + 1) (m + 1) := Ez.out 12 (by kernel_rfl)
                  exact wpo_val (v := .slice (some ⟨b, 0, none⟩) (m + 1) (m + 1)) (run_move e12) (k _ _ rfl (⟨hB.1.pure 0 _ (by decide) (by decide) (Below.refl _ _), no_add hB.2 (by decide)⟩))
                | 1, ho =>
                  obtain rfl := Option.some.inj ho
                  intro Az Lz vz wy Kz Ez hB k
                  have e13 : Az.eval (.tmp 13) = .int .i64 (i : Int) := Ez.out 13 (by kernel_rfl)
                  exact wpo_val (v := .int .i64 (i : Int)) (run_move e13) (k _ _ rfl (⟨hB.1.pure 1 _ (by decide) (by decide) (Below.refl _ _), no_add hB.2 (by decide)⟩))
                | 2, ho =>
                  obtain rfl := Option.some.inj ho
                  intro Az Lz vz wy Kz Ez hB k
                  have e82 : Az.eval (.tmp 82) = .int .i64 (i : Int) := Ez.dep 1 82 (by kernel_rfl) rfl
                  exact wpo_val (v := .int .i64 ((i : Int) + 1)) (run_bin e82 rfl (by simp [go_sem]) (by simp [go_sem, IntKind.wrap_i64]; try omega)) (k _ _ rfl (⟨hB.1.pure 2 _ (by decide) (by decide) (Below.refl _ _), no_add hB.2 (by decide)⟩))
                | 3, ho =>
                  obtain rfl := Option.some.inj ho
                  intro Az Lz vz wy Kz Ez hB k
                  have e12 : Az.eval (.tmp 12) = .slice (some ⟨b, 0, none⟩) (m + 1) (m + 1) := Ez.out 12 (by kernel_rfl)
                  exact wpo_val (v := .slice (some ⟨b, 0, none⟩) (m + 1) (m + 1)) (run_move e12) (k _ _ rfl (⟨hB.1.pure 3 _ (by decide) (by decide) (Below.refl _ _), no_add hB.2 (by decide)⟩))
                | 4, ho =>
                  obtain rfl := Option.some.inj ho
                  intro Az Lz vz wy Kz Ez hB k
                  have e13 : Az.eval (.tmp 13) = .int .i64 (i : Int) := Ez.out 13 (by kernel_rfl)
                  exact wpo_val (v := .int .i64 (i : Int)) (run_move e13) (k _ _ rfl (⟨hB.1.pure 4 _ (by decide) (by decide) (Below.refl _ _), no_add hB.2 (by decide)⟩))
                | 5, ho =>
                  obtain rfl := Option.some.inj ho
                  intro Az Lz vz wy Kz Ez hB k
                  have e84 : Az.eval (.tmp 84) = .slice (some ⟨b, 0, none⟩) (m + 1) (m + 1) := Ez.dep 3 84 (by kernel_rfl) rfl
                  have e85 : Az.eval (.tmp 85) = .int .i64 (i : Int) := Ez.dep 4 85 (by kernel_rfl) rfl
                  exact wpo_val (v := .pointer (some ⟨b, i, none⟩)) (run_index e84 e85 (ixo wy)) (k _ _ rfl (⟨hB.1.pure 5 _ (by decide) (by decide) (Below.refl _ _), no_add hB.2 (by decide)⟩))
                | 6, ho =>
                  obtain rfl := Option.some.inj ho
                  intro Az Lz vz wy Kz Ez hB k
                  have e86 : Az.eval (.tmp 86) = .pointer (some ⟨b, i, none⟩) := Ez.dep 5 86 (by kernel_rfl) rfl
                  have q0 := OsB.at hB.1 (Ez.late 18 _ rfl (by kernel_rfl)) AT.out
                  exact wpo_val (v := .int .i64 at_) (run_load e86 (by simp [go_sem, q0])) (k _ _ rfl (⟨hB.1.pure 6 _ (by decide) (by decide) (Below.refl _ _), no_add hB.2 (by decide)⟩))
                | 7, ho =>
                  obtain rfl := Option.some.inj ho
                  intro Az Lz vz wy Kz Ez hB k
                  have e14 : Az.eval (.tmp 14) = .pointer (some ⟨b14, 0, none⟩) := Ez.out 14 (by kernel_rfl)
                  exact wpo_val (v := .pointer (some ⟨b14, 0, none⟩)) (run_field e14 (by simp [go_sem])) (k _ _ rfl (⟨hB.1.pure 7 _ (by decide) (by decide) (Below.refl _ _), no_add hB.2 (by decide)⟩))
                | 8, ho =>
                  obtain rfl := Option.some.inj ho
                  intro Az Lz vz wy Kz Ez hB k
                  have e88 : Az.eval (.tmp 88) = .pointer (some ⟨b14, 0, none⟩) := Ez.dep 7 88 (by kernel_rfl) rfl
                  have q0 := hB.1.src.cell 0 0 rfl rfl
                  exact wpo_val (v := .int .i64 x1) (run_load e88 (by simp [go_sem, q0])) (k _ _ rfl (⟨hB.1.pure 8 _ (by decide) (by decide) (Below.refl _ _), no_add hB.2 (by decide)⟩))
                | 9, ho =>
                  obtain rfl := Option.some.inj ho
                  intro Az Lz vz wy Kz Ez hB k
                  have e14 : Az.eval (.tmp 14) = .pointer (some ⟨b14, 0, none⟩) := Ez.out 14 (by kernel_rfl)
                  exact wpo_val (v := .pointer (some ⟨b14, 1, none⟩)) (run_field e14 (by simp [go_sem])) (k _ _ rfl (⟨hB.1.pure 9 _ (by decide) (by decide) (Below.refl _ _), no_add hB.2 (by decide)⟩))
                | 10, ho =>
                  obtain rfl := Option.some.inj ho
                  intro Az Lz vz wy Kz Ez hB k
                  have e90 : Az.eval (.tmp 90) = .pointer (some ⟨b14, 1, none⟩) := Ez.dep 9 90 (by kernel_rfl) rfl
                  have q0 := hB.1.src.cell 0 1 rfl rfl
                  exact wpo_val (v := .int .i64 x2) (run_load e90 (by simp [go_sem, q0])) (k _ _ rfl (⟨hB.1.pure 10 _ (by decide) (by decide) (Below.refl _ _), no_add hB.2 (by decide)⟩))
                | 11, ho =>
                  obtain rfl := Option.some.inj ho
                  intro Az Lz vz wy Kz Ez hB k
                  have e11 : Az.eval (.tmp 11) = .slice (some ⟨bg, 0, none⟩) (m + 1) (m + 1) := Ez.out 11 (by kernel_rfl)
                  exact wpo_val (v := .slice (some ⟨bg, 0, none⟩) (m + 1) (m + 1)) (run_move e11) (k _ _ rfl (⟨hB.1.pure 11 _ (by decide) (by decide) (Below.refl _ _), no_add hB.2 (by decide)⟩))
                | 12, ho =>
                  obtain rfl := Option.some.inj ho
                  intro Az Lz vz wy Kz Ez hB k
                  have e13 : Az.eval (.tmp 13) = .int .i64 (i : Int) := Ez.out 13 (by kernel_rfl)
                  exact wpo_val (v := .int .i64 (i : Int)) (run_move e13) (k _ _ rfl (⟨hB.1.pure 12 _ (by decide) (by decide) (Below.refl _ _), no_add hB.2 (by decide)⟩))
                | 13, ho =>
                  obtain rfl := Option.some.inj ho
                  intro Az Lz vz wy Kz Ez hB k
                  have e92 : Az.eval (.tmp 92) = .slice (some ⟨bg, 0, none⟩) (m + 1) (m + 1) := Ez.dep 11 92 (by kernel_rfl) rfl
                  have e93 : Az.eval (.tmp 93) = .int .i64 (i : Int) := Ez.dep 12 93 (by kernel_rfl) rfl
                  exact wpo_val (v := .pointer (some ⟨bg, i, none⟩)) (run_index e92 e93 (ixg wy)) (k _ _ rfl (⟨hB.1.pure 13 _ (by decide) (by decide) (Below.refl _ _), no_add hB.2 (by decide)⟩))
                | 14, ho =>
                  obtain rfl := Option.some.inj ho
                  intro Az Lz vz wy Kz Ez hB k
                  have e94 : Az.eval (.tmp 94) = .pointer (some ⟨bg, i, none⟩) := Ez.dep 13 94 (by kernel_rfl) rfl
                  have q0 := OsB.gp hB.1 GI.out
                  exact wpo_val (v := .int .i64 gi) (run_load e94 (by simp [go_sem, q0])) (k _ _ rfl (⟨hB.1.pure 14 _ (by decide) (by decide) (Below.refl _ _), no_add hB.2 (by decide)⟩))
                | 15, ho =>
                  obtain rfl := Option.some.inj ho
                  intro Az Lz vz wy Kz Ez hB k
                  have e87 : Az.eval (.tmp 87) = .int .i64 at_ := Ez.dep 6 87 (by kernel_rfl) rfl
                  have e89 : Az.eval (.tmp 89) = .int .i64 x1 := Ez.dep 8 89 (by kernel_rfl) rfl
                  have e91 : Az.eval (.tmp 91) = .int .i64 x2 := Ez.dep 10 91 (by kernel_rfl) rfl
                  have e95 : Az.eval (.tmp 95) = .int .i64 gi := Ez.dep 14 95 (by kernel_rfl) rfl
                  exact wpo_val (run_bsl4 e87 e89 e91 e95 (by simp [go_sem])) (k _ _ trivial ⟨hB.1.build (Ez.late 18 _ rfl (by kernel_rfl)), no_add hB.2 (by decide)⟩)
                | 16, ho =>
                  obtain rfl := Option.some.inj ho
                  intro Az Lz vz wy Kz Ez hB k
                  have e96 : Az.eval (.tmp 96) = vz 15 := Ez.dep 15 96 (by kernel_rfl) rfl
                  obtain ⟨q, hq, hg⟩ := hB.1.bs (Ez.had 15 (by kernel_rfl)) (Ez.late 18 _ rfl (by kernel_rfl))
                  refine wpo_call_p (run_callW (fun _ _ => by kernel_rfl)) (R := fun ez w' => Told none ez ∧ w' = wy) ?_ ?_
                  · simp only [List.map_toArray, List.map_cons, List.map_nil, eval_const, e96, hq]
                    exact fadd4 at_ x1 x2 gi none LA.out I1.out I2.out IG.out (by rw [AD.out]) q wy hg
                  · rintro ez w' ⟨he, rfl⟩
                    exact .inr ⟨_, he, Ez.defs, rfl, hB.1.bel⟩
                | 17, ho =>
                  obtain rfl := Option.some.inj ho
                  intro Az Lz vz wy Kz Ez hB k
                  have e81 : Az.eval (.tmp 81) = .slice (some ⟨b, 0, none⟩) (m + 1) (m + 1) := Ez.dep 0 81 (by kernel_rfl) rfl
                  have e83 : Az.eval (.tmp 83) = .int .i64 ((i : Int) + 1) := Ez.dep 2 83 (by kernel_rfl) rfl
                  exact wpo_val (v := .pointer (some ⟨b, i + 1, none⟩)) (run_index e81 e83 (ixp wy)) (k _ _ rfl (⟨hB.1.pure 17 _ (by decide) (by decide) (Below.refl _ _), no_add hB.2 (by decide)⟩))
                | 18, ho =>
                  obtain rfl := Option.some.inj ho
                  intro Az Lz vz wy Kz Ez hB k
                  have e98 : Az.eval (.tmp 98) = .pointer (some ⟨b, i + 1, none⟩) := Ez.dep 17 98 (by kernel_rfl) rfl
                  have e97 : Az.eval (.tmp 97) = .int .i64 0 := Ez.dep 16 97 (by kernel_rfl) rfl
                  have q := Ez.had 16 (by kernel_rfl)
                  rw [hB.2] at q
                  cases q
                | ne + 19, ho => simp at ho
              have q := hL 16 (by decide)
              rw [hB.2] at q
              cases q
            | some a2 =>
              have AD := Lib.hid had
              have LA2 := Lib.hid (adds_len had LA.out)
              have ER2 : Hid ((offs l f gs (m - (i + 1)) (i + 1) a2).map (fun r => (done ++ [at_]) ++ r) = R) := Lib.hid (by
                rw [← ER.out, mi, offs_some (by rw [HIT.out, GI.out.2]; exact AD.out), Option.map_map]
                congr 1
                funext r
                simp)
              have MB : Hid (OsB w b bg b14 i done at_ m x1 x2 x3 bb gi gs a2 (fun _ => false) (fun _ => undef) (wr.alloc (.cells #[.int .i64 x1, .int .i64 x2, .int .i64 x3, .bool bb] 35)).drew) := Lib.hid ⟨(bel_tr0 HB.out (bel_newR _ _)).drew, lbw, nb, nbg, fun _ => (HO.out.later (bel_newR _ _)).later ((Below.refl _ _).drew), fun h => (by cases h), (by rw [← hb14]; exact ((Tab.nil wr).new' _ _ rfl).later ((Below.refl _ _).drew)), (HG.out.later (bel_newR _ _)).later ((Below.refl _ _).drew), fun h => (by cases h)⟩
              clear hit y0 y1 y2 y3 hgi had
              go_wp2_with fail
              try rw [hb14]
              refine wp_region_vals [some (.slice (some ⟨b, 0, none⟩) (m + 1) (m + 1)), some (.int .i64 (i : Int)), some (.int .i64 ((i : Int) + 1)), some (.slice (some ⟨b, 0, none⟩) (m + 1) (m + 1)), some (.int .i64 (i : Int)), some (.pointer (some ⟨b, i, none⟩)), some (.int .i64 at_), some (.pointer (some ⟨b14, 0, none⟩)), some (.int .i64 x1), some (.pointer (some ⟨b14, 1, none⟩)), some (.int .i64 x2), some (.slice (some ⟨bg, 0, none⟩) (m + 1) (m + 1)), some (.int .i64 (i : Int)), some (.pointer (some ⟨bg, i, none⟩)), some (.int .i64 gi), none, some (.int .i64 a2), some (.pointer (some ⟨b, i + 1, none⟩)), some (undef)] (OsB w b bg b14 i done at_ m x1 x2 x3 bb gi gs a2)
                [some 81, some 82, some 83, some 84, some 85, some 86, some 87, some 88, some 89, some 90, some 91, some 92, some 93, some 94, some 95, some 96, some 97, some 98, none] (by kernel_rfl) (by kernel_rfl) (by kernel_rfl) (by kernel_rfl) (by kernel_rfl) (by kernel_rfl) MB.out (fun ie oe ho => ?_) (fun Lz vz wz hL hB => ?_)
              · match ie, ho with
                | 0, ho =>
                  obtain rfl := Option.some.inj ho
                  intro Az Lz vz wy Kz Ez hB k
                  have e12 : Az.eval (.tmp 12) = .slice (some ⟨b, 0, none⟩) (m + 1) (m + 1) := Ez.out 12 (by kernel_rfl)
                  exact wpo_val (v := .slice (some ⟨b, 0, none⟩) (m + 1) (m + 1)) (run_move e12) (k _ _ rfl (hB.pure 0 _ (by decide) (by decide) (Below.refl _ _)))
                | 1, ho =>
                  obtain rfl := Option.some.inj ho
                  intro Az Lz vz wy Kz Ez hB k
                  have e13 : Az.eval (.tmp 13) = .int .i64 (i : Int) := Ez.out 13 (by kernel_rfl)
                  exact wpo_val (v := .int .i64 (i : Int)) (run_move e13) (k _ _ rfl (hB.pure 1 _ (by decide) (by decide) (Below.refl _ _)))
                | 2, ho =>
                  obtain rfl := Option.some.inj ho
                  intro Az Lz vz wy Kz Ez hB k
                  have e82 : Az.eval (.tmp 82) = .int .i64 (i : Int) := Ez.dep 1 82 (by kernel_rfl) rfl
                  exact wpo_val (v := .int .i64 ((i : Int) + 1)) (run_bin e82 rfl (by simp [go_sem]) (by simp [go_sem, IntKind.wrap_i64]; try omega)) (k _ _ rfl (hB.pure 2 _ (by decide) (by decide) (Below.refl _ _)))
                | 3, ho =>
                  obtain rfl := Option.some.inj ho
                  intro Az Lz vz wy Kz Ez hB k
                  have e12 : Az.eval (.tmp 12) = .slice (some ⟨b, 0, none⟩) (m + 1) (m + 1) := Ez.out 12 (by kernel_rfl)
                  exact wpo_val (v := .slice (some ⟨b, 0, none⟩) (m + 1) (m + 1)) (run_move e12) (k _ _ rfl (hB.pure 3 _ (by decide) (by decide) (Below.refl _ _)))
                | 4, ho =>
                  obtain rfl := Option.some.inj ho
                  intro Az Lz vz wy Kz Ez hB k
                  have e13 : Az.eval (.tmp 13) = .int .i64 (i : Int) := Ez.out 13 (by kernel_rfl)
                  exact wpo_val (v := .int .i64 (i : Int)) (run_move e13) (k _ _ rfl (hB.pure 4 _ (by decide) (by decide) (Below.refl _ _)))
                | 5, ho =>
                  obtain rfl := Option.some.inj ho
                  intro Az Lz vz wy Kz Ez hB k
                  have e84 : Az.eval (.tmp 84) = .slice (some ⟨b, 0, none⟩) (m + 1) (m + 1) := Ez.dep 3 84 (by kernel_rfl) rfl
                  have e85 : Az.eval (.tmp 85) = .int .i64 (i : Int) := Ez.dep 4 85 (by kernel_rfl) rfl
                  exact wpo_val (v := .pointer (some ⟨b, i, none⟩)) (run_index e84 e85 (ixo wy)) (k _ _ rfl (hB.pure 5 _ (by decide) (by decide) (Below.refl _ _)))
                | 6, ho =>
                  obtain rfl := Option.some.inj ho
                  intro Az Lz vz wy Kz Ez hB k
                  have e86 : Az.eval (.tmp 86) = .pointer (some ⟨b, i, none⟩) := Ez.dep 5 86 (by kernel_rfl) rfl
                  have q0 := OsB.at hB (Ez.late 18 _ rfl (by kernel_rfl)) AT.out
                  exact wpo_val (v := .int .i64 at_) (run_load e86 (by simp [go_sem, q0])) (k _ _ rfl (hB.pure 6 _ (by decide) (by decide) (Below.refl _ _)))
                | 7, ho =>
                  obtain rfl := Option.some.inj ho
                  intro Az Lz vz wy Kz Ez hB k
                  have e14 : Az.eval (.tmp 14) = .pointer (some ⟨b14, 0, none⟩) := Ez.out 14 (by kernel_rfl)
                  exact wpo_val (v := .pointer (some ⟨b14, 0, none⟩)) (run_field e14 (by simp [go_sem])) (k _ _ rfl (hB.pure 7 _ (by decide) (by decide) (Below.refl _ _)))
                | 8, ho =>
                  obtain rfl := Option.some.inj ho
                  intro Az Lz vz wy Kz Ez hB k
                  have e88 : Az.eval (.tmp 88) = .pointer (some ⟨b14, 0, none⟩) := Ez.dep 7 88 (by kernel_rfl) rfl
                  have q0 := hB.src.cell 0 0 rfl rfl
                  exact wpo_val (v := .int .i64 x1) (run_load e88 (by simp [go_sem, q0])) (k _ _ rfl (hB.pure 8 _ (by decide) (by decide) (Below.refl _ _)))
                | 9, ho =>
                  obtain rfl := Option.some.inj ho
                  intro Az Lz vz wy Kz Ez hB k
                  have e14 : Az.eval (.tmp 14) = .pointer (some ⟨b14, 0, none⟩) := Ez.out 14 (by kernel_rfl)
                  exact wpo_val (v := .pointer (some ⟨b14, 1, none⟩)) (run_field e14 (by simp [go_sem])) (k _ _ rfl (hB.pure 9 _ (by decide) (by decide) (Below.refl _ _)))
                | 10, ho =>
                  obtain rfl := Option.some.inj ho
                  intro Az Lz vz wy Kz Ez hB k
                  have e90 : Az.eval (.tmp 90) = .pointer (some ⟨b14, 1, none⟩) := Ez.dep 9 90 (by kernel_rfl) rfl
                  have q0 := hB.src.cell 0 1 rfl rfl
                  exact wpo_val (v := .int .i64 x2) (run_load e90 (by simp [go_sem, q0])) (k _ _ rfl (hB.pure 10 _ (by decide) (by decide) (Below.refl _ _)))
                | 11, ho =>
                  obtain rfl := Option.some.inj ho
                  intro Az Lz vz wy Kz Ez hB k
                  have e11 : Az.eval (.tmp 11) = .slice (some ⟨bg, 0, none⟩) (m + 1) (m + 1) := Ez.out 11 (by kernel_rfl)
                  exact wpo_val (v := .slice (some ⟨bg, 0, none⟩) (m + 1) (m + 1)) (run_move e11) (k _ _ rfl (hB.pure 11 _ (by decide) (by decide) (Below.refl _ _)))
                | 12, ho =>
                  obtain rfl := Option.some.inj ho
                  intro Az Lz vz wy Kz Ez hB k
                  have e13 : Az.eval (.tmp 13) = .int .i64 (i : Int) := Ez.out 13 (by kernel_rfl)
                  exact wpo_val (v := .int .i64 (i : Int)) (run_move e13) (k _ _ rfl (hB.pure 12 _ (by decide) (by decide) (Below.refl _ _)))
                | 13, ho =>
                  obtain rfl := Option.some.inj ho
                  intro Az Lz vz wy Kz Ez hB k
                  have e92 : Az.eval (.tmp 92) = .slice (some ⟨bg, 0, none⟩) (m + 1) (m + 1) := Ez.dep 11 92 (by kernel_rfl) rfl
                  have e93 : Az.eval (.tmp 93) = .int .i64 (i : Int) := Ez.dep 12 93 (by kernel_rfl) rfl
                  exact wpo_val (v := .pointer (some ⟨bg, i, none⟩)) (run_index e92 e93 (ixg wy)) (k _ _ rfl (hB.pure 13 _ (by decide) (by decide) (Below.refl _ _)))
                | 14, ho =>
                  obtain rfl := Option.some.inj ho
                  intro Az Lz vz wy Kz Ez hB k
                  have e94 : Az.eval (.tmp 94) = .pointer (some ⟨bg, i, none⟩) := Ez.dep 13 94 (by kernel_rfl) rfl
                  have q0 := OsB.gp hB GI.out
                  exact wpo_val (v := .int .i64 gi) (run_load e94 (by simp [go_sem, q0])) (k _ _ rfl (hB.pure 14 _ (by decide) (by decide) (Below.refl _ _)))
                | 15, ho =>
                  obtain rfl := Option.some.inj ho
                  intro Az Lz vz wy Kz Ez hB k
                  have e87 : Az.eval (.tmp 87) = .int .i64 at_ := Ez.dep 6 87 (by kernel_rfl) rfl
                  have e89 : Az.eval (.tmp 89) = .int .i64 x1 := Ez.dep 8 89 (by kernel_rfl) rfl
                  have e91 : Az.eval (.tmp 91) = .int .i64 x2 := Ez.dep 10 91 (by kernel_rfl) rfl
                  have e95 : Az.eval (.tmp 95) = .int .i64 gi := Ez.dep 14 95 (by kernel_rfl) rfl
                  exact wpo_val (run_bsl4 e87 e89 e91 e95 (by simp [go_sem])) (k _ _ trivial (hB.build (Ez.late 18 _ rfl (by kernel_rfl))))
                | 16, ho =>
                  obtain rfl := Option.some.inj ho
                  intro Az Lz vz wy Kz Ez hB k
                  have e96 : Az.eval (.tmp 96) = vz 15 := Ez.dep 15 96 (by kernel_rfl) rfl
                  obtain ⟨q, hq, hg⟩ := hB.bs (Ez.had 15 (by kernel_rfl)) (Ez.late 18 _ rfl (by kernel_rfl))
                  refine wpo_call (run_callW (fun _ _ => by kernel_rfl)) (R := fun ez w' => Told (some a2) ez ∧ w' = wy) ?_ ?_
                  · simp only [List.map_toArray, List.map_cons, List.map_nil, eval_const, e96, hq]
                    exact fadd4 at_ x1 x2 gi (some a2) LA.out I1.out I2.out IG.out (by rw [AD.out]) q wy hg
                  · rintro ez w' ⟨he, rfl⟩
                    exact ⟨_, he, k _ _ rfl (hB.pure 16 _ (by decide) (by decide) (Below.refl _ _))⟩
                | 17, ho =>
                  obtain rfl := Option.some.inj ho
                  intro Az Lz vz wy Kz Ez hB k
                  have e81 : Az.eval (.tmp 81) = .slice (some ⟨b, 0, none⟩) (m + 1) (m + 1) := Ez.dep 0 81 (by kernel_rfl) rfl
                  have e83 : Az.eval (.tmp 83) = .int .i64 ((i : Int) + 1) := Ez.dep 2 83 (by kernel_rfl) rfl
                  exact wpo_val (v := .pointer (some ⟨b, i + 1, none⟩)) (run_index e81 e83 (ixp wy)) (k _ _ rfl (hB.pure 17 _ (by decide) (by decide) (Below.refl _ _)))
                | 18, ho =>
                  obtain rfl := Option.some.inj ho
                  intro Az Lz vz wy Kz Ez hB k
                  have e98 : Az.eval (.tmp 98) = .pointer (some ⟨b, i + 1, none⟩) := Ez.dep 17 98 (by kernel_rfl) rfl
                  have e97 : Az.eval (.tmp 97) = .int .i64 a2 := Ez.dep 16 97 (by kernel_rfl) rfl
                  obtain ⟨c0, f0⟩ := OsB.st hB Ez.not AL.out
                  exact wpo_skip (run_store e98 e97 (by simp [go_sem, c0, f0])) (k _ _ rfl (hB.put Ez.not AL.out))
                | ne + 19, ho => simp at ho
              have DL2 : Hid ((done ++ [at_]).length = i + 1) := Lib.hid (by rw [List.length_append, DL.out]; rfl)
              have O7 : Hid (OwnI wz b (osA (done ++ [at_]) a2 (m - (i + 1)))) := Lib.hid (by
                have := hB.own1 (hL 18 (by decide))
                rw [mi, ← DL.out, osA_set, DL.out] at this
                exact this)
              have G7 := Lib.hid hB.gap
              have K7 := Lib.hid hB.bel
              simp only [puts2, mix, Act.put, List.setIfInBounds_toArray, List.set_cons_zero, List.set_cons_succ, Nat.zero_add, Nat.reduceAdd, List.getElem?_cons_zero, List.getElem?_cons_succ]
              clear hL hB MB c0 c1 c2 c3 ix ixg ixo ixp HO HG HB
              go_wp2_with fail
              go_roundw
              case rel => exact ⟨i + 1, done ++ [at_], a2, by simp, by omega, DL2, LA2, ER2, O7, G7, K7⟩
              case measure => simp [intOf]; omega
          · obtain rfl : i = m := by omega
            have : R = some (done ++ [at_]) := by rw [← ER.out, Nat.sub_self]; rfl
            subst this
            have FIN : Hid (OwnI wr b (done ++ [at_])) := Lib.hid (by have := HO.out; rw [Nat.sub_self] at this; exact this)
            have DL2 : Hid ((done ++ [at_]).length = i + 1) := Lib.hid (by rw [List.length_append, DL.out]; rfl)
            go_wp2_with fail
            go_returns
            exact ⟨⟨b, rfl, lbw, DL2.out, FIN.out⟩, HB.out⟩
end Go.Proofs.Ytmelbgabiklojaa
