/- Package share: slices.Repeat of a single one, and Even. -/
import Derived.Test.YtmelbgabiklojaaShareC
import Derived.Test.YtmelbgabiklojaaShelf
import Derived.Laws.IdiomCopy
import Derived.RegionTactic
import Derived.WalkKit
import Derived.WalkSpells
import Derived.WalkLawsBesides
import Derived.Handy
import Derived.Lib.Hide
import Derived.Deep.QuietTactic
import Derived.BigQuiet
import Derived.LoopTactic
import Derived.Outline
namespace Go.Proofs.Ytmelbgabiklojaa
open Go.RowKit Go.Proofs.Reg
set_option linter.unusedVariables false
set_option linter.unusedSimpArgs false
set_option maxRecDepth 100000
/-- m places, the first k of them one -/
def ones (m k : Nat) : List Int := (List.range m).map fun j => if j < k then 1 else 0
theorem ones_len (m k : Nat) : (ones m k).length = m := by simp [ones]
theorem ones_get (m k j : Nat) (h : j < m) : (ones m k).getD j 0 = if j < k then 1 else 0 := by
  rw [List.getD_eq_getElem?_getD, List.getElem?_eq_getElem (by simpa [ones] using h)]
  simp [ones]
theorem ones_zero (m : Nat) : ones m 0 = List.replicate m 0 := List.ext_getElem (by simp [ones]) fun i h1 h2 => by simp [ones]
theorem ones_all (m k : Nat) (h : m ≤ k) : ones m k = List.replicate m 1 := List.ext_getElem (by simp [ones]) fun i h1 h2 => by
  have : i < m := by simpa [ones] using h1
  simp [ones]; omega
theorem ones_copy {w : World} {b m k c : Nat} (h : OwnI w b (ones m k)) (hc : k + c ≤ m) :
    OwnI (w.setCells b k (List.replicate c (.int .i64 1))) b (ones m (k + c)) := by
  have hs : ∀ j, j < c → (w.cell? ⟨b, k + j, none⟩).isSome = true := fun j hj => by
    rw [h.cell (k + j) (by rw [ones_len]; omega)]; rfl
  refine ⟨fun j hj => ?_, fun j hj => ?_, ?_⟩
  · rw [ones_len] at hj
    rw [ones_get m _ j hj]
    by_cases c1 : j < k ∨ k + c ≤ j
    · rw [World.cell?_setCells_out b _ k w _ (fun _ _ => by simp; omega), h.cell j (by rw [ones_len]; exact hj), ones_get m _ j hj]
      by_cases c2 : j < k
      · rw [if_pos c2, if_pos (by omega)]
      · rw [if_neg c2, if_neg (by omega)]
    · have := World.cell?_setCells_in b (List.replicate c (.int .i64 1)) k w (fun j hj => hs j (by simpa using hj)) (j - k) (by simp; omega)
      rw [show k + (j - k) = j by omega] at this
      rw [this, if_pos (by omega)]
      simp
  · rw [World.frozen?_setCells]
    exact h.froz j (by rw [ones_len] at hj ⊢; exact hj)
  · have : ∀ (vs : List Value) (o : Nat) (w : World), (w.setCells b o vs).heap.size = w.heap.size := by
      intro vs
      induction vs with
      | nil => intros; rfl
      | cons v r ih => intro o w; rw [World.setCells, ih]; simp
    rw [this]
    exact h.lt
theorem Below.setCells {w w' : World} {n b : Nat} (h : Below n w w') (hb : n ≤ b) : ∀ (vs : List Value) (o : Nat), Below n w (w'.setCells b o vs)
  | [], _ => h
  | v :: r, o => Below.setCells (h.setCell hb v) hb r (o + 1)
theorem mul_one_any (m : Nat) (hm : m ≤ 1024) (w : World) :
    Calls Try.prog 74 #[.int .u64 1, .int .u64 m] w fun e w' => e = .returned (.tuple #[.int .u64 0, .int .u64 m]) ∧ w' = w := by
  refine (Try.bits_Mul 1 m (by omega) (by omega) w).mono ?_
  rintro e w' ⟨rfl, rfl⟩
  refine ⟨?_, rfl⟩
  rw [Nat.one_mul, Nat.div_eq_of_lt (by omega), Nat.mod_eq_of_lt (by omega)]
  rfl
theorem size_i64 : (Try.prog.info? 2).map (·.size) = some 1 := by kernel_rfl
/-- the first copy: the single one -/
theorem copy_first (w : World) (b b1 m : Nat) (hm : 0 < m) (h : OwnI w b (ones m 0)) (h1 : w.cell? ⟨b1, 0, none⟩ = some (.int .i64 1)) (ty : TypeId) :
    (Builtin.copy_ #[37, 37] ty #[.slice (some ⟨b, 0, none⟩) m m, .slice (some ⟨b1, 0, none⟩) 1 1]).run Try.prog w = .ok (.int .i64 1) (w.setCells b 0 (List.replicate 1 (.int .i64 1))) := by
  have := run_copy_cells (P := Try.prog) w 37 37 ty 2 b 0 m m ⟨b1, 0, none⟩ 1 1 [.int .i64 1] Try.underlying37 size_i64
    (by show 1 = min 1 m; omega)
    (fun j v hj => by
      match j, hj with
      | 0, hj => obtain rfl := Option.some.inj hj; simpa [Addr.add] using h1
      | j + 1, hj => simp at hj)
    (fun j hj => by
      have e := h.cell j (by rw [ones_len]; simp at hj; omega)
      rw [Nat.zero_add, e]; rfl)
    (fun j hj => by
      have e := h.froz j (by rw [ones_len]; simp at hj; omega)
      rwa [Nat.zero_add])
    (fun v hv => by obtain rfl := List.mem_singleton.1 hv; rfl)
  exact this
/-- the next copies: of what is there -/
theorem copy_next (w : World) (b m k : Nat) (hk : k < m) (h : OwnI w b (ones m k)) (ty : TypeId) :
    (Builtin.copy_ #[37, 37] ty #[.slice (some ⟨b, k, none⟩) (m - k) (m - k), .slice (some ⟨b, 0, none⟩) k m]).run Try.prog w = .ok (.int .i64 ((min k (m - k) : Nat) : Int)) (w.setCells b k (List.replicate (min k (m - k)) (.int .i64 1))) := by
  have := run_copy_cells (P := Try.prog) w 37 37 ty 2 b k (m - k) (m - k) ⟨b, 0, none⟩ k m (List.replicate (min k (m - k)) (.int .i64 1)) Try.underlying37 size_i64
    (by rw [List.length_replicate])
    (fun j v hj => by
      have hj' : j < min k (m - k) := by
        have := (List.getElem?_eq_some_iff.1 hj).1
        simpa using this
      rw [List.getElem?_replicate, if_pos hj'] at hj
      obtain rfl := Option.some.inj hj
      have e : (⟨b, 0, none⟩ : Addr).add j = ⟨b, j, none⟩ := by
        by_cases z : j = 0
        · subst z; simp [Addr.add]
        · simp [Addr.add, z]
      rw [e, h.cell j (by rw [ones_len]; omega), ones_get m k j (by omega), if_pos (by omega)])
    (fun j hj => by
      have e := h.cell (k + j) (by rw [ones_len]; simp at hj; omega)
      rw [e]; rfl)
    (fun j hj => h.froz (k + j) (by rw [ones_len]; simp at hj; omega))
    (fun v hv => by obtain ⟨_, rfl⟩ := List.mem_replicate.1 hv; rfl)
  rw [List.length_replicate] at this
  exact this
set_option maxHeartbeats 1000000 in
theorem srepeat_any (b1 m : Nat) (hm : m ≤ 1024) (w : World) (h1 : w.cell? ⟨b1, 0, none⟩ = some (.int .i64 1)) :
    Calls Try.prog 65 #[.slice (some ⟨b1, 0, none⟩) 1 1, .int .i64 m] w fun e w' => (∃ b, e = .returned (.slice (some ⟨b, 0, none⟩) m m) ∧ w.heap.size ≤ b ∧ OwnI w' b (List.replicate m 1)) ∧ Below w.heap.size w w' := by
  have hmk := make_ints m (by omega)
  have M := Lib.hid (mul_one_any m hm)
  have B0 := Lib.hid (bel_new w (.cells (madeCells #[.int .i64 0] m) 2))
  have O0 : Hid (OwnI (w.alloc (.cells (madeCells #[.int .i64 0] m) 2)) w.heap.size (ones m 0)) := Lib.hid (by rw [ones_zero]; exact OwnI.new w m _)
  have H1 := Lib.hid (cell_later B0.out h1)
  clear h1
  have C1 : Hid (∃ W, (∀ ty, (Builtin.copy_ #[37, 37] ty #[.slice (some ⟨w.heap.size, 0, none⟩) m m, .slice (some ⟨b1, 0, none⟩) 1 1]).run Try.prog (w.alloc (.cells (madeCells #[.int .i64 0] m) 2)) = .ok (.int .i64 ((min 1 m : Nat) : Int)) W) ∧ OwnI W w.heap.size (ones m (min 1 m)) ∧ Below w.heap.size w W) := Lib.hid (by
    by_cases z : m = 0
    · subst z
      refine ⟨(w.alloc (.cells (madeCells #[.int .i64 0] 0) 2)), fun ty => ?_, O0.out, B0.out⟩
      exact run_copy_none (P := Try.prog) _ 37 37 ty 2 _ _ 0 0 1 1 Try.underlying37 size_i64 rfl
    · refine ⟨(w.alloc (.cells (madeCells #[.int .i64 0] m) 2)).setCells w.heap.size 0 (List.replicate 1 (.int .i64 1)), fun ty => ?_, ?_, ?_⟩
      · rw [copy_first _ w.heap.size b1 m (by omega) O0.out H1.out ty, show min 1 m = 1 by omega]
        rfl
      · rw [show min 1 m = 0 + 1 by omega]
        exact ones_copy O0.out (by omega)
      · exact Below.setCells B0.out (Nat.le_refl _) _ _)
  obtain ⟨W, hc, o, bl⟩ := C1.out
  have O := Lib.hid o
  have BL := Lib.hid bl
  clear o bl C1 O0 H1
  go_enter Try.func65, Try.ntmps65
  go_wp2_with fail
  refine (M.out _).mono ?_
  rintro e w1 ⟨rfl, rfl⟩
  go_wp2_with fail
  clear hmk hc
  go_loopw [8] (fun s8 wr => ∃ k : Nat, s8 = .int .i64 k ∧ k ≤ m ∧ (m = 0 ∨ 1 ≤ k) ∧ Hid (OwnI wr w1.heap.size (ones m k)) ∧ Hid (Below w1.heap.size w1 wr)) (fun s8 _ => m - (intOf s8).toNat)
  case atStart => exact ⟨min 1 m, rfl, by omega, by omega, O, BL⟩
  case round =>
    obtain ⟨k, rfl, hk, hk1, HO, KB⟩ := hrel
    by_cases hlt : k < m
    · have kl : (k : Int) < (m : Int) := by omega
      have k0 : (0 : Int) ≤ (k : Int) := by omega
      have od := Lib.hid (HO.out.later (Below.refl _ _).drew)
      have hcn := copy_next wr.drew w1.heap.size m k hlt od.out
      go_wp2_with fail
      go_region
      have ON := Lib.hid (ones_copy od.out (show k + min k (m - k) ≤ m by omega))
      have KN := Lib.hid (Below.setCells KB.out.drew (Nat.le_refl w1.heap.size) (List.replicate (min k (m - k)) (.int .i64 1)) k)
      go_wp2_with fail
      go_roundw
      case rel => exact ⟨k + min k (m - k), by go_num, by omega, by omega, ON, KN⟩
      case measure => simp [intOf]; omega
    · have kl : ¬ (k : Int) < (m : Int) := by omega
      have HE : Hid (OwnI wr w1.heap.size (List.replicate m 1)) := Lib.hid (by
        have := HO.out
        rwa [ones_all m k (by omega)] at this)
      clear HO
      go_wp2_with fail
      go_ret
      exact ⟨⟨w1.heap.size, rfl, Nat.le_refl _, HE.out⟩, KB.out⟩
/-- what Even answers -/
def EvR (w : World) (T n : Int) (e : Ending) (w' : World) : Prop :=
  Below w.heap.size w w' ∧ ((n < 0 ∧ e = .returned (.tuple #[.slice none 0 0, .int .i64 1])) ∨ (1024 < n ∧ e = .returned (.tuple #[.slice none 0 0, .int .i64 8])) ∨
    (∃ m : Nat, n = m ∧ m ≤ 1024 ∧ okT T ∧ ∃ b, e = .returned (.tuple #[.slice (some ⟨b, 0, none⟩) m m, .int .i64 0]) ∧ w.heap.size ≤ b ∧ OwnI w' b (parts5 T (List.replicate m 1))) ∨
    (0 ≤ n ∧ n ≤ 1024 ∧ ¬ okT T ∧ e = .returned (.tuple #[.slice none 0 0, .int .i64 2])))
theorem sum_ones (m : Nat) : (List.replicate m (1 : Int)).sum = m := by
  induction m with
  | zero => rfl
  | succ m ih => rw [List.replicate_succ, List.sum_cons, ih]; omega
theorem neg_ones (m : Nat) : negB (List.replicate m 1) = false := by
  unfold negB
  rw [List.any_eq_false]
  intro x hx
  obtain ⟨_, rfl⟩ := List.mem_replicate.1 hx
  decide
set_option maxHeartbeats 1000000 in
theorem seven_any (T n : Int) (w : World) : Calls Try.prog 55 #[.int .i64 T, .int .i64 n] w (EvR w T n) := by
  by_cases c1 : n < 0
  · go_enter Try.func55, Try.ntmps55
    go_wp2_with fail
    go_returns
    exact ⟨Below.refl _ _, .inl ⟨c1, rfl⟩⟩
  · by_cases c2 : 1024 < n
    · go_enter Try.func55, Try.ntmps55
      go_wp2_with fail
      go_returns
      exact ⟨Below.refl _ _, .inr (.inl ⟨c2, rfl⟩)⟩
    · obtain ⟨m, rfl⟩ : ∃ m : Nat, n = m := ⟨n.toNat, by omega⟩
      have hm : m ≤ 1024 := by omega
      have R := Lib.hid (fun W h => srepeat_any w.heap.size m hm W h)
      go_enter Try.func55, Try.ntmps55
      go_wp2_with fail
      refine (R.out _ (by simp [go_sem])).mono ?_
      rintro e w2 ⟨⟨b, rfl, hb1, ho⟩, hb2⟩
      have KB := Lib.hid (bel_tr0 (bel_new w _) hb2)
      have S := Lib.hid (ssplit_any _ m m _ T w2 (ho.ri (by simp) (by omega)) (fun x hx => by
        obtain ⟨_, rfl⟩ := List.mem_replicate.1 hx
        decide))
      clear R hb1 ho hb2
      go_wp2_with fail
      refine S.out.mono ?_
      rintro e w3 ⟨hb3, hr⟩
      have G : Hid (w.heap.size ≤ w2.heap.size) := Lib.hid KB.out.size
      have KB := Lib.hid (bel_tr0 KB.out hb3)
      rcases hr with ⟨h, _⟩ | ⟨_, h, _⟩ | ⟨_, _, oT, oS, b', rfl, hb', o⟩ | ⟨_, _, no, rfl⟩
      · omega
      · rw [neg_ones] at h; cases h
      · have O := Lib.hid o
        have OT := Lib.hid oT
        have OB := Lib.hid hb'
        clear o oT oS hb3 hb' S
        go_wp2_with fail
        go_returns
        exact ⟨KB.out, .inr (.inr (.inl ⟨m, rfl, hm, OT.out, b', rfl, Nat.le_trans G.out OB.out, O.out⟩))⟩
      · have NO : Hid (¬ okT T) := Lib.hid (fun h => no ⟨h, by unfold okS; rw [sum_ones]; omega⟩)
        clear no hb3 S
        go_wp2_with fail
        go_returns
        exact ⟨KB.out, .inr (.inr (.inr ⟨by omega, by omega, NO.out, rfl⟩))⟩
end Go.Proofs.Ytmelbgabiklojaa
/- Law 5: same, speaks. -/
namespace Go.Proofs.Ytmelbgabiklojaa
open Go.RowKit Go.Proofs.Reg
set_option linter.unusedVariables false
set_option linter.unusedSimpArgs false
set_option maxRecDepth 100000
theorem cells3_new (w : World) (x y z : Int) : Ri (w.alloc (.cells #[.int .i64 x, .int .i64 y, .int .i64 z] 2)) (some ⟨w.heap.size, 0, none⟩) 3 3 [x, y, z] :=
  ⟨rfl, by decide, fun _ => ⟨_, rfl, fun k hk => by
    match k, hk with
    | 0, _ => simp [go_sem, Addr.add]
    | 1, _ => simp [go_sem, Addr.add]
    | 2, _ => simp [go_sem, Addr.add]⟩⟩
theorem cells1_new (w : World) (x : Int) : Ri (w.alloc (.cells #[.int .i64 x] 2)) (some ⟨w.heap.size, 0, none⟩) 1 1 [x] :=
  ⟨rfl, by decide, fun _ => ⟨_, rfl, fun k hk => by
    match k, hk with
    | 0, _ => simp [go_sem, Addr.add]⟩⟩
end Go.Proofs.Ytmelbgabiklojaa
/- Law 5: what is known of the parts. -/
namespace Go.Proofs.Ytmelbgabiklojaa
open Go.RowKit Go.Proofs.Reg
set_option linter.unusedVariables false
set_option linter.unusedSimpArgs false
theorem parts_len (T : Int) (xs : List Int) : (parts5 T xs).length = xs.length := by simp [parts5]
theorem parts_get (T : Int) (xs : List Int) (i : Nat) (h : i < xs.length) : (parts5 T xs).getD i 0 = part5 T xs i := by
  rw [List.getD_eq_getElem?_getD, List.getElem?_eq_getElem (by simpa [parts5] using h)]
  simp [parts5]
/-- what the first parts are together -/
def cum (T : Int) (xs : List Int) (k : Nat) : Int := if xs.sum = 0 then 0 else bnd T xs k
theorem cum_zero (T : Int) (xs : List Int) : cum T xs 0 = 0 := by unfold cum; rw [bnd_zero]; split <;> rfl
theorem cum_succ (T : Int) (xs : List Int) (k : Nat) : cum T xs (k + 1) = cum T xs k + part5 T xs k := by
  unfold cum part5
  split
  · rfl
  · omega
theorem cum_all (T : Int) (xs : List Int) : cum T xs xs.length = if xs.sum = 0 then 0 else T := by
  unfold cum bnd
  rw [List.take_of_length_le (Nat.le_refl _)]
  split
  · rfl
  · rename_i h
    exact Int.mul_ediv_cancel _ h
theorem cum_range {T : Int} {xs : List Int} (h : ∀ x ∈ xs, 0 ≤ x) (t0 : -17592186044416 ≤ T) (t1 : T ≤ 17592186044416) (k : Nat) : -17592186044416 ≤ cum T xs k ∧ cum T xs k ≤ 17592186044416 := by
  unfold cum
  have := sum_nonneg h
  split
  · decide
  · exact bnd_range h (by omega) t0 t1 k
theorem part_range {T : Int} {xs : List Int} (h : ∀ x ∈ xs, 0 ≤ x) (t0 : -17592186044416 ≤ T) (t1 : T ≤ 17592186044416) (k : Nat) : -35184372088832 ≤ part5 T xs k ∧ part5 T xs k ≤ 35184372088832 := by
  have a := cum_range h t0 t1 k
  have b := cum_range h t0 t1 (k + 1)
  rw [cum_succ] at b
  omega
/-- parts of one weight: the quotient, or one more -/
theorem part_ones {T : Int} {m i : Nat} (hi : i < m) : T / m ≤ part5 T (List.replicate m 1) i ∧ part5 T (List.replicate m 1) i ≤ T / m + 1 := by
  have mp : (0 : Int) < (m : Int) := by omega
  unfold part5 bnd
  rw [sum_ones, if_neg (by omega), List.take_replicate, List.take_replicate, sum_ones, sum_ones, show min (i + 1) m = i + 1 by omega, show min i m = i by omega]
  have e : T * ((i + 1 : Nat) : Int) = T * (i : Int) + T := by
    rw [show ((i + 1 : Nat) : Int) = (i : Int) + 1 by omega, Int.mul_add, Int.mul_one]
  rw [e]
  obtain ⟨a, ha⟩ : ∃ a, T * (i : Int) = a := ⟨_, rfl⟩
  rw [ha]
  have d1 := Int.mul_ediv_add_emod a m
  have d2 := Int.mul_ediv_add_emod T m
  have r1 := Int.emod_nonneg a (show (m : Int) ≠ 0 by omega)
  have r2 := Int.emod_nonneg T (show (m : Int) ≠ 0 by omega)
  have s1 := Int.emod_lt_of_pos a mp
  have s2 := Int.emod_lt_of_pos T mp
  have d3 : a + T = (a % m + T % m) + m * (a / m + T / m) := by rw [Int.mul_add]; omega
  rw [d3, Int.add_mul_ediv_left _ _ (by omega)]
  have u : 0 ≤ (a % m + T % m) / (m : Int) := Int.ediv_nonneg (by omega) (by omega)
  have v : (a % m + T % m) / (m : Int) < 2 := by rw [Int.ediv_lt_iff_lt_mul mp]; omega
  omega
theorem part_ones_zero {T : Int} {m : Nat} (hm : 0 < m) : part5 T (List.replicate m 1) 0 = T / m := by
  unfold part5 bnd
  rw [sum_ones, if_neg (by omega), List.take_replicate, List.take_replicate, sum_ones, sum_ones, show min (0 + 1) m = 1 by omega, show min 0 m = 0 by omega]
  simp
/-- how far a part is off its exact share -/
theorem part_off {T : Int} {xs : List Int} (h : ∀ x ∈ xs, 0 ≤ x) (hs : 0 < xs.sum) {i : Nat} (hi : i < xs.length) :
    part5 T xs i * xs.sum - T * xs.getD i 0 < xs.sum ∧ -xs.sum < part5 T xs i * xs.sum - T * xs.getD i 0 := by
  unfold part5 bnd
  rw [if_neg (by omega), sum_take_succ xs i hi, Int.mul_add]
  obtain ⟨a, ha⟩ : ∃ a, T * (xs.take i).sum = a := ⟨_, rfl⟩
  obtain ⟨b, hb⟩ : ∃ b, T * xs.getD i 0 = b := ⟨_, rfl⟩
  obtain ⟨S, hS⟩ : ∃ S, xs.sum = S := ⟨_, rfl⟩
  rw [hS] at hs ⊢
  rw [ha, hb, Int.sub_mul]
  have d1 := Int.mul_ediv_add_emod a S
  have d2 := Int.mul_ediv_add_emod (a + b) S
  have r1 := Int.emod_nonneg a (show S ≠ 0 by omega)
  have r2 := Int.emod_nonneg (a + b) (show S ≠ 0 by omega)
  have s1 := Int.emod_lt_of_pos a hs
  have s2 := Int.emod_lt_of_pos (a + b) hs
  rw [Int.mul_comm S] at d1 d2
  omega
/-- a weight of 0 gets 0 -/
theorem part_none {T : Int} {xs : List Int} {i : Nat} (hi : i < xs.length) (h : xs.getD i 0 = 0) : part5 T xs i = 0 := by
  unfold part5 bnd
  split
  · rfl
  · rw [sum_take_succ xs i hi, h, Int.add_zero, Int.sub_self]
end Go.Proofs.Ytmelbgabiklojaa
