/- Package region: two rows merged. -/
import Derived.Test.YtjemnjboopabpaaGa
namespace Go.Proofs.Ytjemnjboopabpaa
open Go.RowKit Go.Proofs.Reg Go.Proofs.Big Go.Proofs.Bands
set_option linter.unusedVariables false
set_option linter.unusedSimpArgs false
set_option maxRecDepth 100000
theorem nxt_head (es : List Int) (i : Nat) : headE (es.drop i) = nxt es i := by
  unfold nxt
  split
  · rename_i h
    rw [List.drop_eq_getElem_cons h, List.getD_eq_getElem?_getD, List.getElem?_eq_getElem h]
    rfl
  · rw [List.drop_eq_nil_of_le (by omega)]
    rfl
def lenOf : Value → Nat
  | .slice _ n _ => n
  | _ => 0
theorem ginside_nat (k : Nat) (w : World) : Calls Try.prog 52 #[.int .i64 k] w fun e w' => e = .returned (.bool (k % 2 == 1)) ∧ w' = w := by
  refine (ginside_any k (by omega) w).mono ?_
  rintro e w1 ⟨rfl, hw⟩
  refine ⟨?_, hw⟩
  have : ((k : Int) % 2 == 1) = (k % 2 == 1) := by
    by_cases h : k % 2 = 1
    · rw [h, show (k : Int) % 2 = 1 by omega]; rfl
    · rw [show k % 2 = 0 by omega, show (k : Int) % 2 = 0 by omega]; rfl
  rw [this]
/-- what merging answers -/
def MrgR (w : World) (A B : List Int) (keep : Bool → Bool → Bool) (e : Ending) (w' : World) : Prop :=
  ∃ o v, e = .returned v ∧ EV w' v o ∧ Asc o ∧ o.length % 2 = 0 ∧ (∀ x, inE o x = keep (inE A x) (inE B x)) ∧ o.length ≤ A.length + B.length ∧ (∀ x ∈ o, x ∈ A ∨ x ∈ B) ∧ Below w.heap.size w w'
/-- a function of two truths -/
structure Kp (F : FuncId) (keep : Bool → Bool → Bool) : Prop where
  cf : ∀ (a b : Bool) (w : World), (callFunc F #[.bool a, .bool b]).run Try.prog w = .ok (.enter F #[.bool a, .bool b]) w
  ex : ∀ (a b : Bool) (w : World), Calls Try.prog F #[.bool a, .bool b] w fun e w' => e = .returned (.bool (keep a b)) ∧ w' = w
  no : keep false false = false
theorem kp_or : Kp 45 orB := ⟨fun _ _ _ => by kernel_rfl, or1_any, rfl⟩
theorem kp_and : Kp 42 andB := ⟨fun _ _ _ => by kernel_rfl, and1_any, rfl⟩
theorem kp_minus : Kp 39 minusB := ⟨fun _ _ _ => by kernel_rfl, minus1_any, rfl⟩
set_option maxHeartbeats 4000000 in
theorem merged_any (F : FuncId) (keep : Bool → Bool → Bool) (kp : Kp F keep) (a : Option Addr) (n c : Nat) (A : List Int) (b : Option Addr) (m d : Nat) (B : List Int) (w : World) (ha : Es w a n c A) (hb : Es w b m d B) (asA : Asc A) (asB : Asc B) (eA : A.length % 2 = 0) (eB : B.length % 2 = 0)
    (bA : ∀ e ∈ A, e < 9223372036854775807) (bB : ∀ e ∈ B, e < 9223372036854775807) (sz : A.length + B.length < 1000000000000) :
    Calls Try.prog 74 #[.slice a n c, .slice b m d, .func (.func F) #[] #[]] w (MrgR w A B keep) := by
  have lA := ha.r.hlen
  have lB := hb.r.hlen
  have HA := Lib.hid ha
  have HB := Lib.hid hb
  have KP := Lib.hid kp
  have M0 := Lib.hid (MI.start (keep := keep) asA asB kp.no)
  have HAs := Lib.hid asA
  have HBs := Lib.hid asB
  have HbA := Lib.hid bA
  have HbB := Lib.hid bB
  clear ha hb asA asB bA bB
  obtain ⟨i0, hi, hz0, hz1, hz2⟩ := int_parts
  go_enter Try.func74, Try.ntmps74
  go_wp2_with fail
  go_loopw [0, 1, 7, 8, 9] (fun s0 s1 s7 s8 s9 wr => ∃ (i j : Nat) (o : List Int) (pa : Option Addr) (na ca : Nat) (pb : Option Addr) (nb cb : Nat) (pe : Option Addr) (ce : Nat), s0 = .slice pa na ca ∧ s1 = .slice pb nb cb ∧ s7 = .slice pe o.length ce ∧ s8 = .bool (i % 2 == 1) ∧ s9 = .bool (j % 2 == 1) ∧ Hid (Es w pa na ca (A.drop i)) ∧ Hid (Es w pb nb cb (B.drop j)) ∧ Hid (MI A B keep i j o) ∧ o.length ≤ i + j ∧ Hid (∀ x ∈ o, x ∈ A ∨ x ∈ B) ∧ wr.ownsRow w.heap.size 3 1 (.slice pe o.length ce) o.length (o.map (Value.int .i64)) ∧ w.heap.size ≤ wr.heap.size ∧ Hid (Below w.heap.size w wr)) (fun s0 s1 _ _ _ _ => lenOf s0 + lenOf s1)
  case atStart => exact ⟨0, 0, [], a, n, c, b, m, d, none, 0, rfl, rfl, rfl, rfl, rfl, by simpa using HA, by simpa using HB, M0, by simp, Lib.hid (by simp), World.ownsRow_nil _ _ _ _, Nat.le_refl _, Lib.hid (Below.refl _ _)⟩
  case round =>
    obtain ⟨i, j, o, pa, na, ca, pb, nb, cb, pe, ce, rfl, rfl, rfl, rfl, rfl, EA0, EB0, HM, lo, HO, hown, hsz, KB⟩ := hrel
    have EA := Lib.hid (EA0.out.later KB.out)
    have EB := Lib.hid (EB0.out.later KB.out)
    have lA' := EA.out.r.hlen
    have lB' := EB.out.r.hlen
    rw [List.length_drop] at lA' lB'
    have i1 := HM.out.hi
    have j1 := HM.out.hj
    by_cases run : i < A.length ∨ j < B.length
    · obtain ⟨u, hu⟩ : ∃ u, nxt A i = u := ⟨_, rfl⟩
      obtain ⟨v, hv⟩ : ∃ v, nxt B j = v := ⟨_, rfl⟩
      have GA : Hid (Calls Try.prog 92 #[.slice pa na ca] wr fun e w' => e = .returned (.int .i64 u) ∧ w' = wr) := Lib.hid (by
        have := gnext_any pa na ca _ wr EA.out
        rw [nxt_head, hu] at this
        exact this)
      have GB : Hid (Calls Try.prog 92 #[.slice pb nb cb] wr fun e w' => e = .returned (.int .i64 v) ∧ w' = wr) := Lib.hid (by
        have := gnext_any pb nb cb _ wr EB.out
        rw [nxt_head, hv] at this
        exact this)
      by_cases ia : i < A.length
      · have na0 : (0 : Int) < (na : Int) := by omega
        have e0 : decide ((0 : Int) < (na : Int)) = true := decide_eq_true na0
        have uu : nxt A i < 9223372036854775807 := by
          unfold nxt
          rw [if_pos ia, List.getD_eq_getElem?_getD, List.getElem?_eq_getElem ia]
          exact HbA.out _ (List.getElem_mem _)
        have vv : nxt B j < 9223372036854775807 → j < B.length := fun h => by
          unfold nxt at h
          split at h
          · assumption
          · omega
        rw [hu] at uu
        rw [hv] at vv
        rcases Int.lt_trichotomy u v with c | c | c
        · have em : min u v = u := by omega
          have ne : (v == u) = false := by simpa using (show v ≠ u by omega)
          have pA : ∃ p, pa = some p := ⟨_, (EA.out.r.addr (by omega)).choose_spec.1⟩
          have sA := slice_tail pa na ca (by omega) EA.out.nc pA
          have TA := Lib.hid (EA0.out.tail (by omega))
          rw [List.drop_drop] at TA
          have cf := KP.out.cf (!(i % 2 == 1)) (j % 2 == 1)
          have st := HM.out.step HAs.out HBs.out HbA.out HbB.out u (by omega) run (i + 1) (j) (by rw [hu]; rw [if_pos (by omega)]) (by rw [hv]; rw [if_neg (by omega)]) _ rfl
          rw [odd_succ i] at st
          have ST := Lib.hid st.1
          clear st
          obtain ⟨kv, hkv⟩ : ∃ k, keep (!(i % 2 == 1)) (j % 2 == 1) = k := ⟨_, rfl⟩
          obtain ⟨ov, hov⟩ : ∃ k, (o.length % 2 == 1) = k := ⟨_, rfl⟩
          have KE : Hid (∀ w', Calls Try.prog F #[.bool (!(i % 2 == 1)), .bool (j % 2 == 1)] w' fun e w1 => e = .returned (.bool kv) ∧ w1 = w') := Lib.hid (fun w' => by rw [← hkv]; exact KP.out.ex _ _ w')
          have OE : Hid (∀ w', Calls Try.prog 52 #[.int .i64 o.length] w' fun e w1 => e = .returned (.bool ov) ∧ w1 = w') := Lib.hid (fun w' => by rw [← hov]; exact ginside_nat _ w')
          rw [hkv, hov] at ST
          clear hkv hov
          by_cases kk : kv = ov
          · rw [if_pos kk] at ST
            subst kk
            go_wp2_with fail
            refine GA.out.mono ?_
            rintro _ w1 ⟨rfl, hw⟩
            obtain rfl := hw.symm
            go_wp2_with fail
            refine GB.out.mono ?_
            rintro _ w1 ⟨rfl, hw⟩
            obtain rfl := hw.symm
            go_wp2_with fail
            refine GA.out.mono ?_
            rintro _ w1 ⟨rfl, hw⟩
            obtain rfl := hw.symm
            go_wp2_with fail
            refine GB.out.mono ?_
            rintro _ w1 ⟨rfl, hw⟩
            obtain rfl := hw.symm
            go_wp2_with fail
            refine (KE.out _).mono ?_
            rintro _ w1 ⟨rfl, hw⟩
            obtain rfl := hw.symm
            go_wp2_with fail
            refine (OE.out _).mono ?_
            rintro _ w1 ⟨rfl, hw⟩
            obtain rfl := hw.symm
            cases kv
            all_goals
              go_wp2_with fail
              go_roundw
              case rel => exact ⟨i + 1, j, o, tailA pa ca, na - 1, ca - 1, pb, nb, cb, pe, ce, rfl, rfl, rfl, by rw [odd_succ], rfl, TA, EB0, ST, by omega, HO, hown, hsz, KB⟩
              case measure => simp only [lenOf]; omega
          · rw [if_neg kk] at ST
            have BO := Lib.hid hown
            have xm : u ∈ A ∨ u ∈ B := by
              left; rw [← hu]; unfold nxt; rw [if_pos (by omega), List.getD_eq_getElem?_getD, List.getElem?_eq_getElem (by omega)]; exact List.getElem_mem _
            go_wp2_with fail
            refine GA.out.mono ?_
            rintro _ w1 ⟨rfl, hw⟩
            obtain rfl := hw.symm
            go_wp2_with fail
            refine GB.out.mono ?_
            rintro _ w1 ⟨rfl, hw⟩
            obtain rfl := hw.symm
            go_wp2_with fail
            refine GA.out.mono ?_
            rintro _ w1 ⟨rfl, hw⟩
            obtain rfl := hw.symm
            go_wp2_with fail
            refine GB.out.mono ?_
            rintro _ w1 ⟨rfl, hw⟩
            obtain rfl := hw.symm
            go_wp2_with fail
            refine (KE.out _).mono ?_
            rintro _ w1 ⟨rfl, hw⟩
            obtain rfl := hw.symm
            go_wp2_with fail
            refine (OE.out _).mono ?_
            rintro _ w1 ⟨rfl, hw⟩
            obtain rfl := hw.symm
            cases kv <;> cases ov <;> first | exact absurd rfl kk | skip
            all_goals
              go_wp2_with (at_builtin; refine wpList_append_own _ rfl _ _ 69 rfl w.heap.size 3 i0 (.int .i64 0) 1 8 Try.underlying69 hi hz0 hz1 hz2 rfl (by decide) _ _ _ rfl (hown.alloc _) ⟨wr.heap.size, 0, none⟩ 1 1 [.int .i64 u] rfl rfl ?c1 ?c2 ?c3 ?c4 ?c5 ?_)
              case c1 => exact cell_one_new _ _ _
              case c2 => simp [Value.oneCell']
              case c3 => unfold maxLen; omega
              case c4 => omega
              case c5 => simp; omega
              intro v1 w1 hown1 hgrow _
              have hown2 : w1.ownsRow w.heap.size 3 1 v1 (o ++ [u]).length ((o ++ [u]).map (Value.int .i64)) := by
                simpa using hown1
              obtain ⟨a1, cap1, rfl, _⟩ := ri_of_owns hown2 (by simp; omega)
              have B1 := Lib.hid (grown_below (B := w.heap.size) hown hgrow (by omega) (by omega) KB.out)
              have HZ : w.heap.size ≤ w1.heap.size := B1.out.size
              have B2 := Lib.hid (grown_below (B := w.heap.size) hown hgrow (by omega) (by omega) KB.out)
              clear hown hown1 hgrow
              go_wp2_with fail
              go_roundw
              case rel => exact ⟨i + 1, j, o ++ [u], tailA pa ca, na - 1, ca - 1, pb, nb, cb, a1, cap1, rfl, rfl, by simp, by rw [odd_succ], rfl, TA, EB0, ST, by simp; omega, Lib.hid (fun y hy => by rcases List.mem_append.1 hy with h | h; exact HO.out y h; rw [List.mem_singleton] at h; subst h; exact xm), hown2, HZ, B1⟩
              case measure => simp only [lenOf]; omega
        · obtain rfl := c
          have em : min u u = u := by omega
          have jb := vv uu
          have pA : ∃ p, pa = some p := ⟨_, (EA.out.r.addr (by omega)).choose_spec.1⟩
          have sA := slice_tail pa na ca (by omega) EA.out.nc pA
          have TA := Lib.hid (EA0.out.tail (by omega))
          rw [List.drop_drop] at TA
          have pB : ∃ p, pb = some p := ⟨_, (EB.out.r.addr (by omega)).choose_spec.1⟩
          have sB := slice_tail pb nb cb (by omega) EB.out.nc pB
          have TB := Lib.hid (EB0.out.tail (by omega))
          rw [List.drop_drop] at TB
          have cf := KP.out.cf (!(i % 2 == 1)) (!(j % 2 == 1))
          have st := HM.out.step HAs.out HBs.out HbA.out HbB.out u (by omega) run (i + 1) (j + 1) (by rw [hu]; rw [if_pos (by omega)]) (by rw [hv]; rw [if_pos (by omega)]) _ rfl
          rw [odd_succ i] at st
          rw [odd_succ j] at st
          have ST := Lib.hid st.1
          clear st
          obtain ⟨kv, hkv⟩ : ∃ k, keep (!(i % 2 == 1)) (!(j % 2 == 1)) = k := ⟨_, rfl⟩
          obtain ⟨ov, hov⟩ : ∃ k, (o.length % 2 == 1) = k := ⟨_, rfl⟩
          have KE : Hid (∀ w', Calls Try.prog F #[.bool (!(i % 2 == 1)), .bool (!(j % 2 == 1))] w' fun e w1 => e = .returned (.bool kv) ∧ w1 = w') := Lib.hid (fun w' => by rw [← hkv]; exact KP.out.ex _ _ w')
          have OE : Hid (∀ w', Calls Try.prog 52 #[.int .i64 o.length] w' fun e w1 => e = .returned (.bool ov) ∧ w1 = w') := Lib.hid (fun w' => by rw [← hov]; exact ginside_nat _ w')
          rw [hkv, hov] at ST
          clear hkv hov
          by_cases kk : kv = ov
          · rw [if_pos kk] at ST
            subst kk
            go_wp2_with fail
            refine GA.out.mono ?_
            rintro _ w1 ⟨rfl, hw⟩
            obtain rfl := hw.symm
            go_wp2_with fail
            refine GB.out.mono ?_
            rintro _ w1 ⟨rfl, hw⟩
            obtain rfl := hw.symm
            go_wp2_with fail
            refine GA.out.mono ?_
            rintro _ w1 ⟨rfl, hw⟩
            obtain rfl := hw.symm
            go_wp2_with fail
            refine GB.out.mono ?_
            rintro _ w1 ⟨rfl, hw⟩
            obtain rfl := hw.symm
            go_wp2_with fail
            refine (KE.out _).mono ?_
            rintro _ w1 ⟨rfl, hw⟩
            obtain rfl := hw.symm
            go_wp2_with fail
            refine (OE.out _).mono ?_
            rintro _ w1 ⟨rfl, hw⟩
            obtain rfl := hw.symm
            cases kv
            all_goals
              go_wp2_with fail
              go_roundw
              case rel => exact ⟨i + 1, j + 1, o, tailA pa ca, na - 1, ca - 1, tailA pb cb, nb - 1, cb - 1, pe, ce, rfl, rfl, rfl, by rw [odd_succ], by rw [odd_succ], TA, TB, ST, by omega, HO, hown, hsz, KB⟩
              case measure => simp only [lenOf]; omega
          · rw [if_neg kk] at ST
            have BO := Lib.hid hown
            have xm : u ∈ A ∨ u ∈ B := by
              left; rw [← hu]; unfold nxt; rw [if_pos (by omega), List.getD_eq_getElem?_getD, List.getElem?_eq_getElem (by omega)]; exact List.getElem_mem _
            go_wp2_with fail
            refine GA.out.mono ?_
            rintro _ w1 ⟨rfl, hw⟩
            obtain rfl := hw.symm
            go_wp2_with fail
            refine GB.out.mono ?_
            rintro _ w1 ⟨rfl, hw⟩
            obtain rfl := hw.symm
            go_wp2_with fail
            refine GA.out.mono ?_
            rintro _ w1 ⟨rfl, hw⟩
            obtain rfl := hw.symm
            go_wp2_with fail
            refine GB.out.mono ?_
            rintro _ w1 ⟨rfl, hw⟩
            obtain rfl := hw.symm
            go_wp2_with fail
            refine (KE.out _).mono ?_
            rintro _ w1 ⟨rfl, hw⟩
            obtain rfl := hw.symm
            go_wp2_with fail
            refine (OE.out _).mono ?_
            rintro _ w1 ⟨rfl, hw⟩
            obtain rfl := hw.symm
            cases kv <;> cases ov <;> first | exact absurd rfl kk | skip
            all_goals
              go_wp2_with (at_builtin; refine wpList_append_own _ rfl _ _ 69 rfl w.heap.size 3 i0 (.int .i64 0) 1 8 Try.underlying69 hi hz0 hz1 hz2 rfl (by decide) _ _ _ rfl (hown.alloc _) ⟨wr.heap.size, 0, none⟩ 1 1 [.int .i64 u] rfl rfl ?c1 ?c2 ?c3 ?c4 ?c5 ?_)
              case c1 => exact cell_one_new _ _ _
              case c2 => simp [Value.oneCell']
              case c3 => unfold maxLen; omega
              case c4 => omega
              case c5 => simp; omega
              intro v1 w1 hown1 hgrow _
              have hown2 : w1.ownsRow w.heap.size 3 1 v1 (o ++ [u]).length ((o ++ [u]).map (Value.int .i64)) := by
                simpa using hown1
              obtain ⟨a1, cap1, rfl, _⟩ := ri_of_owns hown2 (by simp; omega)
              have B1 := Lib.hid (grown_below (B := w.heap.size) hown hgrow (by omega) (by omega) KB.out)
              have HZ : w.heap.size ≤ w1.heap.size := B1.out.size
              have B2 := Lib.hid (grown_below (B := w.heap.size) hown hgrow (by omega) (by omega) KB.out)
              clear hown hown1 hgrow
              go_wp2_with fail
              go_roundw
              case rel => exact ⟨i + 1, j + 1, o ++ [u], tailA pa ca, na - 1, ca - 1, tailA pb cb, nb - 1, cb - 1, a1, cap1, rfl, rfl, by simp, by rw [odd_succ], by rw [odd_succ], TA, TB, ST, by simp; omega, Lib.hid (fun y hy => by rcases List.mem_append.1 hy with h | h; exact HO.out y h; rw [List.mem_singleton] at h; subst h; exact xm), hown2, HZ, B1⟩
              case measure => simp only [lenOf]; omega
        · have em : min u v = v := by omega
          have ne : (u == v) = false := by simpa using (show u ≠ v by omega)
          have jb := vv (by omega)
          have pB : ∃ p, pb = some p := ⟨_, (EB.out.r.addr (by omega)).choose_spec.1⟩
          have sB := slice_tail pb nb cb (by omega) EB.out.nc pB
          have TB := Lib.hid (EB0.out.tail (by omega))
          rw [List.drop_drop] at TB
          have cf := KP.out.cf (i % 2 == 1) (!(j % 2 == 1))
          have st := HM.out.step HAs.out HBs.out HbA.out HbB.out v (by omega) run (i) (j + 1) (by rw [hu]; rw [if_neg (by omega)]) (by rw [hv]; rw [if_pos (by omega)]) _ rfl
          rw [odd_succ j] at st
          have ST := Lib.hid st.1
          clear st
          obtain ⟨kv, hkv⟩ : ∃ k, keep (i % 2 == 1) (!(j % 2 == 1)) = k := ⟨_, rfl⟩
          obtain ⟨ov, hov⟩ : ∃ k, (o.length % 2 == 1) = k := ⟨_, rfl⟩
          have KE : Hid (∀ w', Calls Try.prog F #[.bool (i % 2 == 1), .bool (!(j % 2 == 1))] w' fun e w1 => e = .returned (.bool kv) ∧ w1 = w') := Lib.hid (fun w' => by rw [← hkv]; exact KP.out.ex _ _ w')
          have OE : Hid (∀ w', Calls Try.prog 52 #[.int .i64 o.length] w' fun e w1 => e = .returned (.bool ov) ∧ w1 = w') := Lib.hid (fun w' => by rw [← hov]; exact ginside_nat _ w')
          rw [hkv, hov] at ST
          clear hkv hov
          by_cases kk : kv = ov
          · rw [if_pos kk] at ST
            subst kk
            go_wp2_with fail
            refine GA.out.mono ?_
            rintro _ w1 ⟨rfl, hw⟩
            obtain rfl := hw.symm
            go_wp2_with fail
            refine GB.out.mono ?_
            rintro _ w1 ⟨rfl, hw⟩
            obtain rfl := hw.symm
            go_wp2_with fail
            refine GA.out.mono ?_
            rintro _ w1 ⟨rfl, hw⟩
            obtain rfl := hw.symm
            go_wp2_with fail
            refine GB.out.mono ?_
            rintro _ w1 ⟨rfl, hw⟩
            obtain rfl := hw.symm
            go_wp2_with fail
            refine (KE.out _).mono ?_
            rintro _ w1 ⟨rfl, hw⟩
            obtain rfl := hw.symm
            go_wp2_with fail
            refine (OE.out _).mono ?_
            rintro _ w1 ⟨rfl, hw⟩
            obtain rfl := hw.symm
            cases kv
            all_goals
              go_wp2_with fail
              go_roundw
              case rel => exact ⟨i, j + 1, o, pa, _, ca, tailA pb cb, nb - 1, cb - 1, pe, ce, rfl, rfl, rfl, rfl, by rw [odd_succ], EA0, TB, ST, by omega, HO, hown, hsz, KB⟩
              case measure => simp only [lenOf]; omega
          · rw [if_neg kk] at ST
            have BO := Lib.hid hown
            have xm : v ∈ A ∨ v ∈ B := by
              right; rw [← hv]; unfold nxt; rw [if_pos (by omega), List.getD_eq_getElem?_getD, List.getElem?_eq_getElem (by omega)]; exact List.getElem_mem _
            go_wp2_with fail
            refine GA.out.mono ?_
            rintro _ w1 ⟨rfl, hw⟩
            obtain rfl := hw.symm
            go_wp2_with fail
            refine GB.out.mono ?_
            rintro _ w1 ⟨rfl, hw⟩
            obtain rfl := hw.symm
            go_wp2_with fail
            refine GA.out.mono ?_
            rintro _ w1 ⟨rfl, hw⟩
            obtain rfl := hw.symm
            go_wp2_with fail
            refine GB.out.mono ?_
            rintro _ w1 ⟨rfl, hw⟩
            obtain rfl := hw.symm
            go_wp2_with fail
            refine (KE.out _).mono ?_
            rintro _ w1 ⟨rfl, hw⟩
            obtain rfl := hw.symm
            go_wp2_with fail
            refine (OE.out _).mono ?_
            rintro _ w1 ⟨rfl, hw⟩
            obtain rfl := hw.symm
            cases kv <;> cases ov <;> first | exact absurd rfl kk | skip
            all_goals
              go_wp2_with (at_builtin; refine wpList_append_own _ rfl _ _ 69 rfl w.heap.size 3 i0 (.int .i64 0) 1 8 Try.underlying69 hi hz0 hz1 hz2 rfl (by decide) _ _ _ rfl (hown.alloc _) ⟨wr.heap.size, 0, none⟩ 1 1 [.int .i64 v] rfl rfl ?c1 ?c2 ?c3 ?c4 ?c5 ?_)
              case c1 => exact cell_one_new _ _ _
              case c2 => simp [Value.oneCell']
              case c3 => unfold maxLen; omega
              case c4 => omega
              case c5 => simp; omega
              intro v1 w1 hown1 hgrow _
              have hown2 : w1.ownsRow w.heap.size 3 1 v1 (o ++ [v]).length ((o ++ [v]).map (Value.int .i64)) := by
                simpa using hown1
              obtain ⟨a1, cap1, rfl, _⟩ := ri_of_owns hown2 (by simp; omega)
              have B1 := Lib.hid (grown_below (B := w.heap.size) hown hgrow (by omega) (by omega) KB.out)
              have HZ : w.heap.size ≤ w1.heap.size := B1.out.size
              have B2 := Lib.hid (grown_below (B := w.heap.size) hown hgrow (by omega) (by omega) KB.out)
              clear hown hown1 hgrow
              go_wp2_with fail
              go_roundw
              case rel => exact ⟨i, j + 1, o ++ [v], pa, _, ca, tailA pb cb, nb - 1, cb - 1, a1, cap1, rfl, rfl, by simp, rfl, by rw [odd_succ], EA0, TB, ST, by simp; omega, Lib.hid (fun y hy => by rcases List.mem_append.1 hy with h | h; exact HO.out y h; rw [List.mem_singleton] at h; subst h; exact xm), hown2, HZ, B1⟩
              case measure => simp only [lenOf]; omega
      · have jb : j < B.length := by omega
        obtain rfl : na = 0 := by omega
        have nb0 : (0 : Int) < (nb : Int) := by omega
        have e1 : decide ((0 : Int) < (nb : Int)) = true := decide_eq_true nb0
        have vv : nxt B j < 9223372036854775807 := by
          unfold nxt
          rw [if_pos jb, List.getD_eq_getElem?_getD, List.getElem?_eq_getElem jb]
          exact HbB.out _ (List.getElem_mem _)
        have uu : nxt A i = 9223372036854775807 := by
          unfold nxt
          rw [if_neg ia]
        rw [hu] at uu
        rw [hv] at vv
        have em : min u v = v := by omega
        have ne : (u == v) = false := by simpa using (show u ≠ v by omega)
        have c : v < u := by omega
        clear uu
        have pB : ∃ p, pb = some p := ⟨_, (EB.out.r.addr (by omega)).choose_spec.1⟩
        have sB := slice_tail pb nb cb (by omega) EB.out.nc pB
        have TB := Lib.hid (EB0.out.tail (by omega))
        rw [List.drop_drop] at TB
        have cf := KP.out.cf (i % 2 == 1) (!(j % 2 == 1))
        have st := HM.out.step HAs.out HBs.out HbA.out HbB.out v (by omega) run (i) (j + 1) (by rw [hu]; rw [if_neg (by omega)]) (by rw [hv]; rw [if_pos (by omega)]) _ rfl
        rw [odd_succ j] at st
        have ST := Lib.hid st.1
        clear st
        obtain ⟨kv, hkv⟩ : ∃ k, keep (i % 2 == 1) (!(j % 2 == 1)) = k := ⟨_, rfl⟩
        obtain ⟨ov, hov⟩ : ∃ k, (o.length % 2 == 1) = k := ⟨_, rfl⟩
        have KE : Hid (∀ w', Calls Try.prog F #[.bool (i % 2 == 1), .bool (!(j % 2 == 1))] w' fun e w1 => e = .returned (.bool kv) ∧ w1 = w') := Lib.hid (fun w' => by rw [← hkv]; exact KP.out.ex _ _ w')
        have OE : Hid (∀ w', Calls Try.prog 52 #[.int .i64 o.length] w' fun e w1 => e = .returned (.bool ov) ∧ w1 = w') := Lib.hid (fun w' => by rw [← hov]; exact ginside_nat _ w')
        rw [hkv, hov] at ST
        clear hkv hov
        by_cases kk : kv = ov
        · rw [if_pos kk] at ST
          subst kk
          go_wp2_with fail
          refine GA.out.mono ?_
          rintro _ w1 ⟨rfl, hw⟩
          obtain rfl := hw.symm
          go_wp2_with fail
          refine GB.out.mono ?_
          rintro _ w1 ⟨rfl, hw⟩
          obtain rfl := hw.symm
          go_wp2_with fail
          refine GA.out.mono ?_
          rintro _ w1 ⟨rfl, hw⟩
          obtain rfl := hw.symm
          go_wp2_with fail
          refine GB.out.mono ?_
          rintro _ w1 ⟨rfl, hw⟩
          obtain rfl := hw.symm
          go_wp2_with fail
          refine (KE.out _).mono ?_
          rintro _ w1 ⟨rfl, hw⟩
          obtain rfl := hw.symm
          go_wp2_with fail
          refine (OE.out _).mono ?_
          rintro _ w1 ⟨rfl, hw⟩
          obtain rfl := hw.symm
          cases kv
          all_goals
            go_wp2_with fail
            go_roundw
            case rel => exact ⟨i, j + 1, o, pa, _, ca, tailA pb cb, nb - 1, cb - 1, pe, ce, rfl, rfl, rfl, rfl, by rw [odd_succ], EA0, TB, ST, by omega, HO, hown, hsz, KB⟩
            case measure => simp only [lenOf]; omega
        · rw [if_neg kk] at ST
          have BO := Lib.hid hown
          have xm : v ∈ A ∨ v ∈ B := by
            right; rw [← hv]; unfold nxt; rw [if_pos (by omega), List.getD_eq_getElem?_getD, List.getElem?_eq_getElem (by omega)]; exact List.getElem_mem _
          go_wp2_with fail
          refine GA.out.mono ?_
          rintro _ w1 ⟨rfl, hw⟩
          obtain rfl := hw.symm
          go_wp2_with fail
          refine GB.out.mono ?_
          rintro _ w1 ⟨rfl, hw⟩
          obtain rfl := hw.symm
          go_wp2_with fail
          refine GA.out.mono ?_
          rintro _ w1 ⟨rfl, hw⟩
          obtain rfl := hw.symm
          go_wp2_with fail
          refine GB.out.mono ?_
          rintro _ w1 ⟨rfl, hw⟩
          obtain rfl := hw.symm
          go_wp2_with fail
          refine (KE.out _).mono ?_
          rintro _ w1 ⟨rfl, hw⟩
          obtain rfl := hw.symm
          go_wp2_with fail
          refine (OE.out _).mono ?_
          rintro _ w1 ⟨rfl, hw⟩
          obtain rfl := hw.symm
          cases kv <;> cases ov <;> first | exact absurd rfl kk | skip
          all_goals
            go_wp2_with (at_builtin; refine wpList_append_own _ rfl _ _ 69 rfl w.heap.size 3 i0 (.int .i64 0) 1 8 Try.underlying69 hi hz0 hz1 hz2 rfl (by decide) _ _ _ rfl (hown.alloc _) ⟨wr.heap.size, 0, none⟩ 1 1 [.int .i64 v] rfl rfl ?c1 ?c2 ?c3 ?c4 ?c5 ?_)
            case c1 => exact cell_one_new _ _ _
            case c2 => simp [Value.oneCell']
            case c3 => unfold maxLen; omega
            case c4 => omega
            case c5 => simp; omega
            intro v1 w1 hown1 hgrow _
            have hown2 : w1.ownsRow w.heap.size 3 1 v1 (o ++ [v]).length ((o ++ [v]).map (Value.int .i64)) := by
              simpa using hown1
            obtain ⟨a1, cap1, rfl, _⟩ := ri_of_owns hown2 (by simp; omega)
            have B1 := Lib.hid (grown_below (B := w.heap.size) hown hgrow (by omega) (by omega) KB.out)
            have HZ : w.heap.size ≤ w1.heap.size := B1.out.size
            have B2 := Lib.hid (grown_below (B := w.heap.size) hown hgrow (by omega) (by omega) KB.out)
            clear hown hown1 hgrow
            go_wp2_with fail
            go_roundw
            case rel => exact ⟨i, j + 1, o ++ [v], pa, _, ca, tailA pb cb, nb - 1, cb - 1, a1, cap1, rfl, rfl, by simp, rfl, by rw [odd_succ], EA0, TB, ST, by simp; omega, Lib.hid (fun y hy => by rcases List.mem_append.1 hy with h | h; exact HO.out y h; rw [List.mem_singleton] at h; subst h; exact xm), hown2, HZ, B1⟩
            case measure => simp only [lenOf]; omega
    · have na0 : ¬ (0 : Int) < (na : Int) := by omega
      have e0 : decide ((0 : Int) < (na : Int)) = false := decide_eq_false na0
      have nb0 : ¬ (0 : Int) < (nb : Int) := by omega
      have e1 : decide ((0 : Int) < (nb : Int)) = false := decide_eq_false nb0
      have FIN : Hid (MrgR w A B keep (.returned (.slice pe o.length ce)) wr) := Lib.hid (by
        have hm := HM.out
        obtain rfl : i = A.length := by omega
        obtain rfl : j = B.length := by omega
        obtain ⟨f1, f2, f3⟩ := hm.fin KP.out.no eA eB
        exact ⟨o, _, rfl, EV.of_owns hown (by omega), f1, f2, f3, lo, HO.out, KB.out⟩)
      go_wp2_with fail
      go_returns
      exact FIN.out
end Go.Proofs.Ytjemnjboopabpaa
