/- Package sizing and its reference: the size that a value tells. -/
import Derived.Test.YtbolifjkhoiphaaVinP
import Derived.Test.YtbolifjkhoiphaaRec
import Derived.Test.YtbolifjkhoiphaaRegF
import Derived.Test.YtbolifjkhoiphaaSums
import Derived.WalkKit
import Derived.WalkSpells
import Derived.WalkLawsBesides
import Derived.Handy
import Derived.Lib.Hide
import Derived.Deep.QuietTactic
import Derived.BigQuiet
import Derived.Deep.RegionHeld3
import Derived.Deep.RegionWith
import Derived.Outline
namespace Go.Proofs.Ytbolifjkhoiphaa
open Go.RowKit Go.Proofs.Reg Go.Proofs.Big
set_option linter.unusedVariables false
set_option linter.unusedSimpArgs false
set_option maxRecDepth 100000
theorem max0 (a : Int) : (if a < 0 then 0 else a) = max a 0 := by omega
set_option maxHeartbeats 1000000 in
theorem zof_unknown (n base N D sz ed : Int) (w : World) :
    Calls Try.prog 33 #[.agg #[.int .i64 4, .int .i64 n], .agg #[.int .i64 base, .bool false, .int .i64 N, .int .i64 D, .int .i64 sz, .int .i64 ed]] w fun e w' => e = .returned (.tuple #[.int .i64 0, .bool false]) ∧ Below w.heap.size w w' := by
  go_enter Try.func33, Try.ntmps33
  go_wp2_with fail
  go_returns
  exact ⟨rfl, by go_grown⟩
/-- what is known of a value's kind and of whether the base is known, so that the value is asked -/
def Asked (k : Int) (kn : Bool) : Prop := (k == 4) = false ∨ kn = true
/-- what becomes of a value's length: the size -/
inductive ZR (v er : Int) (ok : Bool) (sz ed : Int) : Int → Bool → Int → Prop
  | gave : er ≠ 0 → ZR v er ok sz ed 0 false er
  | no : er = 0 → ok = false → ZR v er ok sz ed 0 false 0
  | plain : er = 0 → ok = true → (sz == 2) = false → ZR v er ok sz ed (max v 0) true 0
  | less (v2 : Int) : er = 0 → ok = true → sz = 2 → Tl (v - ed) v2 0 → ZR v er ok sz ed (max v2 0) true 0
  | far : er = 0 → ok = true → sz = 2 → Tl (v - ed) 0 2 → ZR v er ok sz ed 0 false 2
theorem zr_ex (v er : Int) (ok : Bool) (sz ed : Int) : ∃ V OK ER, ZR v er ok sz ed V OK ER := by
  by_cases h : er = 0
  · cases ok
    · exact ⟨_, _, _, .no h rfl⟩
    · by_cases hs : sz = 2
      · obtain ⟨v2, e2, ht⟩ := tl_ex (v - ed)
        rcases ht with ⟨a, rfl, rfl⟩ | ⟨a, rfl, rfl⟩
        · exact ⟨_, _, _, .less _ h rfl hs (.inl ⟨a, rfl, rfl⟩)⟩
        · exact ⟨_, _, _, .far h rfl hs (.inr ⟨a, rfl, rfl⟩)⟩
      · exact ⟨_, _, _, .plain h rfl (by simpa using hs)⟩
  · exact ⟨_, _, _, .gave h⟩
set_option maxHeartbeats 8000000 in
theorem zof_any (k n base N D sz ed v er V ER : Int) (ok kn OK : Bool) (v0 : -9223372036854775808 ≤ v ∧ v ≤ 9223372036854775807) (d0 : -9223372036854775808 ≤ ed ∧ ed ≤ 9223372036854775807) (hk : Asked k kn) (hr : ZR v er ok sz ed V OK ER) (h : ∀ w, Calls Try.prog 54 #[.agg #[.int .i64 k, .int .i64 n], .int .i64 base, .agg #[.int .i64 N, .int .i64 D]] w fun e w' => InS v ok er e ∧ Below w.heap.size w w') (w : World) :
    Calls Try.prog 33 #[.agg #[.int .i64 k, .int .i64 n], .agg #[.int .i64 base, .bool kn, .int .i64 N, .int .i64 D, .int .i64 sz, .int .i64 ed]] w fun e w' => InS V OK ER e ∧ Below w.heap.size w w' := by
  have H := Lib.hid h
  have HT := Lib.hid (fun v2 e2 ht w => fsub_ends v ed v2 e2 v0.1 v0.2 d0.1 d0.2 ht w)
  clear h
  have C : ∃ b, (k == 4) = b ∧ (b = false ∨ kn = true) := ⟨_, rfl, hk⟩
  obtain ⟨b, hb4, hbk⟩ := C
  cases b
  case' true => have hnk : (!kn) = false := by rcases hbk with h | h; exact absurd h (by decide); rw [h]; rfl
  all_goals
    clear hbk hk
    go_enter Try.func33, Try.ntmps33
    go_wp2_with fail
    refine (H.out _).mono ?_
    rintro e w1 ⟨he, hb⟩
    have KB := Lib.hid (show Below w.heap.size w w1 from bel_tr0 (by go_grown) hb)
    have KT := Lib.hid ((((Tab.nil w).new [.int .i64 k, .int .i64 n] 72).new [.int .i64 base, .bool kn, .int .i64 N, .int .i64 D, .int .i64 sz, .int .i64 ed] 65).later hb)
    clear hb
    have c4 := KT.out.cell 0 4 rfl rfl
    have c5 := KT.out.cell 0 5 rfl rfl
    simp only [World.size_alloc] at c4 c5
    cases hr with
    | gave hz =>
      rcases he with ⟨h0, _⟩ | ⟨_, _, _, rfl⟩
      · exact absurd h0 hz
      · exact ⟨rfl, .inr ⟨hz, rfl, rfl, rfl⟩, KB.out⟩
    | no hz ho =>
      subst ho
      rcases he with ⟨_, rfl⟩ | ⟨hn, _⟩
      · go_wp2_with fail
        go_returns
        exact ⟨.inl ⟨rfl, rfl⟩, KB.out⟩
      · exact absurd hz hn
    | plain hz ho hs =>
      subst ho
      rcases he with ⟨_, rfl⟩ | ⟨hn, _⟩
      · go_wp2_with fail
        go_returns
        exact ⟨.inl ⟨rfl, rfl⟩, KB.out⟩
      · exact absurd hz hn
    | less v2 hz ho hs ht =>
      subst ho hs
      rcases he with ⟨_, rfl⟩ | ⟨hn, _⟩
      · go_wp2_with fail
        refine (HT.out _ _ ht _).mono ?_
        rintro e w2 ⟨he, hb⟩
        have K2 := Lib.hid (bel_tr0 KB.out hb)
        clear hb c4 c5
        rcases he with ⟨_, rfl⟩ | ⟨hn, _⟩
        · go_wp2_with fail
          go_returns
          exact ⟨.inl ⟨rfl, rfl⟩, K2.out⟩
        · exact absurd rfl hn
      · exact absurd hz hn
    | far hz ho hs ht =>
      subst ho hs
      rcases he with ⟨_, rfl⟩ | ⟨hn, _⟩
      · go_wp2_with fail
        refine (HT.out _ _ ht _).mono ?_
        rintro e w2 ⟨he, hb⟩
        have K2 := Lib.hid (bel_tr0 KB.out hb)
        clear hb c4 c5
        rcases he with ⟨hn, rfl⟩ | ⟨_, _, rfl⟩
        · exact absurd hn (by decide)
        · exact ⟨rfl, .inr ⟨by decide, rfl, rfl, rfl⟩, K2.out⟩
      · exact absurd hz hn
theorem r14_no (k n base N D ed : Int) (kn wh : Bool) (h : ((k == 3) = false ∧ (k == 4) = false) ∨ (k = 4 ∧ kn = false)) (w : World) :
    Calls Try.prog 34 #[.agg #[.int .i64 k, .int .i64 n], .agg #[.int .i64 base, .bool kn, .int .i64 N, .int .i64 D, .bool wh, .int .i64 ed]] w fun e w' => e = .returned (.tuple #[.int .i64 0, .bool false, .int .i64 0]) ∧ Below w.heap.size w w' := by
  rcases h with ⟨h3, h4⟩ | ⟨rfl, rfl⟩
  · have g3 : (k != 3) = true := by simp only [bne, h3]; rfl
    have g4 : (k != 4) = true := by simp only [bne, h4]; rfl
    go_enter Try.func34, Try.ntmps34
    go_wp2_with fail
    go_returns
    exact ⟨rfl, by go_grown⟩
  · go_enter Try.func34, Try.ntmps34
    go_wp2_with fail
    go_returns
    exact ⟨rfl, by go_grown⟩
/-- a value is a great number -/
def Bg (u : Value) (x : Int) (w : World) : Prop := ∃ ng a l c, u = .agg #[.bool ng, .slice a l c] ∧ BigV w ng a l c x
theorem Bg.later {u : Value} {x : Int} {w w' : World} (h : Bg u x w) (hb : Below w.heap.size w w') : Bg u x w' := by
  obtain ⟨ng, a, l, c, e, g⟩ := h
  exact ⟨ng, a, l, c, e, g.later hb⟩
/-- what the region of a difference keeps -/
structure DfB (W : World) (a b : Int) (L : Nat → Bool) (vz : Nat → Value) (wy : World) : Prop where
  bel : Below W.heap.size W wy
  b1 : L 1 = true → Bg (vz 1) a wy
  b4 : L 4 = true → Bg (vz 4) b wy
  b5 : L 5 = true → Bg (vz 5) (-b) wy
  b6 : L 6 = true → Bg (vz 6) (a + -b) wy
theorem DfB.start (W : World) (a b : Int) : DfB W a b (fun _ => false) (fun _ => undef) W.drew := ⟨(Below.refl _ _).drew, fun h => (by cases h), fun h => (by cases h), fun h => (by cases h), fun h => (by cases h)⟩
theorem bg_add {L : Nat → Bool} {vz : Nat → Value} {i j : Nat} {v : Value} {x : Int} {wy w' : World} (h : L j = true → Bg (vz j) x wy) (hb : Below wy.heap.size wy w') (hv : j = i → Bg v x w') : addL L i j = true → Bg (upd vz i v j) x w' := by
  intro q
  by_cases e : j = i
  · subst e
    have := hv rfl
    simpa [upd] using this
  · have : L j = true := by simpa [addL, e] using q
    have := (h this).later hb
    simpa [upd, e] using this
theorem DfB.pure {W : World} {a b : Int} {L : Nat → Bool} {vz : Nat → Value} {wy w' : World} (h : DfB W a b L vz wy) (i : Nat) (v : Value) (n1 : 1 ≠ i) (n4 : 4 ≠ i) (n5 : 5 ≠ i) (n6 : 6 ≠ i) (hb : Below wy.heap.size wy w') : DfB W a b (addL L i) (upd vz i v) w' :=
  ⟨bel_tr0 h.bel hb, bg_add h.b1 hb (fun e => absurd e n1), bg_add h.b4 hb (fun e => absurd e n4), bg_add h.b5 hb (fun e => absurd e n5), bg_add h.b6 hb (fun e => absurd e n6)⟩
theorem DfB.big1 {W : World} {a b : Int} {L : Nat → Bool} {vz : Nat → Value} {wy w' : World} (h : DfB W a b L vz wy) {v : Value} (hb : Below wy.heap.size wy w') (hv : Bg (upd vz 1 v 1) a w') : DfB W a b (addL L 1) (upd vz 1 v) w' :=
  ⟨bel_tr0 h.bel hb, fun _ => hv, bg_add h.b4 hb (fun e => absurd e (by decide)), bg_add h.b5 hb (fun e => absurd e (by decide)), bg_add h.b6 hb (fun e => absurd e (by decide))⟩
theorem DfB.big4 {W : World} {a b : Int} {L : Nat → Bool} {vz : Nat → Value} {wy w' : World} (h : DfB W a b L vz wy) {v : Value} (hb : Below wy.heap.size wy w') (hv : Bg (upd vz 4 v 4) b w') : DfB W a b (addL L 4) (upd vz 4 v) w' :=
  ⟨bel_tr0 h.bel hb, bg_add h.b1 hb (fun e => absurd e (by decide)), fun _ => hv, bg_add h.b5 hb (fun e => absurd e (by decide)), bg_add h.b6 hb (fun e => absurd e (by decide))⟩
theorem DfB.big5 {W : World} {a b : Int} {L : Nat → Bool} {vz : Nat → Value} {wy w' : World} (h : DfB W a b L vz wy) {v : Value} (hb : Below wy.heap.size wy w') (hv : Bg (upd vz 5 v 5) (-b) w') : DfB W a b (addL L 5) (upd vz 5 v) w' :=
  ⟨bel_tr0 h.bel hb, bg_add h.b1 hb (fun e => absurd e (by decide)), bg_add h.b4 hb (fun e => absurd e (by decide)), fun _ => hv, bg_add h.b6 hb (fun e => absurd e (by decide))⟩
theorem DfB.big6 {W : World} {a b : Int} {L : Nat → Bool} {vz : Nat → Value} {wy w' : World} (h : DfB W a b L vz wy) {v : Value} (hb : Below wy.heap.size wy w') (hv : Bg (upd vz 6 v 6) (a + -b) w') : DfB W a b (addL L 6) (upd vz 6 v) w' :=
  ⟨bel_tr0 h.bel hb, bg_add h.b1 hb (fun e => absurd e (by decide)), bg_add h.b4 hb (fun e => absurd e (by decide)), bg_add h.b5 hb (fun e => absurd e (by decide)), fun _ => hv⟩
theorem zr_ok {v er : Int} {ok : Bool} {sz ed V : Int} {OK : Bool} {ER : Int} (h : ZR v er ok sz ed V OK ER) : ER ≠ 0 → V = 0 ∧ OK = false := by
  intro z
  cases h <;> first | exact ⟨rfl, rfl⟩ | exact absurd rfl z
set_option maxHeartbeats 8000000 in
theorem r14_in (k n base N D sz ed v er V ER : Int) (ok kn OK wh : Bool) (v0 : -9223372036854775808 ≤ v ∧ v ≤ 9223372036854775807) (d0 : -9223372036854775808 ≤ ed ∧ ed ≤ 9223372036854775807) (hk : (k == 3) = true ∨ ((k == 3) = false ∧ (k == 4) = true ∧ kn = true)) (hok : er = 0 → ok = true) (hw : wh = (sz == 2)) (hr : ZR v er ok sz ed V OK ER)
    (h : ∀ w, Calls Try.prog 55 #[.agg #[.int .i64 k, .int .i64 n], .int .i64 base, .int .i64 N, .int .i64 D] w fun e w' => e = .returned (.tuple #[.int .i64 v, .bool ok, .int .i64 er]) ∧ Below w.heap.size w w') (w : World) :
    Calls Try.prog 34 #[.agg #[.int .i64 k, .int .i64 n], .agg #[.int .i64 base, .bool kn, .int .i64 N, .int .i64 D, .bool wh, .int .i64 ed]] w fun e w' => e = .returned (.tuple #[.int .i64 V, .bool OK, .int .i64 ER]) ∧ Below w.heap.size w w' := by
  have H := Lib.hid h
  have HK := Lib.hid hok
  have HV := Lib.hid v0
  have HD := Lib.hid d0
  have HW := Lib.hid hw
  clear h hok v0 d0 hw
  have C : ((k != 3) = false ∧ (k == 4) = false) ∨ ((k != 3) = false ∧ (k == 4) = true ∧ k = 3) ∨ ((k != 3) = true ∧ (k != 4) = false ∧ (k == 4) = true ∧ (!kn) = false) := by
    rcases hk with h3 | ⟨h3, h4, rfl⟩
    · have : k = 3 := by simpa using h3
      subst this
      exact .inl ⟨rfl, rfl⟩
    · exact .inr (.inr ⟨by simp only [bne, h3]; rfl, by simp only [bne, h4]; rfl, h4, rfl⟩)
  clear hk
  rcases C with ⟨q1, q2⟩ | ⟨_, q2, rfl⟩ | ⟨q1, q2, q3, q4⟩
  case' inr.inl => exact absurd q2 (by decide)
  all_goals
    go_enter Try.func34, Try.ntmps34
    go_wp2_with fail
    refine (H.out _).mono ?_
    rintro e w1 ⟨rfl, hb⟩
    have KB := Lib.hid (show Below w.heap.size w w1 from bel_tr0 (by go_grown) hb)
    have KT := Lib.hid ((((Tab.nil w).new [.int .i64 k, .int .i64 n] 75).new [.int .i64 base, .bool kn, .int .i64 N, .int .i64 D, .bool wh, .int .i64 ed] 67).later hb)
    clear hb
    have c4 := KT.out.cell 0 4 rfl rfl
    have c5 := KT.out.cell 0 5 rfl rfl
    simp only [World.size_alloc] at c4 c5
    cases hr with
    | gave hz =>
      have hzb : (er != 0) = true := by simpa using hz
      clear hz
      go_wp2_with fail
      go_returns
      exact ⟨rfl, KB.out⟩
    | no hz ho => exact absurd (ho.symm.trans (HK.out hz)) (by decide)
    | plain hz ho hs =>
      subst hz ho
      have e := HW.out
      rw [hs] at e
      subst e
      by_cases c : v < 0
      · go_wp2_with fail
        go_returns
        rw [show max v 0 = 0 by omega]
        exact ⟨rfl, KB.out⟩
      · go_wp2_with fail
        go_returns
        rw [show max v 0 = v by omega]
        exact ⟨rfl, KB.out⟩
    | less v2 hz ho hs ht =>
      subst hz ho hs
      have e : wh = true := HW.out
      subst e
      clear HW
      have SA := Lib.hid (sm_of v (by have := HV.out; omega) (by have := HV.out; omega))
      have SB := Lib.hid (sm_of ed (by have := HD.out; omega) (by have := HD.out; omega))
      have SNB := Lib.hid (sm_of (-ed) (by have := HD.out; omega) (by have := HD.out; omega))
      have SD := Lib.hid (sm_of (v + -ed) (by have := HD.out; have := HV.out; omega) (by have := HD.out; have := HV.out; omega))
      have T2' : Hid (Tl (v + -ed) v2 0) := Lib.hid (by have := ht; rwa [Int.sub_eq_add_neg] at this)
      clear ht
      go_wp2_with fail
      refine wp_region_vals [some (.int .i64 v), none, some (.pointer (some ⟨w.heap.size + 1, 5, none⟩)), some (.int .i64 ed), none, none, none, some (.tuple #[.int .i64 v2, .int .i64 0]), some (.tuple #[.int .i64 v2, .int .i64 0]), some (.int .i64 v2), some (.int .i64 0), some (.int .i64 v2), some (.int .i64 0)] (DfB w1 v ed)
        [some 46, some 47, some 48, some 49, some 50, some 51, some 52, some 53, some 45, some 54, some 55, some 7, some 9] (by kernel_rfl) (by kernel_rfl) (by kernel_rfl) (by kernel_rfl) (by kernel_rfl) (by kernel_rfl) (DfB.start w1 v ed) (fun i o ho => ?_) (fun Lz vz wz hL hB => ?_)
      · match i, ho with
        | 0, ho =>
          obtain rfl := Option.some.inj ho
          intro Az Lz vz wy Kz Ez hB k
          have e7 : Az.eval (.tmp 7) = .int .i64 v := Ez.keep1 7 11 (Ez.late 11 _ rfl (by kernel_rfl)) (by kernel_rfl)
          exact wpo_val (v := .int .i64 v) (run_move e7) (k _ _ rfl (hB.pure 0 _ (by decide) (by decide) (by decide) (by decide) (Below.refl _ _)))
        | 1, ho =>
          obtain rfl := Option.some.inj ho
          intro Az Lz vz wy Kz Ez hB k
          have e46 : Az.eval (.tmp 46) = .int .i64 v := Ez.dep 0 46 (by kernel_rfl) rfl
          refine wpo_call (run_callW (fun _ _ => by kernel_rfl)) (R := RetBig wy v) ?_ ?_
          · simp only [List.map_toArray, List.map_cons, List.map_nil, eval_const, e46]
            exact bof_any v HV.out.1 HV.out.2 wy
          · rintro ez w' ⟨ng, a, l, c, rfl, hv, hb⟩
            exact ⟨_, rfl, k _ _ trivial (hB.big1 hb ⟨ng, a, l, c, by simp [upd], hv⟩)⟩
        | 2, ho =>
          obtain rfl := Option.some.inj ho
          intro Az Lz vz wy Kz Ez hB k
          have e3 : Az.eval (.tmp 3) = .pointer (some ⟨w.heap.size + 1, 0, none⟩) := Ez.out 3 (by kernel_rfl)
          exact wpo_val (v := .pointer (some ⟨w.heap.size + 1, 5, none⟩)) (run_field e3 (by simp [go_sem])) (k _ _ rfl (hB.pure 2 _ (by decide) (by decide) (by decide) (by decide) (Below.refl _ _)))
        | 3, ho =>
          obtain rfl := Option.some.inj ho
          intro Az Lz vz wy Kz Ez hB k
          have e48 : Az.eval (.tmp 48) = .pointer (some ⟨w.heap.size + 1, 5, none⟩) := Ez.dep 2 48 (by kernel_rfl) rfl
          have q0 := kcell_on hB.bel c5
          exact wpo_val (v := .int .i64 ed) (run_load e48 (by simp [go_sem, q0])) (k _ _ rfl (hB.pure 3 _ (by decide) (by decide) (by decide) (by decide) (Below.refl _ _)))
        | 4, ho =>
          obtain rfl := Option.some.inj ho
          intro Az Lz vz wy Kz Ez hB k
          have e49 : Az.eval (.tmp 49) = .int .i64 ed := Ez.dep 3 49 (by kernel_rfl) rfl
          refine wpo_call (run_callW (fun _ _ => by kernel_rfl)) (R := RetBig wy ed) ?_ ?_
          · simp only [List.map_toArray, List.map_cons, List.map_nil, eval_const, e49]
            exact bof_any ed HD.out.1 HD.out.2 wy
          · rintro ez w' ⟨ng, a, l, c, rfl, hv, hb⟩
            exact ⟨_, rfl, k _ _ trivial (hB.big4 hb ⟨ng, a, l, c, by simp [upd], hv⟩)⟩
        | 5, ho =>
          obtain rfl := Option.some.inj ho
          intro Az Lz vz wy Kz Ez hB k
          have e50 : Az.eval (.tmp 50) = vz 4 := Ez.dep 4 50 (by kernel_rfl) rfl
          obtain ⟨n4, a4, l4, c4, u4, g4⟩ := hB.b4 (Ez.had 4 (by kernel_rfl))
          refine wpo_call (run_callW (fun _ _ => by kernel_rfl)) (R := RetBig wy (-ed)) ?_ ?_
          · simp only [List.map_toArray, List.map_cons, List.map_nil, eval_const, e50, u4]
            exact minus_any n4 a4 l4 c4 ed wy g4 (Nat.le_trans (Sm.le g4 SB.out) (by decide))
          · rintro ez w' ⟨ng, a, l, c, rfl, hv, hb⟩
            exact ⟨_, rfl, k _ _ trivial (hB.big5 hb ⟨ng, a, l, c, by simp [upd], hv⟩)⟩
        | 6, ho =>
          obtain rfl := Option.some.inj ho
          intro Az Lz vz wy Kz Ez hB k
          have e47 : Az.eval (.tmp 47) = vz 1 := Ez.dep 1 47 (by kernel_rfl) rfl
          have e51 : Az.eval (.tmp 51) = vz 5 := Ez.dep 5 51 (by kernel_rfl) rfl
          obtain ⟨n1, a1, l1, c1, u1, g1⟩ := hB.b1 (Ez.had 1 (by kernel_rfl))
          obtain ⟨n5, a5, l5, c5, u5, g5⟩ := hB.b5 (Ez.had 5 (by kernel_rfl))
          refine wpo_call (run_callW (fun _ _ => by kernel_rfl)) (R := RetBig wy (v + -ed)) ?_ ?_
          · simp only [List.map_toArray, List.map_cons, List.map_nil, eval_const, e47, e51, u1, u5]
            exact plus_any n1 n5 a1 a5 l1 c1 l5 c5 v (-ed) wy g1 g5 (Nat.le_trans (Sm.le g1 SA.out) (by decide)) (Nat.le_trans (Sm.le g5 SNB.out) (by decide))
          · rintro ez w' ⟨ng, a, l, c, rfl, hv, hb⟩
            exact ⟨_, rfl, k _ _ trivial (hB.big6 hb ⟨ng, a, l, c, by simp [upd], hv⟩)⟩
        | 7, ho =>
          obtain rfl := Option.some.inj ho
          intro Az Lz vz wy Kz Ez hB k
          have e52 : Az.eval (.tmp 52) = vz 6 := Ez.dep 6 52 (by kernel_rfl) rfl
          obtain ⟨n6, a6, l6, c6, u6, g6⟩ := hB.b6 (Ez.had 6 (by kernel_rfl))
          refine wpo_call (run_callW (fun _ _ => by kernel_rfl)) (R := fun ez w' => ez = .returned (.tuple #[.int .i64 v2, .int .i64 0]) ∧ Below wy.heap.size wy w') ?_ ?_
          · simp only [List.map_toArray, List.map_cons, List.map_nil, eval_const, e52, u6]
            exact told4_any n6 a6 l6 c6 (v + -ed) v2 0 wy g6 (Nat.le_trans (Sm.le g6 SD.out) (by decide)) T2'.out
          · rintro ez w' ⟨rfl, hb⟩
            exact ⟨_, rfl, k _ _ rfl (hB.pure 7 _ (by decide) (by decide) (by decide) (by decide) (hb))⟩
        | 8, ho =>
          obtain rfl := Option.some.inj ho
          intro Az Lz vz wy Kz Ez hB k
          have e53 : Az.eval (.tmp 53) = .tuple #[.int .i64 v2, .int .i64 0] := Ez.dep 7 53 (by kernel_rfl) rfl
          exact wpo_val (v := .tuple #[.int .i64 v2, .int .i64 0]) (run_move e53) (k _ _ rfl (hB.pure 8 _ (by decide) (by decide) (by decide) (by decide) (Below.refl _ _)))
        | 9, ho =>
          obtain rfl := Option.some.inj ho
          intro Az Lz vz wy Kz Ez hB k
          have e45 : Az.eval (.tmp 45) = .tuple #[.int .i64 v2, .int .i64 0] := Ez.dep 8 45 (by kernel_rfl) rfl
          exact wpo_val (v := .int .i64 v2) (run_ext e45 (by simp [go_sem])) (k _ _ rfl (hB.pure 9 _ (by decide) (by decide) (by decide) (by decide) (Below.refl _ _)))
        | 10, ho =>
          obtain rfl := Option.some.inj ho
          intro Az Lz vz wy Kz Ez hB k
          have e45 : Az.eval (.tmp 45) = .tuple #[.int .i64 v2, .int .i64 0] := Ez.dep 8 45 (by kernel_rfl) rfl
          exact wpo_val (v := .int .i64 0) (run_ext e45 (by simp [go_sem])) (k _ _ rfl (hB.pure 10 _ (by decide) (by decide) (by decide) (by decide) (Below.refl _ _)))
        | 11, ho =>
          obtain rfl := Option.some.inj ho
          intro Az Lz vz wy Kz Ez hB k
          have e54 : Az.eval (.tmp 54) = .int .i64 v2 := Ez.dep 9 54 (by kernel_rfl) rfl
          exact wpo_val (v := .int .i64 v2) (run_assign e54) (k _ _ rfl (hB.pure 11 _ (by decide) (by decide) (by decide) (by decide) (Below.refl _ _)))
        | 12, ho =>
          obtain rfl := Option.some.inj ho
          intro Az Lz vz wy Kz Ez hB k
          have e55 : Az.eval (.tmp 55) = .int .i64 0 := Ez.dep 10 55 (by kernel_rfl) rfl
          exact wpo_val (v := .int .i64 0) (run_assign e55) (k _ _ rfl (hB.pure 12 _ (by decide) (by decide) (by decide) (by decide) (Below.refl _ _)))
        | n + 13, ho => simp at ho
      have K6 := Lib.hid (bel_tr0 KB.out hB.bel)
      simp only [puts2, mix, Act.put, List.setIfInBounds_toArray, List.set_cons_zero, List.set_cons_succ, Nat.zero_add, Nat.reduceAdd, List.getElem?_cons_zero, List.getElem?_cons_succ]
      clear hL hB c4 c5
      by_cases c : v2 < 0
      · go_wp2_with fail
        go_returns
        rw [show max v2 0 = 0 by omega]
        exact ⟨rfl, K6.out⟩
      · go_wp2_with fail
        go_returns
        rw [show max v2 0 = v2 by omega]
        exact ⟨rfl, K6.out⟩
    | far hz ho hs ht =>
      subst hz ho hs
      have e : wh = true := HW.out
      subst e
      clear HW
      have SA := Lib.hid (sm_of v (by have := HV.out; omega) (by have := HV.out; omega))
      have SB := Lib.hid (sm_of ed (by have := HD.out; omega) (by have := HD.out; omega))
      have SNB := Lib.hid (sm_of (-ed) (by have := HD.out; omega) (by have := HD.out; omega))
      have SD := Lib.hid (sm_of (v + -ed) (by have := HD.out; have := HV.out; omega) (by have := HD.out; have := HV.out; omega))
      have T2' : Hid (Tl (v + -ed) 0 2) := Lib.hid (by have := ht; rwa [Int.sub_eq_add_neg] at this)
      clear ht
      go_wp2_with fail
      refine wp_region_vals [some (.int .i64 v), none, some (.pointer (some ⟨w.heap.size + 1, 5, none⟩)), some (.int .i64 ed), none, none, none, some (.tuple #[.int .i64 0, .int .i64 2]), some (.tuple #[.int .i64 0, .int .i64 2]), some (.int .i64 0), some (.int .i64 2), some (.int .i64 0), some (.int .i64 2)] (DfB w1 v ed)
        [some 46, some 47, some 48, some 49, some 50, some 51, some 52, some 53, some 45, some 54, some 55, some 7, some 9] (by kernel_rfl) (by kernel_rfl) (by kernel_rfl) (by kernel_rfl) (by kernel_rfl) (by kernel_rfl) (DfB.start w1 v ed) (fun i o ho => ?_) (fun Lz vz wz hL hB => ?_)
      · match i, ho with
        | 0, ho =>
          obtain rfl := Option.some.inj ho
          intro Az Lz vz wy Kz Ez hB k
          have e7 : Az.eval (.tmp 7) = .int .i64 v := Ez.keep1 7 11 (Ez.late 11 _ rfl (by kernel_rfl)) (by kernel_rfl)
          exact wpo_val (v := .int .i64 v) (run_move e7) (k _ _ rfl (hB.pure 0 _ (by decide) (by decide) (by decide) (by decide) (Below.refl _ _)))
        | 1, ho =>
          obtain rfl := Option.some.inj ho
          intro Az Lz vz wy Kz Ez hB k
          have e46 : Az.eval (.tmp 46) = .int .i64 v := Ez.dep 0 46 (by kernel_rfl) rfl
          refine wpo_call (run_callW (fun _ _ => by kernel_rfl)) (R := RetBig wy v) ?_ ?_
          · simp only [List.map_toArray, List.map_cons, List.map_nil, eval_const, e46]
            exact bof_any v HV.out.1 HV.out.2 wy
          · rintro ez w' ⟨ng, a, l, c, rfl, hv, hb⟩
            exact ⟨_, rfl, k _ _ trivial (hB.big1 hb ⟨ng, a, l, c, by simp [upd], hv⟩)⟩
        | 2, ho =>
          obtain rfl := Option.some.inj ho
          intro Az Lz vz wy Kz Ez hB k
          have e3 : Az.eval (.tmp 3) = .pointer (some ⟨w.heap.size + 1, 0, none⟩) := Ez.out 3 (by kernel_rfl)
          exact wpo_val (v := .pointer (some ⟨w.heap.size + 1, 5, none⟩)) (run_field e3 (by simp [go_sem])) (k _ _ rfl (hB.pure 2 _ (by decide) (by decide) (by decide) (by decide) (Below.refl _ _)))
        | 3, ho =>
          obtain rfl := Option.some.inj ho
          intro Az Lz vz wy Kz Ez hB k
          have e48 : Az.eval (.tmp 48) = .pointer (some ⟨w.heap.size + 1, 5, none⟩) := Ez.dep 2 48 (by kernel_rfl) rfl
          have q0 := kcell_on hB.bel c5
          exact wpo_val (v := .int .i64 ed) (run_load e48 (by simp [go_sem, q0])) (k _ _ rfl (hB.pure 3 _ (by decide) (by decide) (by decide) (by decide) (Below.refl _ _)))
        | 4, ho =>
          obtain rfl := Option.some.inj ho
          intro Az Lz vz wy Kz Ez hB k
          have e49 : Az.eval (.tmp 49) = .int .i64 ed := Ez.dep 3 49 (by kernel_rfl) rfl
          refine wpo_call (run_callW (fun _ _ => by kernel_rfl)) (R := RetBig wy ed) ?_ ?_
          · simp only [List.map_toArray, List.map_cons, List.map_nil, eval_const, e49]
            exact bof_any ed HD.out.1 HD.out.2 wy
          · rintro ez w' ⟨ng, a, l, c, rfl, hv, hb⟩
            exact ⟨_, rfl, k _ _ trivial (hB.big4 hb ⟨ng, a, l, c, by simp [upd], hv⟩)⟩
        | 5, ho =>
          obtain rfl := Option.some.inj ho
          intro Az Lz vz wy Kz Ez hB k
          have e50 : Az.eval (.tmp 50) = vz 4 := Ez.dep 4 50 (by kernel_rfl) rfl
          obtain ⟨n4, a4, l4, c4, u4, g4⟩ := hB.b4 (Ez.had 4 (by kernel_rfl))
          refine wpo_call (run_callW (fun _ _ => by kernel_rfl)) (R := RetBig wy (-ed)) ?_ ?_
          · simp only [List.map_toArray, List.map_cons, List.map_nil, eval_const, e50, u4]
            exact minus_any n4 a4 l4 c4 ed wy g4 (Nat.le_trans (Sm.le g4 SB.out) (by decide))
          · rintro ez w' ⟨ng, a, l, c, rfl, hv, hb⟩
            exact ⟨_, rfl, k _ _ trivial (hB.big5 hb ⟨ng, a, l, c, by simp [upd], hv⟩)⟩
        | 6, ho =>
          obtain rfl := Option.some.inj ho
          intro Az Lz vz wy Kz Ez hB k
          have e47 : Az.eval (.tmp 47) = vz 1 := Ez.dep 1 47 (by kernel_rfl) rfl
          have e51 : Az.eval (.tmp 51) = vz 5 := Ez.dep 5 51 (by kernel_rfl) rfl
          obtain ⟨n1, a1, l1, c1, u1, g1⟩ := hB.b1 (Ez.had 1 (by kernel_rfl))
          obtain ⟨n5, a5, l5, c5, u5, g5⟩ := hB.b5 (Ez.had 5 (by kernel_rfl))
          refine wpo_call (run_callW (fun _ _ => by kernel_rfl)) (R := RetBig wy (v + -ed)) ?_ ?_
          · simp only [List.map_toArray, List.map_cons, List.map_nil, eval_const, e47, e51, u1, u5]
            exact plus_any n1 n5 a1 a5 l1 c1 l5 c5 v (-ed) wy g1 g5 (Nat.le_trans (Sm.le g1 SA.out) (by decide)) (Nat.le_trans (Sm.le g5 SNB.out) (by decide))
          · rintro ez w' ⟨ng, a, l, c, rfl, hv, hb⟩
            exact ⟨_, rfl, k _ _ trivial (hB.big6 hb ⟨ng, a, l, c, by simp [upd], hv⟩)⟩
        | 7, ho =>
          obtain rfl := Option.some.inj ho
          intro Az Lz vz wy Kz Ez hB k
          have e52 : Az.eval (.tmp 52) = vz 6 := Ez.dep 6 52 (by kernel_rfl) rfl
          obtain ⟨n6, a6, l6, c6, u6, g6⟩ := hB.b6 (Ez.had 6 (by kernel_rfl))
          refine wpo_call (run_callW (fun _ _ => by kernel_rfl)) (R := fun ez w' => ez = .returned (.tuple #[.int .i64 0, .int .i64 2]) ∧ Below wy.heap.size wy w') ?_ ?_
          · simp only [List.map_toArray, List.map_cons, List.map_nil, eval_const, e52, u6]
            exact told4_any n6 a6 l6 c6 (v + -ed) 0 2 wy g6 (Nat.le_trans (Sm.le g6 SD.out) (by decide)) T2'.out
          · rintro ez w' ⟨rfl, hb⟩
            exact ⟨_, rfl, k _ _ rfl (hB.pure 7 _ (by decide) (by decide) (by decide) (by decide) (hb))⟩
        | 8, ho =>
          obtain rfl := Option.some.inj ho
          intro Az Lz vz wy Kz Ez hB k
          have e53 : Az.eval (.tmp 53) = .tuple #[.int .i64 0, .int .i64 2] := Ez.dep 7 53 (by kernel_rfl) rfl
          exact wpo_val (v := .tuple #[.int .i64 0, .int .i64 2]) (run_move e53) (k _ _ rfl (hB.pure 8 _ (by decide) (by decide) (by decide) (by decide) (Below.refl _ _)))
        | 9, ho =>
          obtain rfl := Option.some.inj ho
          intro Az Lz vz wy Kz Ez hB k
          have e45 : Az.eval (.tmp 45) = .tuple #[.int .i64 0, .int .i64 2] := Ez.dep 8 45 (by kernel_rfl) rfl
          exact wpo_val (v := .int .i64 0) (run_ext e45 (by simp [go_sem])) (k _ _ rfl (hB.pure 9 _ (by decide) (by decide) (by decide) (by decide) (Below.refl _ _)))
        | 10, ho =>
          obtain rfl := Option.some.inj ho
          intro Az Lz vz wy Kz Ez hB k
          have e45 : Az.eval (.tmp 45) = .tuple #[.int .i64 0, .int .i64 2] := Ez.dep 8 45 (by kernel_rfl) rfl
          exact wpo_val (v := .int .i64 2) (run_ext e45 (by simp [go_sem])) (k _ _ rfl (hB.pure 10 _ (by decide) (by decide) (by decide) (by decide) (Below.refl _ _)))
        | 11, ho =>
          obtain rfl := Option.some.inj ho
          intro Az Lz vz wy Kz Ez hB k
          have e54 : Az.eval (.tmp 54) = .int .i64 0 := Ez.dep 9 54 (by kernel_rfl) rfl
          exact wpo_val (v := .int .i64 0) (run_assign e54) (k _ _ rfl (hB.pure 11 _ (by decide) (by decide) (by decide) (by decide) (Below.refl _ _)))
        | 12, ho =>
          obtain rfl := Option.some.inj ho
          intro Az Lz vz wy Kz Ez hB k
          have e55 : Az.eval (.tmp 55) = .int .i64 2 := Ez.dep 10 55 (by kernel_rfl) rfl
          exact wpo_val (v := .int .i64 2) (run_assign e55) (k _ _ rfl (hB.pure 12 _ (by decide) (by decide) (by decide) (by decide) (Below.refl _ _)))
        | n + 13, ho => simp at ho
      have K6 := Lib.hid (bel_tr0 KB.out hB.bel)
      simp only [puts2, mix, Act.put, List.setIfInBounds_toArray, List.set_cons_zero, List.set_cons_succ, Nat.zero_add, Nat.reduceAdd, List.getElem?_cons_zero, List.getElem?_cons_succ]
      clear hL hB c4 c5
      go_wp2_with fail
      go_returns
      exact ⟨rfl, K6.out⟩
end Go.Proofs.Ytbolifjkhoiphaa
